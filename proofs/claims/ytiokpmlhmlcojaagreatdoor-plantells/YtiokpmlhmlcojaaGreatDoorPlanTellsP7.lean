/- Contracts and facts on the way to PlanTells, joined into one text: MixMath, MixMath2, MixMath3, MixMath4, RefPutMath, RefTopo1, RefPeer, RefCube, RuleRefMath, RefFind, RefBit, RefTurned, NetRefMath, NetMath4, StHop, RuleOrder, RuleLook, RuleApply. -/
import Derived.Test.YtiokpmlhmlcojaaGreatDoorPlanTellsP6
namespace Go.Proofs.YtiokpmlhmlcojaaGreatDoor
set_option linter.unusedSimpArgs false
set_option linter.unusedVariables false
set_option maxHeartbeats 16000000
set_option maxRecDepth 100000
section
open Go.RowKit
structure LO {α:Type}(r:α→α→Bool):Prop where
 irr:∀a,r a a=false
 tr:∀a b c,r a b=true→r b c=true→r a c=true
 tot:∀a b,r a b=false→r b a=false→a=b
theorem LO.asy {α:Type}{r:α→α→Bool}(h:LO r){a b:α}(hab:r a b=true):r b a=false:=by
 cases e:r b a
 ·rfl
 have:=h.tr a b a hab e;rw[h.irr] at this;cases this
theorem lo_int:LO (fun (a b:Int)=>decide (a<b)):=⟨by simp,fun a b c h1 h2=>by simp at *;omega,fun a b h1 h2=>by simp at *;omega⟩
theorem lo_u8:LO (fun (a b:UInt8)=>decide (a<b)):=by
 refine⟨by simp,fun a b c h1 h2=>?_,fun a b h1 h2=>?_⟩
 ·simp only[decide_eq_true_eq] at *;exact UInt8.lt_trans h1 h2
 simp only[decide_eq_false_iff_not,UInt8.not_lt] at *;exact UInt8.le_antisymm h2 h1
def lexP {α β:Type}[DecidableEq α](r:α→α→Bool)(s:β→β→Bool)(a b:α×β):Bool:=if a.1=b.1 then s a.2 b.2 else r a.1 b.1
theorem lo_pair {α β:Type}[DecidableEq α]{r:α→α→Bool}{s:β→β→Bool}(hr:LO r)(hs:LO s):LO (lexP r s):=by
 refine⟨fun a=>by simp[lexP,hs.irr],fun a b c h1 h2=>?_,fun a b h1 h2=>?_⟩
 ·unfold lexP at *;by_cases e1:a.1=b.1
  ·rw[if_pos e1] at h1;by_cases e2:b.1=c.1
   ·rw[if_pos e2] at h2;rw[if_pos (e1.trans e2)];exact hs.tr _ _ _ h1 h2
   rw[if_neg e2] at h2;rw[if_neg (by rw[e1];exact e2),e1];exact h2
  rw[if_neg e1] at h1;by_cases e2:b.1=c.1
  ·rw[if_pos e2] at h2;rw[if_neg (by rw[←e2];exact e1),←e2];exact h1
  rw[if_neg e2] at h2;have h3:=hr.tr _ _ _ h1 h2;by_cases e3:a.1=c.1
  ·rw[e3,hr.irr] at h3;cases h3
  rw[if_neg e3];exact h3
 unfold lexP at *;by_cases e1:a.1=b.1
 ·rw[if_pos e1] at h1;rw[if_pos e1.symm] at h2;exact Prod.ext e1 (hs.tot _ _ h1 h2)
 rw[if_neg e1] at h1;rw[if_neg (fun e=>e1 e.symm)] at h2;exact absurd (hr.tot _ _ h1 h2) e1
def lexL {α:Type}[DecidableEq α](r:α→α→Bool):List α→List α→Bool
 | _,[]=>false
 | [],_ :: _=>true
 | a :: x,b :: y=>if a=b then lexL r x y else r a b
theorem lo_list {α:Type}[DecidableEq α]{r:α→α→Bool}(hr:LO r):LO (lexL r):=by
 refine⟨fun l=>?_,fun a=>?_,fun a=>?_⟩
 ·induction l with
  | nil=>rfl
  | cons x l ih=>simp[lexL,ih]
 ·induction a with
  | nil =>
    intro b c h1 h2;cases b with
    | nil=>cases c <;> simp[lexL] at *
    | cons y b =>
      cases c with
      | nil=>simp[lexL] at h2
      | cons z c=>rfl
  | cons x a ih =>
    intro b c h1 h2;cases b with
    | nil=>simp[lexL] at h1
    | cons y b =>
      cases c with
      | nil=>simp[lexL] at h2
      | cons z c =>
        rw[lexL] at *;by_cases e1:x=y
        ·rw[if_pos e1] at h1;by_cases e2:y=z
         ·rw[if_pos e2] at h2;rw[if_pos (e1.trans e2)];exact ih _ _ h1 h2
         rw[if_neg e2] at h2;rw[if_neg (by rw[e1];exact e2),e1];exact h2
        rw[if_neg e1] at h1;by_cases e2:y=z
        ·rw[if_pos e2] at h2;rw[if_neg (by rw[←e2];exact e1),←e2];exact h1
        rw[if_neg e2] at h2;have h3:=hr.tr _ _ _ h1 h2;by_cases e3:x=z
        ·rw[e3,hr.irr] at h3;cases h3
        rw[if_neg e3];exact h3
 induction a with
 | nil =>
   intro b h1 h2;cases b with
   | nil=>rfl
   | cons y b=>simp[lexL] at h1
 | cons x a ih =>
   intro b h1 h2;cases b with
   | nil=>simp[lexL] at h2
   | cons y b =>
     rw[lexL] at h1 h2;by_cases e1:x=y
     ·rw[if_pos e1] at h1;rw[if_pos e1.symm] at h2;rw[e1,ih _ h1 h2]
     rw[if_neg e1] at h1;rw[if_neg (fun e=>e1 e.symm)] at h2;exact absurd (hr.tot _ _ h1 h2) e1
theorem bytes_lex:∀x y:List UInt8,Op.bytesLess x y=lexL (fun (a b:UInt8)=>decide (a<b)) x y
 | _,[]=>by simp[Op.bytesLess,lexL]
 | [],_ :: _=>by simp[Op.bytesLess,lexL]
 | a :: x,b :: y=>by
   rw[Op.bytesLess,lexL,bytes_lex x y];by_cases e:a=b
   ·subst e;simp
   rw[if_neg e];simp[e]
theorem nm_loop (b:ByteArray):∀(k i:Nat) (r:List UInt8),b.size-i=k→ByteArray.toList.loop b i r=r.reverse++b.data.toList.drop i
 | 0,i,r,h=>by
   rw[ByteArray.toList.loop,if_neg (by omega)];have e:b.data.toList.length≤i:=by rw[Array.length_toList];show b.size≤i;omega
   rw[List.drop_eq_nil_of_le e,List.append_nil]
 | k+1,i,r,h=>by
   have hi:i<b.size:=by omega
   rw[ByteArray.toList.loop,if_pos hi,nm_loop b k (i+1) _ (by omega)];have hl:i<b.data.toList.length:=by rw[Array.length_toList];exact hi
   rw[List.drop_eq_getElem_cons hl,List.reverse_cons,List.append_assoc];have e:b.get! i=b.data.toList[i]:=by
    rw[Array.getElem_toList];show b.data[i]! = b.data[i];exact getElem!_pos b.data i hi
   rw[e];rfl
theorem nm_list (b:ByteArray):b.toList=b.data.toList:=by
 show ByteArray.toList.loop b 0 []=_;rw[nm_loop b _ 0 [] rfl];simp
theorem nm_inj {a b:ByteArray}(h:a.toList=b.toList):a=b:=by
 rw[nm_list,nm_list] at h;exact ByteArray.ext (Array.toList_inj.1 h)
def nmL (a b:ByteArray):Bool:=Op.bytesLess a.toList b.toList
theorem lo_name:LO nmL:=by
 have h:=lo_list lo_u8;refine⟨fun a=>?_,fun a b c h1 h2=>?_,fun a b h1 h2=>?_⟩
 ·rw[nmL,bytes_lex];exact h.irr _
 ·rw[nmL,bytes_lex] at *;exact h.tr _ _ _ h1 h2
 rw[nmL,bytes_lex] at h1 h2;have e:=h.tot _ _ h1 h2;exact nm_inj e
def faL:(Int×ByteArray×HpQ)→(Int×ByteArray×HpQ)→Bool:=
 lexP (fun (a b:Int)=>decide (a<b)) (lexP nmL (lexL (lexP (lexP (fun (a b:Int)=>decide (a<b)) (fun (a b:Int)=>decide (a<b))) (fun (a b:Int)=>decide (a<b)))))
theorem lo_fate:LO faL:=lo_pair lo_int (lo_pair lo_name (lo_list (lo_pair (lo_pair lo_int lo_int) lo_int)))
def Ris {α:Type}(r:α→α→Bool)(l:List α):Prop:=l.Pairwise fun a b=>r a b=true
theorem ris_ext {α:Type}{r:α→α→Bool}(hr:LO r):∀{l m:List α},Ris r l→Ris r m→(∀x,x∈l↔x∈m)→l=m
 | [],[],_,_,_=>rfl
 | [],y :: m,_,_,h=>by have:=(h y).2 (by simp);simp at this
 | x :: l,[],_,_,h=>by have:=(h x).1 (by simp);simp at this
 | x :: l,y :: m,h1,h2,h=>by
   have a1:=List.pairwise_cons.1 h1;have a2:=List.pairwise_cons.1 h2;have e:x=y:=by
    rcases List.mem_cons.1 ((h x).1 (by simp)) with e | hx
    ·exact e
    rcases List.mem_cons.1 ((h y).2 (by simp)) with e | hy
    ·exact e.symm
    have b1:=a1.1 y hy;have b2:=a2.1 x hx;rw[hr.asy b1] at b2;cases b2
   subst e;rw[ris_ext hr a1.2 a2.2 (fun z=>?_)];have hz:=h z;constructor
   ·intro hm
    rcases List.mem_cons.1 (hz.1 (List.mem_cons_of_mem _ hm)) with e | e
    ·subst e;have:=a1.1 z hm;rw[hr.irr] at this;cases this
    exact e
   intro hm
   rcases List.mem_cons.1 (hz.2 (List.mem_cons_of_mem _ hm)) with e | e
   ·subst e;have:=a2.1 z hm;rw[hr.irr] at this;cases this
   exact e
def puR {α:Type}(r:α→α→Bool)(f:α):List α→List α
 | []=>[f]
 | x :: l=>if r f x=true then f :: x :: l else if r x f=true then x :: puR r f l else x :: l
theorem pu_mem {α:Type}{r:α→α→Bool}(hr:LO r)(f:α):∀{l:List α} {x:α},x∈puR r f l↔x=f∨x∈l
 | [],x=>by simp[puR]
 | y :: l,x=>by
   rw[puR];by_cases h1:r f y=true
   ·rw[if_pos h1];simp
   rw[if_neg h1];by_cases h2:r y f=true
   ·rw[if_pos h2,List.mem_cons,pu_mem hr f,List.mem_cons];constructor
    ·rintro (h | h | h)
     ·exact .inr (.inl h)
     ·exact .inl h
     exact .inr (.inr h)
    rintro (h | h | h)
    ·exact .inr (.inl h)
    ·exact .inl h
    exact .inr (.inr h)
   rw[if_neg h2];have e:y=f:=hr.tot _ _ (by simpa using h2) (by simpa using h1);subst e;simp
theorem pu_ris {α:Type}{r:α→α→Bool}(hr:LO r)(f:α):∀{l:List α},Ris r l→Ris r (puR r f l)
 | [],_=>by simp[puR,Ris]
 | y :: l,h=>by
   have a:=List.pairwise_cons.1 h;rw[puR];by_cases h1:r f y=true
   ·rw[if_pos h1];refine List.pairwise_cons.2 ⟨fun z hz=>?_,h⟩
    rcases List.mem_cons.1 hz with rfl | hz
    ·exact h1
    exact hr.tr _ _ _ h1 (a.1 z hz)
   rw[if_neg h1];by_cases h2:r y f=true
   ·rw[if_pos h2];refine List.pairwise_cons.2 ⟨fun z hz=>?_,pu_ris hr f a.2⟩
    rcases (pu_mem hr f).1 hz with rfl | hz
    ·exact h2
    exact a.1 z hz
   rw[if_neg h2];exact h
def onL (k:HpQ→List (Int×ByteArray×HpQ)→List (Int×ByteArray×HpQ))(l:HpQ)(a:List (Int×ByteArray×HpQ))(g:(Int×ByteArray) ⊕ ((Int×Int)×Int)):List (Int×ByteArray×HpQ):=
 match g with
 | .inl e=>puR faL (e.1,e.2,l) a
 | .inr p=>k (l++[p]) a
def chB (As Bs:List (List Ru))(s:Int):Bool:=decide (0<(bey (taT As s) (taT Bs s)).length+(bey (taT Bs s) (taT As s)).length)
section
variable (Ls:LkQ)(Hs:HoQ)(As Bs:List (List Ru))
def wkL:Nat→HpQ→List Int→List (Int×ByteArray×HpQ)→List (Int×ByteArray×HpQ)
 | 0,_,_,a=>a
 | n+1,l,met,a =>
   if chB As Bs (laH l).1.1=true then
    onL (fun l' a'=>wkL n l' (if (laH l).1.1∈met then met else met++[(laH l).1.1]) a') l
     (if (laH l).1.1∈met then a else onL (fun l' a'=>wkL n l' met a') l a (goE Ls Hs (taT As (laH l).1.1) l (laH l)))
     (goE Ls Hs (taT Bs (laH l).1.1) l (laH l))
   else if (laH l).1.1∈met then a else onL (fun l' a'=>wkL n l' met a') l a (goE Ls Hs (taT As (laH l).1.1) l (laH l))
variable {Ls Hs As Bs}
theorem on_mem {k:HpQ→List (Int×ByteArray×HpQ)→List (Int×ByteArray×HpQ)}(hk:∀l a x,x∈k l a↔x∈a∨x∈k l [])(l:HpQ)(a:List (Int×ByteArray×HpQ))(g:(Int×ByteArray) ⊕ ((Int×Int)×Int))(x:Int×ByteArray×HpQ):x∈onL k l a g↔x∈a∨x∈onL k l [] g:=by
 cases g with
 | inl e =>
   simp only[onL];rw[pu_mem lo_fate,pu_mem lo_fate];simp only[List.not_mem_nil,or_false];exact Or.comm
 | inr p=>exact hk _ _ _
theorem on_ris {k:HpQ→List (Int×ByteArray×HpQ)→List (Int×ByteArray×HpQ)}(hk:∀l a,Ris faL a→Ris faL (k l a))(l:HpQ){a:List (Int×ByteArray×HpQ)}(ha:Ris faL a)(g:(Int×ByteArray) ⊕ ((Int×Int)×Int)):Ris faL (onL k l a g):=by
 cases g with
 | inl e=>exact pu_ris lo_fate _ ha
 | inr p=>exact hk _ _ ha
theorem wk_mem:∀(n:Nat) (l:HpQ) (met:List Int) (a:List (Int×ByteArray×HpQ)) (x:Int×ByteArray×HpQ),x∈wkL Ls Hs As Bs n l met a↔x∈a∨x∈wkL Ls Hs As Bs n l met []
 | 0,l,met,a,x=>by simp[wkL]
 | n+1,l,met,a,x=>by
   have h1:=on_mem (k:=fun l' a'=>wkL Ls Hs As Bs n l' met a') (fun l a x=>wk_mem n l met a x) l;have h2:=on_mem (k:=fun l' a'=>wkL Ls Hs As Bs n l' (if (laH l).1.1∈met then met else met++[(laH l).1.1]) a') (fun l' a x=>wk_mem n l' _ a x) l;rw[wkL,wkL];by_cases hc:chB As Bs (laH l).1.1=true
   ·rw[if_pos hc,if_pos hc];by_cases hm:(laH l).1.1∈met
    ·simp only[hm,if_true] at h2 ⊢;exact h2 _ _ _
    simp only[hm,if_false] at h2 ⊢;rw[h2,h1,h2 (onL _ l [] _)];exact or_assoc
   rw[if_neg hc,if_neg hc];by_cases hm:(laH l).1.1∈met
   ·rw[if_pos hm,if_pos hm];simp
   rw[if_neg hm,if_neg hm];exact h1 _ _ _
theorem wk_ris:∀(n:Nat) (l:HpQ) (met:List Int) (a:List (Int×ByteArray×HpQ)),Ris faL a→Ris faL (wkL Ls Hs As Bs n l met a)
 | 0,l,met,a,h=>h
 | n+1,l,met,a,h=>by
   have h1:=fun (b:List (Int×ByteArray×HpQ)) (hb:Ris faL b)=>on_ris (k:=fun l' a'=>wkL Ls Hs As Bs n l' met a') (fun l a h=>wk_ris n l met a h) l hb
   have h2:=fun (b:List (Int×ByteArray×HpQ)) (hb:Ris faL b)=>on_ris (k:=fun l' a'=>wkL Ls Hs As Bs n l' (if (laH l).1.1∈met then met else met++[(laH l).1.1]) a') (fun l' a h=>wk_ris n l' _ a h) l hb
   rw[wkL];by_cases hc:chB As Bs (laH l).1.1=true
   ·rw[if_pos hc];by_cases hm:(laH l).1.1∈met
    ·simp only[hm,if_true] at h2 ⊢;exact h2 _ h _
    simp only[hm,if_false] at h2 ⊢;exact h2 _ (h1 _ h _) _
   rw[if_neg hc];by_cases hm:(laH l).1.1∈met
   ·rw[if_pos hm];exact h
   rw[if_neg hm];exact h1 _ h _
def seeL (Ls:LkQ)(Hs:HoQ)(As Bs:List (List Ru))(s:Int×Int)(h:Int):List (Int×ByteArray×HpQ):=wkL Ls Hs As Bs 24 [(s,h)] [] []
end
theorem getR {L:List Ru}{k:Nat}(h:k<L.length):L.getD k zeR=L[k]:=by simp[List.getD,h]
theorem be_in {L:List Ru}{h:Int}(h0:0≤beTo L h L.length):L.getD (beTo L h L.length).toNat zeR∈L∧(L.getD (beTo L h L.length).toNat zeR).has h=true∧∀r∈L,r.has h=true→ordR r (L.getD (beTo L h L.length).toNat zeR)≤0:=by
 have hb:=be_bd L h L.length;have hl:(beTo L h L.length).toNat<L.length:=by omega
 obtain⟨d1,d2⟩:=be_yes h0;refine⟨by rw[getR hl];exact List.getElem_mem hl,d1,fun r hr hh=>?_⟩;obtain⟨j,hj,rfl⟩:=List.getElem_of_mem hr;have:=d2 j hj (by rw[getR hj];exact hh);rw[getR hj] at this;exact this
theorem be_neg {L:List Ru}{h:Int}(h0:beTo L h L.length<0):∀r∈L,r.has h=false:=by
 intro r hr;obtain⟨j,hj,rfl⟩:=List.getElem_of_mem hr;have:=be_no h0 j hj;rw[getR hj] at this;exact this
theorem be_sign {A B:List Ru}(hm:∀r,r∈A→r∈B){h:Int}(h0:0≤beTo A h A.length):0≤beTo B h B.length:=by
 obtain⟨d1,d2,_⟩:=be_in h0
 rcases Int.lt_or_le (beTo B h B.length) 0 with h1 | h1
 ·have:=be_neg h1 _ (hm _ d1);rw[d2] at this;cases this
 exact h1
theorem lu_alike {A B:List Ru}(hA:tbN A=0)(hB:tbN B=0)(hm:∀r,r∈A↔r∈B)(h:Int):(luN A h=0↔luN B h=0)∧(luN A h=0→roR A h=roR B h):=by
 have e:luN A h=0↔luN B h=0:=by
  rw[lu_0,lu_0];exact⟨fun q=>⟨hB,q.2.1,be_sign (fun r=>(hm r).1) q.2.2⟩,fun q=>⟨hA,q.2.1,be_sign (fun r=>(hm r).2) q.2.2⟩⟩
 refine⟨e,fun h0=>?_⟩;have h1:=e.1 h0;have a:=be_in (lu_0.1 h0).2.2;have b:=be_in (lu_0.1 h1).2.2;rw[roR,roR,luI,luI,if_pos h0,if_pos h1];have q1:=b.2.2 _ ((hm _).1 a.1) a.2.1;have q2:=a.2.2 _ ((hm _).2 b.1) b.2.1;exact tb_key hB ((hm _).1 a.1) b.1 (by rw[keyB,ord_as q1 q2];rfl)
theorem st_alike {A B:List Ru}(hA:tbN A=0)(hB:tbN B=0)(hm:∀r,r∈A↔r∈B)(p:(Int×Int)×Int):stT B p=stT A p:=by
 obtain⟨e1,e2⟩:=lu_alike hA hB hm p.2;unfold stT;by_cases h:luN A p.2=0
 ·rw[if_pos h,if_pos (e1.1 h),e2 h]
 rw[if_neg h,if_neg (fun q=>h (e1.2 q))]
theorem ch_alike {As Bs:List (List Ru)}{s:Int}(h:chB As Bs s=false):∀r,r∈taT As s↔r∈taT Bs s:=by
 have h1:(bey (taT As s) (taT Bs s)).length=0∧(bey (taT Bs s) (taT As s)).length=0:=by
  unfold chB at h;simp at h;constructor
  ·rw[h.1];rfl
  rw[h.2];rfl
 have sub {X Y:List Ru} (e:(bey X Y).length=0):∀r∈X,r∈Y:=by
  intro r hr;have e:=List.length_eq_zero_iff.1 e;rw[bey,List.filter_eq_nil_iff] at e;have:=e r hr;simp at this;exact in_iff.1 this
 exact fun r=>⟨sub h1.1 r,sub h1.2 r⟩
theorem pu_len {α:Type}{r:α→α→Bool}(f:α):∀l:List α,(puR r f l).length≤l.length+1
 | []=>by simp[puR]
 | x :: l=>by
   rw[puR];by_cases h1:r f x=true
   ·rw[if_pos h1];simp
   rw[if_neg h1];by_cases h2:r x f=true
   ·rw[if_pos h2];have:=pu_len (r:=r) f l;simp;exact this
   rw[if_neg h2];simp
section
variable {Ls:LkQ}{Hs:HoQ}{As Bs:List (List Ru)}
variable {s0:Int}
end
section
variable {α:Type}{r:α→α→Bool}
theorem pu_in (hr:LO r){f:α}{l:List α}(hl:Ris r l)(hf:f∈l):puR r f l=l:=by
 refine ris_ext hr (pu_ris hr f hl) hl (fun x=>(pu_mem hr f).trans ⟨?_,fun h=>.inr h⟩);rintro (rfl | h)
 ·exact hf
 exact h
theorem pu_at (hr:LO r){f:α}{l:List α}(hl:Ris r l){k:Nat}(hk:k≤l.length)(h1:∀j x,k≤j→l[j]?=some x→r f x=true)(h2:∀j x,j<k→l[j]?=some x→r x f=true):puR r f l=l.take k++[f]++l.drop k:=by
 have hris:Ris r (l.take k++[f]++l.drop k):=by
  unfold Ris at hl ⊢;have hl2:=hl;rw[←List.take_append_drop k l,List.pairwise_append] at hl2;obtain⟨a1,a2,a3⟩:=hl2;have t1:∀x∈l.take k,r x f=true:=fun x hx=>by
   obtain⟨j,hj,e⟩:=List.mem_take_iff_getElem.1 hx;exact h2 j x (by omega) (by rw[←e];exact List.getElem?_eq_getElem (by omega))
  have t2:∀x∈l.drop k,r f x=true:=fun x hx=>by
   obtain⟨j,hj,e⟩:=List.mem_drop_iff_getElem.1 hx;exact h1 (k+j) x (by omega) (by rw[←e];exact List.getElem?_eq_getElem (by omega))
  rw[List.append_assoc,List.pairwise_append];refine⟨a1,?_,?_⟩
  ·rw[List.singleton_append,List.pairwise_cons];exact⟨t2,a2⟩
  intro x hx y hy
  rcases List.mem_append.1 hy with hy | hy
  ·obtain rfl:y=f:=by simpa using hy
   exact t1 x hx
  exact a3 x hx y hy
 refine ris_ext hr (pu_ris hr f hl) hris (fun x=>(pu_mem hr f).trans ?_);rw[List.mem_append,List.mem_append,List.mem_singleton];constructor
 ·rintro (h | h)
  ·exact .inl (.inr h)
  rw[←List.take_append_drop k l,List.mem_append] at h;exact h.elim (fun h=>.inl (.inl h)) .inr
 rintro ((h | h) | h)
 ·exact .inr (List.mem_of_mem_take h)
 ·exact .inl h
 exact .inr (List.mem_of_mem_drop h)
theorem ris_lt (hr:LO r){l:List α}(hl:Ris r l){i j:Nat}{x y:α}(hij:i<j)(hx:l[i]?=some x)(hy:l[j]?=some y):r x y=true:=by
 unfold Ris at hl;rw[List.pairwise_iff_getElem] at hl;obtain⟨h1,rfl⟩:=List.getElem?_eq_some_iff.1 hx;obtain⟨h2,rfl⟩:=List.getElem?_eq_some_iff.1 hy;exact hl i j h1 h2 hij
end
structure B2 (w W:World)(S:Int)(v1 v2:Value)(x y:Int):Prop where
 below:Below w.heap.size w W
 t:TBox W w.heap.size S v1 v2
 s0:W.cell? ⟨w.heap.size+1,0,none⟩=some (.int .i64 x)
 s1:W.cell? ⟨w.heap.size+1,1,none⟩=some (.int .i64 y)
theorem B2.later {w W W':World}{S:Int}{v1 v2:Value}{x y:Int}(h:B2 w W S v1 v2 x y)(hb:Below W.heap.size W W'):B2 w W' S v1 v2 x y:=
 ⟨h.below.trans (hb.mono h.below.size),h.t.later hb,cell_later hb h.s0,cell_later hb h.s1⟩
theorem b2_new (w:World)(S:Int)(v1 v2:Value)(x y:Int):B2 w ((w.alloc (Obj.cells #[.int .i64 S,v1,v2] 25)).alloc (Obj.cells #[.int .i64 x,.int .i64 y] 75)) S v1 v2 x y:=by
 have hb1:Below w.heap.size w (w.alloc (Obj.cells #[.int .i64 S,v1,v2] 25)):=(Below.refl _ _).alloc (Nat.le_refl _) _;have h:=spo_new (w.alloc (Obj.cells #[.int .i64 S,v1,v2] 25)) x y 75;have e1:(w.alloc (Obj.cells #[.int .i64 S,v1,v2] 25)).heap.size=w.heap.size+1:=by simp
 rw[e1] at h;obtain⟨s0,s1⟩:=spo_cells h;exact⟨hb1.alloc hb1.size _,(tbox_new w S v1 v2 25).later ((Below.refl _ _).alloc (Nat.le_refl _) _),s0,s1⟩
theorem rspot_any (S:Int)(ao:Option Addr)(n cap:Nat)(ao2:Option Addr)(n2 cap2:Nat)(x y:Int)(w:World):
 Calls Tryz.prog 80 #[.agg #[.int .i64 S,.slice ao n cap,.slice ao2 n2 cap2],.agg #[.int .i64 x,.int .i64 y]] w fun e w'=>e=.returned (.bool (spB S (x,y)))∧Below w.heap.size w w':=by
 have HB:Hid (Below w.heap.size w ((w.alloc (Obj.cells #[.int .i64 S,.slice ao n cap,.slice ao2 n2 cap2] 25)).alloc (Obj.cells #[.int .i64 x,.int .i64 y] 75))):=(b2_new w S _ _ x y).below;have hr:spB S (x,y)=(decide (1≤x)&&(decide (x≤S)&&(decide (1≤y)&&decide (y≤4)))):=rfl;rw[hr];clear hr;cases g1:decide (1≤x)
 ·simp only[Bool.false_and];go_enter Tryz.func80,Tryz.ntmps80;go_wp2;go_ret;exact⟨rfl,HB.out⟩
 cases g2:decide (x≤S)
 ·simp only[Bool.false_and,Bool.and_false];go_enter Tryz.func80,Tryz.ntmps80;go_wp2;go_ret;exact⟨rfl,HB.out⟩
 cases g3:decide (1≤y)
 ·simp only[Bool.false_and,Bool.and_false];go_enter Tryz.func80,Tryz.ntmps80;go_wp2;go_ret;exact⟨rfl,HB.out⟩
 simp only[Bool.true_and];obtain⟨r,hr⟩:∃r,r=decide (y≤4):=⟨_,rfl⟩;go_enter Tryz.func80,Tryz.ntmps80;go_wp2;go_ret;exact⟨rfl,HB.out⟩
theorem rhost_any (S:Int)(ao:Option Addr)(n cap:Nat)(ao2:Option Addr)(n2 cap2:Nat)(Hs:HoQ)(x y:Int)(w:World)(hH:GS hstE w (.slice ao2 n2 cap2) Hs):
 Calls Tryz.prog 83 #[.agg #[.int .i64 S,.slice ao n cap,.slice ao2 n2 cap2],.agg #[.int .i64 x,.int .i64 y]] w fun e w'=>e=.returned (.int .i64 (atN Hs (x,y)))∧Below w.heap.size w w':=by
 obtain⟨_,_,_,e1,hHn,hHm,_,hHa⟩:=hH.form;cases e1;have HHN:Hid (Hs.length=n2):=hHn;have n63:n2≤9223372036854775807:=by unfold maxLen at hHm;omega
 have HHA:Hid (0<n2→∃g o,ao2=some ⟨g,o,none⟩∧GAt hstE w g o Hs∧cap2≤maxLen):=hHa;have hX:=b2_new w S (.slice ao n cap) (.slice ao2 n2 cap2) x y;obtain⟨w0,hw0⟩:∃W,(w.alloc (Obj.cells #[.int .i64 S,.slice ao n cap,.slice ao2 n2 cap2] 25)).alloc (Obj.cells #[.int .i64 x,.int .i64 y] 75)=W:=⟨_,rfl⟩;rw[hw0] at hX;have HX:Hid (B2 w w0 S (.slice ao n cap) (.slice ao2 n2 cap2) x y):=hX;have HW0:Hid ((w.alloc (Obj.cells #[.int .i64 S,.slice ao n cap,.slice ao2 n2 cap2] 25)).alloc (Obj.cells #[.int .i64 x,.int .i64 y] 75)=w0):=hw0;clear hH hHn hHm hHa hX hw0;go_enter Tryz.func83,Tryz.ntmps83;go_wp2;rw[HW0.out]
 go_loopw [5] (fun i wr=>∃k:Nat,k≤n2∧i=.int .i64 k∧(Hs.take k).any (fun h=>sq h.2 (x,y))=false∧B2 w wr S (.slice ao n cap) (.slice ao2 n2 cap2) x y) (fun i _=>n2-(intOf i).toNat)
 case atStart=>exact⟨0,by omega,rfl,by simp,HX.out⟩
 case round =>
  obtain⟨k,hk,rfl,hno,hXr⟩:=hrel;have HX2:Hid (B2 w wr S (.slice ao n cap) (.slice ao2 n2 cap2) x y):=hXr;have HNO:Hid ((Hs.take k).any (fun h=>sq h.2 (x,y))=false):=hno;obtain⟨_,⟨b0,b1,b2⟩,s0,s1⟩:=hXr;have hlt1:w.heap.size<wr.heap.size:=bLQ _ _ b0;have hlt2:w.heap.size+1<wr.heap.size:=bLQ _ _ s0;clear hno HW0 HX;by_cases hlt:k<n2
  ·obtain⟨g,o,hao,hc,_⟩:=HHA.out (by omega);subst hao;obtain⟨y0,y1,y2,hkl,hHk,q0,q1,q2⟩:=hst_at (hc.later HX2.out.below) HHN.out hlt;have HHK:Hid (Hs[k]=(y0,(y1,y2))):=hHk;have hr:sq (y1,y2) (x,y)=(y1==x&&y2==y):=rfl;clear hHk hc;cases ho:sq (y1,y2) (x,y)
   ·rw[hr] at ho;have HN1:Hid ((Hs.take (k+1)).any (fun h=>sq h.2 (x,y))=false):=any_nextG hkl HNO.out (by rw[HHK.out];exact ho);cases g1:(y1==x) <;> cases g2:(y2==y)
    ·clear ho hr
     go_wp2_with fail
     go_region
     go_wp2;go_roundw
     case rel=>exact⟨k+1,by omega,by go_num,HN1.out,HX2.out.later (Below.drew (Below.refl _ _))⟩
     case measure=>simp[intOf];omega
    ·clear ho hr
     go_wp2_with fail
     go_region
     go_wp2;go_roundw
     case rel=>exact⟨k+1,by omega,by go_num,HN1.out,HX2.out.later (Below.drew (Below.refl _ _))⟩
     case measure=>simp[intOf];omega
    ·clear ho hr
     go_wp2_with fail
     go_region
     go_wp2;go_roundw
     case rel=>exact⟨k+1,by omega,by go_num,HN1.out,HX2.out.later (Below.drew (Below.refl _ _))⟩
     case measure=>simp[intOf];omega
    rw[g1,g2] at ho;cases ho
   have HR:Hid (atN Hs (x,y)=k):=ixG_hit hkl HNO.out (by rw[HHK.out];exact ho);rw[hr,Bool.and_eq_true] at ho;obtain⟨g1,g2⟩:=ho;clear hr
   go_wp2_with fail
   go_region
   go_wp2;go_ret;exact⟨by rw[HR.out];rfl,(HX2.out.later (Below.drew (Below.refl _ _))).below⟩
  obtain rfl:k=n2:=by omega
  have HR:Hid (atN Hs (x,y) = -1):=by
   have:=HNO.out;rw[←HHN.out,List.take_length] at this;exact ixG_no this
  go_wp2;go_ret;exact⟨by rw[HR.out];rfl,HX2.out.below⟩
structure B3 (w W:World)(S:Int)(v1 v2:Value)(x y:Int):Prop where
 b:B2 w W S v1 v2 x y
 r0:W.cell? ⟨w.heap.size+1+1,0,none⟩=some (.int .i64 0)
 r1:W.cell? ⟨w.heap.size+1+1,1,none⟩=some (.int .i64 0)
 f:∀i,W.frozen? ⟨w.heap.size+1+1,i,none⟩=false
theorem B3.later {w W W':World}{S:Int}{v1 v2:Value}{x y:Int}(h:B3 w W S v1 v2 x y)(hb:Below W.heap.size W W'):B3 w W' S v1 v2 x y:=
 ⟨h.b.later hb,cell_later hb h.r0,cell_later hb h.r1,fun i=>(hb.frozen (p:=⟨w.heap.size+1+1,i,none⟩) (show (⟨w.heap.size+1+1,0,none⟩:Addr).block<W.heap.size from bLQ W ⟨w.heap.size+1+1,0,none⟩ h.r0)).trans (h.f i)⟩
theorem b3_new (w:World)(S:Int)(v1 v2:Value)(x y:Int):B3 w (((w.alloc (Obj.cells #[.int .i64 S,v1,v2] 25)).alloc (Obj.cells #[.int .i64 x,.int .i64 y] 75)).alloc (Obj.cells #[.int .i64 0,.int .i64 0] 75)) S v1 v2 x y:=by
 have h:=b2_new w S v1 v2 x y;have e2:((w.alloc (Obj.cells #[.int .i64 S,v1,v2] 25)).alloc (Obj.cells #[.int .i64 x,.int .i64 y] 75)).heap.size=w.heap.size+1+1:=by simp
 generalize (w.alloc (Obj.cells #[.int .i64 S,v1,v2] 25)).alloc (Obj.cells #[.int .i64 x,.int .i64 y] 75)=X at h e2
 have hs:=vat_new X [.int .i64 0,.int .i64 0] 75;have hf:∀k,(X.alloc (Obj.cells #[.int .i64 0,.int .i64 0] 75)).frozen? ⟨X.heap.size,k,none⟩=false:=fun k=>by simp
 rw[e2] at hs hf;exact⟨h.later ((Below.refl _ _).alloc (Nat.le_refl _) _),hs 0 _ rfl,hs 1 _ rfl,hf⟩
theorem below2 {w W:World}(h:Below w.heap.size w W)(g:Nat)(hg:w.heap.size≤g)(u v:Value):Below w.heap.size w ((W.setCell ⟨g,0,none⟩ u).setCell ⟨g,1,none⟩ v):=(h.setCell (p:=⟨g,0,none⟩) hg u).setCell (p:=⟨g,1,none⟩) hg v
theorem peer_at {Ls:LkQ}{k:Nat}(hk:k<Ls.length){s:Int×Int}:peerO (Ls.drop k) s=if (Ls[k]).1==s then some (Ls[k]).2 else if (Ls[k]).2==s then some (Ls[k]).1 else peerO (Ls.drop (k+1)) s:=by
 rw[List.drop_eq_getElem_cons hk];rfl
theorem eq_ways2 {a b:Bool}(h:(a&&b)=false):(a=true∧b=false)∨a=false:=by
 cases a
 ·exact .inr rfl
 exact .inl ⟨rfl,by simpa using h⟩
theorem rpeer_any (S:Int)(ao:Option Addr)(n cap:Nat)(ao2:Option Addr)(n2 cap2:Nat)(Ls:LkQ)(x y:Int)(w:World)(hL:GS lnkE w (.slice ao n cap) Ls):
 Calls Tryz.prog 84 #[.agg #[.int .i64 S,.slice ao n cap,.slice ao2 n2 cap2],.agg #[.int .i64 x,.int .i64 y]] w fun e w'=>e=.returned (.tuple #[.agg #[.int .i64 ((peerO Ls (x,y)).getD (0,0)).1,.int .i64 ((peerO Ls (x,y)).getD (0,0)).2],.bool (peerO Ls (x,y)).isSome])∧Below w.heap.size w w':=by
 obtain⟨_,_,_,e1,hLn,hLm,_,hLa⟩:=hL.form;cases e1;have HLN:Hid (Ls.length=n):=hLn;have n63:n≤9223372036854775807:=by unfold maxLen at hLm;omega
 have HLA:Hid (0<n→∃g o,ao=some ⟨g,o,none⟩∧GAt lnkE w g o Ls∧cap≤maxLen):=hLa;obtain⟨P,hP⟩:∃P,P=peerO Ls (x,y):=⟨_,rfl⟩;have HP:Hid (P=peerO Ls (x,y)):=hP;rw[←hP];have hX:=b3_new w S (.slice ao n cap) (.slice ao2 n2 cap2) x y;obtain⟨w0,hw0⟩:∃W,((w.alloc (Obj.cells #[.int .i64 S,.slice ao n cap,.slice ao2 n2 cap2] 25)).alloc (Obj.cells #[.int .i64 x,.int .i64 y] 75)).alloc (Obj.cells #[.int .i64 0,.int .i64 0] 75)=W:=⟨_,rfl⟩;rw[hw0] at hX;have HX:Hid (B3 w w0 S (.slice ao n cap) (.slice ao2 n2 cap2) x y):=hX;have HW0:Hid (((w.alloc (Obj.cells #[.int .i64 S,.slice ao n cap,.slice ao2 n2 cap2] 25)).alloc (Obj.cells #[.int .i64 x,.int .i64 y] 75)).alloc (Obj.cells #[.int .i64 0,.int .i64 0] 75)=w0):=hw0;clear hL hLn hLm hLa hP hX hw0;go_enter Tryz.func84,Tryz.ntmps84;go_wp2;rw[HW0.out]
 go_loopw [6] (fun i wr=>∃k:Nat,k≤n∧i=.int .i64 k∧P=peerO (Ls.drop k) (x,y)∧B3 w wr S (.slice ao n cap) (.slice ao2 n2 cap2) x y) (fun i _=>n-(intOf i).toNat)
 case atStart=>exact⟨0,by omega,rfl,HP.out,HX.out⟩
 case round =>
  obtain⟨k,hk,rfl,hpk,hXr⟩:=hrel;have HX2:Hid (B3 w wr S (.slice ao n cap) (.slice ao2 n2 cap2) x y):=hXr;have HPK:Hid (P=peerO (Ls.drop k) (x,y)):=hpk;have HB:Hid (Below w.heap.size w wr):=hXr.b.below;obtain⟨⟨_,⟨b0,b1,b2⟩,s0,s1⟩,r0,r1,f⟩:=hXr;have hlt1:w.heap.size<wr.heap.size:=bLQ _ _ b0;have hlt2:w.heap.size+1<wr.heap.size:=bLQ _ _ s0;have hlt3:w.heap.size+1+1<wr.heap.size:=bLQ _ _ r0;have f0:=f 0;have f1:=f 1;clear hpk HW0 HX HP f;by_cases hlt:k<n
  ·obtain⟨g,o,hao,hc,_⟩:=HLA.out (by omega);subst hao;obtain⟨x0,x1,x2,x3,hkl,hLk,q0,q1,q2,q3⟩:=lnk_at (hc.later HB.out) HLN.out hlt;have hgl:g<wr.heap.size:=bLQ _ _ q0;have HST:Hid (P=if (x0==x&&x1==y)=true then some (x2,x3) else if (x2==x&&x3==y)=true then some (x0,x1) else peerO (Ls.drop (k+1)) (x,y)):=by
    show _=_;rw[HPK.out,peer_at hkl,hLk];rfl
   clear hLk hc;cases ho:(x0==x&&x1==y)
   ·have HNO:Hid ((x0==x&&x1==y)=false):=ho;cases hu:(x2==x&&x3==y)
    ·have HP1:Hid (P=peerO (Ls.drop (k+1)) (x,y)):=by
      show _=_;rw[HST.out,ho,hu];rfl
     rcases eq_ways2 ho with ⟨g1,g2⟩ | g1
     ·rcases eq_ways2 hu with ⟨g3,g4⟩ | g3
      ·go_wp2_with fail
       go_region
       go_wp2_with fail
       go_region
       go_wp2;go_roundw
       case rel=>exact⟨k+1,by omega,by go_num,HP1.out,(HX2.out.later (Below.drew (Below.refl _ _))).later (Below.drew (Below.refl _ _))⟩
       case measure=>simp[intOf];omega
      go_wp2_with fail
      go_region
      go_wp2_with fail
      go_region
      go_wp2;go_roundw
      case rel=>exact⟨k+1,by omega,by go_num,HP1.out,(HX2.out.later (Below.drew (Below.refl _ _))).later (Below.drew (Below.refl _ _))⟩
      case measure=>simp[intOf];omega
     rcases eq_ways2 hu with ⟨g3,g4⟩ | g3
     ·go_wp2_with fail
      go_region
      go_wp2_with fail
      go_region
      go_wp2;go_roundw
      case rel=>exact⟨k+1,by omega,by go_num,HP1.out,(HX2.out.later (Below.drew (Below.refl _ _))).later (Below.drew (Below.refl _ _))⟩
      case measure=>simp[intOf];omega
     go_wp2_with fail
     go_region
     go_wp2_with fail
     go_region
     go_wp2;go_roundw
     case rel=>exact⟨k+1,by omega,by go_num,HP1.out,(HX2.out.later (Below.drew (Below.refl _ _))).later (Below.drew (Below.refl _ _))⟩
     case measure=>simp[intOf];omega
    have HP1:Hid (P=some (x0,x1)):=by
     show _=_;rw[HST.out,ho,hu];rfl
    rw[Bool.and_eq_true] at hu;obtain⟨g3,g4⟩:=hu
    rcases eq_ways2 ho with ⟨g1,g2⟩ | g1
    ·go_wp2_with fail
     go_region
     go_wp2_with fail
     go_region
     go_wp2;refine bodyPost_ret (v:=.tuple #[.agg #[.int .i64 x0,.int .i64 x1],.bool true]) (by simp[results,Tryz.results84,go_sem, *]) rfl ⟨by rw[HP1.out];rfl,below2 (HB.out.trans (((Below.drew (Below.drew (Below.refl _ _))).mono HB.out.size))) _ (by omega) _ _⟩
    go_wp2_with fail
    go_region
    go_wp2_with fail
    go_region
    go_wp2;refine bodyPost_ret (v:=.tuple #[.agg #[.int .i64 x0,.int .i64 x1],.bool true]) (by simp[results,Tryz.results84,go_sem, *]) rfl ⟨by rw[HP1.out];rfl,below2 (HB.out.trans (((Below.drew (Below.drew (Below.refl _ _))).mono HB.out.size))) _ (by omega) _ _⟩
   have HP1:Hid (P=some (x2,x3)):=by
    show _=_;rw[HST.out,ho];rfl
   rw[Bool.and_eq_true] at ho;obtain⟨g1,g2⟩:=ho
   go_wp2_with fail
   go_region
   go_wp2;refine bodyPost_ret (v:=.tuple #[.agg #[.int .i64 x2,.int .i64 x3],.bool true]) (by simp[results,Tryz.results84,go_sem, *]) rfl ⟨by rw[HP1.out];rfl,below2 (HB.out.trans ((Below.drew (Below.refl _ _)).mono HB.out.size)) _ (by omega) _ _⟩
  obtain rfl:k=n:=by omega
  have HPN:Hid (P=none):=by
   show _=_;rw[HPK.out,←HLN.out,List.drop_length];rfl
  go_wp2;refine bodyPost_ret (v:=.tuple #[.agg #[.int .i64 0,.int .i64 0],.bool false]) (by simp[results,Tryz.results84,go_sem, *]) rfl ⟨by rw[HPN.out];rfl,below2 HB.out _ (by omega) _ _⟩
theorem header_yes (n:Int)(w:World)(h:hdrB n=true):
 Calls Tryz.prog 52 #[.int .i64 n] w fun e w'=>e=.returned (.bool true)∧w'=w:=by
 obtain⟨h1,h2⟩:=hdr_of h;clear h;go_enter Tryz.func52,Tryz.ntmps52;go_wp2;go_ret;exact⟨rfl,rfl⟩
theorem header_no (n:Int)(w:World)(h:hdrB n=false):
 Calls Tryz.prog 52 #[.int .i64 n] w fun e w'=>e=.returned (.bool false)∧w'=w:=by
 rcases hdr_no h with h1 | h1
 ·clear h;go_enter Tryz.func52,Tryz.ntmps52;go_wp2;go_ret;exact⟨rfl,rfl⟩
 have h2:0≤n:=by omega
 have h3:decide (n<16)=false:=by simp;omega
 clear h;go_enter Tryz.func52,Tryz.ntmps52;go_wp2;go_ret;exact⟨rfl,rfl⟩
theorem header_any (n:Int)(w:World):
 Calls Tryz.prog 52 #[.int .i64 n] w fun e w'=>e=.returned (.bool (hdrB n))∧w'=w:=by
 cases h:hdrB n
 ·exact header_no n w h
 exact header_yes n w h
theorem refCube_any (m b:Int)(w:World):
 Calls Tryz.prog 53 #[.agg #[.int .i64 m,.int .i64 b]] w fun e w'=>e=.returned (.int .i64 (refN m b))∧Below w.heap.size w w':=by
 cases hr:rngB m b
 ·rw[refN_range hr];have HH:hdrB m=false∨(hdrB m=true∧hdrB b=false):=by
   cases h1:hdrB m
   ·exact .inl rfl
   exact .inr ⟨rfl,by simpa[rngB,h1] using hr⟩
  rcases HH with hm | ⟨hm,hb⟩
  all_goals
   clear hr;go_enter Tryz.func53,Tryz.ntmps53
   go_wp2_with fail
   refine (header_any _ _).mono ?_;rintro e w' ⟨rfl,rfl⟩
   go_wp2_with fail
   refine (header_any _ _).mono ?_;rintro e w' ⟨rfl,rfl⟩;go_wp2;go_ret;exact⟨rfl,(Below.refl _ _).alloc (Nat.le_refl _) _⟩
 have hm:hdrB m=true:=hdr_mk (rng_of hr).1;have hb:hdrB b=true:=hdr_mk (rng_of hr).2;cases ho:okB m b
 ·rw[refN_shape ho hr];have hz:(bits .and .i64 b m==b)=false:=by rw[andEq hr,ho]
  clear hr ho;go_enter Tryz.func53,Tryz.ntmps53
  go_wp2_with fail
  refine (header_any _ _).mono ?_;rintro e w' ⟨rfl,rfl⟩
  go_wp2_with fail
  refine (header_any _ _).mono ?_;rintro e w' ⟨rfl,rfl⟩;go_wp2;go_ret;exact⟨rfl,(Below.refl _ _).alloc (Nat.le_refl _) _⟩
 rw[refN_ok ho];have hz:(bits .and .i64 b m==b)=true:=by rw[andEq hr,ho]
 clear hr ho;go_enter Tryz.func53,Tryz.ntmps53
 go_wp2_with fail
 refine (header_any _ _).mono ?_;rintro e w' ⟨rfl,rfl⟩
 go_wp2_with fail
 refine (header_any _ _).mono ?_;rintro e w' ⟨rfl,rfl⟩;go_wp2;go_ret;exact⟨rfl,(Below.refl _ _).alloc (Nat.le_refl _) _⟩
theorem refHas_any (m b h:Int)(w:World):
 Calls Tryz.prog 117 #[.agg #[.int .i64 m,.int .i64 b],.int .i64 h] w fun e w'=>e=.returned (.bool (hasB m b h))∧Below w.heap.size w w':=by
 cases hh:hdrB h
 ·have e:hasB m b h=false:=by simp[hasB,hh]
  rw[e];clear e;go_enter Tryz.func117,Tryz.ntmps117
  go_wp2_with fail
  refine (header_any _ _).mono ?_;rintro e w' ⟨rfl,rfl⟩;go_wp2;go_ret;exact⟨rfl,(Below.refl _ _).alloc (Nat.le_refl _) _⟩
 cases ho:okB m b
 ·have e:hasB m b h=false:=by simp[hasB,ho]
  have hz:(refN m b==0)=false:=by rw[ok_refN,ho]
  rw[e];clear e ho;go_enter Tryz.func117,Tryz.ntmps117
  go_wp2_with fail
  refine (header_any _ _).mono ?_;rintro e w' ⟨rfl,rfl⟩
  go_wp2_with fail
  refine (refCube_any _ _ _).mono ?_;rintro e w1 ⟨rfl,hb1⟩;go_wp2;go_ret;exact⟨rfl,((Below.refl _ _).alloc (Nat.le_refl _) _).trans (hb1.mono (by simp))⟩
 have e:hasB m b h=(bits .and .i64 h m==b):=by simp[hasB,hh,ho]
 rw[e,];clear e;go_enter Tryz.func117,Tryz.ntmps117
 go_wp2_with fail
 refine (header_any _ _).mono ?_;rintro e w' ⟨rfl,rfl⟩
 go_wp2_with fail
 refine (refCube_any _ _ _).mono ?_;rintro e w1 ⟨rfl,hb1⟩;rw[refN_ok ho];obtain⟨hc1,hf1⟩:=bcell hb1;go_wp2;go_ret;exact⟨rfl,((Below.refl _ _).alloc (Nat.le_refl _) _).trans (hb1.mono (by simp))⟩
def tuB (s v h:Int)(i:Nat):Bool:=bitB s i&&bitB v i || !bitB s i&&bitB h i
def tuTo (s v h:Int):Nat→Int
 | 0=>0
 | k+1=>if tuB s v h (3-k) then tuTo s v h k*2+1 else tuTo s v h k*2
theorem tu_bd (s v h:Int):∀k,0≤tuTo s v h k∧tuTo s v h k<2 ^ k
 | 0=>by simp[tuTo]
 | k+1=>by
   have:=tu_bd s v h k;have e:(2:Int) ^ (k+1)=2 ^ k*2:=Int.pow_succ ..;unfold tuTo
   split <;> omega
theorem tu_fin:∀(s v h:Fin 16),((bits .andNot .i64 ((v:Nat):Int) ((s:Nat):Int)==0) && !(tuTo ((s:Nat):Int) ((v:Nat):Int) ((h:Nat):Int) 4==apV ((s:Nat):Int) ((v:Nat):Int) ((h:Nat):Int)))=false:=by decide +kernel
theorem fin16 {x:Int}(h:0≤x∧x<16):∃i:Fin 16,x=((i:Nat):Int):=⟨⟨x.toNat,by omega⟩,by simp;omega⟩
theorem tu_ap {s v h:Int}(hs:0≤s∧s<16)(hv:0≤v∧v<16)(hh:0≤h∧h<16)(hz:(bits .andNot .i64 v s==0)=true):tuTo s v h 4=apV s v h:=by
 obtain⟨a,rfl⟩:=fin16 hs;obtain⟨b,rfl⟩:=fin16 hv;obtain⟨c,rfl⟩:=fin16 hh;have:=tu_fin a b c;rw[hz] at this;simpa using this
def abB (a b:Ru):Bool:=if a.p=b.p then (if a.m=b.m then decide (b.b<a.b) else decide (b.m<a.m)) else decide (b.p<a.p)
theorem ab_ord (a b:Ru):abB a b=decide (0<ordR a b):=by
 have h:ordR a b≤0↔_:=ord_le (a:=a) (b:=b);unfold abB
 split
 ·split <;> (rw[decide_eq_decide];omega)
 rw[decide_eq_decide];omega
theorem above_abB (p m b o s v p' m' b' o' s' v':Int)(w:World):
 Calls Tryz.prog 118 #[.agg #[.int .i64 p,.int .i64 m,.int .i64 b,.int .i64 o,.int .i64 s,.int .i64 v],.agg #[.int .i64 p',.int .i64 m',.int .i64 b',.int .i64 o',.int .i64 s',.int .i64 v']] w fun e w'=>e=.returned (.bool (abB ⟨p,m,b,o,s,v⟩ ⟨p',m',b',o',s',v'⟩))∧Below w.heap.size w w':=by
 by_cases h1:p=p'
 ·subst h1;by_cases h2:m=m'
  ·subst h2;have e:abB ⟨p,m,b,o,s,v⟩ ⟨p,m,b',o',s',v'⟩=decide (b'<b):=by simp[abB]
   rw[e];clear e;go_enter Tryz.func118,Tryz.ntmps118;go_wp2;go_ret;exact⟨rfl,((Below.refl _ _).alloc (Nat.le_refl _) _).alloc (by simp) _⟩
  have e:abB ⟨p,m,b,o,s,v⟩ ⟨p,m',b',o',s',v'⟩=decide (m'<m):=by simp[abB,h2]
  have h3:(m != m')=true:=by simpa using h2
  rw[e];clear e;go_enter Tryz.func118,Tryz.ntmps118;go_wp2;go_ret;exact⟨rfl,((Below.refl _ _).alloc (Nat.le_refl _) _).alloc (by simp) _⟩
 have e:abB ⟨p,m,b,o,s,v⟩ ⟨p',m',b',o',s',v'⟩=decide (p'<p):=by simp[abB,h1]
 have h3:(p != p')=true:=by simpa using h1
 rw[e];clear e;go_enter Tryz.func118,Tryz.ntmps118;go_wp2;go_ret;exact⟨rfl,((Below.refl _ _).alloc (Nat.le_refl _) _).alloc (by simp) _⟩
theorem above_any (p m b o s v p' m' b' o' s' v':Int)(w:World):
 Calls Tryz.prog 118 #[.agg #[.int .i64 p,.int .i64 m,.int .i64 b,.int .i64 o,.int .i64 s,.int .i64 v],.agg #[.int .i64 p',.int .i64 m',.int .i64 b',.int .i64 o',.int .i64 s',.int .i64 v']] w fun e w'=>e=.returned (.bool (decide (0<ordR ⟨p,m,b,o,s,v⟩ ⟨p',m',b',o',s',v'⟩)))∧Below w.heap.size w w':=
 (above_abB p m b o s v p' m' b' o' s' v' w).mono fun e w' h=>⟨by rw[h.1,ab_ord],h.2⟩
theorem be_nextF {L:List Ru}{h:Int}{k:Nat}(x:Int)(hx:x=beTo L h k)(y:Bool)(hy:((L.getD k zeR).has h&&(decide (x<0) || decide (0<ordR (L.getD k zeR) (L.getD x.toNat zeR))))=y):beTo L h (k+1)=if y then (k:Int) else x:=by
 subst hx;rw[beTo,hy]
theorem find_some (g o cap n:Nat)(h:Int)(L:List Ru)(w:World)(hc:RAt w g o L)(hn:L.length=n)(hcap2:n≤maxLen):
 Calls Tryz.prog 82 #[.slice (some ⟨g,o,none⟩) n cap,.int .i64 h] w fun e w'=>e=.returned (.int .i64 (beTo L h n))∧Below w.heap.size w w':=by
 have HN:Hid (L.length=n):=hn;unfold maxLen at hcap2;clear hn;go_enter Tryz.func82,Tryz.ntmps82;go_wp2
 go_loopw [5,6] (fun x i wr=>∃k:Nat,k≤n∧x=.int .i64 (beTo L h k)∧i=.int .i64 k∧Below w.heap.size w wr) (fun _ i _=>n-(intOf i).toNat)
 case atStart=>exact⟨0,by omega,rfl,rfl,Below.refl _ _⟩
 case round =>
  obtain⟨k,hk,rfl,rfl,hB⟩:=hrel;have hbd:=be_bd L h k
  generalize hx:beTo L h k=x at *
  have HX:Hid (x=beTo L h k):=hx.symm;obtain⟨x0,x1⟩:=hbd;clear hx;have HB:Hid (Below w.heap.size w wr):=hB;by_cases hlt:k<n
  ·obtain⟨p,m,b,q,s,v,hkl,hL,q0,q1,q2,q3,q4,q5⟩:=(hc.later hB).at HN.out hlt;have HK:Hid (L.getD k zeR=⟨p,m,b,q,s,v⟩):=(getD_at hkl).trans hL;have HCC:Hid (RAt wr g o L):=hc.later hB;clear hL hB
   go_wp2_with fail
   refine (refHas_any _ _ _ _).mono ?_;rintro e w1 ⟨rfl,hb1⟩;have HCC1:Hid (RAt w1 g o L):=HCC.out.later hb1;have HB1:Hid (Below w.heap.size w w1):=HB.out.trans (hb1.mono HB.out.size);clear hb1 q0 q1 q2 q3 q4 q5 HCC
   generalize hY:hasB m b h=Y
   have HY:Hid (hasB m b h=Y):=hY;clear hY;go_upto_region 6 with fail;have kb0:(0:Int)≤(k:Int):=by omega
   have kb1:(k:Int)<(n:Int):=by omega
   go_cut [36] from 8 to 37 (fun c w'=>c=.bool (Y&&(decide (x<0) || decide (0<ordR (L.getD k zeR) (L.getD x.toNat zeR))))∧Below w.heap.size w w')
   case first =>
    cases Y
    ·refine wp_region_quiet (C:=fun w'=>Below w.heap.size w w') (by kernel_rfl) (by kernel_rfl) (Below.drew HB1.out) ?_;simp only[List.toList_toArray];go_big_quiet_want;refine qv (.bool false) ?_ ?_
     ·rintro w' z0;go_simp
     simp only[Act.put,AP];go_big_quiet_on;go_big_quiet_want;refine qv (.bool false) ?_ ?_
     ·rintro w' z0;go_simp
     simp only[Act.put,AP];go_big_quiet_on;go_big_quiet_skip;go_big_quiet_skip;go_big_quiet_skip;go_big_quiet_skip;go_big_quiet_skip;go_big_quiet_skip;go_big_quiet_skip;go_big_quiet_skip;go_big_quiet_skip;go_big_quiet_skip;go_big_quiet_skip;go_big_quiet_skip;go_big_quiet_skip;go_big_quiet_want;refine qv (.bool false) ?_ ?_
     ·rintro w' z0;go_simp
     simp only[Act.put,AP];go_big_quiet_on;refine wpQuiet_nil ?_;intro w' hC
     go_wp2_with fail
     go_meet
     case rel=>exact⟨rfl,hC⟩
    by_cases hx0:x<0
    ·have hx1:decide (x<0)=true:=by simpa using hx0
     refine wp_region_quiet (C:=fun w'=>Below w.heap.size w w') (by kernel_rfl) (by kernel_rfl) (Below.drew HB1.out) ?_;simp only[List.toList_toArray];go_big_quiet_want;refine qv (.bool true) ?_ ?_
     ·rintro w' z0;go_simp
     simp only[Act.put,AP];go_big_quiet_on;go_big_quiet_want;refine qv (.bool true) ?_ ?_
     ·rintro w' z0;go_simp
     simp only[Act.put,AP];go_big_quiet_on;go_big_quiet_want;refine qv (.int .i64 x) ?_ ?_
     ·rintro w' z0;go_simp
     simp only[Act.put,AP];go_big_quiet_on;go_big_quiet_want;refine qv (.bool true) ?_ ?_
     ·rintro w' z0;go_simp
     simp only[Act.put,AP];go_big_quiet_on;go_big_quiet_want;refine qv (.bool true) ?_ ?_
     ·rintro w' z0;go_simp
     simp only[Act.put,AP];go_big_quiet_on;go_big_quiet_skip;go_big_quiet_skip;go_big_quiet_skip;go_big_quiet_skip;go_big_quiet_skip;go_big_quiet_skip;go_big_quiet_skip;go_big_quiet_skip;go_big_quiet_skip;go_big_quiet_want;refine qv (.bool true) ?_ ?_
     ·rintro w' z0;go_simp
     simp only[Act.put,AP];go_big_quiet_on;go_big_quiet_want;refine qv (.bool true) ?_ ?_
     ·rintro w' z0;go_simp
     simp only[Act.put,AP];go_big_quiet_on;refine wpQuiet_nil ?_;intro w' hC
     go_wp2_with fail
     go_meet
     case rel=>exact⟨by rw[hx1];rfl,hC⟩
    obtain⟨y,hy⟩:∃y:Nat,x=(y:Int):=⟨x.toNat,by omega⟩;have hx2:decide ((y:Int)<0)=false:=by simp
    subst hy;obtain⟨p2,m2,b2,q2,s2,v2,hyl,hLy,y0,y1,y2,y3,y4,y5⟩:=HCC1.out.at HN.out (show y<n by omega);obtain⟨p1,m1,b1,q1,s1,v1,hkl1,hLk,r0,r1,r2,r3,r4,r5⟩:=HCC1.out.at HN.out hlt;have E:=HK.out;rw[getD_at hkl1,hLk] at E;simp only[Ru.mk.injEq] at E;obtain⟨rfl,rfl,rfl,rfl,rfl,rfl⟩:=E;have HYL:Hid (L.getD ((y:Nat):Int).toNat zeR=⟨p2,m2,b2,q2,s2,v2⟩):=by
     show L.getD ((y:Nat):Int).toNat zeR=_;rw[Int.toNat_natCast,getD_at hyl,hLy]
    have yb0:(0:Int)≤(y:Int):=by omega
    have yb1:((y:Int))<(n:Int):=by omega
    have hS0:CD w g (o+k*6) p1 m1 b1 q1 s1 v1 g (o+y*6) p2 m2 b2 q2 s2 v2 w1:=⟨HB1.out,⟨r0,r1,r2,r3,r4,r5⟩,y0,y1,y2,y3,y4,y5⟩;clear y0 y1 y2 y3 y4 y5 r0 r1 r2 r3 r4 r5 hLy hLk;refine wp_region_quiet (C:=CD w g (o+k*6) p1 m1 b1 q1 s1 v1 g (o+y*6) p2 m2 b2 q2 s2 v2) (by kernel_rfl) (by kernel_rfl) (CD.later (W:=w1) (Below.drew (Below.refl _ _)) hS0) ?_;simp only[List.toList_toArray];go_big_quiet_want;refine qv (.bool true) ?_ ?_
    ·rintro w' ⟨z0,⟨z1,z2,z3,z4,z5,z6⟩,y1,y2,y3,y4,y5,y6⟩;go_simp
    simp only[Act.put,AP];go_big_quiet_on;go_big_quiet_want;refine qv (.bool true) ?_ ?_
    ·rintro w' ⟨z0,⟨z1,z2,z3,z4,z5,z6⟩,y1,y2,y3,y4,y5,y6⟩;go_simp
    simp only[Act.put,AP];go_big_quiet_on;go_big_quiet_want;refine qv (.int .i64 (y:Int)) ?_ ?_
    ·rintro w' ⟨z0,⟨z1,z2,z3,z4,z5,z6⟩,y1,y2,y3,y4,y5,y6⟩;go_simp
    simp only[Act.put,AP];go_big_quiet_on;go_big_quiet_want;refine qv (.bool false) ?_ ?_
    ·rintro w' ⟨z0,⟨z1,z2,z3,z4,z5,z6⟩,y1,y2,y3,y4,y5,y6⟩;go_simp
    simp only[Act.put,AP];go_big_quiet_on;go_big_quiet_want;refine qv (.bool false) ?_ ?_
    ·rintro w' ⟨z0,⟨z1,z2,z3,z4,z5,z6⟩,y1,y2,y3,y4,y5,y6⟩;go_simp
    simp only[Act.put,AP];go_big_quiet_on;go_big_quiet_want;refine qv (.slice (some ⟨g,o,none⟩) n cap) ?_ ?_
    ·rintro w' ⟨z0,⟨z1,z2,z3,z4,z5,z6⟩,y1,y2,y3,y4,y5,y6⟩;go_simp
    simp only[Act.put,AP];go_big_quiet_on;go_big_quiet_want;refine qv (.int .i64 (k:Int)) ?_ ?_
    ·rintro w' ⟨z0,⟨z1,z2,z3,z4,z5,z6⟩,y1,y2,y3,y4,y5,y6⟩;go_simp
    simp only[Act.put,AP];go_big_quiet_on;go_big_quiet_want;refine qv (.pointer (some ⟨g,o+k*6,none⟩)) ?_ ?_
    ·rintro w' ⟨z0,⟨z1,z2,z3,z4,z5,z6⟩,y1,y2,y3,y4,y5,y6⟩;go_simp
    simp only[Act.put,AP];go_big_quiet_on;go_big_quiet_want;refine qv (.agg #[.int .i64 p1,.int .i64 m1,.int .i64 b1,.int .i64 q1,.int .i64 s1,.int .i64 v1]) ?_ ?_
    ·rintro w' ⟨z0,⟨z1,z2,z3,z4,z5,z6⟩,y1,y2,y3,y4,y5,y6⟩;go_simp
    simp only[Act.put,AP];go_big_quiet_on;go_big_quiet_want;refine qv (.slice (some ⟨g,o,none⟩) n cap) ?_ ?_
    ·rintro w' ⟨z0,⟨z1,z2,z3,z4,z5,z6⟩,y1,y2,y3,y4,y5,y6⟩;go_simp
    simp only[Act.put,AP];go_big_quiet_on;go_big_quiet_want;refine qv (.int .i64 (y:Int)) ?_ ?_
    ·rintro w' ⟨z0,⟨z1,z2,z3,z4,z5,z6⟩,y1,y2,y3,y4,y5,y6⟩;go_simp
    simp only[Act.put,AP];go_big_quiet_on;go_big_quiet_want;refine qv (.pointer (some ⟨g,o+y*6,none⟩)) ?_ ?_
    ·rintro w' ⟨z0,⟨z1,z2,z3,z4,z5,z6⟩,y1,y2,y3,y4,y5,y6⟩;go_simp
    simp only[Act.put,AP];go_big_quiet_on;go_big_quiet_want;refine qv (.agg #[.int .i64 p2,.int .i64 m2,.int .i64 b2,.int .i64 q2,.int .i64 s2,.int .i64 v2]) ?_ ?_
    ·rintro w' ⟨z0,⟨z1,z2,z3,z4,z5,z6⟩,y1,y2,y3,y4,y5,y6⟩;go_simp
    simp only[Act.put,AP];go_big_quiet_on;go_big_quiet_want;refine quiet_call (f:=118) (args:=#[.agg #[.int .i64 p1,.int .i64 m1,.int .i64 b1,.int .i64 q1,.int .i64 s1,.int .i64 v1],.agg #[.int .i64 p2,.int .i64 m2,.int .i64 b2,.int .i64 q2,.int .i64 s2,.int .i64 v2]]) (v:=.bool (decide (0<ordR ⟨p1,m1,b1,q1,s1,v1⟩ ⟨p2,m2,b2,q2,s2,v2⟩))) (fun w'=>?_) (fun w' hC=>(above_any p1 m1 b1 q1 s1 v1 p2 m2 b2 q2 s2 v2 w').mono (fun e w2 h2=>⟨h2.1,CD.later h2.2 hC⟩)) ?_
    ·go_simp
    simp only[Act.put,AP];go_big_quiet_on;go_big_quiet_want;refine qv (.bool (decide (0<ordR ⟨p1,m1,b1,q1,s1,v1⟩ ⟨p2,m2,b2,q2,s2,v2⟩))) ?_ ?_
    ·rintro w' ⟨z0,⟨z1,z2,z3,z4,z5,z6⟩,y1,y2,y3,y4,y5,y6⟩;go_simp
    simp only[Act.put,AP];go_big_quiet_on;go_big_quiet_want;refine qv (.bool (decide (0<ordR ⟨p1,m1,b1,q1,s1,v1⟩ ⟨p2,m2,b2,q2,s2,v2⟩))) ?_ ?_
    ·rintro w' ⟨z0,⟨z1,z2,z3,z4,z5,z6⟩,y1,y2,y3,y4,y5,y6⟩;go_simp
    simp only[Act.put,AP];go_big_quiet_on;refine wpQuiet_nil ?_;intro w' hC
    go_wp2_with fail
    go_meet
    case rel=>exact⟨by rw[HYL.out,HK.out,hx2];rfl,hC.1⟩
   case rest =>
    obtain⟨hc2,hB2⟩:=hcut;have HYY:Hid (beTo L h (k+1)=if (Y&&(decide (x<0) || decide (0<ordR (L.getD k zeR) (L.getD x.toNat zeR)))) then (k:Int) else x):=be_nextF x HX.out _ (by rw[HK.out,←HY.out];rfl);clear HCC1
    generalize (Y&&(decide (x<0) || decide (0<ordR (L.getD k zeR) (L.getD x.toNat zeR))))=Z at *
    subst hc2;cases Z
    ·go_wp2;go_roundw
     case rel=>exact⟨k+1,by omega,by rw[HYY.out];rfl,by go_num,hB2⟩
     case measure=>simp[intOf];omega
    go_wp2;go_roundw
    case rel=>exact⟨k+1,by omega,by rw[HYY.out];rfl,by go_num,hB2⟩
    case measure=>simp[intOf];omega
  obtain rfl:k=n:=by omega
  go_wp2;go_ret;exact⟨by rw[←HX.out];rfl,HB.out⟩
theorem find_nil (ao:Option Addr)(cap:Nat)(h:Int)(w:World):
 Calls Tryz.prog 82 #[.slice ao 0 cap,.int .i64 h] w fun e w'=>e=.returned (.int .i64 (-1))∧Below w.heap.size w w':=by
 go_enter Tryz.func82,Tryz.ntmps82;go_wp2
 go_loopw [5,6] (fun x i wr=>x=.int .i64 (-1)∧i=.int .i64 0∧wr=w) (fun _ i _=>0)
 case atStart=>exact⟨rfl,rfl,rfl⟩
 case round =>
  obtain⟨rfl,rfl,rfl⟩:=hrel;go_wp2;go_ret;exact⟨rfl,Below.refl _ _⟩
theorem find_any (x:Value)(L:List Ru)(h:Int)(w:World)(hs:SR w x L):
 Calls Tryz.prog 82 #[x,.int .i64 h] w fun e w'=>e=.returned (.int .i64 (beTo L h L.length))∧Below w.heap.size w w':=by
 rcases hs with ⟨ao,cap,rfl,rfl⟩ | ⟨g,o,cap,rfl,h1,h2,hc⟩
 ·exact find_nil ao cap h w
 exact find_some g o cap _ h L w hc rfl (Nat.le_trans h1 h2)
theorem ediv_pow (x:Int)(k:Nat):x / 2 ^ k / 2=x / 2 ^ (k+1):=by
 rw[Int.ediv_ediv_of_nonneg (Int.pow_nonneg (by decide)),←Int.pow_succ]
theorem refBit_any (x i:Int)(w:World)(hx:0≤x∧x<16)(hi:0≤i∧i≤3):
 Calls Tryz.prog 119 #[.int .i64 x,.int .i64 i] w fun e w'=>e=.returned (.bool (bitB x i.toNat))∧w'=w:=by
 obtain⟨hx0,hx1⟩:=hx;obtain⟨hi0,hi1⟩:=hi;go_enter Tryz.func119,Tryz.ntmps119;go_wp2
 go_loop [0,5] (fun v p=>∃k:Nat,(k:Int)≤i∧p=.int .i64 k∧v=.int .i64 (x / 2 ^ k)) (fun _ p=>(i-intOf p).toNat)
 case atStart=>exact⟨0,by omega,rfl,by simp⟩
 case round =>
  obtain⟨k,hk,rfl,rfl⟩:=hrel;have hE:0≤x / 2 ^ k:=Int.ediv_nonneg hx0 (Int.pow_nonneg (by decide));have hE2:x / 2 ^ k<16:=Int.lt_of_le_of_lt (Int.ediv_le_self _ hx0) hx1;have HP:Hid (x / 2 ^ k / 2=x / 2 ^ (k+1)):=ediv_pow x k;by_cases hlt:(k:Int)<i
  ·generalize x / 2 ^ k=y at *
   go_wp2
   go_round
   case rel=>exact⟨k+1,by omega,by go_num,by rw[←HP.out]⟩
   case measure=>simp[intOf];omega
  have hk2:i.toNat=k:=by omega
  have HB:Hid (bitB x i.toNat=(x / 2 ^ k % 2==1)):=by show _=_;rw[hk2];rfl
  clear hk2
  generalize x / 2 ^ k=y at *
  go_wp2;go_ret;refine⟨?_,rfl⟩;rw[HB.out];rfl
theorem turned_any (p m b o s v h:Int)(w:World)(hs:0≤s∧s<16)(hv:0≤v∧v<16)(hh:0≤h∧h<16):
 Calls Tryz.prog 85 #[.agg #[.int .i64 p,.int .i64 m,.int .i64 b,.int .i64 o,.int .i64 s,.int .i64 v],.int .i64 h] w fun e w'=>e=.returned (.int .i64 (tuTo s v h 4))∧Below w.heap.size w w':=by
 go_enter Tryz.func85,Tryz.ntmps85;go_wp2
 go_loop [5,6] (fun t i=>∃k:Nat,k≤4∧i=.int .i64 (3-k)∧t=.int .i64 (tuTo s v h k)) (fun _ i=>(intOf i+1).toNat)
 case atStart=>exact⟨0,by omega,rfl,rfl⟩
 case round =>
  obtain⟨k,hk,rfl,rfl⟩:=hrel;have hbd:=tu_bd s v h k;have hp:(2:Int) ^ k≤16:=by
   rcases (by omega:k=0∨k=1∨k=2∨k=3∨k=4) with rfl | rfl | rfl | rfl | rfl <;> decide
  have b0:=hbd.1;have b1:tuTo s v h k<16:=Int.lt_of_lt_of_le hbd.2 hp;clear hp hbd;by_cases hlt:k<4
  ·have hi:(3-(k:Int)).toNat=3-k:=by omega
   have HI:Hid ((3-(k:Int)).toNat=3-k):=hi;have HT:Hid (tuTo s v h (k+1)=if (bitB s (3-k)&&bitB v (3-k) || !bitB s (3-k)&&bitB h (3-k)) then tuTo s v h k*2+1 else tuTo s v h k*2):=by
    show tuTo s v h (k+1)=_;rfl
   clear hi
   generalize tuTo s v h k=T at *
   go_wp2_with fail
   refine (refBit_any _ _ _ hs (by omega)).mono ?_;rintro e w' ⟨rfl,rfl⟩;rw[HI.out]
   go_wp2_with fail
   refine (refBit_any _ _ _ hv (by omega)).mono ?_;rintro e w' ⟨rfl,rfl⟩;rw[HI.out]
   go_wp2_with fail
   refine (refBit_any _ _ _ hh (by omega)).mono ?_;rintro e w' ⟨rfl,rfl⟩;rw[HI.out]
   generalize bitB s (3-k)=X at *
   generalize bitB v (3-k)=Y at *
   generalize bitB h (3-k)=Z at *
   cases X <;> cases Y <;> cases Z
   all_goals
    go_wp2
    go_round
    case rel=>exact⟨k+1,by omega,by go_num,by rw[HT.out];rfl⟩
    case measure=>simp[intOf];omega
  obtain rfl:k=4:=by omega
  go_wp2;go_ret;exact⟨rfl,(Below.refl _ _).alloc (Nat.le_refl _) _⟩
def beR (t:List Ru)(h:Int):Ru:=t.getD (beTo t h t.length).toNat zeR
theorem ok_at {L:List Ru}(h:okR L=true){k:Nat}(hk:k<L.length):(L.getD k zeR).ok=true:=by
 rw[getD_at hk];exact List.all_eq_true.1 h _ (List.getElem_mem hk)
theorem be_ok {t:List Ru}{h:Int}(ht:tbN t=0)(hh:hdrB h=true)(hb:0≤beTo t h t.length):luN t h=0∧roR t h=beR t h∧(beR t h).ok=true∧(beR t h).has h=true∧(beTo t h t.length).toNat<t.length:=by
 have e:luN t h=0:=lu_0.2 ⟨ht,hh,hb⟩;have e2:luI t h=beTo t h t.length:=by rw[luI,if_pos e]
 have hlt:(beTo t h t.length).toNat<t.length:=by
  have:=be_bd t h t.length;omega
 exact⟨e,by rw[roR,e2];rfl,ok_at (tb_0.1 ht).2.1 hlt,(be_yes hb).1,hlt⟩
theorem st_no {t:List Ru}{p:(Int×Int)×Int}(ht:tbN t=0)(hh:hdrB p.2=true)(hb:beTo t p.2 t.length<0):stT t p=none:=by
 unfold stT;rw[if_neg];intro e;have:=(lu_0.1 e).2.2;omega
theorem ap_mk {r:Ru}{h:Int}(hr:r.ok=true)(hh:hdrB h=true)(hs:r.has h=true):r.apN h=if r.o=0 then 5 else 0:=by
 have e1:ruOk r.p r.m r.b r.o r.s r.v=true:=hr;have e2:hasB r.m r.b h=true:=hs;unfold Ru.apN apN;rw[if_pos e1,if_pos hh,e2];by_cases e:r.o=0
 ·rw[if_pos e];simp[e]
 rw[if_neg e];simp[e]
theorem st_drop {t:List Ru}{p:(Int×Int)×Int}(ht:tbN t=0)(hh:hdrB p.2=true)(hb:0≤beTo t p.2 t.length)(ho:(beR t p.2).o=0):stT t p=none:=by
 obtain⟨e1,e2,e3,e4,_⟩:=be_ok ht hh hb;unfold stT;rw[if_pos e1,e2,ap_mk e3 hh e4,if_pos ho];rfl
theorem st_yes {t:List Ru}{p:(Int×Int)×Int}(ht:tbN t=0)(hh:hdrB p.2=true)(hb:0≤beTo t p.2 t.length)(ho:(beR t p.2).o≠0):
 stT t p=some ((p.1.1,(beR t p.2).o),tuTo (beR t p.2).s (beR t p.2).v p.2 4)∧(0≤(beR t p.2).s∧(beR t p.2).s<16)∧(0≤(beR t p.2).v∧(beR t p.2).v<16):=by
 obtain⟨e1,e2,e3,e4,_⟩:=be_ok ht hh hb;have ha:=ap_mk e3 hh e4;rw[if_neg ho] at ha;have h3:ruOk (beR t p.2).p (beR t p.2).m (beR t p.2).b (beR t p.2).o (beR t p.2).s (beR t p.2).v=true:=e3;obtain⟨g1,_,g3⟩:=ru_ok h3;obtain⟨_,hs,hv⟩:=ru_in g1;simp only[ruSet,Bool.and_eq_true] at g3;refine⟨?_,hs,hv⟩;unfold stT;rw[if_pos e1,e2,if_pos ha,tu_ap hs hv (hdr_of hh) g3.1];have:(beR t p.2).apR p.2=apV (beR t p.2).s (beR t p.2).v p.2:=by
  unfold Ru.apR apR;exact if_pos ha
 rw[this]
section
variable {Ls:LkQ}{Hs:HoQ}{Ts:List (List Ru)}{l:HpQ}{q:(Int×Int)×Int}
theorem fo_r (h:l.length≤24):foF Ls Hs Ts (25-l.length) l=match enE Ls Hs Ts l (laH l) with | .inl e=>(e.1,e.2,l) | .inr p=>foF Ls Hs Ts (24-l.length) (l++[p]):=by
 have e:25-l.length=(24-l.length)+1:=by omega
 rw[e];exact fo_s _ _
theorem la_app (l:HpQ)(p:(Int×Int)×Int):laH (l++[p])=p:=by
 rw[la_at];simp only[List.length_append,List.length_cons,List.length_nil,Nat.add_sub_cancel,Nat.zero_add];exact at_app l p
end
end
section
open Go.ChangeShapes Go.WideShapes Go.ChangeAt Go.RowKit Go.Joins
def hopE:Enc ((Int×Int)×Int) where
 c:=fun x=>[.int .i64 x.1.1,.int .i64 x.1.2,.int .i64 x.2]
 n:=3
 len:=fun _=>rfl
 pos:=by decide
 one:=by
  intro x u hu;simp at hu
  rcases hu with rfl | rfl | rfl <;> rfl
theorem hop_cells {w:World}{g o:Nat}{x0 x1 x2:Int}(h:VAt w g o (hopE.c ((x0,x1),x2))):w.cell? ⟨g,o,none⟩=some (.int .i64 x0)∧w.cell? ⟨g,o+1,none⟩=some (.int .i64 x1)∧w.cell? ⟨g,o+2,none⟩=some (.int .i64 x2):=
 ⟨h 0 _ rfl,h 1 _ rfl,h 2 _ rfl⟩
theorem hop_at {w:World}{g o:Nat}{L:HpQ}(h:GAt hopE w g o L){n k:Nat}(hn:L.length=n)(hk:k<n):
 ∃(x0:Int) (x1:Int) (x2:Int) (hl:k<L.length),L[k]=((x0,x1),x2)∧w.cell? ⟨g,o+k*3,none⟩=some (.int .i64 x0)∧w.cell? ⟨g,o+k*3+1,none⟩=some (.int .i64 x1)∧w.cell? ⟨g,o+k*3+2,none⟩=some (.int .i64 x2):=
 have hl:k<L.length:=by omega
 ⟨_,_,_,hl,rfl,hop_cells (h k hl)⟩
theorem hop_new (w:World)(x0 x1 x2:Int)(t:TypeId):VAt (w.alloc (Obj.cells #[.int .i64 x0,.int .i64 x1,.int .i64 x2] t)) w.heap.size 0 (hopE.c ((x0,x1),x2)):=vat_new w [.int .i64 x0,.int .i64 x1,.int .i64 x2] t
def hopB (a b:(Int×Int)×Int):Bool:=(a.1.1==b.1.1)&&((a.1.2==b.1.2)&&((a.2==b.2)))
theorem hopB_iff (a b:(Int×Int)×Int):hopB a b=true↔a=b:=by
 have e:hopB a b=((a.1.1==b.1.1)&&((a.1.2==b.1.2)&&((a.2==b.2)))):=rfl;rw[e];simp only[Bool.and_eq_true,beq_iff_eq];constructor
 ·intro h;obtain⟨⟨a0,a1⟩,a2⟩:=a;obtain⟨⟨b0,b1⟩,b2⟩:=b;simp at h ⊢;simp[h]
 intro h;subst h;simp
theorem hop_ways (x0 x1 x2 y0 y1 y2:Int):
 ((x0==y0)=false∧hopB ((x0,x1),x2) ((y0,y1),y2)=false) ∨
 ((x0==y0)=true∧(x1==y1)=false∧hopB ((x0,x1),x2) ((y0,y1),y2)=false) ∨
 ((x0==y0)=true∧(x1==y1)=true∧(x2==y2)=false∧hopB ((x0,x1),x2) ((y0,y1),y2)=false) ∨
 ((x0==y0)=true∧(x1==y1)=true∧(x2==y2)=true∧hopB ((x0,x1),x2) ((y0,y1),y2)=true):=by
 have e:hopB ((x0,x1),x2) ((y0,y1),y2)=((x0==y0)&&((x1==y1)&&((x2==y2)))):=rfl;rw[e];cases h0:(x0==y0)
 ·simp
 skip;cases h1:(x1==y1)
 ·simp
 skip;cases h2:(x2==y2)
 ·simp
 skip;simp
theorem hop_eq (x0 x1 x2 y0 y1 y2:Int)(w:World):(Op.equal 127 (.agg #[.int .i64 x0,.int .i64 x1,.int .i64 x2]) (.agg #[.int .i64 y0,.int .i64 y1,.int .i64 y2])).run Tryz.prog w=.ok (hopB ((x0,x1),x2) ((y0,y1),y2)) w:=by
 unfold Op.equal Op.maxDepth;rw[run_equalIn_struct w 9999 _ _ _ (by kernel_rfl) (by kernel_rfl)]
 rcases hop_ways x0 x1 x2 y0 y1 y2 with ⟨e0,e⟩ | ⟨e0,e1,e⟩ | ⟨e0,e1,e2,e⟩ | ⟨e0,e1,e2,e⟩
 all_goals
  rw[e];go_simp
theorem hop_info:(Tryz.prog.info? 127).map (fun i=>(i.zero,i.size,i.bytes))=some (some (.agg #[.int .i64 0,.int .i64 0,.int .i64 0]),3,24):=by kernel_rfl
theorem hop_zero:(Value.agg #[.int .i64 0,.int .i64 0,.int .i64 0]).cells.size=3:=by simp[Value.cells]
end
section
open Go.RowKit
theorem nan_any (a:Int)(w:World):Calls Tryz.prog 170 #[.int .i64 a] w fun e w'=>e=.returned (.bool false)∧w'=w:=by
 go_enter Tryz.func170,Tryz.ntmps170;go_wp2;go_ret;exact⟨by simp,rfl⟩
theorem compare_any (a b:Int)(w:World):Calls Tryz.prog 169 #[.int .i64 a,.int .i64 b] w fun e w'=>e=.returned (.int .i64 (cmpN a b))∧w'=w:=by
 by_cases h1:a<b
 ·have e:cmpN a b = -1:=by simp[cmpN,h1]
  rw[e];clear e;have g1:decide (a<b)=true:=by simpa using h1
  go_enter Tryz.func169,Tryz.ntmps169
  go_wp2_with (first | (go_at_call 170;refine (nan_any _ _).mono ?_;rintro e w' ⟨rfl,rfl⟩))
  go_ret;exact⟨rfl,rfl⟩
 have g1:decide (a<b)=false:=by simpa using h1
 by_cases h2:b<a
 ·have e:cmpN a b=1:=by simp[cmpN,h1,h2]
  rw[e];clear e;have g2:decide (b<a)=true:=by simpa using h2
  go_enter Tryz.func169,Tryz.ntmps169
  go_wp2_with (first | (go_at_call 170;refine (nan_any _ _).mono ?_;rintro e w' ⟨rfl,rfl⟩))
  go_ret;exact⟨rfl,rfl⟩
 have e:cmpN a b=0:=by simp[cmpN,h1,h2]
 rw[e];clear e;have g2:decide (b<a)=false:=by simpa using h2
 go_enter Tryz.func169,Tryz.ntmps169
 go_wp2_with (first | (go_at_call 170;refine (nan_any _ _).mono ?_;rintro e w' ⟨rfl,rfl⟩))
 go_ret;exact⟨rfl,rfl⟩
theorem or_any (x y z:Int)(g:Nat)(w:World)(h0:w.cell? ⟨g,0,none⟩=some (.int .i64 x))(h1:w.cell? ⟨g,1,none⟩=some (.int .i64 y))(h2:w.cell? ⟨g,2,none⟩=some (.int .i64 z)):
 Calls Tryz.prog 168 #[.slice (some ⟨g,0,none⟩) 3 3] w fun e w'=>e=.returned (.int .i64 (orN x y z))∧w'=w:=by
 generalize hq:orN x y z=q
 have HQ:Hid ((if x=0 then (if y=0 then z else y) else x)=q):=hq;clear hq;go_enter Tryz.func168,Tryz.ntmps168;go_wp2
 go_loopw [8] (fun i wr=>∃k:Nat,k≤3∧i=.int .i64 k∧(0<k→x=0)∧(1<k→y=0)∧(2<k→z=0)∧wr=w) (fun i _=>3-(intOf i).toNat)
 case atStart=>exact⟨0,by omega,rfl,by omega,by omega,by omega,rfl⟩
 case round =>
  obtain⟨k,hk,rfl,a0,a1,a2,hw⟩:=hrel
  replace hw:=hw.symm
  subst hw
  rcases (by omega:k=0∨k=1∨k=2∨k=3) with rfl | rfl | rfl | rfl
  ·clear a0 a1 a2;by_cases hx:x=0
   ·have g1:(x==0)=true:=by simpa using hx
    have g2:(x != 0)=false:=by simpa using hx
    go_wp2;go_roundw
    case rel=>exact⟨1,by omega,rfl,fun _=>hx,by omega,by omega,trivial⟩
    case measure=>simp[intOf]
   have g1:(x==0)=false:=by simpa using hx
   have g2:(x != 0)=true:=by simpa using hx
   go_wp2;go_ret;exact⟨by rw[←HQ.out,if_neg hx];rfl,rfl⟩
  ·have hx:=a0 (by omega);clear a0 a1 a2;by_cases hy:y=0
   ·have g1:(y==0)=true:=by simpa using hy
    have g2:(y != 0)=false:=by simpa using hy
    go_wp2;go_roundw
    case rel=>exact⟨2,by omega,rfl,fun _=>hx,fun _=>hy,by omega,trivial⟩
    case measure=>simp[intOf]
   have g1:(y==0)=false:=by simpa using hy
   have g2:(y != 0)=true:=by simpa using hy
   go_wp2;go_ret;exact⟨by rw[←HQ.out,if_pos hx,if_neg hy];rfl,rfl⟩
  ·have hx:=a0 (by omega);have hy:=a1 (by omega);clear a0 a1 a2;by_cases hz:z=0
   ·have g1:(z==0)=true:=by simpa using hz
    have g2:(z != 0)=false:=by simpa using hz
    go_wp2;go_roundw
    case rel=>exact⟨3,by omega,rfl,fun _=>hx,fun _=>hy,fun _=>hz,trivial⟩
    case measure=>simp[intOf]
   have g1:(z==0)=false:=by simpa using hz
   have g2:(z != 0)=true:=by simpa using hz
   go_wp2;go_ret;exact⟨by rw[←HQ.out,if_pos hx,if_pos hy];rfl,rfl⟩
  have hx:=a0 (by omega);have hy:=a1 (by omega);have hz:=a2 (by omega);clear a0 a1 a2;go_wp2;go_ret;exact⟨by rw[←HQ.out,if_pos hx,if_pos hy,hz];rfl,rfl⟩
theorem compare_b (a b:Int)(w:World):Calls Tryz.prog 169 #[.int .i64 a,.int .i64 b] w fun e w'=>e=.returned (.int .i64 (cmpN a b))∧Below w.heap.size w w':=
 (compare_any a b w).mono fun _ w' h=>⟨h.1,by rw[h.2];exact Below.refl _ _⟩
theorem or_b (x y z:Int)(g:Nat)(w:World)(h0:w.cell? ⟨g,0,none⟩=some (.int .i64 x))(h1:w.cell? ⟨g,1,none⟩=some (.int .i64 y))(h2:w.cell? ⟨g,2,none⟩=some (.int .i64 z)):
 Calls Tryz.prog 168 #[.slice (some ⟨g,0,none⟩) 3 3] w fun e w'=>e=.returned (.int .i64 (orN x y z))∧Below w.heap.size w w':=
 (or_any x y z g w h0 h1 h2).mono fun _ w' h=>⟨h.1,by rw[h.2];exact Below.refl _ _⟩
theorem cells3 {W:World}(x y z:Value)(t:TypeId):
 (W.alloc (.cells #[x,y,z] t)).cell? ⟨W.heap.size,0,none⟩=some x∧(W.alloc (.cells #[x,y,z] t)).cell? ⟨W.heap.size,1,none⟩=some y∧(W.alloc (.cells #[x,y,z] t)).cell? ⟨W.heap.size,2,none⟩=some z:=by
 refine⟨?_,?_,?_⟩ <;> simp
def OS (w:World)(p m b p' m' b':Int)(w':World):Prop:=
 Below w.heap.size w w'∧(w'.cell? ⟨w.heap.size,0,none⟩=some (.int .i64 p)∧w'.cell? ⟨w.heap.size,1,none⟩=some (.int .i64 m)∧w'.cell? ⟨w.heap.size,2,none⟩=some (.int .i64 b)) ∧
  (w'.cell? ⟨w.heap.size+1,0,none⟩=some (.int .i64 p')∧w'.cell? ⟨w.heap.size+1,1,none⟩=some (.int .i64 m')∧w'.cell? ⟨w.heap.size+1,2,none⟩=some (.int .i64 b'))
theorem OS.later {w W W':World}{p m b p' m' b':Int}(hb:Below W.heap.size W W')(h:OS w p m b p' m' b' W):OS w p m b p' m' b' W':=by
 obtain⟨h0,⟨h1,h2,h3⟩,⟨h4,h5,h6⟩⟩:=h;exact⟨h0.trans (hb.mono h0.size),⟨cell_later hb h1,cell_later hb h2,cell_later hb h3⟩,⟨cell_later hb h4,cell_later hb h5,cell_later hb h6⟩⟩
theorem order_any (p m b o s v p' m' b' o' s' v':Int)(w:World):
 Calls Tryz.prog 165 #[.agg #[.int .i64 p,.int .i64 m,.int .i64 b,.int .i64 o,.int .i64 s,.int .i64 v],.agg #[.int .i64 p',.int .i64 m',.int .i64 b',.int .i64 o',.int .i64 s',.int .i64 v']] w fun e w'=>e=.returned (.int .i64 (ordN p m b p' m' b'))∧Below w.heap.size w w':=by
 have hS0:OS w p m b p' m' b' ((w.alloc (Obj.cells #[.int .i64 p,.int .i64 m,.int .i64 b,.int .i64 o,.int .i64 s,.int .i64 v] 88)).alloc (Obj.cells #[.int .i64 p',.int .i64 m',.int .i64 b',.int .i64 o',.int .i64 s',.int .i64 v'] 88)):=by
  refine⟨((Below.refl _ _).alloc (Nat.le_refl _) _).alloc (by simp) _,⟨?_,?_,?_⟩,⟨?_,?_,?_⟩⟩ <;> simp
 go_enter Tryz.func165,Tryz.ntmps165;go_wp2
 generalize ((w.alloc (Obj.cells #[.int .i64 p,.int .i64 m,.int .i64 b,.int .i64 o,.int .i64 s,.int .i64 v] 88)).alloc (Obj.cells #[.int .i64 p',.int .i64 m',.int .i64 b',.int .i64 o',.int .i64 s',.int .i64 v'] 88))=W0 at *
 unfold OS at hS0
 go_region_held3 (fun w'=>Below w.heap.size w w'∧(w'.cell? ⟨w.heap.size,0,none⟩=some (.int .i64 p)∧w'.cell? ⟨w.heap.size,1,none⟩=some (.int .i64 m)∧w'.cell? ⟨w.heap.size,2,none⟩=some (.int .i64 b)) ∧
  (w'.cell? ⟨w.heap.size+1,0,none⟩=some (.int .i64 p')∧w'.cell? ⟨w.heap.size+1,1,none⟩=some (.int .i64 m')∧w'.cell? ⟨w.heap.size+1,2,none⟩=some (.int .i64 b')))
  (first | assumption | exact OS.later (by assumption) (by assumption) | exact OS.later (Below.drew (Below.refl _ _)) (by assumption) | exact OS.later (Below.alloc (Below.refl _ _) (Nat.le_refl _) _) (by assumption))
  (first
   | (go_at_call 169;refine (compare_b _ _ _).mono ?_;rintro e w' ⟨rfl,hb⟩)
   | (go_at_call 168;refine (or_b (cmpN p p') (cmpN m m') (cmpN b b') _ _ (cells3 _ _ _ _).1 (cells3 _ _ _ _).2.1 (cells3 _ _ _ _).2.2).mono ?_;rintro e w' ⟨rfl,hb⟩))
 have hS:=(‹Below w.heap.size w w'∧_›).1;go_wp2;go_ret;exact⟨rfl,hS⟩
def CA (w:World)(g:Nat)(p m b o s v:Int)(w':World):Prop:=
 Below w.heap.size w w'∧w'.cell? ⟨g,0,none⟩=some (.int .i64 p)∧w'.cell? ⟨g,1,none⟩=some (.int .i64 m)∧w'.cell? ⟨g,2,none⟩=some (.int .i64 b) ∧
  w'.cell? ⟨g,3,none⟩=some (.int .i64 o)∧w'.cell? ⟨g,4,none⟩=some (.int .i64 s)∧w'.cell? ⟨g,5,none⟩=some (.int .i64 v)
theorem CA.later {w W W':World}{g:Nat}{p m b o s v:Int}(hb:Below W.heap.size W W')(h:CA w g p m b o s v W):CA w g p m b o s v W':=by
 obtain⟨h0,h1,h2,h3,h4,h5,h6⟩:=h;exact⟨h0.trans (hb.mono h0.size),cell_later hb h1,cell_later hb h2,cell_later hb h3,cell_later hb h4,cell_later hb h5,cell_later hb h6⟩
def CB (w:World)(g:Nat)(p m b o s v:Int)(g' o':Nat)(p' m' b' q' s' v':Int)(w':World):Prop:=
 (Below w.heap.size w w'∧w'.cell? ⟨g,0,none⟩=some (.int .i64 p)∧w'.cell? ⟨g,1,none⟩=some (.int .i64 m)∧w'.cell? ⟨g,2,none⟩=some (.int .i64 b) ∧
  w'.cell? ⟨g,3,none⟩=some (.int .i64 o)∧w'.cell? ⟨g,4,none⟩=some (.int .i64 s)∧w'.cell? ⟨g,5,none⟩=some (.int .i64 v)) ∧
 w'.cell? ⟨g',o',none⟩=some (.int .i64 p')∧w'.cell? ⟨g',o'+1,none⟩=some (.int .i64 m')∧w'.cell? ⟨g',o'+2,none⟩=some (.int .i64 b') ∧
  w'.cell? ⟨g',o'+3,none⟩=some (.int .i64 q')∧w'.cell? ⟨g',o'+4,none⟩=some (.int .i64 s')∧w'.cell? ⟨g',o'+5,none⟩=some (.int .i64 v')
theorem CB.later {w W W':World}{g:Nat}{p m b o s v:Int}{g' o':Nat}{p' m' b' q' s' v':Int}(hb:Below W.heap.size W W')(h:CB w g p m b o s v g' o' p' m' b' q' s' v' W):CB w g p m b o s v g' o' p' m' b' q' s' v' W':=by
 obtain⟨h0,h1,h2,h3,h4,h5,h6⟩:=h;exact⟨CA.later hb h0,cell_later hb h1,cell_later hb h2,cell_later hb h3,cell_later hb h4,cell_later hb h5,cell_later hb h6⟩
def cntB (m b h x y:Int):Bool:=hasB m b h&&(decide (x<0) || decide (0<y))
theorem be_next {L:List Ru}{h:Int}{k:Nat}(x:Int)(hx:x=beTo L h k)(y:Bool)(hy:((L.getD k zeR).has h&&(decide (x<0) || decide (0<ordR (L.getD k zeR) (L.getD x.toNat zeR))))=y):beTo L h (k+1)=if y then (k:Int) else x:=by
 subst hx;rw[beTo,hy]
theorem counting_some (g o cap n:Nat)(h:Int)(L:List Ru)(w:World)(hc:RAt w g o L)(hn:L.length=n)(hcap2:n≤maxLen):
 Calls Tryz.prog 158 #[.slice (some ⟨g,o,none⟩) n cap,.int .i64 h] w fun e w'=>e=.returned (.int .i64 (beTo L h n))∧Below w.heap.size w w':=by
 have HN:Hid (L.length=n):=hn;unfold maxLen at hcap2;clear hn;go_enter Tryz.func158,Tryz.ntmps158;go_wp2
 go_loopw [5,10] (fun x i wr=>∃k:Nat,k≤n∧x=.int .i64 (beTo L h k)∧i=.int .i64 k∧Below w.heap.size w wr) (fun _ i _=>n-(intOf i).toNat)
 case atStart=>exact⟨0,by omega,rfl,rfl,Below.refl _ _⟩
 case round =>
  obtain⟨k,hk,rfl,rfl,hB⟩:=hrel;have hbd:=be_bd L h k
  generalize hx:beTo L h k=x at *
  have HX:Hid (x=beTo L h k):=hx.symm;obtain⟨x0,x1⟩:=hbd;clear hx;have HB:Hid (Below w.heap.size w wr):=hB;by_cases hlt:k<n
  ·obtain⟨p,m,b,q,s,v,hkl,hL,q0,q1,q2,q3,q4,q5⟩:=(hc.later hB).at HN.out hlt;have HK:Hid (L.getD k zeR=⟨p,m,b,q,s,v⟩):=(getD_at hkl).trans hL;have HA:Hid (CA wr wr.heap.size p m b q s v (wr.alloc (Obj.cells #[.int .i64 p,.int .i64 m,.int .i64 b,.int .i64 q,.int .i64 s,.int .i64 v] 88))):=by
    refine⟨(Below.refl _ _).alloc (Nat.le_refl _) _,?_,?_,?_,?_,?_,?_⟩ <;> simp
   have HCC:Hid (RAt wr g o L):=hc.later hB;clear hL hB;go_upto_region 5 with fail;clear q0 q1 q2 q3 q4 q5
   go_cut [10,31] from 10 to 33 (fun i c w'=>i=.int .i64 k∧c=.bool (cntB m b h x (ordR ⟨p,m,b,q,s,v⟩ (L.getD x.toNat zeR)))∧Below wr.heap.size wr w')
   case first =>
    have hS0:=HA.out;clear HA;have HW0:Hid (Below wr.heap.size wr (wr.alloc (Obj.cells #[.int .i64 p,.int .i64 m,.int .i64 b,.int .i64 q,.int .i64 s,.int .i64 v] 88))):=(Below.refl _ _).alloc (Nat.le_refl _) _;have HW0:Hid (Below wr.heap.size wr (wr.alloc (Obj.cells #[.int .i64 p,.int .i64 m,.int .i64 b,.int .i64 q,.int .i64 s,.int .i64 v] 88))):=(Below.refl _ _).alloc (Nat.le_refl _) _
    generalize (wr.alloc (Obj.cells #[.int .i64 p,.int .i64 m,.int .i64 b,.int .i64 q,.int .i64 s,.int .i64 v] 88))=W0 at *
    cases hh:hasB m b h
    ·refine wp_region_quiet (C:=CA wr wr.heap.size p m b q s v) (by kernel_rfl) (by kernel_rfl) (CA.later (W:=W0) (Below.drew (Below.refl _ _)) hS0) ?_;simp only[List.toList_toArray];go_big_quiet_want;refine qv (.pointer (some ⟨wr.heap.size,1,none⟩)) ?_ ?_
     ·rintro w' ⟨z0,z1,z2,z3,z4,z5,z6⟩;go_simp
     simp only[Act.put,AP];go_big_quiet_on;go_big_quiet_want;refine qv (.agg #[.int .i64 m,.int .i64 b]) ?_ ?_
     ·rintro w' ⟨z0,z1,z2,z3,z4,z5,z6⟩;go_simp
     simp only[Act.put,AP];go_big_quiet_on;go_big_quiet_want;refine qv (.int .i64 h) ?_ ?_
     ·rintro w' ⟨z0,z1,z2,z3,z4,z5,z6⟩;go_simp
     simp only[Act.put,AP];go_big_quiet_on;go_big_quiet_want;refine quiet_call (f:=164) (args:=#[.agg #[.int .i64 m,.int .i64 b],.int .i64 h]) (v:=.bool false) (fun w'=>?_) (fun w' hC=>(has_any m b h w').mono (fun e w2 h2=>⟨by rw[h2.1,hh],CA.later h2.2 hC⟩)) ?_
     ·go_simp
     simp only[Act.put,AP];go_big_quiet_on;go_big_quiet_want;refine qv (.bool false) ?_ ?_
     ·rintro w' ⟨z0,z1,z2,z3,z4,z5,z6⟩;go_simp
     simp only[Act.put,AP];go_big_quiet_on;go_big_quiet_skip;go_big_quiet_skip;go_big_quiet_skip;go_big_quiet_skip;go_big_quiet_skip;go_big_quiet_skip;go_big_quiet_skip;go_big_quiet_skip;go_big_quiet_skip;go_big_quiet_skip;go_big_quiet_skip;go_big_quiet_want;refine qv (.bool false) ?_ ?_
     ·rintro w' ⟨z0,z1,z2,z3,z4,z5,z6⟩;go_simp
     simp only[Act.put,AP];go_big_quiet_on;refine wpQuiet_nil ?_;intro w' hC
     go_wp2_with fail
     go_meet
     case rel=>exact⟨rfl,by simp[cntB,hh],hC.1⟩
    by_cases hx0:x<0
    ·have hx1:decide (x<0)=true:=by simpa using hx0
     refine wp_region_quiet (C:=CA wr wr.heap.size p m b q s v) (by kernel_rfl) (by kernel_rfl) (CA.later (W:=W0) (Below.drew (Below.refl _ _)) hS0) ?_;simp only[List.toList_toArray];go_big_quiet_want;refine qv (.pointer (some ⟨wr.heap.size,1,none⟩)) ?_ ?_
     ·rintro w' ⟨z0,z1,z2,z3,z4,z5,z6⟩;go_simp
     simp only[Act.put,AP];go_big_quiet_on;go_big_quiet_want;refine qv (.agg #[.int .i64 m,.int .i64 b]) ?_ ?_
     ·rintro w' ⟨z0,z1,z2,z3,z4,z5,z6⟩;go_simp
     simp only[Act.put,AP];go_big_quiet_on;go_big_quiet_want;refine qv (.int .i64 h) ?_ ?_
     ·rintro w' ⟨z0,z1,z2,z3,z4,z5,z6⟩;go_simp
     simp only[Act.put,AP];go_big_quiet_on;go_big_quiet_want;refine quiet_call (f:=164) (args:=#[.agg #[.int .i64 m,.int .i64 b],.int .i64 h]) (v:=.bool true) (fun w'=>?_) (fun w' hC=>(has_any m b h w').mono (fun e w2 h2=>⟨by rw[h2.1,hh],CA.later h2.2 hC⟩)) ?_
     ·go_simp
     simp only[Act.put,AP];go_big_quiet_on;go_big_quiet_want;refine qv (.bool true) ?_ ?_
     ·rintro w' ⟨z0,z1,z2,z3,z4,z5,z6⟩;go_simp
     simp only[Act.put,AP];go_big_quiet_on;go_big_quiet_want;refine qv (.int .i64 x) ?_ ?_
     ·rintro w' ⟨z0,z1,z2,z3,z4,z5,z6⟩;go_simp
     simp only[Act.put,AP];go_big_quiet_on;go_big_quiet_want;refine qv (.bool true) ?_ ?_
     ·rintro w' ⟨z0,z1,z2,z3,z4,z5,z6⟩;go_simp
     simp only[Act.put,AP];go_big_quiet_on;go_big_quiet_want;refine qv (.bool true) ?_ ?_
     ·rintro w' ⟨z0,z1,z2,z3,z4,z5,z6⟩;go_simp
     simp only[Act.put,AP];go_big_quiet_on;go_big_quiet_skip;go_big_quiet_skip;go_big_quiet_skip;go_big_quiet_skip;go_big_quiet_skip;go_big_quiet_skip;go_big_quiet_skip;go_big_quiet_want;refine qv (.bool true) ?_ ?_
     ·rintro w' ⟨z0,z1,z2,z3,z4,z5,z6⟩;go_simp
     simp only[Act.put,AP];go_big_quiet_on;go_big_quiet_want;refine qv (.bool true) ?_ ?_
     ·rintro w' ⟨z0,z1,z2,z3,z4,z5,z6⟩;go_simp
     simp only[Act.put,AP];go_big_quiet_on;refine wpQuiet_nil ?_;intro w' hC
     go_wp2_with fail
     go_meet
     case rel=>exact⟨rfl,by simp[cntB,hh,hx0],hC.1⟩
    obtain⟨y,hy⟩:∃y:Nat,x=(y:Int):=⟨x.toNat,by omega⟩;have hx2:decide ((y:Int)<0)=false:=by simp
    subst hy;obtain⟨p2,m2,b2,q2,s2,v2,hyl,hLy,y0,y1,y2,y3,y4,y5⟩:=HCC.out.at HN.out (show y<n by omega);have HYL:Hid (L.getD ((y:Nat):Int).toNat zeR=⟨p2,m2,b2,q2,s2,v2⟩):=by
     show L.getD ((y:Nat):Int).toNat zeR=_;rw[Int.toNat_natCast,getD_at hyl,hLy]
    have yb0:(0:Int)≤(y:Int):=by omega
    have yb1:((y:Int))<(n:Int):=by omega
    have hS1:CB wr wr.heap.size p m b q s v g (o+y*6) p2 m2 b2 q2 s2 v2 W0:=⟨hS0,cell_later HW0.out y0,cell_later HW0.out y1,cell_later HW0.out y2,cell_later HW0.out y3,cell_later HW0.out y4,cell_later HW0.out y5⟩;clear y0 y1 y2 y3 y4 y5 hLy hS0;have hS0:=hS1;clear hS1;refine wp_region_quiet (C:=CB wr wr.heap.size p m b q s v g (o+y*6) p2 m2 b2 q2 s2 v2) (by kernel_rfl) (by kernel_rfl) (CB.later (W:=W0) (Below.drew (Below.refl _ _)) hS0) ?_;simp only[List.toList_toArray];go_big_quiet_want;refine qv (.pointer (some ⟨wr.heap.size,1,none⟩)) ?_ ?_
    ·rintro w' ⟨⟨z0,z1,z2,z3,z4,z5,z6⟩,y1,y2,y3,y4,y5,y6⟩;go_simp
    simp only[Act.put,AP];go_big_quiet_on;go_big_quiet_want;refine qv (.agg #[.int .i64 m,.int .i64 b]) ?_ ?_
    ·rintro w' ⟨⟨z0,z1,z2,z3,z4,z5,z6⟩,y1,y2,y3,y4,y5,y6⟩;go_simp
    simp only[Act.put,AP];go_big_quiet_on;go_big_quiet_want;refine qv (.int .i64 h) ?_ ?_
    ·rintro w' ⟨⟨z0,z1,z2,z3,z4,z5,z6⟩,y1,y2,y3,y4,y5,y6⟩;go_simp
    simp only[Act.put,AP];go_big_quiet_on;go_big_quiet_want;refine quiet_call (f:=164) (args:=#[.agg #[.int .i64 m,.int .i64 b],.int .i64 h]) (v:=.bool true) (fun w'=>?_) (fun w' hC=>(has_any m b h w').mono (fun e w2 h2=>⟨by rw[h2.1,hh],CB.later h2.2 hC⟩)) ?_
    ·go_simp
    simp only[Act.put,AP];go_big_quiet_on;go_big_quiet_want;refine qv (.bool true) ?_ ?_
    ·rintro w' ⟨⟨z0,z1,z2,z3,z4,z5,z6⟩,y1,y2,y3,y4,y5,y6⟩;go_simp
    simp only[Act.put,AP];go_big_quiet_on;go_big_quiet_want;refine qv (.int .i64 (y:Int)) ?_ ?_
    ·rintro w' ⟨⟨z0,z1,z2,z3,z4,z5,z6⟩,y1,y2,y3,y4,y5,y6⟩;go_simp
    simp only[Act.put,AP];go_big_quiet_on;go_big_quiet_want;refine qv (.bool false) ?_ ?_
    ·rintro w' ⟨⟨z0,z1,z2,z3,z4,z5,z6⟩,y1,y2,y3,y4,y5,y6⟩;go_simp
    simp only[Act.put,AP];go_big_quiet_on;go_big_quiet_want;refine qv (.bool false) ?_ ?_
    ·rintro w' ⟨⟨z0,z1,z2,z3,z4,z5,z6⟩,y1,y2,y3,y4,y5,y6⟩;go_simp
    simp only[Act.put,AP];go_big_quiet_on;go_big_quiet_want;refine qv (.agg #[.int .i64 p,.int .i64 m,.int .i64 b,.int .i64 q,.int .i64 s,.int .i64 v]) ?_ ?_
    ·rintro w' ⟨⟨z0,z1,z2,z3,z4,z5,z6⟩,y1,y2,y3,y4,y5,y6⟩;go_simp
    simp only[Act.put,AP];go_big_quiet_on;go_big_quiet_want;refine qv (.slice (some ⟨g,o,none⟩) n cap) ?_ ?_
    ·rintro w' ⟨⟨z0,z1,z2,z3,z4,z5,z6⟩,y1,y2,y3,y4,y5,y6⟩;go_simp
    simp only[Act.put,AP];go_big_quiet_on;go_big_quiet_want;refine qv (.int .i64 (y:Int)) ?_ ?_
    ·rintro w' ⟨⟨z0,z1,z2,z3,z4,z5,z6⟩,y1,y2,y3,y4,y5,y6⟩;go_simp
    simp only[Act.put,AP];go_big_quiet_on;go_big_quiet_want;refine qv (.pointer (some ⟨g,o+y*6,none⟩)) ?_ ?_
    ·rintro w' ⟨⟨z0,z1,z2,z3,z4,z5,z6⟩,y1,y2,y3,y4,y5,y6⟩;go_simp
    simp only[Act.put,AP];go_big_quiet_on;go_big_quiet_want;refine qv (.agg #[.int .i64 p2,.int .i64 m2,.int .i64 b2,.int .i64 q2,.int .i64 s2,.int .i64 v2]) ?_ ?_
    ·rintro w' ⟨⟨z0,z1,z2,z3,z4,z5,z6⟩,y1,y2,y3,y4,y5,y6⟩;go_simp
    simp only[Act.put,AP];go_big_quiet_on;go_big_quiet_want;refine quiet_call (f:=165) (args:=#[.agg #[.int .i64 p,.int .i64 m,.int .i64 b,.int .i64 q,.int .i64 s,.int .i64 v],.agg #[.int .i64 p2,.int .i64 m2,.int .i64 b2,.int .i64 q2,.int .i64 s2,.int .i64 v2]]) (v:=.int .i64 (ordN p m b p2 m2 b2)) (fun w'=>?_) (fun w' hC=>(order_any p m b q s v p2 m2 b2 q2 s2 v2 w').mono (fun e w2 h2=>⟨h2.1,CB.later h2.2 hC⟩)) ?_
    ·go_simp
    simp only[Act.put,AP];go_big_quiet_on;go_big_quiet_want;refine qv (.bool (decide (0<ordN p m b p2 m2 b2))) ?_ ?_
    ·rintro w' ⟨⟨z0,z1,z2,z3,z4,z5,z6⟩,y1,y2,y3,y4,y5,y6⟩;go_simp
    simp only[Act.put,AP];go_big_quiet_on;go_big_quiet_want;refine qv (.bool (decide (0<ordN p m b p2 m2 b2))) ?_ ?_
    ·rintro w' ⟨⟨z0,z1,z2,z3,z4,z5,z6⟩,y1,y2,y3,y4,y5,y6⟩;go_simp
    simp only[Act.put,AP];go_big_quiet_on;go_big_quiet_want;refine qv (.bool (decide (0<ordN p m b p2 m2 b2))) ?_ ?_
    ·rintro w' ⟨⟨z0,z1,z2,z3,z4,z5,z6⟩,y1,y2,y3,y4,y5,y6⟩;go_simp
    simp only[Act.put,AP];go_big_quiet_on;refine wpQuiet_nil ?_;intro w' hC
    go_wp2_with fail
    go_meet
    case rel=>exact⟨rfl,by rw[HYL.out];simp[cntB,hh,hx2,ordR];first | rfl | exact decide_eq_decide.2 Iff.rfl,hC.1.1⟩
   case rest =>
    obtain⟨rfl,hc2,hB2⟩:=hcut;have HB1:=HB.out.trans (hB2.mono HB.out.size);have HY:=be_next (L:=L) (h:=h) (k:=k) x HX.out _ rfl;rw[HK.out] at HY;have HYY:Hid (beTo L h (k+1)=if cntB m b h x (ordR ⟨p,m,b,q,s,v⟩ (L.getD x.toNat zeR)) then (k:Int) else x):=HY;clear HY hB2 HA HCC
    generalize cntB m b h x (ordR ⟨p,m,b,q,s,v⟩ (L.getD x.toNat zeR))=Y at *
    subst hc2;cases Y
    ·go_wp2;go_roundw
     case rel=>exact⟨k+1,by omega,by rw[HYY.out];rfl,by go_num,HB1⟩
     case measure=>simp[intOf];omega
    go_wp2;go_roundw
    case rel=>exact⟨k+1,by omega,by rw[HYY.out];rfl,by go_num,HB1⟩
    case measure=>simp[intOf];omega
  obtain rfl:k=n:=by omega
  go_wp2;go_ret;exact⟨by rw[←HX.out];rfl,HB.out⟩
theorem counting_nil (ao:Option Addr)(cap:Nat)(h:Int)(w:World):
 Calls Tryz.prog 158 #[.slice ao 0 cap,.int .i64 h] w fun e w'=>e=.returned (.int .i64 (-1))∧Below w.heap.size w w':=by
 go_enter Tryz.func158,Tryz.ntmps158;go_wp2
 go_loopw [5,10] (fun x i wr=>x=.int .i64 (-1)∧i=.int .i64 0∧wr=w) (fun _ i _=>0)
 case atStart=>exact⟨rfl,rfl,rfl⟩
 case round =>
  obtain⟨rfl,rfl,rfl⟩:=hrel;go_wp2;go_ret;exact⟨rfl,Below.refl _ _⟩
theorem counting_any (x:Value)(L:List Ru)(h:Int)(w:World)(hs:SR w x L):
 Calls Tryz.prog 158 #[x,.int .i64 h] w fun e w'=>e=.returned (.int .i64 (beTo L h L.length))∧Below w.heap.size w w':=by
 rcases hs with ⟨ao,cap,rfl,rfl⟩ | ⟨g,o,cap,rfl,h1,h2,hc⟩
 ·exact counting_nil ao cap h w
 exact counting_some g o cap _ h L w hc rfl (Nat.le_trans h1 h2)
theorem apply_any (p m b o s v h:Int)(w:World):
 Calls Tryz.prog 159 #[.agg #[.int .i64 p,.int .i64 m,.int .i64 b,.int .i64 o,.int .i64 s,.int .i64 v],.int .i64 h] w fun e w'=>e=.returned (.tuple #[.int .i64 (apR p m b o s v h),noV (apN p m b o s v h)])∧Below w.heap.size w w':=by
 cases hr:ruOk p m b o s v
 ·have hn:=ruN_ne hr;rw[apR_bad (by rw[apN_bad h hr];exact hn),apN_bad h hr,no_ne hn];go_enter Tryz.func159,Tryz.ntmps159
  go_wp2_with fail
  refine (ruCheck_any _ _ _ _ _ _ _).mono ?_;rintro e w1 ⟨rfl,hb1⟩;rw[no_ne hn];go_wp2;refine bodyPost_ret (v:=.tuple #[.int .i64 0,.iface 68 (.int .i64 (ruN p m b o s v))]) (by simp[results,Tryz.results159,go_sem]) rfl ⟨rfl,?_⟩;exact ((Below.refl _ _).alloc (Nat.le_refl _) _).trans (hb1.mono (by simp))
 have hn:=ruN_ok hr;cases hh:hdrB h
 ·have e:apN p m b o s v h=1:=by simp[apN,hr,hh]
  rw[apR_bad (by rw[e];decide),e];clear e;go_enter Tryz.func159,Tryz.ntmps159
  go_wp2_with fail
  refine (ruCheck_any _ _ _ _ _ _ _).mono ?_;rintro e w1 ⟨rfl,hb1⟩;rw[no_ok hn]
  go_wp2_with fail
  refine (isHeader_no _ _ hh).mono ?_;rintro e w' ⟨rfl,rfl⟩;go_wp2;refine bodyPost_ret (v:=.tuple #[.int .i64 0,.iface 68 (.int .i64 1)]) (by simp[results,Tryz.results159,go_sem]) rfl ⟨rfl,?_⟩;exact ((Below.refl _ _).alloc (Nat.le_refl _) _).trans (hb1.mono (by simp))
 have hlt:w.heap.size<(w.alloc (Obj.cells #[.int .i64 p,.int .i64 m,.int .i64 b,.int .i64 o,.int .i64 s,.int .i64 v] 88)).heap.size:=by simp
 cases ha:hasB m b h
 ·have e:apN p m b o s v h=5:=by simp[apN,hr,hh,ha]
  rw[apR_bad (by rw[e];decide),e];clear e;go_enter Tryz.func159,Tryz.ntmps159
  go_wp2_with fail
  refine (ruCheck_any _ _ _ _ _ _ _).mono ?_;rintro e w1 ⟨rfl,hb1⟩;rw[no_ok hn];obtain⟨hc1,hf1⟩:=bcell hb1;have hB:=((Below.refl w.heap.size w).alloc (Nat.le_refl _) (Obj.cells #[.int .i64 p,.int .i64 m,.int .i64 b,.int .i64 o,.int .i64 s,.int .i64 v] 88)).trans (hb1.mono (by simp));have hlt2:w.heap.size<w1.heap.size:=by have:=hb1.size;omega
  clear hb1
  go_wp2_with fail
  refine (isHeader_yes _ _ hh).mono ?_;rintro e w' ⟨rfl,rfl⟩
  go_wp2_with fail
  refine (has_any _ _ _ _).mono ?_;rintro e w2 ⟨rfl,hb2⟩;rw[ha];obtain⟨hc2,hf2⟩:=bcell hb2;have hB2:=hB.trans (hb2.mono (by omega));clear hb2 hB;go_wp2;refine bodyPost_ret (v:=.tuple #[.int .i64 0,.iface 68 (.int .i64 5)]) (by simp[results,Tryz.results159,go_sem]) rfl ⟨rfl,?_⟩;exact hB2
 cases ho:(o==0)
 ·have e:apN p m b o s v h=0:=by simp[apN,hr,hh,ha,ho]
  have e2:apR p m b o s v h=apV s v h:=by simp[apR,e]
  rw[e2,e];clear e e2;go_enter Tryz.func159,Tryz.ntmps159
  go_wp2_with fail
  refine (ruCheck_any _ _ _ _ _ _ _).mono ?_;rintro e w1 ⟨rfl,hb1⟩;rw[no_ok hn];obtain⟨hc1,hf1⟩:=bcell hb1;have hB:=((Below.refl w.heap.size w).alloc (Nat.le_refl _) (Obj.cells #[.int .i64 p,.int .i64 m,.int .i64 b,.int .i64 o,.int .i64 s,.int .i64 v] 88)).trans (hb1.mono (by simp));have hlt2:w.heap.size<w1.heap.size:=by have:=hb1.size;omega
  clear hb1
  go_wp2_with fail
  refine (isHeader_yes _ _ hh).mono ?_;rintro e w' ⟨rfl,rfl⟩
  go_wp2_with fail
  refine (has_any _ _ _ _).mono ?_;rintro e w2 ⟨rfl,hb2⟩;rw[ha];obtain⟨hc2,hf2⟩:=bcell hb2;have hB2:=hB.trans (hb2.mono (by omega));clear hb2 hB;go_wp2;refine bodyPost_ret (v:=.tuple #[.int .i64 (apV s v h),.nilIface]) (by simp[results,Tryz.results159,go_sem,apV]) rfl ⟨rfl,?_⟩;exact hB2
 have e:apN p m b o s v h=5:=by simp[apN,hr,hh,ha,ho]
 rw[apR_bad (by rw[e];decide),e];clear e;go_enter Tryz.func159,Tryz.ntmps159
 go_wp2_with fail
 refine (ruCheck_any _ _ _ _ _ _ _).mono ?_;rintro e w1 ⟨rfl,hb1⟩;rw[no_ok hn];obtain⟨hc1,hf1⟩:=bcell hb1;have hB:=((Below.refl w.heap.size w).alloc (Nat.le_refl _) (Obj.cells #[.int .i64 p,.int .i64 m,.int .i64 b,.int .i64 o,.int .i64 s,.int .i64 v] 88)).trans (hb1.mono (by simp));have hlt2:w.heap.size<w1.heap.size:=by have:=hb1.size;omega
 clear hb1
 go_wp2_with fail
 refine (isHeader_yes _ _ hh).mono ?_;rintro e w' ⟨rfl,rfl⟩
 go_wp2_with fail
 refine (has_any _ _ _ _).mono ?_;rintro e w2 ⟨rfl,hb2⟩;rw[ha];obtain⟨hc2,hf2⟩:=bcell hb2;have hB2:=hB.trans (hb2.mono (by omega));clear hb2 hB;go_wp2;refine bodyPost_ret (v:=.tuple #[.int .i64 0,.iface 68 (.int .i64 5)]) (by simp[results,Tryz.results159,go_sem]) rfl ⟨rfl,?_⟩;exact hB2
end
end Go.Proofs.YtiokpmlhmlcojaaGreatDoor
