/- Contracts and facts on the way to MixTells, joined into one text: MixMath2, MixMath3, MixMath4, NetMath2, NetMath3, NetMath4, NetLegMath, MixWalkMath, MixSeenMath, TopoCon, SpotKey, Err, StLink, TopoLay, SlByte, TopoName, TopoSettle. -/
import Derived.Test.YtglnnoglbieaeaaGreatDoorMixTellsP1
namespace Go.Proofs.YtglnnoglbieaeaaGreatDoor
set_option linter.unusedSimpArgs false
set_option linter.unusedVariables false
set_option maxHeartbeats 16000000
set_option maxRecDepth 100000
section
open Go.RowKit
def onL (k:List ((Int×Int)×Int)→List (Int×ByteArray×List ((Int×Int)×Int))→List (Int×ByteArray×List ((Int×Int)×Int)))(l:List ((Int×Int)×Int))(a:List (Int×ByteArray×List ((Int×Int)×Int)))(g:(Int×ByteArray) ⊕ ((Int×Int)×Int)):List (Int×ByteArray×List ((Int×Int)×Int)):=
 match g with
 | .inl e=>puR faL (e.1,e.2,l) a
 | .inr p=>k (l++[p]) a
def chB (As Bs:List (List Ru))(s:Int):Bool:=decide (0<(bey (taT As s) (taT Bs s)).length+(bey (taT Bs s) (taT As s)).length)
section
variable (Ls:List ((Int×Int)×(Int×Int)))(Hs:List (ByteArray×(Int×Int)))(As Bs:List (List Ru))
def wkL:Nat→List ((Int×Int)×Int)→List Int→List (Int×ByteArray×List ((Int×Int)×Int))→List (Int×ByteArray×List ((Int×Int)×Int))
 | 0,_,_,a=>a
 | n+1,l,met,a =>
   if chB As Bs (laH l).1.1=true then
    onL (fun l' a'=>wkL n l' (if (laH l).1.1∈met then met else met++[(laH l).1.1]) a') l
     (if (laH l).1.1∈met then a else onL (fun l' a'=>wkL n l' met a') l a (goE Ls Hs (taT As (laH l).1.1) l (laH l)))
     (goE Ls Hs (taT Bs (laH l).1.1) l (laH l))
   else if (laH l).1.1∈met then a else onL (fun l' a'=>wkL n l' met a') l a (goE Ls Hs (taT As (laH l).1.1) l (laH l))
variable {Ls Hs As Bs}
theorem on_mem {k:List ((Int×Int)×Int)→List (Int×ByteArray×List ((Int×Int)×Int))→List (Int×ByteArray×List ((Int×Int)×Int))}(hk:∀l a x,x∈k l a↔x∈a∨x∈k l [])(l:List ((Int×Int)×Int))(a:List (Int×ByteArray×List ((Int×Int)×Int)))(g:(Int×ByteArray) ⊕ ((Int×Int)×Int))(x:Int×ByteArray×List ((Int×Int)×Int)):x∈onL k l a g↔x∈a∨x∈onL k l [] g:=by
 cases g with
 | inl e =>
   simp only[onL];rw[pu_mem lo_fate,pu_mem lo_fate];simp only[List.not_mem_nil,or_false];exact Or.comm
 | inr p=>exact hk _ _ _
theorem on_ris {k:List ((Int×Int)×Int)→List (Int×ByteArray×List ((Int×Int)×Int))→List (Int×ByteArray×List ((Int×Int)×Int))}(hk:∀l a,Ris faL a→Ris faL (k l a))(l:List ((Int×Int)×Int)){a:List (Int×ByteArray×List ((Int×Int)×Int))}(ha:Ris faL a)(g:(Int×ByteArray) ⊕ ((Int×Int)×Int)):Ris faL (onL k l a g):=by
 cases g with
 | inl e=>exact pu_ris lo_fate _ ha
 | inr p=>exact hk _ _ ha
theorem wk_mem:∀(n:Nat) (l:List ((Int×Int)×Int)) (met:List Int) (a:List (Int×ByteArray×List ((Int×Int)×Int))) (x:Int×ByteArray×List ((Int×Int)×Int)),x∈wkL Ls Hs As Bs n l met a↔x∈a∨x∈wkL Ls Hs As Bs n l met []
 | 0,l,met,a,x=>by simp[wkL]
 | n+1,l,met,a,x=>by
   have h1:=on_mem (k:=fun l' a'=>wkL Ls Hs As Bs n l' met a') (fun l a x=>wk_mem n l met a x) l;have h2:=on_mem (k:=fun l' a'=>wkL Ls Hs As Bs n l' (if (laH l).1.1∈met then met else met++[(laH l).1.1]) a') (fun l' a x=>wk_mem n l' _ a x) l;rw[wkL,wkL];by_cases hc:chB As Bs (laH l).1.1=true
   ·rw[if_pos hc,if_pos hc];by_cases hm:(laH l).1.1∈met
    ·simp only[hm,if_true] at h2 ⊢;exact h2 _ _ _
    simp only[hm,if_false] at h2 ⊢;rw[h2,h1,h2 (onL _ l [] _)];exact or_assoc
   rw[if_neg hc,if_neg hc];by_cases hm:(laH l).1.1∈met
   ·rw[if_pos hm,if_pos hm];simp
   rw[if_neg hm,if_neg hm];exact h1 _ _ _
theorem wk_ris:∀(n:Nat) (l:List ((Int×Int)×Int)) (met:List Int) (a:List (Int×ByteArray×List ((Int×Int)×Int))),Ris faL a→Ris faL (wkL Ls Hs As Bs n l met a)
 | 0,l,met,a,h=>h
 | n+1,l,met,a,h=>by
   have h1:=fun (b:List (Int×ByteArray×List ((Int×Int)×Int))) (hb:Ris faL b)=>on_ris (k:=fun l' a'=>wkL Ls Hs As Bs n l' met a') (fun l a h=>wk_ris n l met a h) l hb
   have h2:=fun (b:List (Int×ByteArray×List ((Int×Int)×Int))) (hb:Ris faL b)=>on_ris (k:=fun l' a'=>wkL Ls Hs As Bs n l' (if (laH l).1.1∈met then met else met++[(laH l).1.1]) a') (fun l' a h=>wk_ris n l' _ a h) l hb
   rw[wkL];by_cases hc:chB As Bs (laH l).1.1=true
   ·rw[if_pos hc];by_cases hm:(laH l).1.1∈met
    ·simp only[hm,if_true] at h2 ⊢;exact h2 _ h _
    simp only[hm,if_false] at h2 ⊢;exact h2 _ (h1 _ h _) _
   rw[if_neg hc];by_cases hm:(laH l).1.1∈met
   ·rw[if_pos hm];exact h
   rw[if_neg hm];exact h1 _ h _
theorem go_24 {t:List Ru}{l:List ((Int×Int)×Int)}{p q:(Int×Int)×Int}(h:goE Ls Hs t l p=.inr q):l.length≠24:=by
 intro e;unfold goE at h;cases h1:stT t p with
 | none=>rw[h1] at h;cases h
 | some r =>
   rw[h1] at h;simp only at h;cases h2:atO Hs r.1 with
   | some m=>rw[h2] at h;cases h
   | none =>
     rw[h2] at h;simp only at h;cases h3:peerO Ls r.1 with
     | none=>rw[h3] at h;cases h
     | some s =>
       rw[h3] at h;simp only at h;rw[if_pos (.inl e)] at h;cases h
def seeL (Ls:List ((Int×Int)×(Int×Int)))(Hs:List (ByteArray×(Int×Int)))(As Bs:List (List Ru))(s:Int×Int)(h:Int):List (Int×ByteArray×List ((Int×Int)×Int)):=wkL Ls Hs As Bs 24 [(s,h)] [] []
theorem see_ris (s:Int×Int)(h:Int):Ris faL (seeL Ls Hs As Bs s h):=wk_ris _ _ _ _ List.Pairwise.nil
end
theorem getR {L:List Ru}{k:Nat}(h:k<L.length):L.getD k zeR=L[k]:=by simp[List.getD,h]
theorem be_in {L:List Ru}{h:Int}(h0:0≤beTo L h L.length):L.getD (beTo L h L.length).toNat zeR∈L∧(L.getD (beTo L h L.length).toNat zeR).has h=true∧∀r∈L,r.has h=true→ordR r (L.getD (beTo L h L.length).toNat zeR)≤0:=by
 have hb:=be_bd L h L.length;have hl:(beTo L h L.length).toNat<L.length:=by omega
 obtain⟨d1,d2⟩:=be_yes h0;refine⟨by rw[getR hl];exact List.getElem_mem hl,d1,fun r hr hh=>?_⟩;obtain⟨j,hj,rfl⟩:=List.getElem_of_mem hr;have:=d2 j hj (by rw[getR hj];exact hh);rw[getR hj] at this;exact this
theorem be_neg {L:List Ru}{h:Int}(h0:beTo L h L.length<0):∀r∈L,r.has h=false:=by
 intro r hr;obtain⟨j,hj,rfl⟩:=List.getElem_of_mem hr;have:=be_no h0 j hj;rw[getR hj] at this;exact this
theorem be_sign {A B:List Ru}(hm:∀r,r∈A→r∈B){h:Int}(h0:0≤beTo A h A.length):0≤beTo B h B.length:=by
 obtain⟨d1,d2,_⟩:=be_in h0
 rcases Int.lt_or_le (beTo B h B.length) 0 with h1 | h1
 ·have:=be_neg h1 _ (hm _ d1);rw[d2] at this;cases this
 exact h1
theorem lu_alike {A B:List Ru}(hA:tbN A=0)(hB:tbN B=0)(hm:∀r,r∈A↔r∈B)(h:Int):(luN A h=0↔luN B h=0)∧(luN A h=0→roR A h=roR B h):=by
 have e:luN A h=0↔luN B h=0:=by
  rw[lu_0,lu_0];exact⟨fun q=>⟨hB,q.2.1,be_sign (fun r=>(hm r).1) q.2.2⟩,fun q=>⟨hA,q.2.1,be_sign (fun r=>(hm r).2) q.2.2⟩⟩
 refine⟨e,fun h0=>?_⟩;have h1:=e.1 h0;have a:=be_in (lu_0.1 h0).2.2;have b:=be_in (lu_0.1 h1).2.2;rw[roR,roR,luI,luI,if_pos h0,if_pos h1];have q1:=b.2.2 _ ((hm _).1 a.1) a.2.1;have q2:=a.2.2 _ ((hm _).2 b.1) b.2.1;exact tb_key hB ((hm _).1 a.1) b.1 (by rw[keyB,ord_as q1 q2];rfl)
theorem st_alike {A B:List Ru}(hA:tbN A=0)(hB:tbN B=0)(hm:∀r,r∈A↔r∈B)(p:(Int×Int)×Int):stT B p=stT A p:=by
 obtain⟨e1,e2⟩:=lu_alike hA hB hm p.2;unfold stT;by_cases h:luN A p.2=0
 ·rw[if_pos h,if_pos (e1.1 h),e2 h]
 rw[if_neg h,if_neg (fun q=>h (e1.2 q))]
theorem ch_alike {As Bs:List (List Ru)}{s:Int}(h:chB As Bs s=false):∀r,r∈taT As s↔r∈taT Bs s:=by
 have h1:(bey (taT As s) (taT Bs s)).length=0∧(bey (taT Bs s) (taT As s)).length=0:=by
  unfold chB at h;simp at h;constructor
  ·rw[h.1];rfl
  rw[h.2];rfl
 have sub {X Y:List Ru} (e:(bey X Y).length=0):∀r∈X,r∈Y:=by
  intro r hr;have e:=List.length_eq_zero_iff.1 e;rw[bey,List.filter_eq_nil_iff] at e;have:=e r hr;simp at this;exact in_iff.1 this
 exact fun r=>⟨sub h1.1 r,sub h1.2 r⟩
theorem pu_len {α:Type}{r:α→α→Bool}(f:α):∀l:List α,(puR r f l).length≤l.length+1
 | []=>by simp[puR]
 | x :: l=>by
   rw[puR];by_cases h1:r f x=true
   ·rw[if_pos h1];simp
   rw[if_neg h1];by_cases h2:r x f=true
   ·rw[if_pos h2];have:=pu_len (r:=r) f l;simp;exact this
   rw[if_neg h2];simp
section
variable {Ls:List ((Int×Int)×(Int×Int))}{Hs:List (ByteArray×(Int×Int))}{As Bs:List (List Ru)}
theorem wk_some:∀(n:Nat) (l:List ((Int×Int)×Int)) (met:List Int),l.length+n=25→1≤n→(∀s∈met,chB As Bs s=true)→∃x,x∈wkL Ls Hs As Bs n l met []
 | 0,l,met,h1,h2,h3=>by omega
 | n+1,l,met,h1,h2,h3=>by
   have on:∀(met2:List Int) (a:List (Int×ByteArray×List ((Int×Int)×Int))) (t:List Ru),(∀s∈met2,chB As Bs s=true)→∃x,x∈onL (fun l' a'=>wkL Ls Hs As Bs n l' met2 a') l a (goE Ls Hs t l (laH l)):=by
    intro met2 a t hm2;cases hg:goE Ls Hs t l (laH l) with
    | inl e=>exact⟨_,(pu_mem lo_fate _).2 (.inl rfl)⟩
    | inr p =>
      have h24:=go_24 hg;obtain⟨x,hx⟩:=wk_some n (l++[p]) met2 (by simp;omega) (by omega) hm2;exact⟨x,(wk_mem n _ _ _ _).2 (.inr hx)⟩
   rw[wkL];by_cases hc:chB As Bs (laH l).1.1=true
   ·rw[if_pos hc];refine on _ _ _ (fun x hx=>?_);by_cases hm:(laH l).1.1∈met
    ·rw[if_pos hm] at hx;exact h3 x hx
    rw[if_neg hm] at hx
    rcases List.mem_append.1 hx with h | h
    ·exact h3 x h
    have:x=(laH l).1.1:=by simpa using h
    rw[this];exact hc
   rw[if_neg hc];have hm:¬(laH l).1.1∈met:=fun h=>hc (h3 _ h)
   rw[if_neg hm];exact on _ _ _ h3
variable {s0:Int}
end
section
variable {Ls:List ((Int×Int)×(Int×Int))}{Hs:List (ByteArray×(Int×Int))}{Ts:List (List Ru)}
def NxH (Ls:List ((Int×Int)×(Int×Int)))(Hs:List (ByteArray×(Int×Int)))(Ts:List (List Ru))(p q:(Int×Int)×Int):Prop:=∃o,stO Ts p=some o∧atO Hs o.1=none∧peerO Ls o.1=some q.1∧q.2=o.2
def atH (l:List ((Int×Int)×Int))(i:Nat):(Int×Int)×Int:=l.getD i zeH
def enE (Ls:List ((Int×Int)×(Int×Int)))(Hs:List (ByteArray×(Int×Int)))(Ts:List (List Ru))(l:List ((Int×Int)×Int))(p:(Int×Int)×Int):(Int×ByteArray) ⊕ ((Int×Int)×Int):=goE Ls Hs (taT Ts p.1.1) l p
theorem la_at (l:List ((Int×Int)×Int)):laH l=atH l (l.length-1):=rfl
theorem at_app (l:List ((Int×Int)×Int))(p:(Int×Int)×Int):atH (l++[p]) l.length=p:=by simp[atH,List.getD]
theorem en_r {l:List ((Int×Int)×Int)}{p q:(Int×Int)×Int}(h:enE Ls Hs Ts l p=.inr q):NxH Ls Hs Ts p q∧l.length≠24∧q ∉ l:=by
 unfold enE goE at h;cases hs:stT (taT Ts p.1.1) p with
 | none=>rw[hs] at h;cases h
 | some o =>
   rw[hs] at h;simp only at h;cases ha:atO Hs o.1 with
   | some m=>rw[ha] at h;cases h
   | none =>
     rw[ha] at h;simp only at h;cases hp:peerO Ls o.1 with
     | none=>rw[hp] at h;cases h
     | some s =>
       rw[hp] at h;simp only at h
       split at h
       ·cases h
       next hn =>
       cases h;rw[not_or] at hn;refine⟨⟨o,hs,ha,hp,rfl⟩,hn.1,fun hm=>hn.2 ?_⟩;exact List.any_eq_true.2 ⟨_,hm,(heB_iff _ _).2 rfl⟩
theorem fo_s (n:Nat)(l:List ((Int×Int)×Int)):foF Ls Hs Ts (n+1) l=match enE Ls Hs Ts l (laH l) with | .inl e=>(e.1,e.2,l) | .inr p=>foF Ls Hs Ts n (l++[p]):=rfl
end
theorem aph_fin:∀s v h:Fin 16,(bits .andNot .i64 ((v:Nat):Int) ((s:Nat):Int)==0)=true→hdrB (apV ((s:Nat):Int) ((v:Nat):Int) ((h:Nat):Int))=true:=by decide +kernel
theorem ap_hdr {p m b o s v h:Int}(hr:apN p m b o s v h=0):hdrB (apR p m b o s v h)=true:=by
 obtain⟨h1,h2,_,_⟩:=ap_yes hr;obtain⟨g1,_,g3⟩:=ru_ok h1;obtain⟨_,hs,hv⟩:=ru_in g1;obtain⟨s',rfl⟩:=small hs;obtain⟨v',rfl⟩:=small hv;obtain⟨h',rfl⟩:=small (hdr_of h2);simp only[ruSet,Bool.and_eq_true] at g3;rw[apR,if_pos hr];exact aph_fin s' v' h' g3.1
section
variable {S:Int}{Ls:List ((Int×Int)×(Int×Int))}{Hs:List (ByteArray×(Int×Int))}{Ts:List (List Ru)}
theorem st_hdr {p o:(Int×Int)×Int}(h:stO Ts p=some o):hdrB o.2=true∧o.1.1=p.1.1:=by
 unfold stO stT at h
 split at h
 ·split at h
  ·next hr =>
   cases h;exact⟨ap_hdr hr,rfl⟩
  cases h
 cases h
theorem peer_sp (ht:tpN S Ls Hs=0){s p:Int×Int}(h:peerO Ls s=some p):spB S p=true:=(tp_0 ht).2.2.1 p (peer_in h).2
theorem where_sp (ht:tpN S Ls Hs=0){n:ByteArray}{p:Int×Int}(h:whereO Hs n=some p):spB S p=true:=by
 rcases where_ix Hs n with ⟨_,h0⟩ | ⟨k,hk,_,h1⟩
 ·rw[h] at h0;cases h0
 rw[h] at h1;cases h1;exact ((tp_0 ht).2.2.2.2.1 _ (List.getElem_mem hk)).2
theorem nx_good (ht:tpN S Ls Hs=0){p q:(Int×Int)×Int}(h:NxH Ls Hs Ts p q):spB S q.1=true∧hdrB q.2=true:=by
 obtain⟨o,h1,_,h3,h4⟩:=h;exact⟨peer_sp ht h3,by rw[h4];exact (st_hdr h1).1⟩
end
section
variable {Ls:List ((Int×Int)×(Int×Int))}{Hs:List (ByteArray×(Int×Int))}{Ts:List (List Ru)}{l:List ((Int×Int)×Int)}{q:(Int×Int)×Int}
theorem fo_r (h:l.length≤24):foF Ls Hs Ts (25-l.length) l=match enE Ls Hs Ts l (laH l) with | .inl e=>(e.1,e.2,l) | .inr p=>foF Ls Hs Ts (24-l.length) (l++[p]):=by
 have e:25-l.length=(24-l.length)+1:=by omega
 rw[e];exact fo_s _ _
theorem la_app (l:List ((Int×Int)×Int))(p:(Int×Int)×Int):laH (l++[p])=p:=by
 rw[la_at];simp only[List.length_append,List.length_cons,List.length_nil,Nat.add_sub_cancel,Nat.zero_add];exact at_app l p
end
abbrev Lg:=Int×ByteArray×((Int×Int)×Int)
def lgT (Ls:List ((Int×Int)×(Int×Int)))(Hs:List (ByteArray×(Int×Int)))(t:List Ru)(p:(Int×Int)×Int):Lg:=
 match stT t p with
 | none=>(2,ByteArray.empty,zeH)
 | some q=>match atO Hs q.1 with
   | some m=>(1,m,zeH)
   | none=>match peerO Ls q.1 with
     | none=>(3,ByteArray.empty,zeH)
     | some s=>(0,ByteArray.empty,(s,q.2))
def afB (g:Lg)(l:List ((Int×Int)×Int)):Bool:=(g.1==0)&&((l.length==24) || (l.any fun x=>heB g.2.2 x))
def afL (g:Lg)(l:List ((Int×Int)×Int)):Lg:=if afB g l=true then (4,ByteArray.empty,zeH) else g
def lgE (g:Lg):(Int×ByteArray) ⊕ ((Int×Int)×Int):=if g.1=0 then .inr g.2.2 else .inl (g.1,g.2.1)
section
variable {Ls:List ((Int×Int)×(Int×Int))}{Hs:List (ByteArray×(Int×Int))}{t:List Ru}{p:(Int×Int)×Int}{l:List ((Int×Int)×Int)}
theorem lg_2 (h:stT t p=none):lgT Ls Hs t p=(2,ByteArray.empty,zeH):=by
 unfold lgT;rw[h]
theorem lg_1 {q:(Int×Int)×Int}(h:stT t p=some q){m:ByteArray}(ha:atO Hs q.1=some m):lgT Ls Hs t p=(1,m,zeH):=by
 unfold lgT;rw[h];simp only[ha]
theorem lg_3 {q:(Int×Int)×Int}(h:stT t p=some q)(ha:atO Hs q.1=none)(hp:peerO Ls q.1=none):lgT Ls Hs t p=(3,ByteArray.empty,zeH):=by
 unfold lgT;rw[h];simp only[ha,hp]
theorem lg_0 {q:(Int×Int)×Int}(h:stT t p=some q)(ha:atO Hs q.1=none){s:Int×Int}(hp:peerO Ls q.1=some s):lgT Ls Hs t p=(0,ByteArray.empty,(s,q.2)):=by
 unfold lgT;rw[h];simp only[ha,hp]
theorem af_ne {g:Lg}(h:g.1≠0):afL g l=g:=by
 unfold afL afB;rw[if_neg (by simp[h])]
theorem af_0 {g:Lg}(h:(afL g l).1=0):afL g l=g∧g.1=0∧l.length≠24∧(l.any fun x=>heB g.2.2 x)=false:=by
 by_cases e:afB g l=true
 ·rw[afL,if_pos e] at h;cases h
 have e1:afL g l=g:=by rw[afL,if_neg e]
 rw[e1] at h;refine⟨e1,h,?_,?_⟩
 ·intro h24;exact e (by simp[afB,h,h24])
 cases hx:l.any fun x=>heB g.2.2 x with
 | false=>rfl
 | true=>exact absurd (by simp only[afB,h,hx];simp) e
theorem go_lg:goE Ls Hs t l p=lgE (afL (lgT Ls Hs t p) l):=by
 unfold goE;cases h:stT t p with
 | none=>simp only[lg_2 h,af_ne (l:=l) (g:=(2,ByteArray.empty,zeH)) (by simp)];rfl
 | some q =>
   cases ha:atO Hs q.1 with
   | some m=>simp only[ha,lg_1 (Ls:=Ls) h ha,af_ne (l:=l) (g:=(1,m,zeH)) (by simp)];rfl
   | none =>
     cases hp:peerO Ls q.1 with
     | none=>simp only[ha,hp,lg_3 h ha hp,af_ne (l:=l) (g:=(3,ByteArray.empty,zeH)) (by simp)];rfl
     | some s =>
       simp only[ha,hp,lg_0 h ha hp];by_cases e:l.length=24∨l.any (fun x=>heB (s,q.2) x)=true
       ·rw[if_pos e,afL,if_pos]
        ·rfl
        rcases e with e | e
        ·simp[afB,e]
        simp only[afB,e];simp
       rw[if_neg e,afL,if_neg]
       ·rfl
       rw[not_or] at e;simp only[afB,Bool.and_eq_true,Bool.or_eq_true,beq_iff_eq];exact fun h=>h.2.elim e.1 e.2
end
section
variable {S:Int}{Ls:List ((Int×Int)×(Int×Int))}{Hs:List (ByteArray×(Int×Int))}{Ts:List (List Ru)}{l:List ((Int×Int)×Int)}
theorem lg_sp (ht:tpN S Ls Hs=0){t:List Ru}{p:(Int×Int)×Int}(h:(lgT Ls Hs t p).1=0):spB S (lgT Ls Hs t p).2.2.1=true:=by
 cases h1:stT t p with
 | none=>rw[lg_2 h1] at h;cases h
 | some q =>
   cases ha:atO Hs q.1 with
   | some m=>rw[lg_1 h1 ha] at h;cases h
   | none =>
     cases hp:peerO Ls q.1 with
     | none=>rw[lg_3 h1 ha hp] at h;cases h
     | some s =>
       rw[lg_0 h1 ha hp];exact peer_sp ht hp
theorem lg_name (ht:tpN S Ls Hs=0)(t:List Ru)(p:(Int×Int)×Int):(lgT Ls Hs t p).2.1.size≤1000000:=by
 cases h1:stT t p with
 | none=>rw[lg_2 h1];decide
 | some q =>
   cases ha:atO Hs q.1 with
   | some m =>
     rw[lg_1 h1 ha]
     rcases at_ix Hs q.1 with ⟨_,ho⟩ | ⟨k,hk,_,ho⟩
     ·rw[ha] at ho;cases ho
     rw[ha] at ho;cases ho;have h:=(tp_0 ht).2.2.2.2.1 Hs[k] (List.getElem_mem hk);have h2:=h.1;simp only[nmB,Bool.and_eq_true,decide_eq_true_eq] at h2;show Hs[k].1.size≤_;omega
   | none =>
     cases hp:peerO Ls q.1 with
     | none=>rw[lg_3 h1 ha hp];decide
     | some s =>
       rw[lg_0 h1 ha hp];show ByteArray.empty.size≤1000000;decide
theorem af_name {g:Lg}(h:g.2.1.size≤1000000):(afL g l).2.1.size≤1000000:=by
 unfold afL;by_cases e:afB g l=true
 ·rw[if_pos e];decide
 rw[if_neg e];exact h
end
def sxH (l:List ((Int×Int)×Int)):Nat:=((laH l).1.1-1).toNat
def mtS (met:Nat→Bool)(a:Nat):Nat→Bool:=fun b=>if b=a then true else met b
def tkL (k:List ((Int×Int)×Int)→(Nat→Bool)→List (Int×ByteArray×List ((Int×Int)×Int)))(g:Lg)(l:List ((Int×Int)×Int))(met:Nat→Bool):List (Int×ByteArray×List ((Int×Int)×Int)):=
 if g.1=0 then k (l++[g.2.2]) met else [(g.1,g.2.1,l)]
section
variable (Ls:List ((Int×Int)×(Int×Int)))(Hs:List (ByteArray×(Int×Int)))(As Bs:List (List Ru))
def lgA (Ts:List (List Ru))(l:List ((Int×Int)×Int)):Lg:=afL (lgT Ls Hs (taT Ts (laH l).1.1) (laH l)) l
def pwL:Nat→List ((Int×Int)×Int)→(Nat→Bool)→List (Int×ByteArray×List ((Int×Int)×Int))
 | 0,_,_=>[]
 | n+1,l,met =>
   if met (sxH l)=true then tkL (pwL n) (lgA Ls Hs Bs l) l met
   else tkL (pwL n) (lgA Ls Hs As l) l met++(if lgA Ls Hs Bs l=lgA Ls Hs As l then [] else tkL (pwL n) (lgA Ls Hs Bs l) l (mtS met (sxH l)))
end
section
variable {Ls:List ((Int×Int)×(Int×Int))}{Hs:List (ByteArray×(Int×Int))}{As Bs:List (List Ru)}
theorem lg_end {t:List Ru}{p:(Int×Int)×Int}(h:(lgT Ls Hs t p).1≠0):(lgT Ls Hs t p).2.2=zeH:=by
 cases h1:stT t p with
 | none=>rw[lg_2 h1]
 | some q =>
   cases ha:atO Hs q.1 with
   | some m=>rw[lg_1 h1 ha]
   | none =>
     cases hp:peerO Ls q.1 with
     | none=>rw[lg_3 h1 ha hp]
     | some s=>rw[lg_0 h1 ha hp] at h;exact absurd rfl h
theorem lg_on {t:List Ru}{p:(Int×Int)×Int}(h:(lgT Ls Hs t p).1=0):(lgT Ls Hs t p).2.1=ByteArray.empty:=by
 cases h1:stT t p with
 | none=>rw[lg_2 h1] at h;cases h
 | some q =>
   cases ha:atO Hs q.1 with
   | some m=>rw[lg_1 h1 ha] at h;cases h
   | none =>
     cases hp:peerO Ls q.1 with
     | none=>rw[lg_3 h1 ha hp] at h;cases h
     | some s=>rw[lg_0 h1 ha hp]
theorem la_end {Ts:List (List Ru)}{l:List ((Int×Int)×Int)}(h:(lgA Ls Hs Ts l).1≠0):(lgA Ls Hs Ts l).2.2=zeH:=by
 unfold lgA afL at *;by_cases e:afB (lgT Ls Hs (taT Ts (laH l).1.1) (laH l)) l=true
 ·rw[if_pos e]
 rw[if_neg e] at h ⊢;exact lg_end h
theorem la_on {Ts:List (List Ru)}{l:List ((Int×Int)×Int)}(h:(lgA Ls Hs Ts l).1=0):(lgA Ls Hs Ts l).2.1=ByteArray.empty:=by
 unfold lgA at *;obtain⟨e,h0,_⟩:=af_0 h;rw[e];exact lg_on h0
theorem la_24 {Ts:List (List Ru)}{l:List ((Int×Int)×Int)}(h:(lgA Ls Hs Ts l).1=0):l.length≠24:=(af_0 h).2.2.1
theorem la_sp {S:Int}(ht:tpN S Ls Hs=0){Ts:List (List Ru)}{l:List ((Int×Int)×Int)}(h:(lgA Ls Hs Ts l).1=0):spB S (lgA Ls Hs Ts l).2.2.1=true:=by
 unfold lgA at *;obtain⟨e,h0,_⟩:=af_0 h;rw[e];exact lg_sp ht h0
theorem la_name {S:Int}(ht:tpN S Ls Hs=0)(Ts:List (List Ru))(l:List ((Int×Int)×Int)):(lgA Ls Hs Ts l).2.1.size≤1000000:=af_name (lg_name ht _ _)
theorem tk_pre {k:List ((Int×Int)×Int)→(Nat→Bool)→List (Int×ByteArray×List ((Int×Int)×Int))}(hk:∀l met x,x∈k l met→l <+: x.2.2){g:Lg}{l:List ((Int×Int)×Int)}{met:Nat→Bool}{x:Int×ByteArray×List ((Int×Int)×Int)}(h:x∈tkL k g l met):(g.1≠0∧x=(g.1,g.2.1,l))∨(g.1=0∧l++[g.2.2] <+: x.2.2):=by
 unfold tkL at h;by_cases e:g.1=0
 ·rw[if_pos e] at h;exact .inr ⟨e,hk _ _ _ h⟩
 rw[if_neg e] at h;exact .inl ⟨e,by simpa using h⟩
theorem pw_pre:∀(n:Nat) (l:List ((Int×Int)×Int)) (met:Nat→Bool) (x:Int×ByteArray×List ((Int×Int)×Int)),x∈pwL Ls Hs As Bs n l met→l <+: x.2.2
 | 0,l,met,x,h=>by simp[pwL] at h
 | n+1,l,met,x,h=>by
   have tk:∀g met2,x∈tkL (pwL Ls Hs As Bs n) g l met2→l <+: x.2.2:=by
    intro g met2 hx
    rcases tk_pre (fun l met x h=>pw_pre n l met x h) hx with ⟨_,rfl⟩ | ⟨_,h⟩
    ·exact List.prefix_refl _
    exact (List.prefix_append l _).trans h
   rw[pwL] at h
   split at h
   ·exact tk _ _ h
   rcases List.mem_append.1 h with h | h
   ·exact tk _ _ h
   split at h
   ·simp at h
   exact tk _ _ h
theorem tk_apart {k:List ((Int×Int)×Int)→(Nat→Bool)→List (Int×ByteArray×List ((Int×Int)×Int))}(hk:∀l met x,x∈k l met→l <+: x.2.2){Ts Us:List (List Ru)}{l:List ((Int×Int)×Int)}{met met2:Nat→Bool}(hne:lgA Ls Hs Us l≠lgA Ls Hs Ts l){x:Int×ByteArray×List ((Int×Int)×Int)}(h1:x∈tkL k (lgA Ls Hs Ts l) l met)(h2:x∈tkL k (lgA Ls Hs Us l) l met2):False:=by
 rcases tk_pre hk h1 with ⟨a1,a2⟩ | ⟨a1,a2⟩ <;> rcases tk_pre hk h2 with ⟨b1,b2⟩ | ⟨b1,b2⟩
 ·rw[a2] at b2;simp only[Prod.mk.injEq] at b2;exact hne (Prod.ext b2.1.symm (Prod.ext b2.2.1.symm ((la_end b1).trans (la_end a1).symm)))
 ·rw[a2] at b2;have h:(l++[(lgA Ls Hs Us l).2.2]).length≤l.length:=b2.length_le;rw[List.length_append,List.length_singleton] at h;omega
 ·rw[b2] at a2;have h:(l++[(lgA Ls Hs Ts l).2.2]).length≤l.length:=a2.length_le;rw[List.length_append,List.length_singleton] at h;omega
 obtain⟨t,ht⟩:=a2;obtain⟨u,hu⟩:=b2;have e:(lgA Ls Hs Ts l).2.2=(lgA Ls Hs Us l).2.2:=by
  rw[←hu,List.append_assoc,List.append_assoc] at ht;have:=List.append_cancel_left ht;simp at this;exact this.1
 exact hne (Prod.ext (b1.trans a1.symm) (Prod.ext ((la_on b1).trans (la_on a1).symm) e.symm))
theorem pw_nodup:∀(n:Nat) (l:List ((Int×Int)×Int)) (met:Nat→Bool),(pwL Ls Hs As Bs n l met).Nodup
 | 0,l,met=>by simp[pwL]
 | n+1,l,met=>by
   have tk:∀g met2,(tkL (pwL Ls Hs As Bs n) g l met2).Nodup:=by
    intro g met2;unfold tkL
    split
    ·exact pw_nodup n _ _
    simp
   rw[pwL]
   split
   ·exact tk _ _
   split
   ·rw[List.append_nil];exact tk _ _
   next h1 h2 =>
   rw[List.nodup_append];refine⟨tk _ _,tk _ _,fun a ha b hb e=>?_⟩;subst e;exact tk_apart (fun l met x h=>pw_pre n l met x h) h2 ha hb
theorem pw_le:∀(n:Nat) (l:List ((Int×Int)×Int)) (met:Nat→Bool),(pwL Ls Hs As Bs n l met).length≤2 ^ n
 | 0,l,met=>by simp[pwL]
 | n+1,l,met=>by
   have h1:1≤2 ^ n:=Nat.one_le_two_pow;have tk:∀g met2,(tkL (pwL Ls Hs As Bs n) g l met2).length≤2 ^ n:=by
    intro g met2;unfold tkL
    split
    ·exact pw_le n _ _
    simpa using h1
   rw[pwL,Nat.pow_succ]
   split
   ·have:=tk (lgA Ls Hs Bs l) met;omega
   rw[List.length_append];have:=tk (lgA Ls Hs As l) met
   split
   ·simp;omega
   have:=tk (lgA Ls Hs Bs l) (mtS met (sxH l));omega
theorem wk_mono:∀(n:Nat) (l:List ((Int×Int)×Int)) (m m2:List Int),(∀s∈m,s∈m2)→∀x,x∈wkL Ls Hs As Bs n l m2 []→x∈wkL Ls Hs As Bs n l m []
 | 0,l,m,m2,hm,x,h=>h
 | n+1,l,m,m2,hm,x,h=>by
   have on:∀(a b:List Int),(∀s∈a,s∈b)→∀g,x∈onL (fun l' a'=>wkL Ls Hs As Bs n l' b a') l [] g→x∈onL (fun l' a'=>wkL Ls Hs As Bs n l' a a') l [] g:=by
    intro a b hab g hx;cases g with
    | inl e=>exact hx
    | inr p=>exact wk_mono n _ a b hab x hx
   have mm:∀(k:List Int) (a:List (Int×ByteArray×List ((Int×Int)×Int))) g,x∈onL (fun l' a'=>wkL Ls Hs As Bs n l' k a') l a g↔x∈a∨x∈onL (fun l' a'=>wkL Ls Hs As Bs n l' k a') l [] g:=fun k a g=>on_mem (fun l' a x=>wk_mem n l' _ a x) l a g x
   rw[wkL] at h ⊢;by_cases hc:chB As Bs (laH l).1.1=true
   ·rw[if_pos hc] at h ⊢;by_cases h2:(laH l).1.1∈m2
    ·simp only[h2,if_true] at h;by_cases h1:(laH l).1.1∈m
     ·simp only[h1,if_true];exact on _ _ hm _ h
     simp only[h1,if_false];refine (mm _ _ _).2 (.inr (on _ _ ?_ _ h));intro s hs
     rcases List.mem_append.1 hs with hs | hs
     ·exact hm s hs
     rw[List.mem_singleton.1 hs];exact h2
    have h1:¬(laH l).1.1∈m:=fun h=>h2 (hm _ h)
    simp only[h1,h2,if_false] at h ⊢
    rcases (mm _ _ _).1 h with h | h
    ·exact (mm _ _ _).2 (.inl (on _ _ hm _ h))
    refine (mm _ _ _).2 (.inr (on _ _ ?_ _ h));intro s hs
    rcases List.mem_append.1 hs with hs | hs
    ·exact List.mem_append.2 (.inl (hm s hs))
    exact List.mem_append.2 (.inr hs)
   rw[if_neg hc] at h ⊢;by_cases h2:(laH l).1.1∈m2
   ·rw[if_pos h2] at h;simp at h
   have h1:¬(laH l).1.1∈m:=fun h=>h2 (hm _ h)
   rw[if_neg h2] at h;rw[if_neg h1];exact on _ _ hm _ h
theorem pw_mem {S:Int}(ht:tpN S Ls Hs=0)(hA:∀s,tbN (taT As s)=0)(hB:∀s,tbN (taT Bs s)=0):∀(n:Nat) (l:List ((Int×Int)×Int)) (met:Nat→Bool) (m:List Int),1≤(laH l).1.1→(∀s:Int,1≤s→(met (s-1).toNat=true↔s∈m))→(∀s∈m,chB As Bs s=true)→∀x,x∈pwL Ls Hs As Bs n l met↔x∈wkL Ls Hs As Bs n l m []
 | 0,l,met,m,h1,h2,h3,x=>by simp[pwL,wkL]
 | n+1,l,met,m,h1,h2,h3,x=>by
   have ih:=pw_mem ht hA hB n;obtain⟨s,hs⟩:∃s,s=(laH l).1.1:=⟨_,rfl⟩;have hsx:sxH l=(s-1).toNat:=by rw[sxH,←hs]
   have s1:1≤s:=by rw[hs];exact h1
   have tk:∀(Ts:List (List Ru)) (met2:Nat→Bool) (m2:List Int),(∀s:Int,1≤s→(met2 (s-1).toNat=true↔s∈m2))→(∀s∈m2,chB As Bs s=true)→(x∈tkL (pwL Ls Hs As Bs n) (lgA Ls Hs Ts l) l met2↔x∈onL (fun l' a'=>wkL Ls Hs As Bs n l' m2 a') l [] (goE Ls Hs (taT Ts s) l (laH l))):=by
    intro Ts met2 m2 q2 q3;have e:goE Ls Hs (taT Ts s) l (laH l)=lgE (lgA Ls Hs Ts l):=by rw[hs];exact go_lg
    rw[e];unfold tkL lgE;by_cases h0:(lgA Ls Hs Ts l).1=0
    ·rw[if_pos h0,if_pos h0];refine ih _ met2 m2 ?_ q2 q3 x;rw[la_app];have:=sp_of (la_sp ht h0);exact this.1
    rw[if_neg h0,if_neg h0];simp only[onL];rw[pu_mem lo_fate];simp
   have mm:∀(k:List Int) (a:List (Int×ByteArray×List ((Int×Int)×Int))) g,x∈onL (fun l' a'=>wkL Ls Hs As Bs n l' k a') l a g↔x∈a∨x∈onL (fun l' a'=>wkL Ls Hs As Bs n l' k a') l [] g:=fun k a g=>on_mem (fun l' a x=>wk_mem n l' _ a x) l a g x
   rw[pwL,wkL,←hs,hsx];by_cases hm:met (s-1).toNat=true
   ·have hin:=(h2 s s1).1 hm;rw[if_pos hm,if_pos (h3 s hin)];simp only[hin,if_true];exact tk Bs met m h2 h3
   have hin:¬s∈m:=fun h=>hm ((h2 s s1).2 h)
   rw[if_neg hm];by_cases hc:chB As Bs s=true
   ·rw[if_pos hc];simp only[hin,if_false];have q2:∀t:Int,1≤t→(mtS met (s-1).toNat (t-1).toNat=true↔t∈m++[s]):=by
     intro t t1;unfold mtS;by_cases e:t=s
     ·subst e;simp
     rw[if_neg (by omega),h2 t t1];simp[e]
    have q3:∀t∈m++[s],chB As Bs t=true:=by
     intro t htt
     rcases List.mem_append.1 htt with h | h
     ·exact h3 t h
     rw[List.mem_singleton.1 h];exact hc
    rw[List.mem_append,mm,tk As met m h2 h3];by_cases e:lgA Ls Hs Bs l=lgA Ls Hs As l
    ·rw[if_pos e];simp only[List.not_mem_nil,or_false];constructor
     ·exact .inl
     rintro (h | h)
     ·exact h
     have e2:goE Ls Hs (taT Bs s) l (laH l)=goE Ls Hs (taT As s) l (laH l):=by
      rw[hs,go_lg,go_lg];exact congrArg lgE e
     rw[e2] at h;cases hg:goE Ls Hs (taT As s) l (laH l) with
     | inl e=>rw[hg] at h;exact h
     | inr p =>
       rw[hg] at h;exact wk_mono n _ m (m++[s]) (fun t h=>List.mem_append.2 (.inl h)) x h
    rw[if_neg e,tk Bs _ _ q2 q3]
   rw[if_neg hc,if_neg hin];have e:lgA Ls Hs Bs l=lgA Ls Hs As l:=by
    unfold lgA;have e1:lgT Ls Hs (taT Bs (laH l).1.1) (laH l)=lgT Ls Hs (taT As (laH l).1.1) (laH l):=by
     unfold lgT;rw[←hs,st_alike (hA s) (hB s) (ch_alike (by simpa using hc))]
    rw[e1]
   rw[if_pos e,List.append_nil];exact tk As met m h2 h3
def pwS (Ls:List ((Int×Int)×(Int×Int)))(Hs:List (ByteArray×(Int×Int)))(As Bs:List (List Ru))(s:Int×Int)(h:Int):List (Int×ByteArray×List ((Int×Int)×Int)):=pwL Ls Hs As Bs 24 [(s,h)] (fun _=>false)
theorem ps_mem {S:Int}(ht:tpN S Ls Hs=0)(hA:∀s,tbN (taT As s)=0)(hB:∀s,tbN (taT Bs s)=0){s:Int×Int}(hs:spB S s=true)(h:Int)(x:Int×ByteArray×List ((Int×Int)×Int)):x∈pwS Ls Hs As Bs s h↔x∈seeL Ls Hs As Bs s h:=
 pw_mem ht hA hB 24 [(s,h)] (fun _=>false) [] (sp_of hs).1 (fun s _=>by simp) (fun s h=>absurd h List.not_mem_nil) x
theorem ps_nodup (s:Int×Int)(h:Int):(pwS Ls Hs As Bs s h).Nodup:=pw_nodup _ _ _
theorem ps_le (s:Int×Int)(h:Int):(pwS Ls Hs As Bs s h).length≤16777216:=pw_le 24 _ _
theorem ps_sorted {S:Int}(ht:tpN S Ls Hs=0)(hA:∀s,tbN (taT As s)=0)(hB:∀s,tbN (taT Bs s)=0){s:Int×Int}(hs:spB S s=true)(h:Int){D:List (Int×ByteArray×List ((Int×Int)×Int))}(hp:D.Perm (pwS Ls Hs As Bs s h))(hd:D.Pairwise fun a b=>faL b a=false):D=seeL Ls Hs As Bs s h:=by
 refine ris_ext lo_fate ?_ (see_ris s h) (fun x=>(hp.mem_iff).trans (ps_mem ht hA hB hs h x));have hn:D.Nodup:=hp.nodup_iff.2 (ps_nodup s h);unfold Ris;have h2:D.Pairwise fun a b=>a≠b:=hn
 refine (hd.and h2).imp ?_;rintro a b ⟨h1,h2⟩;cases e:faL a b
 ·exact absurd (lo_fate.tot a b e h1) h2
 rfl
end
section
variable {S:Int}{Ls:List ((Int×Int)×(Int×Int))}{Hs:List (ByteArray×(Int×Int))}{Ts:List (List Ru)}{l:List Op8}{m:ByteArray}{h:Int}
def snN (S:Int)(Ls:List ((Int×Int)×(Int×Int)))(Hs:List (ByteArray×(Int×Int)))(Ts:List (List Ru))(l:List Op8)(m:ByteArray)(h:Int):Int:=
 if cgN S Ls Hs Ts l≠0 then cgN S Ls Hs Ts l else if weN S Ls Hs m≠0 then weN S Ls Hs m else if hdrB h=true then 0 else 1
def snL (S:Int)(Ls:List ((Int×Int)×(Int×Int)))(Hs:List (ByteArray×(Int×Int)))(Ts:List (List Ru))(l:List Op8)(m:ByteArray)(h:Int):List (Int×ByteArray×List ((Int×Int)×Int)):=
 if snN S Ls Hs Ts l m h=0 then seeL Ls Hs Ts (caT Ts l) (weV S Ls Hs m) h else []
theorem cg_nt (h0:cgN S Ls Hs Ts l=0):ntN S Ls Hs Ts=0∧caN S Ts l=0:=by
 unfold cgN at h0;by_cases e:ntN S Ls Hs Ts=0
 ·rw[if_pos e] at h0;by_cases e2:200<l.length
  ·rw[if_pos e2] at h0;cases h0
  rw[if_neg e2] at h0;exact⟨e,h0⟩
 rw[if_neg e] at h0;exact absurd h0 e
theorem we_sp (ht:tpN S Ls Hs=0)(h0:weN S Ls Hs m=0):spB S (weV S Ls Hs m)=true:=by
 have h1:=h0;unfold weN at h1;rw[if_pos ht] at h1;unfold weV;rw[if_pos h0];cases e:whereO Hs m with
 | none=>rw[e] at h1;cases h1
 | some p=>exact where_sp ht e
theorem ta_ok {Us:List (List Ru)}(hn:∀k,k<Us.length→tbN (Us.getD k [])=0)(s:Int):tbN (taT Us s)=0:=by
 unfold taT;by_cases hk:(s-1).toNat<Us.length
 ·exact hn _ hk
 rw[List.getD_eq_getElem?_getD,List.getElem?_eq_none (by omega)];rfl
theorem cg_ok (h0:cgN S Ls Hs Ts l=0):tpN S Ls Hs=0∧(Ts.length:Int)=S∧(∀s,tbN (taT Ts s)=0)∧∀s,tbN (taT (caT Ts l) s)=0:=by
 obtain⟨h1,h2⟩:=cg_nt h0;obtain⟨a1,a2,a3⟩:=nt_0 h1;obtain⟨_,_,b3⟩:=nt_0 (nt_ca h1 h2);exact⟨a1,a2,ta_ok a3,ta_ok b3⟩
theorem sn_1 (h0:cgN S Ls Hs Ts l≠0):snN S Ls Hs Ts l m h=cgN S Ls Hs Ts l∧snL S Ls Hs Ts l m h=[]:=by
 have e:snN S Ls Hs Ts l m h=cgN S Ls Hs Ts l:=by unfold snN;rw[if_pos h0]
 exact⟨e,by unfold snL;rw[if_neg (by rw[e];exact h0)]⟩
theorem sn_2 (h0:cgN S Ls Hs Ts l=0)(h1:weN S Ls Hs m≠0):snN S Ls Hs Ts l m h=weN S Ls Hs m∧snL S Ls Hs Ts l m h=[]:=by
 have e:snN S Ls Hs Ts l m h=weN S Ls Hs m:=by unfold snN;rw[if_neg (by simp[h0]),if_pos h1]
 exact⟨e,by unfold snL;rw[if_neg (by rw[e];exact h1)]⟩
theorem sn_3 (h0:cgN S Ls Hs Ts l=0)(h1:weN S Ls Hs m=0)(h2:hdrB h=false):snN S Ls Hs Ts l m h=1∧snL S Ls Hs Ts l m h=[]:=by
 have e:snN S Ls Hs Ts l m h=1:=by unfold snN;rw[if_neg (by simp[h0]),if_neg (by simp[h1]),if_neg (by simp[h2])]
 exact⟨e,by unfold snL;rw[if_neg (by rw[e];decide)]⟩
theorem sn_0 (h0:cgN S Ls Hs Ts l=0)(h1:weN S Ls Hs m=0)(h2:hdrB h=true):snN S Ls Hs Ts l m h=0∧snL S Ls Hs Ts l m h=seeL Ls Hs Ts (caT Ts l) (weV S Ls Hs m) h:=by
 have e:snN S Ls Hs Ts l m h=0:=by unfold snN;rw[if_neg (by simp[h0]),if_neg (by simp[h1]),if_pos h2]
 exact⟨e,by unfold snL;rw[if_pos e]⟩
theorem ps_some {As Bs:List (List Ru)}(ht:tpN S Ls Hs=0)(hA:∀s,tbN (taT As s)=0)(hB:∀s,tbN (taT Bs s)=0){s:Int×Int}(hs:spB S s=true)(h:Int):0<(pwS Ls Hs As Bs s h).length:=by
 obtain⟨x,hx⟩:=wk_some (Ls:=Ls) (Hs:=Hs) (As:=As) (Bs:=Bs) 24 [(s,h)] [] rfl (by omega) (by simp);exact List.length_pos_of_mem ((ps_mem ht hA hB hs h x).2 hx)
end
theorem isSwitch_any (S a:Int)(w:World):
 Calls Tryz.prog 76 #[.int .i64 S,.int .i64 a] w fun e w'=>e=.returned (.bool (swB S a))∧Below w.heap.size w w':=by
 by_cases h1:1≤a
 ·by_cases h2:a≤S
  ·have e:swB S a=true:=sw_of.2 ⟨h1,h2⟩;rw[e];clear e;go_enter Tryz.func76,Tryz.ntmps76;go_wp2;go_ret;exact⟨rfl,Below.refl _ _⟩
  have e:swB S a=false:=by simp[swB,h2]
  rw[e];clear e;go_enter Tryz.func76,Tryz.ntmps76;go_wp2;go_ret;exact⟨rfl,Below.refl _ _⟩
 have e:swB S a=false:=by simp[swB,h1]
 rw[e];clear e;go_enter Tryz.func76,Tryz.ntmps76;go_wp2;go_ret;exact⟨rfl,Below.refl _ _⟩
theorem isSpot_any (S x y:Int)(w:World):
 Calls Tryz.prog 127 #[.int .i64 S,.agg #[.int .i64 x,.int .i64 y]] w fun e w'=>e=.returned (.bool (spB S (x,y)))∧Below w.heap.size w w':=by
 have HB0:Hid (Below w.heap.size w (w.alloc (Obj.cells #[.int .i64 x,.int .i64 y] 39))):=(Below.refl _ _).alloc (Nat.le_refl _) _;have hlt:w.heap.size<(w.alloc (Obj.cells #[.int .i64 x,.int .i64 y] 39)).heap.size:=by simp
 have c0:(w.alloc (Obj.cells #[.int .i64 x,.int .i64 y] 39)).cell? ⟨w.heap.size,0,none⟩=some (.int .i64 x):=by simp
 have c1:(w.alloc (Obj.cells #[.int .i64 x,.int .i64 y] 39)).cell? ⟨w.heap.size,1,none⟩=some (.int .i64 y):=by simp
 cases hs:swB S x
 ·have e:spB S (x,y)=false:=by
   cases h:spB S (x,y)
   ·rfl
   have:=sp_of h;have h2:=sw_of.2 ⟨this.1,this.2.1⟩;rw[hs] at h2;cases h2
  rw[e];clear e;go_enter Tryz.func127,Tryz.ntmps127
  go_wp2_with fail
  refine (isSwitch_any S x _).mono ?_;rintro e w1 ⟨rfl,hb1⟩;rw[hs];have HB1:Hid (Below w.heap.size w w1):=HB0.out.trans (hb1.mono HB0.out.size);clear hb1 c0 c1;go_wp2;go_ret;exact⟨rfl,HB1.out⟩
 have hw:=sw_of.1 hs;have e:spB S (x,y)=(decide (1≤y)&&decide (y≤4)):=by simp[spB,hw.1,hw.2]
 rw[e];clear e hw;have walk:∀r:Bool,r=(decide (1≤y)&&decide (y≤4))→Calls Tryz.prog 127 #[.int .i64 S,.agg #[.int .i64 x,.int .i64 y]] w fun e w'=>e=.returned (.bool r)∧Below w.heap.size w w':=by
  intro r hr;by_cases h1:1≤y
  ·by_cases h2:y≤4
   ·have e:r=true:=by rw[hr];simp[h1,h2]
    subst e;clear hr;go_enter Tryz.func127,Tryz.ntmps127
    go_wp2_with fail
    refine (isSwitch_any S x _).mono ?_;rintro e w1 ⟨rfl,hb1⟩;rw[hs];have HB1:Hid (Below w.heap.size w w1):=HB0.out.trans (hb1.mono HB0.out.size);have d1:=cell_later hb1 c1;clear hb1 c0 c1;go_wp2;go_ret;exact⟨rfl,HB1.out⟩
   have e:r=false:=by rw[hr];simp[h2]
   subst e;clear hr;go_enter Tryz.func127,Tryz.ntmps127
   go_wp2_with fail
   refine (isSwitch_any S x _).mono ?_;rintro e w1 ⟨rfl,hb1⟩;rw[hs];have HB1:Hid (Below w.heap.size w w1):=HB0.out.trans (hb1.mono HB0.out.size);have d1:=cell_later hb1 c1;have hd:decide (y≤4)=false:=by simp[h2]
   clear hb1 c0 c1;go_wp2;go_ret;exact⟨by first | rfl | simp[h2],HB1.out⟩
  have e:r=false:=by rw[hr];simp[h1]
  subst e;clear hr;go_enter Tryz.func127,Tryz.ntmps127
  go_wp2_with fail
  refine (isSwitch_any S x _).mono ?_;rintro e w1 ⟨rfl,hb1⟩;rw[hs];have HB1:Hid (Below w.heap.size w w1):=HB0.out.trans (hb1.mono HB0.out.size);have d1:=cell_later hb1 c1;clear hb1 c0 c1;go_wp2;go_ret;exact⟨rfl,HB1.out⟩
 exact walk _ rfl
theorem spotEq (a b c d:Int)(w:World):(Op.equal 39 (.agg #[.int .i64 a,.int .i64 b]) (.agg #[.int .i64 c,.int .i64 d])).run Tryz.prog w=.ok (a==c&&b==d) w:=by
 unfold Op.equal Op.maxDepth;rw[run_equalIn_struct w 9999 _ _ _ (by kernel_rfl) (by kernel_rfl)];cases h1:(a==c)
 ·go_simp
 cases h2:(b==d)
 ·go_simp
 go_simp
theorem spotCheck (e:Bool)(a b:Int)(w:World):(Instr.checkKey e 10000 39 (.agg #[.int .i64 a,.int .i64 b])).run Tryz.prog w=.ok () w:=by
 have h:∀(x:Int) (w:World),(Instr.checkKey e 9999 3 (.int .i64 x)).run Tryz.prog w=.ok () w:=fun x w=>Go.MapKept.run_checkKey Tryz.underlying3 (by simp[Go.MapKept.IsKey]) e 9998
 rw[Instr.checkKey];go_simp
def spotKey:KeyE Tryz.prog 39 (Int×Int):=
 KeyE.ask (fun k=>.agg #[.int .i64 k.1,.int .i64 k.2]) sq sq_iff (fun e k w=>spotCheck e k.1 k.2 w) _ (show Tryz.prog.underlying 39=some (.struct (Tryz.prog.fieldsOf 39)) by kernel_rfl) (fun a b=>rfl) (fun a b w=>spotEq a.1 a.2 b.1 b.2 w) (fun k=>by simp[Instr.sameBits])
def strKey:KeyE Tryz.prog 9 ByteArray:=
 KeyE.now (fun k=>.string k) (fun a b=>a==b) ba_iff (fun e k w=>Go.MapKept.run_checkKey Tryz.underlying9 (by simp[Go.MapKept.IsKey]) e 9999) _ Tryz.underlying9 (fun a b=>by simp[Instr.sameNow,beq_toListBytes]) (fun k=>by simp[Instr.sameBits,(ba_iff k k).2 rfl])
def veI (n:Int):Value:=.int .i64 n
section
variable {P:Program}{K:TypeId}{κ:Type}{E:KeyE P K κ}{w:World}{ops:Array Oper}{rest:List Oper}{o:Oper}{a:Act}{Q:Exit→Act→World→Prop}
theorem getV_I {o:Option Int}:getV veI (.int .i64 0) o=.int .i64 (o.getD 0):=by cases o <;> rfl
theorem run_lookup_TK {B:Nat}{M:List (κ×Int)}{U:List κ}(h:MAt E veI w B M)(hT:TK E.q M U)(t e:TypeId)(ht:P.underlying t=some (.map K e))(hz:∀w,(zeroValue e).run P w=.ok (.int .i64 0) w)(k:κ):
 (Instr.lookup t (.map (some B)) (E.c k) false).run P w=.ok (.int .i64 (ctM E.q k U:Int)) w:=by
 rw[run_lookup_M h t e ht _ hz k false,getV_I,hT k];rfl
end
end
section
def noV (n:Int):Value:=if n=0 then .nilIface else .iface 85 (.int .i64 n)
theorem no_ok {n:Int}(h:n=0):noV n=.nilIface:=by simp[noV,h]
theorem no_ne {n:Int}(h:n≠0):noV n=.iface 85 (.int .i64 n):=by simp[noV,h]
end
section
open Go.ChangeShapes Go.WideShapes Go.ChangeAt Go.RowKit Go.Joins
def lnkE:Enc ((Int×Int)×(Int×Int)) where
 c:=fun x=>[.int .i64 x.1.1,.int .i64 x.1.2,.int .i64 x.2.1,.int .i64 x.2.2]
 n:=4
 len:=fun _=>rfl
 pos:=by decide
 one:=by
  intro x u hu;simp at hu
  rcases hu with rfl | rfl | rfl | rfl <;> rfl
theorem lnk_cells {w:World}{g o:Nat}{x0 x1 x2 x3:Int}(h:VAt w g o (lnkE.c ((x0,x1),(x2,x3)))):w.cell? ⟨g,o,none⟩=some (.int .i64 x0)∧w.cell? ⟨g,o+1,none⟩=some (.int .i64 x1)∧w.cell? ⟨g,o+2,none⟩=some (.int .i64 x2)∧w.cell? ⟨g,o+3,none⟩=some (.int .i64 x3):=
 ⟨h 0 _ rfl,h 1 _ rfl,h 2 _ rfl,h 3 _ rfl⟩
theorem lnk_at {w:World}{g o:Nat}{L:List ((Int×Int)×(Int×Int))}(h:GAt lnkE w g o L){n k:Nat}(hn:L.length=n)(hk:k<n):
 ∃(x0:Int) (x1:Int) (x2:Int) (x3:Int) (hl:k<L.length),L[k]=((x0,x1),(x2,x3))∧w.cell? ⟨g,o+k*4,none⟩=some (.int .i64 x0)∧w.cell? ⟨g,o+k*4+1,none⟩=some (.int .i64 x1)∧w.cell? ⟨g,o+k*4+2,none⟩=some (.int .i64 x2)∧w.cell? ⟨g,o+k*4+3,none⟩=some (.int .i64 x3):=
 have hl:k<L.length:=by omega
 ⟨_,_,_,_,hl,rfl,lnk_cells (h k hl)⟩
theorem lnk_new (w:World)(x0 x1 x2 x3:Int)(t:TypeId):VAt (w.alloc (Obj.cells #[.int .i64 x0,.int .i64 x1,.int .i64 x2,.int .i64 x3] t)) w.heap.size 0 (lnkE.c ((x0,x1),(x2,x3))):=vat_new w [.int .i64 x0,.int .i64 x1,.int .i64 x2,.int .i64 x3] t
theorem lnk_info:(Tryz.prog.info? 105).map (fun i=>(i.zero,i.size,i.bytes))=some (some (.agg #[.int .i64 0,.int .i64 0,.int .i64 0,.int .i64 0]),4,32):=by kernel_rfl
theorem lnk_zero:(Value.agg #[.int .i64 0,.int .i64 0,.int .i64 0,.int .i64 0]).cells.size=4:=by simp[Value.cells]
theorem lnk_open {H:Type}{enc:TypeId×Value→H}{W:World}{n:Nat}{cs:List Value}{x:DataW H×List MemPlace}
 (h:DataW.trod enc Tryz.prog W 0 (fun _=>true) true n 105 cs=some x):∃y,cs=lnkE.c y:=by
 obtain⟨xs,k,_,_,hl,hlen,hf⟩:=DataW.trod_struct Tryz.underlying105 h;have hC:Tryz.prog.cellsOf 105=4:=by kernel_rfl
 have hT0:Tryz.prog.cellsOf 39=2:=by kernel_rfl
 rw[hC] at hl
 match cs,hl with
 | [c0,c1,c2,c3],_ =>
   match xs,hlen with
   | [z0,z1],_ =>
     have g0:=hf 0 _ rfl;have g1:=hf 1 _ rfl;simp[hT0] at g0 g1;obtain⟨s0,e0⟩:=spo_open g0;obtain⟨s1,e1⟩:=spo_open g1;simp[spoE] at e0 e1;refine⟨((s0.1,s0.2),(s1.1,s1.2)),?_⟩;simp[lnkE,e0,e1]
end
section
open Go.RowKit
def LayQ (w w':World)(B:Nat)(N:Int)(V:List (Int×Int)):Prop:=∃M',MAt spotKey veI w' B M'∧(N=0→TK sq M' V)∧But [B] w w'
theorem lay_ok (S x0 x1 x2 x3:Int)(B:Nat)(M:List ((Int×Int)×Int))(U:List (Int×Int))(w:World)(hM:MAt spotKey veI w B M)(hT:TK sq M U)(hU:U.length≤1000)(ha:spB S (x0,x1)=true)(hb:spB S (x2,x3)=true)(N:Int)(hN:N=lk1 S U ((x0,x1),(x2,x3))):
 Calls Tryz.prog 80 #[.int .i64 S,.map (some B),.agg #[.int .i64 x0,.int .i64 x1,.int .i64 x2,.int .i64 x3]] w fun e w'=>e=.returned (noV N)∧LayQ w w' B N (U++[(x0,x1),(x2,x3)]):=by
 have hlt:=hM.lt;have HN:Hid (N=lk1 S U ((x0,x1),(x2,x3))):=hN;have hB0:Below w.heap.size w (w.alloc (Obj.cells #[.int .i64 x0,.int .i64 x1,.int .i64 x2,.int .i64 x3] 105)):=(Below.refl _ _).alloc (Nat.le_refl _) _;have HB0:Hid (Below w.heap.size w (w.alloc (Obj.cells #[.int .i64 x0,.int .i64 x1,.int .i64 x2,.int .i64 x3] 105))):=hB0;have HC:=lnk_new w x0 x1 x2 x3 105;have HM0:Hid (MAt spotKey veI w B M):=hM;have HT:Hid (TK sq M U):=hT;have hne:¬w.heap.size=B:=by omega
 clear hM hT hN hB0;go_enter Tryz.func80,Tryz.ntmps80
 go_wp2_with fail
 refine (isSpot_any S x0 x1 _).mono ?_;rintro e w1 ⟨rfl,hb1⟩;rw[ha];have HB1:Hid (Below w.heap.size w w1):=HB0.out.trans (hb1.mono HB0.out.size);have HC1:=HC.later hb1;obtain⟨c0,c1,c2,c3⟩:=lnk_cells HC1;simp only[Nat.zero_add] at c0 c1 c2 c3;clear hb1
 go_wp2_with fail
 refine (isSpot_any S x2 x3 _).mono ?_;rintro e w2 ⟨rfl,hb2⟩;rw[hb];have HB2:Hid (Below w.heap.size w w2):=HB1.out.trans (hb2.mono HB1.out.size);have HC2:Hid (VAt w2 w.heap.size 0 (lnkE.c ((x0,x1),(x2,x3)))):=HC1.later hb2;have d0:=cell_later hb2 c0;have d1:=cell_later hb2 c1;have d2:=cell_later hb2 c2;have d3:=cell_later hb2 c3;have HM2:Hid (MAt spotKey veI w2 B M):=(HM0.out.later HB2.out);clear hb2 HC1 HC c0 c1 c2 c3 HB1 HB0;go_upto_region 3 with fail;obtain⟨cA,hcA⟩:∃cA:Int,cA=(ctM sq (x0,x1) U:Int):=⟨_,rfl⟩;have HcA:Hid (cA=(ctM sq (x0,x1) U:Int)):=hcA;have hcw:IntKind.i64.wrap (cA+1)=cA+1:=by
  have h1:=ct_le (q:=sq) (x0,x1) U;exact wrap_small (by omega) (by omega)
 clear hcA
 go_cut [] from 20 to 26 (fun w'=>∃M1,MAt spotKey veI w' B M1∧TK sq M1 (U++[(x0,x1)])∧But [B] w2 w')
 case first =>
  have hMd:MAt spotKey veI w2.drew B M:=HM2.out;obtain⟨v0,st,w3,hE,hg3,hM3,hS3⟩:=run_entry_M hMd 157 3 Tryz.underlying157 0 (fun w=>by kernel_rfl) (x0,x1);obtain⟨w4,hSt,hM4,hg4⟩:=hS3 w3 (cA+1) rfl;have hTK4:Hid (TK sq (mput sq (x0,x1) (cA+1) M) (U++[(x0,x1)])):=by
   show TK _ _ _;rw[HcA.out];exact tk_put sq_iff HT.out _
  have HM4:Hid (MAt spotKey veI w4 B (mput sq (x0,x1) (cA+1) M)):=hM4;have HBt:Hid (But [B] w2 w4):=((But.refl [B] w2).drew.trans (But.of_grown hg3 (by simp))).trans (But.of_grown hg4 (by simp));have hl2:(Instr.lookup 157 (.map (some B)) (.agg #[.int .i64 x0,.int .i64 x1]) false).run Tryz.prog w2.drew=.ok (.int .i64 cA) w2.drew:=by
   rw[HcA.out];exact run_lookup_TK hMd HT.out 157 3 Tryz.underlying157 (fun w=>by kernel_rfl) (x0,x1)
  have hl3:(Instr.lookup 157 (.map (some B)) (.agg #[.int .i64 x0,.int .i64 x1]) false).run Tryz.prog w3=.ok (.int .i64 cA) w3:=by
   have h:=run_lookup_M hM3 157 3 Tryz.underlying157 (.int .i64 0) (fun w=>by kernel_rfl) (x0,x1) false;have e:mget spotKey.q (x0,x1) (mput spotKey.q (x0,x1) ((mget spotKey.q (x0,x1) M).getD 0) M)=some cA:=by
    rw[mget_put spotKey.qeq,if_pos ((spotKey.qeq _ _).2 rfl),HcA.out];exact congrArg some (HT.out (x0,x1))
   rw[e] at h;exact h
  have h1:(Instr.mapEntry 157 (.map (some B)) (.agg #[.int .i64 x0,.int .i64 x1])).run Tryz.prog w2.drew=.ok (.tuple #[v0,.int .i64 (st:Int)]) w3:=hE;have h3:(Instr.entryStore 157 (.map (some B)) (.int .i64 (st:Int)) (.int .i64 (cA+1))).run Tryz.prog w3=.ok () w4:=hSt;clear hE hS3 hSt hM3 hM4 hg3 hg4 hMd
  go_region
  go_wp2_with fail
  go_meet
  case rel=>exact⟨_,HM4.out,hTK4.out,HBt.out⟩
 case rest =>
  obtain⟨M1,hM1,hT1,hBt1⟩:=hcut;obtain⟨w5,hw5⟩:∃x,x=wc:=⟨_,rfl⟩;subst hw5;have hnB:w.heap.size ∉ [B]:=by simp[hne]
  have hl2:w.heap.size<w2.heap.size:=World.block_lt_of_cell? _ _ d0;have e0:=(hBt1.cell (p:=⟨w.heap.size,0,none⟩) hl2 hnB).trans d0;have e1:=(hBt1.cell (p:=⟨w.heap.size,1,none⟩) hl2 hnB).trans d1;have e2:=(hBt1.cell (p:=⟨w.heap.size,2,none⟩) hl2 hnB).trans d2;have e3:=(hBt1.cell (p:=⟨w.heap.size,3,none⟩) hl2 hnB).trans d3;have HM5:Hid (MAt spotKey veI w5 B M1):=hM1;have HT5:Hid (TK sq M1 (U++[(x0,x1)])):=hT1;have HBt5:Hid (But [B] w w5):=(But.of_below (HB2.out)).trans hBt1;clear hM1 hT1 hBt1 d0 d1 d2 d3 HM2 HC2 hcw HcA hnB hl2;obtain⟨cB,hcB⟩:∃cB:Int,cB=(ctM sq (x2,x3) (U++[(x0,x1)]):Int):=⟨_,rfl⟩;have HcB:Hid (cB=(ctM sq (x2,x3) (U++[(x0,x1)]):Int)):=hcB;have hcw:IntKind.i64.wrap (cB+1)=cB+1:=by
   have h1:=ct_le (q:=sq) (x2,x3) (U++[(x0,x1)]);simp only[List.length_append,List.length_singleton] at h1;exact wrap_small (by omega) (by omega)
  clear hcB;go_upto_region 4 with fail
  go_cut [] from 27 to 33 (fun w'=>∃M2,MAt spotKey veI w' B M2∧TK sq M2 (U++[(x0,x1)]++[(x2,x3)])∧But [B] w5 w')
  case first =>
   have hMd:MAt spotKey veI w5.drew B M1:=HM5.out;obtain⟨v0,st,w3,hE,hg3,hM3,hS3⟩:=run_entry_M hMd 157 3 Tryz.underlying157 0 (fun w=>by kernel_rfl) (x2,x3);obtain⟨w4,hSt,hM4,hg4⟩:=hS3 w3 (cB+1) rfl;have hTK4:Hid (TK sq (mput sq (x2,x3) (cB+1) M1) (U++[(x0,x1)]++[(x2,x3)])):=by
    show TK _ _ _;rw[HcB.out];exact tk_put sq_iff HT5.out _
   have HM4:Hid (MAt spotKey veI w4 B (mput sq (x2,x3) (cB+1) M1)):=hM4;have HBt:Hid (But [B] w5 w4):=((But.refl [B] w5).drew.trans (But.of_grown hg3 (by simp))).trans (But.of_grown hg4 (by simp));have hl2:(Instr.lookup 157 (.map (some B)) (.agg #[.int .i64 x2,.int .i64 x3]) false).run Tryz.prog w5.drew=.ok (.int .i64 cB) w5.drew:=by
    rw[HcB.out];exact run_lookup_TK hMd HT5.out 157 3 Tryz.underlying157 (fun w=>by kernel_rfl) (x2,x3)
   have hl3:(Instr.lookup 157 (.map (some B)) (.agg #[.int .i64 x2,.int .i64 x3]) false).run Tryz.prog w3=.ok (.int .i64 cB) w3:=by
    have h:=run_lookup_M hM3 157 3 Tryz.underlying157 (.int .i64 0) (fun w=>by kernel_rfl) (x2,x3) false;have e:mget spotKey.q (x2,x3) (mput spotKey.q (x2,x3) ((mget spotKey.q (x2,x3) M1).getD 0) M1)=some cB:=by
     rw[mget_put spotKey.qeq,if_pos ((spotKey.qeq _ _).2 rfl),HcB.out];exact congrArg some (HT5.out (x2,x3))
    rw[e] at h;exact h
   have h1:(Instr.mapEntry 157 (.map (some B)) (.agg #[.int .i64 x2,.int .i64 x3])).run Tryz.prog w5.drew=.ok (.tuple #[v0,.int .i64 (st:Int)]) w3:=hE;have h3:(Instr.entryStore 157 (.map (some B)) (.int .i64 (st:Int)) (.int .i64 (cB+1))).run Tryz.prog w3=.ok () w4:=hSt;clear hE hS3 hSt hM3 hM4 hg3 hg4 hMd
   go_region
   go_wp2_with fail
   go_meet
   case rel=>exact⟨_,HM4.out,hTK4.out,HBt.out⟩
  case rest =>
   obtain⟨M2,hM2,hT2,hBt2⟩:=hcut;have hnB:w.heap.size ∉ [B]:=by simp[hne]
   have hl2:w.heap.size<w5.heap.size:=World.block_lt_of_cell? _ _ e0;have f0:=(hBt2.cell (p:=⟨w.heap.size,0,none⟩) hl2 hnB).trans e0;have f1:=(hBt2.cell (p:=⟨w.heap.size,1,none⟩) hl2 hnB).trans e1;have f2:=(hBt2.cell (p:=⟨w.heap.size,2,none⟩) hl2 hnB).trans e2;have f3:=(hBt2.cell (p:=⟨w.heap.size,3,none⟩) hl2 hnB).trans e3;have HM6:Hid (MAt spotKey veI wc B M2):=hM2;have HT6:Hid (TK sq M2 (U++[(x0,x1),(x2,x3)])):=by
    show TK _ _ _;simpa using hT2
   have HBt6:Hid (But [B] w wc):=HBt5.out.trans hBt2;obtain⟨pA,hpA⟩:∃p:Int,p=(ctM sq (x0,x1) (U++[(x0,x1)]++[(x2,x3)]):Int):=⟨_,rfl⟩;obtain⟨pB,hpB⟩:∃p:Int,p=(ctM sq (x2,x3) (U++[(x0,x1)]++[(x2,x3)]):Int):=⟨_,rfl⟩;have hlA:(Instr.lookup 157 (.map (some B)) (.agg #[.int .i64 x0,.int .i64 x1]) false).run Tryz.prog wc=.ok (.int .i64 pA) wc:=by
    rw[hpA];exact run_lookup_TK hM2 hT2 157 3 Tryz.underlying157 (fun w=>by kernel_rfl) (x0,x1)
   have hlB:(Instr.lookup 157 (.map (some B)) (.agg #[.int .i64 x2,.int .i64 x3]) false).run Tryz.prog wc=.ok (.int .i64 pB) wc:=by
    rw[hpB];exact run_lookup_TK hM2 hT2 157 3 Tryz.underlying157 (fun w=>by kernel_rfl) (x2,x3)
   have HL:Hid (N=if (decide ((1:Int)<pA) || decide ((1:Int)<pB))=true then 7 else 0):=by
    show _=_;rw[HN.out,hpA,hpB,ct_link,lk1];simp only[ha,hb,Bool.and_self,if_true]
   clear hM2 hT2 hBt2 e0 e1 e2 e3 hnB hl2 hcw HcB HM5 HT5 HBt5 hpA hpB ha hb;by_cases h1:1<pA
   ·have e7:N=7:=by rw[HL.out];simp[h1]
    subst e7;go_wp2;go_ret;exact⟨rfl,M2,HM6.out,fun e=>absurd e (by decide),HBt6.out⟩
   by_cases h2:1<pB
   ·have e7:N=7:=by rw[HL.out];simp[h2]
    subst e7;go_wp2;go_ret;exact⟨rfl,M2,HM6.out,fun e=>absurd e (by decide),HBt6.out⟩
   have e7:N=0:=by rw[HL.out];simp[h1,h2]
   subst e7;go_wp2;go_ret;exact⟨rfl,M2,HM6.out,fun _=>HT6.out,HBt6.out⟩
theorem lay_bad (S x0 x1 x2 x3:Int)(B:Nat)(w:World)(h:(spB S (x0,x1)&&spB S (x2,x3))=false):
 Calls Tryz.prog 80 #[.int .i64 S,.map (some B),.agg #[.int .i64 x0,.int .i64 x1,.int .i64 x2,.int .i64 x3]] w fun e w'=>e=.returned (.iface 85 (.int .i64 1))∧Below w.heap.size w w':=by
 have HB0:Hid (Below w.heap.size w (w.alloc (Obj.cells #[.int .i64 x0,.int .i64 x1,.int .i64 x2,.int .i64 x3] 105))):=(Below.refl _ _).alloc (Nat.le_refl _) _;have HC:=lnk_new w x0 x1 x2 x3 105;cases ha:spB S (x0,x1)
 ·clear h;go_enter Tryz.func80,Tryz.ntmps80
  go_wp2_with fail
  refine (isSpot_any S x0 x1 _).mono ?_;rintro e w1 ⟨rfl,hb1⟩;rw[ha];have HB1:Hid (Below w.heap.size w w1):=HB0.out.trans (hb1.mono HB0.out.size);clear hb1 HC;go_wp2;go_ret;exact⟨rfl,HB1.out⟩
 have hb:spB S (x2,x3)=false:=by rw[ha,Bool.true_and] at h;exact h
 clear h;go_enter Tryz.func80,Tryz.ntmps80
 go_wp2_with fail
 refine (isSpot_any S x0 x1 _).mono ?_;rintro e w1 ⟨rfl,hb1⟩;rw[ha];have HB1:Hid (Below w.heap.size w w1):=HB0.out.trans (hb1.mono HB0.out.size);obtain⟨c0,c1,c2,c3⟩:=lnk_cells (HC.later hb1);simp only[Nat.zero_add] at c0 c1 c2 c3;clear hb1 HC
 go_wp2_with fail
 refine (isSpot_any S x2 x3 _).mono ?_;rintro e w2 ⟨rfl,hb2⟩;rw[hb];have HB2:Hid (Below w.heap.size w w2):=HB1.out.trans (hb2.mono HB1.out.size);clear hb2;go_wp2;go_ret;exact⟨rfl,HB2.out⟩
theorem lay_any (S x0 x1 x2 x3:Int)(B:Nat)(M:List ((Int×Int)×Int))(U:List (Int×Int))(w:World)(hM:MAt spotKey veI w B M)(hT:TK sq M U)(hU:U.length≤1000):
 Calls Tryz.prog 80 #[.int .i64 S,.map (some B),.agg #[.int .i64 x0,.int .i64 x1,.int .i64 x2,.int .i64 x3]] w fun e w'=>e=.returned (noV (lk1 S U ((x0,x1),(x2,x3))))∧LayQ w w' B (lk1 S U ((x0,x1),(x2,x3))) (U++[(x0,x1),(x2,x3)]):=by
 cases h:(spB S (x0,x1)&&spB S (x2,x3))
 ·refine (lay_bad S x0 x1 x2 x3 B w h).mono ?_;rintro e w' ⟨rfl,hb⟩;have e1:lk1 S U ((x0,x1),(x2,x3))=1:=by simp only[lk1,h,Bool.false_eq_true,if_false]
  rw[e1];exact⟨rfl,M,hM.later hb,fun e=>absurd e (by decide),But.of_below hb⟩
 simp only[Bool.and_eq_true] at h;exact lay_ok S x0 x1 x2 x3 B M U w hM hT hU h.1 h.2 _ rfl
def byE:Enc (UInt8) where
 c:=fun x=>[.int .u8 (x.toNat:Int)]
 n:=1
 len:=fun _=>rfl
 pos:=by decide
 one:=by
  intro x u hu;simp at hu;subst hu;rfl
theorem by_at {w:World}{g o:Nat}{L:List (UInt8)}(h:GAt byE w g o L){n k:Nat}(hn:L.length=n)(hk:k<n):∃(x:UInt8) (hl:k<L.length),L[k]=x∧w.cell? ⟨g,o+k,none⟩=some (.int .u8 (x.toNat:Int)):=by
 have hl:k<L.length:=by omega
 have:=h k hl 0 _ rfl;refine⟨_,hl,rfl,?_⟩;have e:o+k*byE.n+0=o+k:=by show o+k*1+0=o+k;omega
 rw[e] at this;exact this
def byAsks (w:World)(f:FuncId)(P:UInt8→Bool):Prop:=
 ∀(x:UInt8) (W:World),Below w.heap.size w W→Calls Tryz.prog f #[.int .u8 (x.toNat:Int)] W fun e w'=>e=.returned (.bool (P x))∧Below W.heap.size W w'
theorem byAsks.later {w w':World}{f:FuncId}{P:UInt8→Bool}(h:byAsks w f P)(hb:Below w.heap.size w w'):byAsks w' f P:=
 fun x W hW=>h x W (hb.trans (hW.mono hb.size))
theorem by_idxF (ao:Option Addr)(n cap:Nat)(f:FuncId)(P:UInt8→Bool)(L:List (UInt8))(w:World)(hn:L.length=n)(hn2:n≤maxLen)(ha:0<n→∃g o,ao=some ⟨g,o,none⟩∧GAt byE w g o L∧cap≤maxLen)(he:∀args w,(callFunc f args).run Tryz.prog w=.ok (.enter f args) w)(hf:byAsks w f P):
 Calls Tryz.prog 164 #[.slice ao n cap,.func (Fn.func f) #[] #[]] w fun e w'=>e=.returned (.int .i64 (ixG P L))∧Below w.heap.size w w':=by
 have HN:Hid (L.length=n):=hn;have HF:Hid (byAsks w f P):=hf;have HA:Hid (0<n→∃g o,ao=some ⟨g,o,none⟩∧GAt byE w g o L∧cap≤maxLen):=ha;unfold maxLen at hn2;clear hn hf ha;go_enter Tryz.func164,Tryz.ntmps164;go_wp2
 go_loopw [8] (fun i wr=>∃k:Nat,k≤n∧i=.int .i64 k∧(L.take k).any P=false∧Below w.heap.size w wr)
  (fun i _=>n-(intOf i).toNat)
 case atStart=>exact⟨0,by omega,rfl,by simp,Below.refl _ _⟩
 case round =>
  obtain⟨k,hk,rfl,hno,hB⟩:=hrel;have HB:Hid (Below w.heap.size w wr):=hB;have HNO:Hid ((L.take k).any P=false):=hno;clear hno;by_cases hlt:k<n
  ·obtain⟨g,o,hao,hc,_⟩:=HA.out (by omega);subst hao;obtain⟨x,hkl,hL,q0⟩:=by_at (hc.later hB) HN.out hlt;have HL:Hid (L[k]=x):=hL;clear hL hB;cases ho:P x
   ·go_wp2_with fail
    refine (HF.out x _ HB.out).mono ?_;rintro e w1 ⟨rfl,hb1⟩;rw[ho];have HB1:=HB.out.trans (hb1.mono HB.out.size);clear hb1;go_wp2;go_roundw
    case rel=>exact⟨k+1,by omega,by go_num,any_nextG hkl HNO.out (by rw[HL.out];exact ho),HB1⟩
    case measure=>simp[intOf];omega
   go_wp2_with fail
   refine (HF.out x _ HB.out).mono ?_;rintro e w1 ⟨rfl,hb1⟩;rw[ho];go_wp2;go_ret;exact⟨by rw[ixG_hit hkl HNO.out (by rw[HL.out];exact ho)];rfl,HB.out.trans (hb1.mono HB.out.size)⟩
  obtain rfl:k=n:=by omega
  go_wp2;go_ret;exact⟨by have:=HNO.out;rw[←HN.out,List.take_length] at this;rw[ixG_no this];rfl,HB.out⟩
theorem by_hasF (ao:Option Addr)(n cap:Nat)(f:FuncId)(P:UInt8→Bool)(L:List (UInt8))(w:World)(hn:L.length=n)(hn2:n≤maxLen)(ha:0<n→∃g o,ao=some ⟨g,o,none⟩∧GAt byE w g o L∧cap≤maxLen)(he:∀args w,(callFunc f args).run Tryz.prog w=.ok (.enter f args) w)(hf:byAsks w f P):
 Calls Tryz.prog 155 #[.slice ao n cap,.func (Fn.func f) #[] #[]] w fun e w'=>e=.returned (.bool (L.any P))∧Below w.heap.size w w':=by
 rw[←ixG_any];obtain⟨x,hx⟩:∃x,x=ixG P L:=⟨_,rfl⟩;have HX:Hid (x=ixG P L):=hx;rw[←hx];clear hx;go_enter Tryz.func155,Tryz.ntmps155
 go_wp2_with fail
 refine (by_idxF ao n cap f P L _ hn hn2 ha he hf).mono ?_;rintro e w1 ⟨rfl,hb1⟩;rw[←HX.out];go_wp2;go_ret;exact⟨rfl,hb1⟩
def noL (b:UInt8):Bool:=decide ((b.toNat:Int)<97) || decide ((122:Int)<(b.toNat:Int))
theorem isName1_any (b:UInt8)(w:World):Calls Tryz.prog 156 #[.int .u8 (b.toNat:Int)] w fun e w'=>e=.returned (.bool (noL b))∧Below w.heap.size w w':=by
 have hn:noL b=(decide ((b.toNat:Int)<97) || decide ((122:Int)<(b.toNat:Int))):=rfl
 generalize (b.toNat:Int)=x at *
 rw[hn];clear hn;by_cases h:x<97
 ·have e:(decide (x<97) || decide (122<x))=true:=by simp[h]
  rw[e];go_enter Tryz.func156,Tryz.ntmps156;go_wp2;go_ret;exact⟨rfl,Below.refl _ _⟩
 have e:(decide (x<97) || decide (122<x))=decide (122<x):=by simp[h]
 rw[e];go_enter Tryz.func156,Tryz.ntmps156;go_wp2;go_ret;exact⟨rfl,Below.refl _ _⟩
theorem isName1_asks (w:World):byAsks w 156 noL:=fun x W _=>isName1_any x W
theorem bytes_conv (s:ByteArray)(w:World):∃cap w1,(convert 9 163 (.string s)).run Tryz.prog w=.ok (.slice (some ⟨w.heap.size,0,none⟩) s.size cap) w1∧Below w.heap.size w w1∧GAt byE w1 w.heap.size 0 s.data.toList∧(s.size≤maxLen→cap≤maxLen):=by
 refine⟨_,_,run_bytes_of_string w _ _ 5 s Tryz.underlying9 Tryz.underlying163 Tryz.underlying5,?_,?_,fun h=>grownCap_le_maxLen w _ _ _ h⟩
 ·exact (Below.drew (Below.refl _ _)).alloc (Nat.le_refl _) _
 intro i hi j u hu;have hj:j=0:=by
  have:=(List.getElem?_eq_some_iff.1 hu).1;have e:(byE.c s.data.toList[i]).length=1:=rfl;omega
 subst hj;have hu2:u=.int .u8 (s.data.toList[i].toNat:Int):=by
  have:some (Value.int .u8 (s.data.toList[i].toNat:Int))=some u:=hu;exact (Option.some.inj this).symm
 subst hu2;have hi2:i<s.data.size:=by simpa using hi
 have e:0+i*byE.n+0=i:=by show 0+i*1+0=i;omega
 rw[e];simp only[World.cell?,World.alloc,World.drew];simp[bytesRow];rw[Array.getElem?_append_left (by simpa using hi2),Array.getElem?_map,Array.getElem?_eq_getElem hi2];rfl
theorem nm_eq {s:ByteArray}(h1:1≤s.size)(h6:s.size≤6):nmB s = !(s.data.toList.any noL):=by
 have e:nmB s=(s.data.toList.all fun c=>decide (97≤c.toNat)&&decide (c.toNat≤122)):=by simp[nmB,h1,h6]
 rw[e,List.not_any_eq_all_not]
 congr 1
 funext c
 rw[Bool.eq_iff_iff];simp[noL];omega
theorem name_ok (s:ByteArray)(w:World)(h1:1≤s.size)(h6:s.size≤6):
 Calls Tryz.prog 128 #[.string s] w fun e w'=>e=.returned (.bool (nmB s))∧Below w.heap.size w w':=by
 have hs1:¬((s.size:Int)<1):=by omega
 have hs6:¬((6:Int)<(s.size:Int)):=by omega
 obtain⟨cap,w1,hcv,hb1,hG,hcap⟩:=bytes_conv s w;have HCAP:Hid (s.size≤maxLen→cap≤maxLen):=hcap;have HB1:Hid (Below w.heap.size w w1):=hb1;have HG:Hid (GAt byE w1 w.heap.size 0 s.data.toList):=hG;have HE:Hid (nmB s = !(s.data.toList.any noL)):=nm_eq h1 h6;rw[HE.out];obtain⟨r,hr⟩:∃r,r=s.data.toList.any noL:=⟨_,rfl⟩;have HR:Hid (r=s.data.toList.any noL):=hr;rw[←hr];clear hr hb1 hG HE hcap;obtain⟨n,hn⟩:∃n,n=s.size:=⟨_,rfl⟩;have HN:Hid (n=s.size):=hn;rw[←hn] at hcv hs1 hs6 h1 h6;clear hn;have hsz:s.size=n:=HN.out.symm;go_enter Tryz.func128,Tryz.ntmps128
 go_wp2_with fail
 refine (by_hasF _ n cap _ noL s.data.toList _ (by rw[HN.out];simp) (by unfold maxLen;omega) (fun _=>⟨_,_,rfl,HG.out,HCAP.out (by rw[←HN.out];unfold maxLen;omega)⟩) (enters_of Tryz.func156 (by kernel_rfl) rfl) (isName1_asks _)).mono ?_;rintro e w2 ⟨rfl,hb2⟩;rw[←HR.out];have HB2:Hid (Below w.heap.size w w2):=HB1.out.trans (hb2.mono HB1.out.size);clear hb2;go_wp2;go_ret;exact⟨rfl,HB2.out⟩
theorem name_bad (s:ByteArray)(w:World)(h:s.size<1∨6<s.size):
 Calls Tryz.prog 128 #[.string s] w fun e w'=>e=.returned (.bool false)∧Below w.heap.size w w':=by
 obtain⟨n,hn⟩:∃n,n=s.size:=⟨_,rfl⟩;have hsz:s.size=n:=hn.symm;rw[hsz] at h;clear hn;by_cases h1:(n:Int)<1
 ·go_enter Tryz.func128,Tryz.ntmps128;go_wp2;go_ret;exact⟨rfl,Below.refl _ _⟩
 have h6:(6:Int)<(n:Int):=by omega
 clear h;go_enter Tryz.func128,Tryz.ntmps128;go_wp2;go_ret;exact⟨rfl,Below.refl _ _⟩
theorem name_any (s:ByteArray)(w:World):
 Calls Tryz.prog 128 #[.string s] w fun e w'=>e=.returned (.bool (nmB s))∧Below w.heap.size w w':=by
 by_cases h:1≤s.size∧s.size≤6
 ·exact name_ok s w h.1 h.2
 have e:nmB s=false:=by
  unfold nmB;by_cases h1:1≤s.size
  ·have:¬s.size≤6:=fun h2=>h ⟨h1,h2⟩
   simp[this]
  simp[h1]
 rw[e];exact name_bad s w (by omega)
def SetQ (w w':World)(B C:Nat)(N:Int)(V:List (Int×Int))(Z:List ByteArray):Prop:=∃M' R',MAt spotKey veI w' B M'∧MAt strKey veI w' C R'∧(N=0→TK sq M' V∧TK (fun a b=>a==b) R' Z)∧But [B,C] w w'
theorem settle_ok (S:Int)(n:ByteArray)(x0 x1:Int)(B C:Nat)(hBC:B≠C)(M:List ((Int×Int)×Int))(R:List (ByteArray×Int))(U:List (Int×Int))(Z:List ByteArray)(w:World)(hM:MAt spotKey veI w B M)(hR:MAt strKey veI w C R)(hT:TK sq M U)(hZ:TK (fun a b=>a==b) R Z)(hU:U.length≤1000)(hZl:Z.length≤1000)
 (ha:nmB n=true) (hb:spB S (x0,x1)=true) (N:Int) (hN:N=ho1 S Z U (n,(x0,x1))):
 Calls Tryz.prog 81 #[.int .i64 S,.map (some B),.map (some C),.agg #[.string n,.int .i64 x0,.int .i64 x1]] w fun e w'=>e=.returned (noV N)∧SetQ w w' B C N (U++[(x0,x1)]) (Z++[n]):=by
 have hltB:=hM.lt;have hltC:=hR.lt;have HN:Hid (N=ho1 S Z U (n,(x0,x1))):=hN;have HB0:Hid (Below w.heap.size w (w.alloc (Obj.cells #[Value.string n,.int .i64 x0,.int .i64 x1] 41))):=(Below.refl _ _).alloc (Nat.le_refl _) _;have HC:=hst_new w n x0 x1 41;have HM0:Hid (MAt spotKey veI w B M):=hM;have HR0:Hid (MAt strKey veI w C R):=hR;have HT:Hid (TK sq M U):=hT;have HZ:Hid (TK (fun a b=>a==b) R Z):=hZ;have hneB:¬w.heap.size=B:=by omega
 have hneC:¬w.heap.size=C:=by omega
 clear hM hR hT hZ hN;go_enter Tryz.func81,Tryz.ntmps81
 go_wp2_with fail
 refine (name_any n _).mono ?_;rintro e w1 ⟨rfl,hb1⟩;rw[ha];have HB1:Hid (Below w.heap.size w w1):=HB0.out.trans (hb1.mono HB0.out.size);have HC1:=HC.later hb1;obtain⟨c0,c1,c2⟩:=hst_cells HC1;simp only[Nat.zero_add] at c0 c1 c2;clear hb1
 go_wp2_with fail
 refine (isSpot_any S x0 x1 _).mono ?_;rintro e w2 ⟨rfl,hb2⟩;rw[hb];have HB2:Hid (Below w.heap.size w w2):=HB1.out.trans (hb2.mono HB1.out.size);have d0:=cell_later hb2 c0;have d1:=cell_later hb2 c1;have d2:=cell_later hb2 c2;have HM2:Hid (MAt spotKey veI w2 B M):=(HM0.out.later HB2.out);have HR2:Hid (MAt strKey veI w2 C R):=(HR0.out.later HB2.out);clear hb2 HC1 HC c0 c1 c2 HB1 HB0;go_upto_region 5 with fail;obtain⟨cA,hcA⟩:∃cA:Int,cA=(ctM (fun a b=>a==b) n Z:Int):=⟨_,rfl⟩;have HcA:Hid (cA=(ctM (fun a b=>a==b) n Z:Int)):=hcA;have hcw:IntKind.i64.wrap (cA+1)=cA+1:=by
  have h1:=ct_le (q:=fun a b:ByteArray=>a==b) n Z;exact wrap_small (by omega) (by omega)
 clear hcA
 go_cut [] from 20 to 24 (fun w'=>∃R1,MAt strKey veI w' C R1∧TK (fun a b=>a==b) R1 (Z++[n])∧But [C] w2 w')
 case first =>
  obtain⟨w3,hup,hR3,hg3⟩:=run_update_M HR2.out 159 3 Tryz.underlying159 n (cA+1);have hTK3:Hid (TK (fun a b=>a==b) (mput (fun a b=>a==b) n (cA+1) R) (Z++[n])):=by
   show TK _ _ _;rw[HcA.out];exact tk_put ba_iff HZ.out _
  have HR3:Hid (MAt strKey veI w3 C (mput (fun a b=>a==b) n (cA+1) R)):=hR3;have HBt:Hid (But [C] w2 w3):=But.of_grown hg3 (by simp);have hl2:(Instr.lookup 159 (.map (some C)) (.string n) false).run Tryz.prog w2=.ok (.int .i64 cA) w2:=by
   rw[HcA.out];exact run_lookup_TK HR2.out HZ.out 159 3 Tryz.underlying159 (fun w=>by kernel_rfl) n
  have h3:(Instr.mapUpdate 159 (.map (some C)) (.string n) (.int .i64 (cA+1))).run Tryz.prog w2=.ok () w3:=hup;clear hup hR3 hg3;go_wp2
  go_meet
  case rel=>exact⟨_,HR3.out,hTK3.out,HBt.out⟩
 case rest =>
  obtain⟨R1,hR1,hZ1,hBt1⟩:=hcut;obtain⟨w5,hw5⟩:∃x,x=wc:=⟨_,rfl⟩;subst hw5;have hl2:w.heap.size<w2.heap.size:=World.block_lt_of_cell? _ _ d0;have hnC:w.heap.size ∉ [C]:=by simp[hneC]
  have e0:=(hBt1.cell (p:=⟨w.heap.size,0,none⟩) hl2 hnC).trans d0;have e1:=(hBt1.cell (p:=⟨w.heap.size,1,none⟩) hl2 hnC).trans d1;have e2:=(hBt1.cell (p:=⟨w.heap.size,2,none⟩) hl2 hnC).trans d2;have HM5:Hid (MAt spotKey veI w5 B M):=HM2.out.but hBt1 (by simp[hBC]);have HR5:Hid (MAt strKey veI w5 C R1):=hR1;have HZ5:Hid (TK (fun a b=>a==b) R1 (Z++[n])):=hZ1;have HBt5:Hid (But [B,C] w w5):=(But.of_below (HB2.out)).trans (hBt1.mono (by simp));clear hR1 hZ1 hBt1 d0 d1 d2 HM2 HR2 hcw HcA hnC hl2;obtain⟨cB,hcB⟩:∃cB:Int,cB=(ctM sq (x0,x1) U:Int):=⟨_,rfl⟩;have HcB:Hid (cB=(ctM sq (x0,x1) U:Int)):=hcB;have hcw:IntKind.i64.wrap (cB+1)=cB+1:=by
   have h1:=ct_le (q:=sq) (x0,x1) U;exact wrap_small (by omega) (by omega)
  clear hcB;go_upto_region 6 with fail
  go_cut [] from 25 to 31 (fun w'=>∃M2,MAt spotKey veI w' B M2∧TK sq M2 (U++[(x0,x1)])∧But [B] w5 w')
  case first =>
   have hMd:MAt spotKey veI w5.drew B M:=HM5.out;obtain⟨v0,st,w3,hE,hg3,hM3,hS3⟩:=run_entry_M hMd 157 3 Tryz.underlying157 0 (fun w=>by kernel_rfl) (x0,x1);obtain⟨w4,hSt,hM4,hg4⟩:=hS3 w3 (cB+1) rfl;have hTK4:Hid (TK sq (mput sq (x0,x1) (cB+1) M) (U++[(x0,x1)])):=by
    show TK _ _ _;rw[HcB.out];exact tk_put sq_iff HT.out _
   have HM4:Hid (MAt spotKey veI w4 B (mput sq (x0,x1) (cB+1) M)):=hM4;have HBt:Hid (But [B] w5 w4):=((But.refl [B] w5).drew.trans (But.of_grown hg3 (by simp))).trans (But.of_grown hg4 (by simp));have hl2:(Instr.lookup 157 (.map (some B)) (.agg #[.int .i64 x0,.int .i64 x1]) false).run Tryz.prog w5.drew=.ok (.int .i64 cB) w5.drew:=by
    rw[HcB.out];exact run_lookup_TK hMd HT.out 157 3 Tryz.underlying157 (fun w=>by kernel_rfl) (x0,x1)
   have hl3:(Instr.lookup 157 (.map (some B)) (.agg #[.int .i64 x0,.int .i64 x1]) false).run Tryz.prog w3=.ok (.int .i64 cB) w3:=by
    have h:=run_lookup_M hM3 157 3 Tryz.underlying157 (.int .i64 0) (fun w=>by kernel_rfl) (x0,x1) false;have e:mget spotKey.q (x0,x1) (mput spotKey.q (x0,x1) ((mget spotKey.q (x0,x1) M).getD 0) M)=some cB:=by
     rw[mget_put spotKey.qeq,if_pos ((spotKey.qeq _ _).2 rfl),HcB.out];exact congrArg some (HT.out (x0,x1))
    rw[e] at h;exact h
   have h1:(Instr.mapEntry 157 (.map (some B)) (.agg #[.int .i64 x0,.int .i64 x1])).run Tryz.prog w5.drew=.ok (.tuple #[v0,.int .i64 (st:Int)]) w3:=hE;have h3:(Instr.entryStore 157 (.map (some B)) (.int .i64 (st:Int)) (.int .i64 (cB+1))).run Tryz.prog w3=.ok () w4:=hSt;clear hE hS3 hSt hM3 hM4 hg3 hg4 hMd
   go_region
   go_wp2_with fail
   go_meet
   case rel=>exact⟨_,HM4.out,hTK4.out,HBt.out⟩
  case rest =>
   obtain⟨M2,hM2,hT2,hBt2⟩:=hcut;have hnB:w.heap.size ∉ [B]:=by simp[hneB]
   have hl2:w.heap.size<w5.heap.size:=World.block_lt_of_cell? _ _ e0;have f0:=(hBt2.cell (p:=⟨w.heap.size,0,none⟩) hl2 hnB).trans e0;have f1:=(hBt2.cell (p:=⟨w.heap.size,1,none⟩) hl2 hnB).trans e1;have f2:=(hBt2.cell (p:=⟨w.heap.size,2,none⟩) hl2 hnB).trans e2;have hR6:MAt strKey veI wc C R1:=HR5.out.but hBt2 (by simp[Ne.symm hBC]);have HM6:Hid (MAt spotKey veI wc B M2):=hM2;have HR6:Hid (MAt strKey veI wc C R1):=hR6;have HT6:Hid (TK sq M2 (U++[(x0,x1)])):=hT2;have HBt6:Hid (But [B,C] w wc):=HBt5.out.trans (hBt2.mono (by simp));obtain⟨pA,hpA⟩:∃p:Int,p=(ctM (fun a b=>a==b) n (Z++[n]):Int):=⟨_,rfl⟩;obtain⟨pB,hpB⟩:∃p:Int,p=(ctM sq (x0,x1) (U++[(x0,x1)]):Int):=⟨_,rfl⟩;have hlA:(Instr.lookup 159 (.map (some C)) (.string n) false).run Tryz.prog wc=.ok (.int .i64 pA) wc:=by
    rw[hpA];exact run_lookup_TK hR6 HZ5.out 159 3 Tryz.underlying159 (fun w=>by kernel_rfl) n
   have hlB:(Instr.lookup 157 (.map (some B)) (.agg #[.int .i64 x0,.int .i64 x1]) false).run Tryz.prog wc=.ok (.int .i64 pB) wc:=by
    rw[hpB];exact run_lookup_TK hM2 hT2 157 3 Tryz.underlying157 (fun w=>by kernel_rfl) (x0,x1)
   have HL:Hid (N=if (decide ((1:Int)<pA) || decide ((1:Int)<pB))=true then 7 else 0):=by
    show _=_;have e1:(U.any fun u=>sq u (x0,x1))=(U.any fun u=>u==(x0,x1)):=by
     congr 1
    rw[HN.out,hpA,hpB,ct_host ba_iff,ct_host sq_iff,ho1,e1];simp only[ha,hb,if_true]
   clear hM2 hT2 hR6 hBt2 e0 e1 e2 hnB hl2 hcw HcB HM5 HR5 HBt5 hpA hpB ha hb;by_cases h1:1<pA
   ·have e7:N=7:=by rw[HL.out];simp[h1]
    subst e7;go_wp2;go_ret;exact⟨rfl,M2,R1,HM6.out,HR6.out,fun e=>absurd e (by decide),HBt6.out⟩
   by_cases h2:1<pB
   ·have e7:N=7:=by rw[HL.out];simp[h2]
    subst e7;go_wp2;go_ret;exact⟨rfl,M2,R1,HM6.out,HR6.out,fun e=>absurd e (by decide),HBt6.out⟩
   have e7:N=0:=by rw[HL.out];simp[h1,h2]
   subst e7;go_wp2;go_ret;exact⟨rfl,M2,R1,HM6.out,HR6.out,fun _=>⟨HT6.out,HZ5.out⟩,HBt6.out⟩
theorem settle_bad (S:Int)(n:ByteArray)(x0 x1:Int)(B C:Nat)(N:Int)(w:World)(h:(nmB n=false∧N=2)∨(nmB n=true∧spB S (x0,x1)=false∧N=1)):
 Calls Tryz.prog 81 #[.int .i64 S,.map (some B),.map (some C),.agg #[.string n,.int .i64 x0,.int .i64 x1]] w fun e w'=>e=.returned (.iface 85 (.int .i64 N))∧Below w.heap.size w w':=by
 have HB0:Hid (Below w.heap.size w (w.alloc (Obj.cells #[Value.string n,.int .i64 x0,.int .i64 x1] 41))):=(Below.refl _ _).alloc (Nat.le_refl _) _;have HC:=hst_new w n x0 x1 41
 rcases h with ⟨ha,rfl⟩ | ⟨ha,hb,rfl⟩
 ·go_enter Tryz.func81,Tryz.ntmps81
  go_wp2_with fail
  refine (name_any n _).mono ?_;rintro e w1 ⟨rfl,hb1⟩;rw[ha];have HB1:Hid (Below w.heap.size w w1):=HB0.out.trans (hb1.mono HB0.out.size);clear hb1 HC;go_wp2;go_ret;exact⟨rfl,HB1.out⟩
 go_enter Tryz.func81,Tryz.ntmps81
 go_wp2_with fail
 refine (name_any n _).mono ?_;rintro e w1 ⟨rfl,hb1⟩;rw[ha];have HB1:Hid (Below w.heap.size w w1):=HB0.out.trans (hb1.mono HB0.out.size);obtain⟨c0,c1,c2⟩:=hst_cells (HC.later hb1);simp only[Nat.zero_add] at c0 c1 c2;clear hb1 HC
 go_wp2_with fail
 refine (isSpot_any S x0 x1 _).mono ?_;rintro e w2 ⟨rfl,hb2⟩;rw[hb];have HB2:Hid (Below w.heap.size w w2):=HB1.out.trans (hb2.mono HB1.out.size);clear hb2;go_wp2;go_ret;exact⟨rfl,HB2.out⟩
theorem settle_any (S:Int)(n:ByteArray)(x0 x1:Int)(B C:Nat)(hBC:B≠C)(M:List ((Int×Int)×Int))(R:List (ByteArray×Int))(U:List (Int×Int))(Z:List ByteArray)(w:World)(hM:MAt spotKey veI w B M)(hR:MAt strKey veI w C R)(hT:TK sq M U)(hZ:TK (fun a b=>a==b) R Z)(hU:U.length≤1000)(hZl:Z.length≤1000):
 Calls Tryz.prog 81 #[.int .i64 S,.map (some B),.map (some C),.agg #[.string n,.int .i64 x0,.int .i64 x1]] w fun e w'=>e=.returned (noV (ho1 S Z U (n,(x0,x1))))∧SetQ w w' B C (ho1 S Z U (n,(x0,x1))) (U++[(x0,x1)]) (Z++[n]):=by
 cases ha:nmB n
 ·have e1:ho1 S Z U (n,(x0,x1))=2:=by simp only[ho1,ha,Bool.false_eq_true,if_false]
  rw[e1];refine (settle_bad S n x0 x1 B C 2 w (.inl ⟨ha,rfl⟩)).mono ?_;rintro e w' ⟨rfl,hb⟩;exact⟨rfl,M,R,hM.later hb,hR.later hb,fun e=>absurd e (by decide),But.of_below hb⟩
 cases hb:spB S (x0,x1)
 ·have e1:ho1 S Z U (n,(x0,x1))=1:=by simp only[ho1,ha,hb,Bool.false_eq_true,if_false,if_true]
  rw[e1];refine (settle_bad S n x0 x1 B C 1 w (.inr ⟨ha,hb,rfl⟩)).mono ?_;rintro e w' ⟨rfl,hb⟩;exact⟨rfl,M,R,hM.later hb,hR.later hb,fun e=>absurd e (by decide),But.of_below hb⟩
 exact settle_ok S n x0 x1 B C hBC M R U Z w hM hR hT hZ hU hZl ha hb _ rfl
end
end Go.Proofs.YtglnnoglbieaeaaGreatDoor
