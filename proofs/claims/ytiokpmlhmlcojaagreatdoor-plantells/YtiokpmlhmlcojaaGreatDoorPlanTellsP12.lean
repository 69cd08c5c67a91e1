/- Contracts and facts on the way to PlanTells, joined into one text: PlanMath3, SlWish, BrokenBox, MixBroken, MixSeenMath, MixSafe, PlanTask, WishBroken, WishHolds. -/
import Derived.Test.YtiokpmlhmlcojaaGreatDoorPlanTellsP11
namespace Go.Proofs.YtiokpmlhmlcojaaGreatDoor
set_option linter.unusedSimpArgs false
set_option linter.unusedVariables false
set_option maxHeartbeats 16000000
set_option maxRecDepth 100000
section
open Go.RowKit
def lsTo (s:Nat):Nat→List Int
 | 0=>[]
 | k+1=>lsTo s k++(if inS s (k+1)=true then [((k+1:Nat):Int)] else [])
def lsS (s:Nat):List Int:=lsTo s 6
theorem ls_mem (s:Nat)(x:Int):∀k,x∈lsTo s k↔∃a:Nat,1≤a∧a≤k∧x=(a:Int)∧inS s a=true
 | 0=>by simp[lsTo];omega
 | k+1=>by
   rw[lsTo,List.mem_append,ls_mem s x k];constructor
   ·rintro (⟨a,h1,h2,h3,h4⟩ | h)
    ·exact⟨a,h1,by omega,h3,h4⟩
    by_cases e:inS s (k+1)=true
    ·rw[if_pos e,List.mem_singleton] at h;exact⟨k+1,by omega,Nat.le_refl _,h,e⟩
    rw[if_neg e] at h;cases h
   rintro⟨a,h1,h2,h3,h4⟩;by_cases e:a=k+1
   ·subst e;rw[if_pos h4];exact .inr (List.mem_singleton.2 h3)
   exact .inl ⟨a,h1,by omega,h3,h4⟩
theorem ls_ris (s:Nat):∀k,Ris ltI (lsTo s k)∧∀x∈lsTo s k,x≤(k:Int)
 | 0=>⟨List.Pairwise.nil,fun x h=>by cases h⟩
 | k+1=>by
   obtain⟨h1,h2⟩:=ls_ris s k;rw[lsTo];by_cases e:inS s (k+1)=true
   ·rw[if_pos e];refine⟨List.pairwise_append.2 ⟨h1,List.pairwise_singleton _ _,fun a ha b hb=>?_⟩,fun x hx=>?_⟩
    ·rw[List.mem_singleton] at hb;have:=h2 a ha;subst hb;exact decide_eq_true (by omega)
    rcases List.mem_append.1 hx with h | h
    ·have:=h2 x h;omega
    rw[List.mem_singleton] at h;omega
   rw[if_neg e,List.append_nil];exact⟨h1,fun x hx=>by have:=h2 x hx;omega⟩
theorem ls_len (s:Nat):∀k,(lsTo s k).length≤k
 | 0=>Nat.le_refl _
 | k+1=>by
   have:=ls_len s k;rw[lsTo,List.length_append];by_cases e:inS s (k+1)=true
   ·rw[if_pos e];simp;omega
   rw[if_neg e];simp;omega
def alS (D:List Op8):Nat:=D.foldl (fun s o=>s ||| onS o.w.toNat) 0
theorem al_next {l:List Op8}{k:Nat}(hk:k<l.length):alS (l.take (k+1))=alS (l.take k) ||| onS l[k].w.toNat:=by
 rw[List.take_succ_eq_append_getElem hk,alS,alS,List.foldl_append];rfl
theorem al_in:∀(D:List Op8) (s:Nat),(∀o∈D,1≤o.w∧o.w≤6)→s<64→(D.foldl (fun s o=>s ||| onS o.w.toNat) s)<64∧∀a,1≤a→a≤6→(inS (D.foldl (fun s o=>s ||| onS o.w.toNat) s) a=true↔inS s a=true∨∃o∈D,o.w=(a:Int))
 | [],s,_,hs=>⟨hs,fun a _ _=>by simp⟩
 | o :: D,s,h,hs=>by
   have ho:=h o (List.mem_cons_self ..);obtain⟨i1,i2⟩:=al_in D (s ||| onS o.w.toNat) (fun x hx=>h x (List.mem_cons_of_mem _ hx)) (or_lt hs (on_lt (by omega)));refine⟨i1,fun a h1 h2=>?_⟩;rw[List.foldl_cons,i2 a h1 h2,in_or,in_on h2 (by omega)];constructor
   ·rintro (k | ⟨x,k1,k2⟩)
    ·rcases Bool.or_eq_true_iff.1 k with k | k
     ·exact .inl k
     exact .inr ⟨o,List.mem_cons_self ..,by have:=of_decide_eq_true k;omega⟩
    exact .inr ⟨x,List.mem_cons_of_mem _ k1,k2⟩
   rintro (k | ⟨x,k1,k2⟩)
   ·exact .inl (by rw[k];rfl)
   rcases List.mem_cons.1 k1 with e | e
   ·subst e;exact .inl (by rw[decide_eq_true (show a=x.w.toNat by omega)];simp)
   exact .inr ⟨x,e,k2⟩
theorem al_lt {D:List Op8}(h:∀o∈D,1≤o.w∧o.w≤6):alS D<64:=(al_in D 0 h (by decide)).1
theorem al_mem {D:List Op8}(h:∀o∈D,1≤o.w∧o.w≤6){a:Nat}(h1:1≤a)(h2:a≤6):inS (alS D) a=true↔∃o∈D,o.w=(a:Int):=by
 rw[alS,(al_in D 0 h (by decide)).2 a h1 h2,in_0];simp
theorem tc_ls {D:List Op8}(h:∀o∈D,1≤o.w∧o.w≤6):tcL D=lsS (alS D):=by
 refine ris_ext lo_ltI (tc_ris D [] List.Pairwise.nil) (ls_ris _ 6).1 fun x=>?_
 rw[lsS,ls_mem,tcL,tc_mem];constructor
 ·rintro (h0 | ⟨o,ho,e⟩)
  ·cases h0
  have:=h o ho;exact⟨o.w.toNat,by omega,by omega,by omega,(al_mem h (by omega) (by omega)).2 ⟨o,ho,by omega⟩⟩
 rintro⟨a,h1,h2,h3,h4⟩;obtain⟨o,ho,e⟩:=(al_mem h h1 h2).1 h4;exact .inr ⟨o,ho,by omega⟩
section
variable (sf:Nat→Nat→Bool)(done:Nat)
def dcA (x:Nat×List Int×List Int)(a:Int):Nat×List Int×List Int:=if sf done (x.1 ||| onS a.toNat)=true then (x.1 ||| onS a.toNat,x.2.1++[a],x.2.2) else (x.1,x.2.1,x.2.2++[a])
def dcL (l:List Int):Nat×List Int×List Int:=l.foldl (dcA sf done) (0,[],[])
theorem dc_next {l:List Int}{k:Nat}(hk:k<l.length):dcL sf done (l.take (k+1))=dcA sf done (dcL sf done (l.take k)) l[k]:=by
 rw[List.take_succ_eq_append_getElem hk,dcL,dcL,List.foldl_append];rfl
theorem ls_same {s t:Nat}:∀k,(∀a,1≤a→a≤k→inS s a=inS t a)→lsTo s k=lsTo t k
 | 0,_=>rfl
 | k+1,h=>by rw[lsTo,lsTo,ls_same k (fun a h1 h2=>h a h1 (by omega)),h (k+1) (by omega) (Nat.le_refl _)]
theorem dc_ls (all:Nat):∀k,k≤6→dcL sf done (lsTo (mnS all done) k)=(fiS sf all done k,lsTo (fiS sf all done k) k,lsTo (mnS (mnS all done) (fiS sf all done k)) k)
 | 0,_=>rfl
 | k+1,hk=>by
   have ih:=dc_ls all k (by omega);have hin:inS (fiS sf all done k) (k+1)=false:=by
    cases e:inS (fiS sf all done k) (k+1)
    ·rfl
    have:=(fi_in sf all done k (by omega) (k+1) (by omega) hk e).2;omega
   rw[lsTo];by_cases h:inS (mnS all done) (k+1)=true
   ·rw[if_pos h,dcL,List.foldl_append];rw[dcL] at ih;rw[ih];show dcA sf done _ _=_;rw[dcA,fiS];simp only[h,Bool.true_and];rw[show (((k+1:Nat):Int)).toNat=k+1 by omega];by_cases c:sf done (fiS sf all done k ||| onS (k+1))=true
    ·have e1:∀a,1≤a→a≤k→inS (fiS sf all done k ||| onS (k+1)) a=inS (fiS sf all done k) a:=fun a h1 h2=>by
      rw[in_or,in_on (by omega) hk,decide_eq_false (by omega),Bool.or_false]
     have e2:inS (fiS sf all done k ||| onS (k+1)) (k+1)=true:=by rw[in_or,in_on hk hk];simp
     rw[if_pos c,if_pos c,lsTo,lsTo,if_pos e2,ls_same k e1,in_mn (by omega) hk,e2];simp only[Bool.not_true,Bool.and_false];rw[if_neg (by decide),List.append_nil,ls_same k (s:=mnS (mnS all done) (fiS sf all done k ||| onS (k+1))) (t:=mnS (mnS all done) (fiS sf all done k)) fun a h1 h2=>by
      have e3:∀t,inS (mnS (mnS all done) t) a=(inS (mnS all done) a && !inS t a):=fun t=>in_mn h1 (by omega)
      rw[e3,e3,e1 a h1 h2]]
    rw[if_neg c,if_neg c,lsTo,lsTo,in_mn (by omega) hk,h,hin];simp
   rw[if_neg h,List.append_nil,ih,fiS];simp only[Bool.not_eq_true] at h;simp only[h,Bool.false_and];rw[if_neg (by decide),lsTo,lsTo,hin,in_mn (by omega) hk,h];simp
end
theorem mn_mn {all done s:Nat}(ha:all<64):mnS (mnS all done) s=mnS all (done ||| s):=set_ext (mn_lt (mn_lt ha)) (mn_lt ha) fun a h1 h2=>by
 rw[in_mn h1 h2,in_mn h1 h2,in_mn h1 h2,in_or];cases inS all a <;> cases inS done a <;> cases inS s a <;> rfl
theorem ls_0 {s:Nat}(hs:s<64):(lsS s).length=0↔s=0:=by
 constructor
 ·intro h;have h0:=List.length_eq_zero_iff.1 h;refine set_0 hs fun a h1 h2=>?_
  cases e:inS s a
  ·rfl
  have:((a:Nat):Int)∈lsS s:=(ls_mem s _ 6).2 ⟨a,h1,h2,rfl,e⟩;rw[h0] at this;cases this
 intro h;subst h;rfl
theorem ls_has {s a:Nat}(h1:1≤a)(h2:a≤6):(lsS s).contains ((a:Nat):Int)=inS s a:=by
 rw[Bool.eq_iff_iff,List.contains_iff_mem,lsS,ls_mem];constructor
 ·rintro⟨b,k1,k2,k3,k4⟩;rw[show a=b by omega];exact k4
 intro h;exact⟨a,h1,h2,rfl,h⟩
theorem dc_in {sf:Nat→Nat→Bool}{done:Nat}:∀(l:List Int) (x:Nat×List Int×List Int),(∀a∈l,1≤a∧a≤6)→(∀a:Nat,1≤a→a≤6→x.2.1.contains (a:Int)=inS x.1 a)→∀a:Nat,1≤a→a≤6→(l.foldl (dcA sf done) x).2.1.contains (a:Int)=inS (l.foldl (dcA sf done) x).1 a
 | [],x,_,h=>h
 | b :: l,x,hl,h=>by
   have hb:=hl b (List.mem_cons_self ..);refine dc_in l _ (fun a ha=>hl a (List.mem_cons_of_mem _ ha)) fun a h1 h2=>?_
   rw[dcA];by_cases c:sf done (x.1 ||| onS b.toNat)=true
   ·rw[if_pos c];show (x.2.1++[b]).contains (a:Int)=inS (x.1 ||| onS b.toNat) a;rw[in_or,in_on h2 (by omega),←h a h1 h2,Bool.eq_iff_iff];simp only[List.contains_iff_mem,List.mem_append,List.mem_singleton,Bool.or_eq_true,decide_eq_true_eq];refine or_congr Iff.rfl ⟨fun e=>by omega,fun e=>by omega⟩
   rw[if_neg c];exact h a h1 h2
def wisAsks (w:World)(f:FuncId)(c:Value)(P:Wi→Bool):Prop:=
 ∀(x0:Int) (x1:ByteArray) (x2:ByteArray) (x3:Int) (W:World),Below w.heap.size w W→Calls Tryz.prog f #[.agg #[.int .i64 x0,.string x1,.string x2,.int .i64 x3],c] W fun e w'=>e=.returned (.bool (P ⟨x0,x1,x2,x3⟩))∧Below W.heap.size W w'
theorem wisAsks.later {w w':World}{f:FuncId}{c:Value}{P:Wi→Bool}(h:wisAsks w f c P)(hb:Below w.heap.size w w'):wisAsks w' f c P:=
 fun x0 x1 x2 x3 W hW=>h x0 x1 x2 x3 W (hb.trans (hW.mono hb.size))
theorem wis_idxF (ao:Option Addr)(n cap:Nat)(f:FuncId)(c:Value)(P:Wi→Bool)(L:List (Wi))(w:World)(hn:L.length=n)(hn2:n≤maxLen)(ha:0<n→∃g o,ao=some ⟨g,o,none⟩∧GAt wisE w g o L∧cap≤maxLen)(he:∀args w,(callFunc f args).run Tryz.prog w=.ok (.enter f args) w)(hf:wisAsks w f c P):
 Calls Tryz.prog 132 #[.slice ao n cap,.func (Fn.func f) #[] #[c]] w fun e w'=>e=.returned (.int .i64 (ixG P L))∧Below w.heap.size w w':=by
 have HN:Hid (L.length=n):=hn;have HF:Hid (wisAsks w f c P):=hf;have HA:Hid (0<n→∃g o,ao=some ⟨g,o,none⟩∧GAt wisE w g o L∧cap≤maxLen):=ha;unfold maxLen at hn2;clear hn hf ha;go_enter Tryz.func132,Tryz.ntmps132;go_wp2
 go_loopw [8] (fun i wr=>∃k:Nat,k≤n∧i=.int .i64 k∧(L.take k).any P=false∧Below w.heap.size w wr)
  (fun i _=>n-(intOf i).toNat)
 case atStart=>exact⟨0,by omega,rfl,by simp,Below.refl _ _⟩
 case round =>
  obtain⟨k,hk,rfl,hno,hB⟩:=hrel;have HB:Hid (Below w.heap.size w wr):=hB;have HNO:Hid ((L.take k).any P=false):=hno;clear hno;by_cases hlt:k<n
  ·obtain⟨g,o,hao,hc,_⟩:=HA.out (by omega);subst hao;obtain⟨x0,x1,x2,x3,hkl,hL,q0,q1,q2,q3⟩:=wis_at (hc.later hB) HN.out hlt;have HL:Hid (L[k]=⟨x0,x1,x2,x3⟩):=hL;clear hL hB;cases ho:P ⟨x0,x1,x2,x3⟩
   ·go_wp2_with fail
    refine (HF.out x0 x1 x2 x3 _ HB.out).mono ?_;rintro e w1 ⟨rfl,hb1⟩;rw[ho];have HB1:=HB.out.trans (hb1.mono HB.out.size);clear hb1;go_wp2;go_roundw
    case rel=>exact⟨k+1,by omega,by go_num,any_nextG hkl HNO.out (by rw[HL.out];exact ho),HB1⟩
    case measure=>simp[intOf];omega
   go_wp2_with fail
   refine (HF.out x0 x1 x2 x3 _ HB.out).mono ?_;rintro e w1 ⟨rfl,hb1⟩;rw[ho];go_wp2;go_ret;exact⟨by rw[ixG_hit hkl HNO.out (by rw[HL.out];exact ho)];rfl,HB.out.trans (hb1.mono HB.out.size)⟩
  obtain rfl:k=n:=by omega
  go_wp2;go_ret;exact⟨by have:=HNO.out;rw[←HN.out,List.take_length] at this;rw[ixG_no this];rfl,HB.out⟩
theorem wis_hasF (ao:Option Addr)(n cap:Nat)(f:FuncId)(c:Value)(P:Wi→Bool)(L:List (Wi))(w:World)(hn:L.length=n)(hn2:n≤maxLen)(ha:0<n→∃g o,ao=some ⟨g,o,none⟩∧GAt wisE w g o L∧cap≤maxLen)(he:∀args w,(callFunc f args).run Tryz.prog w=.ok (.enter f args) w)(hf:wisAsks w f c P):
 Calls Tryz.prog 91 #[.slice ao n cap,.func (Fn.func f) #[] #[c]] w fun e w'=>e=.returned (.bool (L.any P))∧Below w.heap.size w w':=by
 rw[←ixG_any];obtain⟨x,hx⟩:∃x,x=ixG P L:=⟨_,rfl⟩;have HX:Hid (x=ixG P L):=hx;rw[←hx];clear hx;go_enter Tryz.func91,Tryz.ntmps91
 go_wp2_with fail
 refine (wis_idxF ao n cap f c P L _ hn hn2 ha he hf).mono ?_;rintro e w1 ⟨rfl,hb1⟩;rw[←HX.out];go_wp2;go_ret;exact⟨rfl,hb1⟩
def HsBox (W:World)(g:Nat)(m:ByteArray)(x y:Int):Prop:=W.cell? ⟨g,0,none⟩=some (.string m)∧W.cell? ⟨g,1,none⟩=some (.int .i64 x)∧W.cell? ⟨g,2,none⟩=some (.int .i64 y)
theorem HsBox.later {W W':World}{g:Nat}{m:ByteArray}{x y:Int}(h:HsBox W g m x y)(hb:Below W.heap.size W W'):HsBox W' g m x y:=
 ⟨cell_later hb h.1,cell_later hb h.2.1,cell_later hb h.2.2⟩
theorem hsbox_new (w:World)(m:ByteArray)(x y:Int)(T:TypeId):HsBox (w.alloc (Obj.cells #[.string m,.int .i64 x,.int .i64 y] T)) w.heap.size m x y:=by
 refine⟨?_,?_,?_⟩ <;> simp
structure PrBox (w W:World)(g:Nat)(a:Int)(b:ByteArray)(c:Int):Prop where
 c0:W.cell? ⟨g,0,none⟩=some (.int .i64 a)
 c1:W.cell? ⟨g,1,none⟩=some (.string b)
 c2:W.cell? ⟨g,2,none⟩=some (.int .i64 c)
 f:∀i,W.frozen? ⟨g,i,none⟩=false
theorem prbox_new (w u:World)(a:Int)(b:ByteArray)(c:Int):PrBox u (w.alloc (Obj.cells #[.int .i64 a,.string b,.int .i64 c] 43)) w.heap.size a b c:=by
 refine⟨?_,?_,?_,fun i=>?_⟩ <;> simp
theorem PrBox.lt {u W:World}{g:Nat}{a:Int}{b:ByteArray}{c:Int}(h:PrBox u W g a b c):g<W.heap.size:=bLQ W ⟨g,0,none⟩ h.c0
theorem PrBox.later {u W W':World}{g:Nat}{a:Int}{b:ByteArray}{c:Int}(h:PrBox u W g a b c)(hb:Below W.heap.size W W'):PrBox u W' g a b c:=
 ⟨cell_later hb h.c0,cell_later hb h.c1,cell_later hb h.c2,fun i=>(hb.frozen (p:=⟨g,i,none⟩) h.lt).trans (h.f i)⟩
theorem PrBox.put {u W:World}{g:Nat}{a:Int}{b:ByteArray}{c:Int}(h:PrBox u W g a b c)(a':Int)(b':ByteArray)(c':Int):PrBox u (put3 W g (.int .i64 a') (.string b') (.int .i64 c')) g a' b' c':=by
 obtain⟨x,y,z⟩:=put3_cells (a:=.int .i64 a') (b:=.string b') (c:=.int .i64 c') ⟨h.c0,h.c1,h.c2⟩;refine⟨x,y,z,fun i=>?_⟩;unfold put3;rw[World.frozen?_setCell,World.frozen?_setCell,World.frozen?_setCell];exact h.f i
theorem PrBox.other {u W:World}{g g':Nat}{a:Int}{b:ByteArray}{c:Int}(h:PrBox u W g a b c)(hg:g≠g')(a' b' c':Value):PrBox u (put3 W g' a' b' c') g a b c:=by
 have o:∀(W:World) (i j:Nat) (x:Value),(W.setCell ⟨g',i,none⟩ x).cell? ⟨g,j,none⟩=W.cell? ⟨g,j,none⟩:=fun W i j x=>World.cell?_setCell_other _ _ _ _ (by intro e;exact hg (by injection e with e1;exact e1.symm))
 unfold put3;refine⟨?_,?_,?_,fun i=>?_⟩
 ·rw[o,o,o];exact h.c0
 ·rw[o,o,o];exact h.c1
 ·rw[o,o,o];exact h.c2
 rw[World.frozen?_setCell,World.frozen?_setCell,World.frozen?_setCell];exact h.f i
structure Rbx (w W:World)(p:Int×ByteArray×Int):Prop where
 below:Below w.heap.size w W
 r:PrBox w W w.heap.size 0 ⟨#[]⟩ 0
 p:PrBox w W (w.heap.size+1) p.1 p.2.1 p.2.2
theorem Rbx.later {w W W':World}{p:Int×ByteArray×Int}(h:Rbx w W p)(hb:Below W.heap.size W W'):Rbx w W' p:=⟨h.below.trans (hb.mono h.below.size),h.r.later hb,h.p.later hb⟩
theorem Rbx.put {w W:World}{p:Int×ByteArray×Int}(h:Rbx w W p)(q:Int×ByteArray×Int):Rbx w (put3 W (w.heap.size+1) (.int .i64 q.1) (.string q.2.1) (.int .i64 q.2.2)) q:=⟨below_put3 h.below _ (by omega) _ _ _,h.r.other (by omega) _ _ _,h.p.put _ _ _⟩
theorem rbx_new (w:World):Rbx w ((w.alloc (Obj.cells #[.int .i64 0,.string ⟨#[]⟩,.int .i64 0] 43)).alloc (Obj.cells #[.int .i64 0,.string ⟨#[]⟩,.int .i64 0] 43)) (0,ByteArray.empty,0):=by
 have e1:(w.alloc (Obj.cells #[.int .i64 0,.string ⟨#[]⟩,.int .i64 0] 43)).heap.size=w.heap.size+1:=by simp
 have hb:∀(W:World) (o:Obj),Below W.heap.size W (W.alloc o):=fun W o=>(Below.refl _ _).alloc (Nat.le_refl _) _
 have h2:=prbox_new (w.alloc (Obj.cells #[.int .i64 0,.string ⟨#[]⟩,.int .i64 0] 43)) w 0 ⟨#[]⟩ 0;rw[e1] at h2;exact⟨((Below.refl _ w).alloc (Nat.le_refl _) _).alloc (by rw[e1];omega) _,(prbox_new w w 0 ⟨#[]⟩ 0).later (hb _ _),h2⟩
theorem first1_any (k:Int)(f t:ByteArray)(v:Int)(g:Nat)(m:ByteArray)(x y:Int)(w:World)(h2:HsBox w g m x y):
 Calls Tryz.prog 92 #[.agg #[.int .i64 k,.string f,.string t,.int .i64 v],.pointer (some ⟨g,0,none⟩)] w fun e w'=>e=.returned (.bool (abW ⟨k,f,t,v⟩ m))∧Below w.heap.size w w':=by
 have hb0:Below w.heap.size w (w.alloc (Obj.cells #[.int .i64 k,.string f,.string t,.int .i64 v] 80)):=(Below.refl _ _).alloc (Nat.le_refl _) _;have hx0:=wibox_new w k f t v 80;have hs0:=h2.later hb0;obtain⟨w0,hw0⟩:∃W,w.alloc (Obj.cells #[.int .i64 k,.string f,.string t,.int .i64 v] 80)=W:=⟨_,rfl⟩;rw[hw0] at hb0 hx0 hs0;have HW0:Hid (w.alloc (Obj.cells #[.int .i64 k,.string f,.string t,.int .i64 v] 80)=w0):=hw0;have HB0:Hid (Below w.heap.size w w0):=hb0;obtain⟨x0,x1,x2,x3⟩:=hx0;obtain⟨s0,s1,s2⟩:=hs0;obtain⟨R,hR⟩:∃R,R=abW ⟨k,f,t,v⟩ m:=⟨_,rfl⟩;have HR:Hid (abW ⟨k,f,t,v⟩ m=R):=hR.symm;rw[←hR];clear hb0 h2 hw0 hR;go_enter Tryz.func92,Tryz.ntmps92;go_upto_region 1 with fail;rw[HW0.out];clear HW0
 go_wp2_with fail
 refine (isAbout_any k f t v m _).mono ?_;rintro e w1 ⟨rfl,hb1⟩;rw[HR.out];go_wp2;go_ret;exact⟨rfl,HB0.out.trans (hb1.mono HB0.out.size)⟩
def FcAsks (w:World)(g:Nat)(Hs:HoQ)(Fs:Nat→Nat→List Ft):Prop:=
 ∀ (z:Nat) (hz:z<Hs.length) (h:Nat),h<16→∀W:World,Below w.heap.size w W→Calls Tryz.prog 64 #[.agg #[.string Hs[z].1,.int .i64 Hs[z].2.1,.int .i64 Hs[z].2.2],.int .i64 h,.pointer (some ⟨g,0,none⟩)] W fun e W' =>
   ∃gi lb,e=.returned (.func (Fn.func gi) #[] lb)∧(∀args w,(callFunc gi args).run Tryz.prog w=.ok (.enter gi args) w)∧ItF Tryz.prog gi lb FtV W'.heap.size (Fs z h) W'∧Below W.heap.size W W'
theorem fbrk_any (g:Nat)(ao2:Option Addr)(n2 cap2:Nat)(a4:Option Addr)(n4 c4:Nat)(Hs:HoQ)(Fs:Nat→Nat→List Ft)(l:List Wi)(w:World)
 (hH:GS hstE w (.slice ao2 n2 cap2) Hs) (hl:GS wisE w (.slice a4 n4 c4) l) (hnm:∀h∈Hs,h.1.size≤1000000) (hfc:FcAsks w g Hs Fs):
 Calls Tryz.prog 59 #[.slice ao2 n2 cap2,.slice a4 n4 c4,.func (Fn.func 64) #[] #[.pointer (some ⟨g,0,none⟩)]] w fun e w'=>∃held p,e=.returned (.tuple #[.agg #[.int .i64 p.1,.string p.2.1,.int .i64 p.2.2],.bool (decide (held<l.length))])∧Fb l Hs Fs Hs.length 0 held p∧Below w.heap.size w w':=by
 have hX:=rbx_new w;obtain⟨w0,hw0⟩:∃W,(w.alloc (Obj.cells #[.int .i64 0,.string ⟨#[]⟩,.int .i64 0] 43)).alloc (Obj.cells #[.int .i64 0,.string ⟨#[]⟩,.int .i64 0] 43)=W:=⟨_,rfl⟩;rw[hw0] at hX;have HW0:Hid ((w.alloc (Obj.cells #[.int .i64 0,.string ⟨#[]⟩,.int .i64 0] 43)).alloc (Obj.cells #[.int .i64 0,.string ⟨#[]⟩,.int .i64 0] 43)=w0):=hw0;have HX:Hid (Rbx w w0 (0,ByteArray.empty,0)):=hX;have HLW:Hid (∀W,Below w.heap.size w W→GS wisE W (.slice a4 n4 c4) l):=fun W hb=>hl.later hb
 have HFC:Hid (FcAsks w g Hs Fs):=hfc;have HNM:Hid (∀h∈Hs,h.1.size≤1000000):=hnm;obtain⟨_,_,_,e5,hGn,hGm,hGc,hGa⟩:=hl.form;cases e5;obtain⟨_,_,_,e6,hHn,hHm,_,hHa⟩:=hH.form;cases e6;have HGN:Hid (l.length=n4):=hGn;have HCAP:Hid (n4≤c4):=hGc;have HHN:Hid (Hs.length=n2):=hHn;have HHA:Hid (0<n2→∃g o,ao2=some ⟨g,o,none⟩∧GAt hstE w g o Hs∧cap2≤maxLen):=hHa;have hn4:n4≤maxLen:=hGm;have hn2:n2≤maxLen:=hHm;unfold maxLen at hn4 hn2;have HF0:Hid (Fb l Hs Fs 0 0 n4 (0,ByteArray.empty,0)):=by
  have h:=fb_0 (l:=l) (Hs:=Hs) (Fs:=Fs);rw[hGn] at h;exact h
 clear hX hw0 hl hH hfc hnm hGn hGm hGc hGa hHn hHm hHa;go_enter Tryz.func59,Tryz.ntmps59;go_upto_region 2 with fail;rw[HW0.out];clear HW0;go_wp2
 go_loopw [9,18] (fun hv i wr=>∃(z hd:Nat) (p:Int×ByteArray×Int),z≤n2∧hv=.int .i64 hd∧i=.int .i64 z∧Fb l Hs Fs z 0 hd p∧Rbx w wr p) (fun _ i _=>n2-(intOf i).toNat)
 case atStart=>exact⟨0,n4,(0,ByteArray.empty,0),by omega,rfl,rfl,HF0.out,HX.out⟩
 case round =>
  obtain⟨z,hd,p,hz,rfl,rfl,hF,hR⟩:=hrel;have HF:Hid (Fb l Hs Fs z 0 hd p):=hF;have HR:Hid (Rbx w wr p):=hR;have hdle:hd≤n4:=by rw[←HGN.out];exact hF.le
  clear hF hR;by_cases hlt:z<n2
  ·obtain⟨g2,o2,hao2,hc2,_⟩:=HHA.out (by omega);subst hao2;obtain⟨z0,z1,z2,hzl,hZk,p0,p1,p2⟩:=hst_at (hc2.later HR.out.below) HHN.out hlt;have HZK:Hid (Hs[z]=(z0,(z1,z2))):=hZk;have HZD:Hid (Hs.getD z zeO=(z0,(z1,z2))):=by
    show _=_;rw[getO hzl,hZk]
   have HSZ:Hid (z0.size≤1000000):=by
    have:=HNM.out Hs[z] (List.getElem_mem hzl);rw[hZk] at this;exact this
   have hba:Below wr.heap.size wr (wr.alloc (Obj.cells #[Value.string z0,.int .i64 z1,.int .i64 z2] 77)):=(Below.refl _ _).alloc (Nat.le_refl _) _;have hhb:=hsbox_new wr z0 z1 z2 77;have hR2:=HR.out.later hba;obtain⟨w2,hw2⟩:∃W,wr.alloc (Obj.cells #[Value.string z0,.int .i64 z1,.int .i64 z2] 77)=W:=⟨_,rfl⟩;obtain⟨gh,hgh⟩:∃q,q=wr.heap.size:=⟨_,rfl⟩;rw[hw2] at hhb hR2;rw[←hgh] at hhb;have HW2:Hid (wr.alloc (Obj.cells #[Value.string z0,.int .i64 z1,.int .i64 z2] 77)=w2):=hw2;have HGH:Hid (wr.heap.size=gh):=hgh.symm;have HHB:Hid (HsBox w2 gh z0 z1 z2):=hhb;have HR2:Hid (Rbx w w2 p):=hR2;have HLG:Hid (w.heap.size+1<gh):=by
    show _<_;rw[hgh];exact HR.out.p.lt
   clear hc2 hZk hba hhb hR2 hw2 hgh HR;go_upto_region 6 with fail;rw[HW2.out,HGH.out];clear HW2 HGH p0 p1 p2;go_wp2
   go_loopw [9,22] (fun hv i wr=>∃(h hd:Nat) (p:Int×ByteArray×Int),h≤16∧hv=.int .i64 hd∧i=.int .i64 h∧Fb l Hs Fs z h hd p∧Rbx w wr p∧HsBox wr gh z0 z1 z2) (fun _ i _=>16-(intOf i).toNat)
   case atStart=>exact⟨0,hd,p,by omega,rfl,rfl,HF.out,HR2.out,HHB.out⟩
   case round =>
    clear HF HR2 HHB hdle;obtain⟨h,hd,p,hh,rfl,rfl,hF,hR,hS⟩:=hrel;have HF:Hid (Fb l Hs Fs z h hd p):=hF;have HR:Hid (Rbx w wr p):=hR;have HS:Hid (HsBox wr gh z0 z1 z2):=hS;have hdle:hd≤n4:=by rw[←HGN.out];exact hF.le
    clear hF hR hS;by_cases hlt16:h<16
    ·have HGT:Hid (∀W,Below wr.heap.size wr W→GS wisE W (.slice a4 hd c4) (l.take hd)):=fun W hb=>(HLW.out W (HR.out.below.trans (hb.mono HR.out.below.size))).take hdle
     obtain⟨_,_,_,e7,hTn,hTm,_,hTa⟩:=(HGT.out wr (Below.refl _ _)).form;cases e7;have HTN:Hid ((l.take hd).length=hd):=hTn;have HTM:Hid (hd≤maxLen):=hTm;have HTA:Hid (0<hd→∃g o,a4=some ⟨g,o,none⟩∧GAt wisE wr g o (l.take hd)∧c4≤maxLen):=hTa;have HASK:Hid (wisAsks wr 92 (.pointer (some ⟨gh,0,none⟩)) (fun u=>abW u z0)):=fun y0 y1 y2 y3 W hb=>first1_any y0 y1 y2 y3 gh z0 z1 z2 W (HS.out.later hb)
     obtain⟨c,hc⟩:∃c,c=(l.take hd).any (fun u=>abW u z0):=⟨_,rfl⟩;have HC:Hid ((l.take hd).any (fun u=>abW u z0)=c):=hc.symm;obtain⟨s0,s1,s2⟩:=HS.out;have hcap:=HCAP.out;have nb0:(0:Int)≤(hd:Int):=by omega
     have nb1:(hd:Int)≤(c4:Int):=by omega
     have nb2:(hd:Int)≤(n4:Int):=by omega
     clear hc hTn hTm hTa
     go_wp2_with fail
     refine (wis_hasF a4 hd c4 _ _ (fun u=>abW u z0) (l.take hd) _ HTN.out HTM.out HTA.out (enters_of Tryz.func92 (by kernel_rfl) rfl) HASK.out).mono ?_;rintro e w3 ⟨rfl,hb3⟩;rw[HC.out];have HR3:Hid (Rbx w w3 p):=HR.out.later hb3;have HS3:Hid (HsBox w3 gh z0 z1 z2):=HS.out.later hb3;have HGT3:Hid (∀W,Below w3.heap.size w3 W→GS wisE W (.slice a4 hd c4) (l.take hd)):=fun W hb=>HGT.out W (hb3.trans (hb.mono hb3.size))
     clear hb3 s0 s1 s2 HTN HTM HTA HASK HGT HR HS;cases c with
     | false =>
       have HFO:Hid (Fb l Hs Fs (z+1) 0 hd p):=HF.out.off (by rw[HZD.out];exact HC.out);go_wp2;go_roundw
       case rel=>exact⟨z+1,hd,p,by omega,rfl,by go_num,HFO.out,HR3.out⟩
       case measure=>simp[intOf];omega
     | true =>
       obtain⟨N,hN⟩:∃N,N=hwN (l.take hd) z0 (Fs z h):=⟨_,rfl⟩;have HN:Hid (hwN (l.take hd) z0 (Fs z h)=N):=hN.symm;have HFCW:Hid (∀W,Below w3.heap.size w3 W→Calls Tryz.prog 64 #[.agg #[.string z0,.int .i64 z1,.int .i64 z2],.int .i64 h,.pointer (some ⟨g,0,none⟩)] W fun e W' =>
        ∃gi lb,e=.returned (.func (Fn.func gi) #[] lb)∧(∀args w,(callFunc gi args).run Tryz.prog w=.ok (.enter gi args) w)∧ItF Tryz.prog gi lb FtV W'.heap.size (Fs z h) W'∧Below W.heap.size W W'):=fun W hb=>by
        have h:=HFC.out z hzl h hlt16 W (HR3.out.below.trans (hb.mono HR3.out.below.size));rw[HZK.out] at h;exact h
       have HHOL:Hid (∀(gi:Nat) (lb:Array Value) (W:World),(∀args w,(callFunc gi args).run Tryz.prog w=.ok (.enter gi args) w)→ItF Tryz.prog gi lb FtV W.heap.size (Fs z h) W→Below w3.heap.size w3 W→Calls Tryz.prog 94 #[.slice a4 hd c4,.string z0,.func (Fn.func gi) #[] lb] W fun e W'=>e=.returned (.int .i64 N)∧Below W.heap.size W W'):=fun gi lb W eg hit hb=>by
        rw[hN];exact holding_any a4 hd c4 (l.take hd) z0 gi lb (Fs z h) W.heap.size W (HGT3.out W hb) eg hit (Nat.le_refl _)
       have HSW:Hid (∀W,Below w3.heap.size w3 W→W.cell? ⟨gh,0,none⟩=some (.string z0)∧W.cell? ⟨gh,1,none⟩=some (.int .i64 z1)∧W.cell? ⟨gh,2,none⟩=some (.int .i64 z2)):=fun W hb=>HS3.out.later hb
       obtain⟨s0,s1,s2⟩:=HS3.out;clear hN;go_upto_region 10 with fail
       go_cut [13] from 23 to 51 (fun v w'=>v=.int .i64 N∧Below w3.heap.size w3 w')
       case first =>
        go_region_held3 (fun W=>W.cell? ⟨gh,0,none⟩=some (.string z0)∧W.cell? ⟨gh,1,none⟩=some (.int .i64 z1)∧W.cell? ⟨gh,2,none⟩=some (.int .i64 z2))
         (first | (with_reducible assumption) | (with_reducible exact HSW.out _ (Below.drew (Below.refl _ _))) | (with_reducible exact HSW.out _ HBX.out) | (with_reducible exact HSW.out _ HBY.out))
         (first
          | (go_at_call 64;refine (HFCW.out _ (Below.drew (Below.refl _ _))).mono ?_;rintro e w' ⟨gi,lb,rfl,eg,hit,hb⟩;have HBX:Hid (Below w3.heap.size w3 w'):=bdrew hb;have HEG:Hid (∀args w,(callFunc gi args).run Tryz.prog w=.ok (.enter gi args) w):=eg;have HIT:Hid (ItF Tryz.prog gi lb FtV w'.heap.size (Fs z h) w'):=hit;clear hb eg hit)
          | (go_at_call 94;refine (HHOL.out _ _ _ HEG.out HIT.out HBX.out).mono ?_;rintro e w'' ⟨rfl,hb⟩;have HBY:Hid (Below w3.heap.size w3 w''):=HBX.out.trans (hb.mono HBX.out.size);clear hb))
        all_goals (go_wp2_with fail;go_meet)
        all_goals exact⟨rfl,HBY.out⟩
       case rest =>
        obtain⟨rfl,hbw⟩:=hcut;have HR4:Hid (Rbx w wc p):=HR3.out.later hbw;have HS4:Hid (HsBox wc gh z0 z1 z2):=HS3.out.later hbw;clear hbw HR3 HS3 HGT3 HFCW HHOL HSW s0 s1 s2;obtain⟨s0,s1,s2⟩:=HS4.out;by_cases hNl:N<hd
        ·have HFL:Hid (Fb l Hs Fs z (h+1) N ((N:Int),z0,(h:Int))):=by
          have:=HF.out.less hlt16 hzl (by rw[HZD.out];exact HN.out) hNl;rw[HZD.out] at this;exact this
         have dN:decide ((N:Int)<(hd:Int))=true:=by simp;omega
         go_wp2_with fail
         refine (clone_any z0 _ HSZ.out).mono ?_;rintro e w6 ⟨rfl,hb6⟩;have HR6:Hid (Rbx w w6 p):=HR4.out.later hb6;have HS6:Hid (HsBox w6 gh z0 z1 z2):=HS4.out.later hb6;obtain⟨r0,r1,r2,rf⟩:=HR6.out.p;have f0:=rf 0;have f1:=rf 1;have f2:=rf 2;have HSP:Hid (∀a b c,HsBox (put3 w6 (w.heap.size+1) a b c) gh z0 z1 z2):=fun a b c=>by
          have o:∀(W:World) (i j:Nat) (x:Value),(W.setCell ⟨w.heap.size+1,i,none⟩ x).cell? ⟨gh,j,none⟩=W.cell? ⟨gh,j,none⟩:=fun W i j x=>World.cell?_setCell_other _ _ _ _ (by intro e;injection e with e1;have:=HLG.out;omega)
          unfold put3;obtain⟨x0,x1,x2⟩:=HS6.out;exact⟨by rw[o,o,o];exact x0,by rw[o,o,o];exact x1,by rw[o,o,o];exact x2⟩
         clear hb6 rf s0 s1 s2 hNl;go_wp2;go_roundw
         case rel=>exact⟨h+1,N,((N:Int),z0,(h:Int)),by omega,rfl,by go_num,HFL.out,HR6.out.put ((N:Int),z0,(h:Int)),HSP.out _ _ _⟩
         case measure=>simp[intOf];omega
        have HFS:Hid (Fb l Hs Fs z (h+1) hd p):=HF.out.same (by rw[HZD.out,HN.out];exact hNl);have dN:decide ((N:Int)<(hd:Int))=false:=by simp;omega
        have hNl2:hd≤N:=by omega
        go_wp2;go_roundw
        case rel=>exact⟨h+1,hd,p,by omega,rfl,by go_num,HFS.out,HR4.out,HS4.out⟩
        case measure=>simp[intOf];omega
    obtain rfl:h=16:=by omega
    have HFO:Hid (Fb l Hs Fs (z+1) 0 hd p):=HF.out.host;go_wp2;go_roundw
    case rel=>exact⟨z+1,hd,p,by omega,rfl,by go_num,HFO.out,HR.out⟩
    case measure=>simp[intOf];omega
  obtain rfl:z=n2:=by omega
  obtain⟨P1,P2,P3⟩:=p;obtain⟨q0,q1,q2,_⟩:=HR.out.p;obtain⟨r0,r1,r2,rf⟩:=HR.out.r;have f0:=rf 0;have f1:=rf 1;have f2:=rf 2;have HB:Hid (Below w.heap.size w wr):=HR.out.below;have HFE:Hid (Fb l Hs Fs Hs.length 0 hd (P1,P2,P3)):=by
   have h:=HF.out;rw[←HHN.out] at h;exact h
  dsimp only at q0 q1 q2
  clear rf;go_wp2;refine bodyPost_ret (v:=.tuple #[.agg #[.int .i64 P1,.string P2,.int .i64 P3],.bool (decide ((hd:Int)<(n4:Int)))]) (by simp[results,Tryz.results59,go_sem, *]) rfl ⟨hd,(P1,P2,P3),?_,HFE.out,below_put3 HB.out _ (Nat.le_refl _) _ _ _⟩;rw[show decide (hd<l.length)=decide ((hd:Int)<(n4:Int)) by rw[HGN.out];simp]
section
variable {S:Int}{Ls:LkQ}{Hs:HoQ}{Ts:List (List Ru)}{l:List Op8}{m:ByteArray}{h:Int}
theorem cg_nt (h0:cgN S Ls Hs Ts l=0):ntN S Ls Hs Ts=0∧caN S Ts l=0:=by
 unfold cgN at h0;by_cases e:ntN S Ls Hs Ts=0
 ·rw[if_pos e] at h0;by_cases e2:200<l.length
  ·rw[if_pos e2] at h0;cases h0
  rw[if_neg e2] at h0;exact⟨e,h0⟩
 rw[if_neg e] at h0;exact absurd h0 e
theorem ta_ok {Us:List (List Ru)}(hn:∀k,k<Us.length→tbN (Us.getD k [])=0)(s:Int):tbN (taT Us s)=0:=by
 unfold taT;by_cases hk:(s-1).toNat<Us.length
 ·exact hn _ hk
 rw[List.getD_eq_getElem?_getD,List.getElem?_eq_none (by omega)];rfl
theorem cg_ok (h0:cgN S Ls Hs Ts l=0):tpN S Ls Hs=0∧(Ts.length:Int)=S∧(∀s,tbN (taT Ts s)=0)∧∀s,tbN (taT (caT Ts l) s)=0:=by
 obtain⟨h1,h2⟩:=cg_nt h0;obtain⟨a1,a2,a3⟩:=nt_0 h1;obtain⟨_,_,b3⟩:=nt_0 (nt_ca h1 h2);exact⟨a1,a2,ta_ok a3,ta_ok b3⟩
end
end
section
open Go.RowKit Go.Shelf
theorem nm_sml {a:ByteArray}(h:nmB a=true):a.size≤6:=by
 simp only[nmB,Bool.and_eq_true,decide_eq_true_eq] at h;exact h.2.1
def SfR (S:Int)(Ls:LkQ)(Hs:HoQ)(Ts:List (List Ru))(o:List Op8)(l:List Wi)(N:Int)(p:Int×ByteArray×Int):Prop:=
 (cgN S Ls Hs Ts o≠0∧N=cgN S Ls Hs Ts o∧p=(0,ByteArray.empty,0))∨(cgN S Ls Hs Ts o=0∧wsN S Ls Hs l≠0∧N=wsN S Ls Hs l∧p=(0,ByteArray.empty,0)) ∨
 (cgN S Ls Hs Ts o=0∧wsN S Ls Hs l=0∧∃held,Fb l Hs (fun z h=>pwS Ls Hs Ts (caT Ts o) (Hs.getD z zeO).2 (h:Int)) Hs.length 0 held p∧N=if held<l.length then 9 else 0)
theorem safe1_any (m:ByteArray)(x y h:Int)(g:Nat)(p7:Option Addr)(j7 e7:Nat)(p8:Option Addr)(j8 e8 n3:Nat)(Ls:LkQ)(Hs:HoQ)(As Bs:List (List Ru))(w:World)
 (c0:w.cell? ⟨g,0,none⟩=some (.slice p7 j7 e7)) (c1:w.cell? ⟨g,1,none⟩=some (.slice p8 j8 e8)) (ho:LGs w 0 (.slice p7 j7 e7) (lgF Ls Hs As) n3) (hy:LGs w 0 (.slice p8 j8 e8) (lgF Ls Hs Bs) n3) (hm:n3≤6) (ht:tpN (n3:Int) Ls Hs=0) (hsp:spB (n3:Int) (x,y)=true) (hhd:hdrB h=true):
 Calls Tryz.prog 64 #[.agg #[.string m,.int .i64 x,.int .i64 y],.int .i64 h,.pointer (some ⟨g,0,none⟩)] w fun e w'=>∃gi lb,e=.returned (.func (Fn.func gi) #[] lb)∧(∀args w,(callFunc gi args).run Tryz.prog w=.ok (.enter gi args) w)∧ItF Tryz.prog gi lb FtV w'.heap.size (pwS Ls Hs As Bs (x,y) h) w'∧Below w.heap.size w w':=by
 have hb0:Below w.heap.size w (w.alloc (Obj.cells #[.string m,.int .i64 x,.int .i64 y] 77)):=(Below.refl _ _).alloc (Nat.le_refl _) _;have HIT:=fates_it (.slice p7 j7 e7) (.slice p8 j8 e8) n3 Ls Hs As Bs x y h (w.alloc (Obj.cells #[.string m,.int .i64 x,.int .i64 y] 77)) hm ht (ho.later hb0) (hy.later hb0) hsp hhd;have HB0:Hid (Below w.heap.size w (w.alloc (Obj.cells #[.string m,.int .i64 x,.int .i64 y] 77))):=hb0;have hg:g<w.heap.size:=bLQ _ _ c0;have ng:g≠w.heap.size:=by omega
 clear ho hy hb0;go_enter Tryz.func64,Tryz.ntmps64
 go_wp2_with fail
 refine HIT.mono ?_;rintro e w1 ⟨gi,lb,rfl,h1,h2,h3⟩;go_wp2;go_ret;exact⟨gi,lb,rfl,h1,h2,HB0.out.trans (h3.mono HB0.out.size)⟩
structure HmBox (w W:World)(S:Int)(v1 v2 v3:Value):Prop where
 below:Below w.heap.size w W
 n:NeBox W w.heap.size S v1 v2 v3
 p:PrBox w W (w.heap.size+1) 0 ⟨#[]⟩ 0
theorem hmbox_new (w:World)(S:Int)(v1 v2 v3:Value):HmBox w ((w.alloc (Obj.cells #[.int .i64 S,v1,v2,v3] 28)).alloc (Obj.cells #[.int .i64 0,.string ⟨#[]⟩,.int .i64 0] 43)) S v1 v2 v3:=by
 have e1:(w.alloc (Obj.cells #[.int .i64 S,v1,v2,v3] 28)).heap.size=w.heap.size+1:=by simp
 have hb:∀(W:World) (o:Obj),Below W.heap.size W (W.alloc o):=fun W o=>(Below.refl _ _).alloc (Nat.le_refl _) _
 have hn:=(nebox_new w S v1 v2 v3 28).later (hb _ (Obj.cells #[.int .i64 0,.string ⟨#[]⟩,.int .i64 0] 43));have hB:=((Below.refl w.heap.size w).alloc (Nat.le_refl _) (Obj.cells #[.int .i64 S,v1,v2,v3] 28)).alloc (by rw[e1];omega) (Obj.cells #[.int .i64 0,.string ⟨#[]⟩,.int .i64 0] 43)
 generalize w.alloc (Obj.cells #[.int .i64 S,v1,v2,v3] 28)=X at e1 hn hB
 have hr:=prbox_new X w 0 ⟨#[]⟩ 0;rw[e1] at hr;exact⟨hB,hn,hr⟩
theorem HmBox.later {w W W':World}{S:Int}{v1 v2 v3:Value}(k:HmBox w W S v1 v2 v3)(hb:Below W.heap.size W W'):HmBox w W' S v1 v2 v3:=
 ⟨k.below.trans (hb.mono k.below.size),k.n.later hb,k.p.later hb⟩
theorem safe_any (S:Int)(ao:Option Addr)(n cap:Nat)(ao2:Option Addr)(n2 cap2:Nat)(ao3:Option Addr)(n3 cap3:Nat)(a5:Option Addr)(n5 c5:Nat)(a4:Option Addr)(n4 c4:Nat)(Ls:LkQ)(Hs:HoQ)(Ts:List (List Ru))(o:List Op8)(l:List Wi)(w:World)
 (hL:GS lnkE w (.slice ao n cap) Ls) (hH:GS hstE w (.slice ao2 n2 cap2) Hs) (hT:TS w (.slice ao3 n3 cap3) Ts) (ho:GS opE w (.slice a5 n5 c5) o) (hl:GS wisE w (.slice a4 n4 c4) l):
 Calls Tryz.prog 36 #[.agg #[.int .i64 S,.slice ao n cap,.slice ao2 n2 cap2,.slice ao3 n3 cap3],.slice a5 n5 c5,.slice a4 n4 c4] w fun e w'=>∃N p,e=.returned (.tuple #[.agg #[.int .i64 p.1,.string p.2.1,.int .i64 p.2.2],noV N])∧SfR S Ls Hs Ts o l N p∧Below w.heap.size w w':=by
 have HLW:Hid (∀W,Below w.heap.size w W→GS lnkE W (.slice ao n cap) Ls):=fun W hb=>hL.later hb
 have HHW:Hid (∀W,Below w.heap.size w W→GS hstE W (.slice ao2 n2 cap2) Hs):=fun W hb=>hH.later hb
 have HTW:Hid (∀W,Below w.heap.size w W→TS W (.slice ao3 n3 cap3) Ts):=fun W hb=>hT.later hb
 have HoW:Hid (∀W,Below w.heap.size w W→GS opE W (.slice a5 n5 c5) o):=fun W hb=>ho.later hb
 have HlW:Hid (∀W,Below w.heap.size w W→GS wisE W (.slice a4 n4 c4) l):=fun W hb=>hl.later hb
 have HTN:Hid (Ts.length=n3):=hT.len;have hX:=hmbox_new w S (.slice ao n cap) (.slice ao2 n2 cap2) (.slice ao3 n3 cap3);obtain⟨w0,hw0⟩:∃W,(w.alloc (Obj.cells #[.int .i64 S,.slice ao n cap,.slice ao2 n2 cap2,.slice ao3 n3 cap3] 28)).alloc (Obj.cells #[.int .i64 0,.string ⟨#[]⟩,.int .i64 0] 43)=W:=⟨_,rfl⟩;rw[hw0] at hX;have HX:Hid (HmBox w w0 S (.slice ao n cap) (.slice ao2 n2 cap2) (.slice ao3 n3 cap3)):=hX;have HW0:Hid ((w.alloc (Obj.cells #[.int .i64 S,.slice ao n cap,.slice ao2 n2 cap2,.slice ao3 n3 cap3] 28)).alloc (Obj.cells #[.int .i64 0,.string ⟨#[]⟩,.int .i64 0] 43)=w0):=hw0;clear hL hH hT hl ho hX hw0;go_enter Tryz.func36,Tryz.ntmps36;go_upto_region 1 with fail;rw[HW0.out];obtain⟨_,⟨b0,b1,b2,b3⟩,_⟩:=HX.out;clear HW0
 go_wp2_with fail
 refine (during_any S ao n cap ao2 n2 cap2 ao3 n3 cap3 a5 n5 c5 Ls Hs Ts o w0 (HLW.out _ HX.out.below) (HHW.out _ HX.out.below) (HTW.out _ HX.out.below) (HoW.out _ HX.out.below)).mono ?_;rintro e w1 ⟨p7,j7,e7,p8,j8,e8,rfl,hDu,hb1⟩;obtain⟨T,hT⟩:∃T,T=cgN S Ls Hs Ts o:=⟨_,rfl⟩;have HT:Hid (T=cgN S Ls Hs Ts o):=hT;rw[←hT] at hDu ⊢;have hX1:=HX.out.later hb1;have hal1:Below w1.heap.size w1 (w1.alloc (Obj.cells #[.slice p7 j7 e7,.slice p8 j8 e8] 145)):=(Below.refl _ _).alloc (Nat.le_refl _) _;have hvc:=vat_new w1 [.slice p7 j7 e7,.slice p8 j8 e8] 145
 change VAt (w1.alloc (Obj.cells #[.slice p7 j7 e7,.slice p8 j8 e8] 145)) _ _ _ at hvc
 have hX2:=hX1.later hal1;obtain⟨w2,hw2⟩:∃W,w1.alloc (Obj.cells #[.slice p7 j7 e7,.slice p8 j8 e8] 145)=W:=⟨_,rfl⟩;obtain⟨bc,hbc⟩:∃bc,w1.heap.size=bc:=⟨_,rfl⟩;rw[hw2] at hal1 hvc hX2;rw[hbc] at hvc;have HX2:Hid (HmBox w w2 S (.slice ao n cap) (.slice ao2 n2 cap2) (.slice ao3 n3 cap3)):=hX2;have HVC:Hid (VAt w2 bc 0 [.slice p7 j7 e7,.slice p8 j8 e8]):=hvc;have HDU:Hid (T=0→LGs w2 0 (.slice p7 j7 e7) (lgF Ls Hs Ts) n3∧LGs w2 0 (.slice p8 j8 e8) (lgF Ls Hs (caT Ts o)) n3):=fun e=>⟨(hDu e).1.later hal1,(hDu e).2.later hal1⟩
 have HW2:Hid (w1.alloc (Obj.cells #[.slice p7 j7 e7,.slice p8 j8 e8] 145)=w2):=hw2;have HBC:Hid (w1.heap.size=bc):=hbc;clear hT hb1 HX b0 b1 b2 b3 hX1 hal1 hvc hX2 hw2 hbc hDu;go_upto_region 2 with fail;rw[HW2.out,HBC.out];clear HW2 HBC;by_cases h0:T=0
 ·have HN0:Hid (cgN S Ls Hs Ts o=0):=HT.out.symm.trans h0;have HDU0:Hid (LGs w2 0 (.slice p7 j7 e7) (lgF Ls Hs Ts) n3∧LGs w2 0 (.slice p8 j8 e8) (lgF Ls Hs (caT Ts o)) n3):=HDU.out h0;subst h0;clear HDU;rw[no_ok rfl];obtain⟨_,⟨b0,b1,b2,b3⟩,_⟩:=HX2.out
  go_wp2_with fail
  refine (wcheck_any S ao n cap ao2 n2 cap2 a4 n4 c4 Ls Hs l _ (HLW.out _ HX2.out.below) (HHW.out _ HX2.out.below) (HlW.out _ HX2.out.below)).mono ?_;rintro e w3 ⟨rfl,hb3⟩;obtain⟨U,hU⟩:∃U,U=wsN S Ls Hs l:=⟨_,rfl⟩;have HU:Hid (U=wsN S Ls Hs l):=hU;rw[←hU];have HX3:Hid (HmBox w w3 S (.slice ao n cap) (.slice ao2 n2 cap2) (.slice ao3 n3 cap3)):=HX2.out.later hb3;have HVC3:Hid (VAt w3 bc 0 [.slice p7 j7 e7,.slice p8 j8 e8]):=HVC.out.later hb3;have HD3:Hid (LGs w3 0 (.slice p7 j7 e7) (lgF Ls Hs Ts) n3∧LGs w3 0 (.slice p8 j8 e8) (lgF Ls Hs (caT Ts o)) n3):=⟨HDU0.out.1.later hb3,HDU0.out.2.later hb3⟩;clear hU hb3 HX2 b0 b1 b2 b3 HVC HDU0;by_cases h5:U=0
  ·have HU0:Hid (wsN S Ls Hs l=0):=HU.out.symm.trans h5;subst h5;rw[no_ok rfl];obtain⟨_,⟨b0,b1,b2,b3⟩,_⟩:=HX3.out;obtain⟨ht,hS,_,_⟩:=cg_ok HN0.out;obtain rfl:S=(n3:Int):=by rw[←hS,HTN.out]
   have hm6:n3≤6:=by have:=(tp_0 ht).1;omega
   have hHG:=(tp_0 ht).2.2.2.2.1;have HFC:Hid (FcAsks w3 bc Hs (fun z h=>pwS Ls Hs Ts (caT Ts o) (Hs.getD z zeO).2 (h:Int))):=by
    intro z hz h h16 W hW;have e:Hs.getD z zeO=Hs[z]:=getO hz
    dsimp only
    rw[e];have hv:=HVC3.out.later hW;exact safe1_any Hs[z].1 Hs[z].2.1 Hs[z].2.2 h bc p7 j7 e7 p8 j8 e8 n3 Ls Hs Ts (caT Ts o) W (hv 0 _ rfl) (hv 1 _ rfl) (HD3.out.1.later hW) (HD3.out.2.later hW) hm6 ht (hHG _ (List.getElem_mem hz)).2 (by unfold hdrB;simp;omega)
   have HNM:Hid (∀h∈Hs,h.1.size≤1000000):=fun h hh=>by
    have:=nm_sml (hHG h hh).1;omega
   clear ht hS hm6 hHG
   go_wp2_with fail
   refine (fbrk_any bc ao2 n2 cap2 a4 n4 c4 Hs _ l _ (HHW.out _ HX3.out.below) (HlW.out _ HX3.out.below) HNM.out HFC.out).mono ?_;rintro e w4 ⟨held,V,rfl,hF,hb4⟩;have HF:Hid (Fb l Hs (fun z h=>pwS Ls Hs Ts (caT Ts o) (Hs.getD z zeO).2 (h:Int)) Hs.length 0 held V):=hF;have HX4:Hid (HmBox w w4 (n3:Int) (.slice ao n cap) (.slice ao2 n2 cap2) (.slice ao3 n3 cap3)):=HX3.out.later hb4;obtain⟨V1,V2,V3⟩:=V
   dsimp only
   have hal:Below w4.heap.size w4 (w4.alloc (Obj.cells #[.int .i64 V1,.string V2,.int .i64 V3] 43)):=(Below.refl _ _).alloc (Nat.le_refl _) _;have hpr:=prbox_new w4 w V1 V2 V3;have hX5:=HX4.out.later hal;obtain⟨w5,hw5⟩:∃W,w4.alloc (Obj.cells #[.int .i64 V1,.string V2,.int .i64 V3] 43)=W:=⟨_,rfl⟩;obtain⟨gp,hgp⟩:∃q,q=w4.heap.size:=⟨_,rfl⟩;rw[hw5] at hal hpr hX5;rw[←hgp] at hpr;have HW5:Hid (w4.alloc (Obj.cells #[.int .i64 V1,.string V2,.int .i64 V3] 43)=w5):=hw5;have HGP:Hid (w4.heap.size=gp):=hgp.symm;have HLP:Hid (w.heap.size+1<gp):=by
    show _<_;rw[hgp];have h1:=bLQ _ _ HX4.out.p.c0;simpa using h1
   have HPR:Hid (PrBox w w5 gp V1 V2 V3):=hpr;have HX5:Hid (HmBox w w5 (n3:Int) (.slice ao n cap) (.slice ao2 n2 cap2) (.slice ao3 n3 cap3)):=hX5;clear hb4 hal hpr hX5 hw5 hgp b0 b1 b2 b3 HX3 hF HFC HD3 HVC3;obtain⟨B,hB⟩:∃B,B=decide (held<l.length):=⟨_,rfl⟩;have HBO:Hid (decide (held<l.length)=B):=hB.symm;rw[←hB];clear hB;go_upto_region 8 with fail;rw[HW5.out,HGP.out];clear HW5 HGP;obtain⟨hB4,_,⟨r0,r1,r2,rf⟩⟩:=HX5.out;have f0:=rf 0;have f1:=rf 1;have f2:=rf 2;have HB4:Hid (Below w.heap.size w w5):=hB4;obtain⟨q0,q1,q2,_⟩:=HPR.out;clear hB4 rf;cases B with
   | true =>
     have hlt:held<l.length:=of_decide_eq_true HBO.out;have HSR:Hid (SfR (n3:Int) Ls Hs Ts o l 9 (V1,V2,V3)):=.inr (.inr ⟨HN0.out,HU0.out,held,HF.out,by rw[if_pos hlt]⟩);clear hlt;go_wp2;refine bodyPost_ret (v:=.tuple #[.agg #[.int .i64 V1,.string V2,.int .i64 V3],.iface 68 (.int .i64 9)]) (by simp[results,Tryz.results36,go_sem, *]) rfl ⟨9,(V1,V2,V3),rfl,HSR.out,below_put3 HB4.out _ (by omega) _ _ _⟩
   | false =>
     have hlt:¬held<l.length:=of_decide_eq_false HBO.out;have hz:(V1,V2,V3)=((0:Int),ByteArray.empty,(0:Int)):=HF.out.no (by have:=HF.out.le;omega);have HSR:Hid (SfR (n3:Int) Ls Hs Ts o l 0 (0,ByteArray.empty,0)):=.inr (.inr ⟨HN0.out,HU0.out,held,by rw[←hz];exact HF.out,by rw[if_neg hlt]⟩);clear hlt hz;go_wp2;refine bodyPost_ret (v:=.tuple #[.agg #[.int .i64 0,.string ⟨#[]⟩,.int .i64 0],.nilIface]) (by simp[results,Tryz.results36,go_sem, *]) rfl ⟨0,(0,ByteArray.empty,0),rfl,HSR.out,below_put3 HB4.out _ (by omega) _ _ _⟩
  rw[no_ne h5];have HSR:Hid (SfR S Ls Hs Ts o l U (0,ByteArray.empty,0)):=.inr (.inl ⟨HN0.out,by rw[←HU.out];exact h5,HU.out,rfl⟩);have HNE:Hid (U≠0):=h5;obtain⟨hB2,_,⟨r0,r1,r2,rf⟩⟩:=HX3.out;have f0:=rf 0;have f1:=rf 1;have f2:=rf 2;have HB2:Hid (Below w.heap.size w w3):=hB2;clear h5 hB2 rf;go_wp2;refine bodyPost_ret (v:=.tuple #[.agg #[.int .i64 0,.string ⟨#[]⟩,.int .i64 0],.iface 68 (.int .i64 U)]) (by simp[results,Tryz.results36,go_sem, *]) rfl ⟨U,(0,ByteArray.empty,0),by rw[no_ne HNE.out];rfl,HSR.out,below_put3 HB2.out _ (by omega) _ _ _⟩
 rw[no_ne h0];have HSR:Hid (SfR S Ls Hs Ts o l T (0,ByteArray.empty,0)):=.inl ⟨by rw[←HT.out];exact h0,HT.out,rfl⟩;have HNE:Hid (T≠0):=h0;obtain⟨hB2,_,⟨r0,r1,r2,rf⟩⟩:=HX2.out;have f0:=rf 0;have f1:=rf 1;have f2:=rf 2;have HB2:Hid (Below w.heap.size w w2):=hB2;clear h0 hB2 rf;go_wp2;refine bodyPost_ret (v:=.tuple #[.agg #[.int .i64 0,.string ⟨#[]⟩,.int .i64 0],.iface 68 (.int .i64 T)]) (by simp[results,Tryz.results36,go_sem, *]) rfl ⟨T,(0,ByteArray.empty,0),by rw[no_ne HNE.out];rfl,HSR.out,below_put3 HB2.out _ (by omega) _ _ _⟩
end
section
open Go.RowKit
def mgD (M:List (Int×SlT))(a:Int):SlT:=(mget intKey.q a M).getD (none,0,0)
theorem getV_sl (o:Option SlT):getV slV (.slice none 0 0) o=slV (o.getD (none,0,0)):=by cases o <;> rfl
theorem mg_put (M:List (Int×SlT))(a b:Int)(x:SlT):mgD (mput intKey.q a x M) b=if b=a then x else mgD M b:=by
 unfold mgD;rw[mget_put intKey.qeq];by_cases h:b=a
 ·rw[if_pos h,if_pos ((intKey.qeq _ _).2 h)];rfl
 rw[if_neg h,if_neg (fun e=>h ((intKey.qeq _ _).1 e))]
theorem opA_app (D:List Op8)(x:Op8)(a:Int):opA (D++[x]) a=if x.w=a then opA D a++[x] else opA D a:=by
 unfold opA;rw[List.filter_append];by_cases h:x.w=a
 ·rw[if_pos h];simp[h]
 rw[if_neg h];simp[h]
structure GM (W:World)(bm B:Nat)(M:List (Int×SlT))(D:List Op8):Prop where
 m:MAt intKey slV W bm M
 o:∀a,NO W B (slV (mgD M a)) (opA D a)
 d:∀a b,a≠b→∀g,(slV (mgD M a)).ownBlock=some g→(slV (mgD M b)).ownBlock≠some g
theorem gm_new (W:World)(bm B:Nat)(h:MAt intKey slV W bm []):GM W bm B [] []:=⟨h,fun a=>NO.nil _ _,fun a b _ g h=>by cases h⟩
theorem NO.sl {w:World}{B:Nat}{v:Value}{L:List Op8}(h:NO w B v L):∃x:SlT,v=slV x:=by
 rcases h.2 with ⟨h3,_⟩ | ⟨g,cap,cur,h3,_⟩
 ·exact⟨(none,0,0),h3⟩
 exact⟨(some ⟨g,0,none⟩,L.length,cap),h3⟩
theorem GM.grown {W W':World}{bm B:Nat}{M:List (Int×SlT)}{D:List Op8}(h:GM W bm B M D){row:Option Nat}(hg:W.grownBy W' row)(hne:∀b,row=some b→b≠bm∧∀a,(slV (mgD M a)).ownBlock≠some b):GM W' bm B M D:=
 ⟨h.m.kept hg (fun e=>(hne bm e.symm).1 rfl),fun a=>(h.o a).kept hg (by
  cases row with
  | none=>exact none_or _
  | some b=>exact .inr fun e=>(hne b rfl).2 a e),h.d⟩
theorem GM.push {W W1 W2 W3:World}{bm B:Nat}{M:List (Int×SlT)}{D:List Op8}(h:GM W bm B M D)(hbm:bm<B){x:Op8}{y:SlT}(hg1:W.grownBy W1 none)
 (ho:NO W2 B (slV y) (opA D x.w++[x])) (hg2:W1.grownBy W2 (slV (mgD M x.w)).ownBlock) (hl:(slV y).ownBlock=(slV (mgD M x.w)).ownBlock∨(slV y).ownBlock=some W1.heap.size)
 (hm:MAt intKey slV W3 bm (mput intKey.q x.w y M)) (hg3:W2.grownBy W3 (some bm)):GM W3 bm B (mput intKey.q x.w y M) (D++[x]):=by
 have hlt:∀a g,(slV (mgD M a)).ownBlock=some g→B≤g∧g<W1.heap.size:=fun a g e=>by
  have:=(h.o a).lt g e;exact⟨this.1,Nat.lt_of_lt_of_le this.2 hg1.size⟩
 refine⟨hm,fun a=>?_,fun a b hab g e1 e2=>?_⟩
 ·rw[mg_put,opA_app];by_cases e:a=x.w
  ·subst e;rw[if_pos rfl,if_pos rfl];exact ho.kept hg3 (.inr fun e=>by
    have:=(ho.lt bm e).1;omega)
  rw[if_neg e,if_neg (fun e2=>e e2.symm)];have h1:=(h.o a).kept hg1 (none_or _);have h2:=h1.kept hg2 (by
   cases hb:(slV (mgD M x.w)).ownBlock with
   | none=>exact none_or _
   | some b=>exact .inr (fun e3=>h.d x.w a (fun e4=>e e4.symm) b hb e3))
  exact h2.kept hg3 (.inr fun e3=>by
   have:=(h2.lt bm e3).1;omega)
 rw[mg_put] at e1 e2;by_cases k1:a=x.w
 ·subst k1;rw[if_pos rfl] at e1;rw[if_neg (fun e=>hab e.symm)] at e2
  rcases hl with hl | hl
  ·rw[hl] at e1;exact h.d _ _ hab g e1 e2
  rw[hl] at e1;have:=(hlt b g e2).2;cases e1;omega
 rw[if_neg k1] at e1;by_cases k2:b=x.w
 ·subst k2;rw[if_pos rfl] at e2
  rcases hl with hl | hl
  ·rw[hl] at e2;exact h.d _ _ hab g e1 e2
  rw[hl] at e2;have:=(hlt a g e1).2;cases e2;omega
 rw[if_neg k2] at e2;exact h.d a b hab g e1 e2
structure TskOK (W:World)(v1 v2 v3 v4:Value)(bm:Nat)(Ls:List LkT)(Hs:List HoT)(Ts:List (List Ru))(ws:List Wi)(D:List Op8):Prop where
 n:NI W v1 v2 v3 Ls Hs Ts
 w:GS wisE W v4 ws
 m:∃M,MAt intKey slV W bm M∧∀a,GS opE W (slV (mgD M a)) (opA D a)
theorem TskOK.later {W W':World}{v1 v2 v3 v4:Value}{bm:Nat}{Ls:List LkT}{Hs:List HoT}{Ts:List (List Ru)}{ws:List Wi}{D:List Op8}(h:TskOK W v1 v2 v3 v4 bm Ls Hs Ts ws D)(hb:Below W.heap.size W W'):TskOK W' v1 v2 v3 v4 bm Ls Hs Ts ws D:=by
 obtain⟨M,h1,h2⟩:=h.m;exact⟨h.n.later hb,h.w.later hb,M,h1.later hb,fun a=>(h2 a).later hb⟩
theorem TskOK.lt {W:World}{v1 v2 v3 v4:Value}{bm:Nat}{Ls:List LkT}{Hs:List HoT}{Ts:List (List Ru)}{ws:List Wi}{D:List Op8}(h:TskOK W v1 v2 v3 v4 bm Ls Hs Ts ws D):bm<W.heap.size:=by
 obtain⟨M,h1,_⟩:=h.m;exact h1.lt
theorem frozLater {W W':World}{g:Nat}{a:Value}(h:∀i,W.frozen? ⟨g,i,none⟩=false)(hc:W.cell? ⟨g,0,none⟩=some a)(hb:Below W.heap.size W W'):∀i,W'.frozen? ⟨g,i,none⟩=false:=
 fun i=>(hb.frozen (p:=⟨g,i,none⟩) (show (⟨g,0,none⟩:Addr).block<W.heap.size from bLQ W ⟨g,0,none⟩ hc)).trans (h i)
theorem cellOff {W:World}{g o j:Nat}{u v:Value}(hne:o≠j)(h:W.cell? ⟨g,o,none⟩=some u):(W.setCell ⟨g,j,none⟩ v).cell? ⟨g,o,none⟩=some u:=by
 rw[World.cell?_setCell_other _ _ _ _ (by simp[hne])];exact h
theorem frozSet {W:World}{g j:Nat}{v:Value}(b i:Nat):(W.setCell ⟨g,j,none⟩ v).frozen? ⟨b,i,none⟩=W.frozen? ⟨b,i,none⟩:=by simp
theorem cellSame {W:World}{g j:Nat}{u v:Value}(h:W.cell? ⟨g,j,none⟩=some u):(W.setCell ⟨g,j,none⟩ v).cell? ⟨g,j,none⟩=some v:=World.cell?_setCell_same _ _ _ h
structure TkB (W:World)(g:Nat)(S:Int)(v1 v2 v3 v4 v5:Value)(all:Int):Prop where
 c0:W.cell? ⟨g,0,none⟩=some (.int .i64 S)
 c1:W.cell? ⟨g,1,none⟩=some v1
 c2:W.cell? ⟨g,2,none⟩=some v2
 c3:W.cell? ⟨g,3,none⟩=some v3
 c4:W.cell? ⟨g,4,none⟩=some v4
 c5:W.cell? ⟨g,5,none⟩=some v5
 c6:W.cell? ⟨g,6,none⟩=some (.int .i64 all)
 f:∀i,W.frozen? ⟨g,i,none⟩=false
section
variable {W W':World}{g:Nat}{S:Int}{v1 v2 v3 v4 v5:Value}{all:Int}
theorem TkB.lt (h:TkB W g S v1 v2 v3 v4 v5 all):g<W.heap.size:=bLQ W ⟨g,0,none⟩ h.c0
theorem TkB.later (h:TkB W g S v1 v2 v3 v4 v5 all)(hb:Below W.heap.size W W'):TkB W' g S v1 v2 v3 v4 v5 all:=
 ⟨cell_later hb h.c0,cell_later hb h.c1,cell_later hb h.c2,cell_later hb h.c3,cell_later hb h.c4,cell_later hb h.c5,cell_later hb h.c6,frozLater h.f h.c0 hb⟩
theorem tkb_new (W:World)(S:Int)(v1 v2 v3 v4 v5:Value)(all:Int)(t:TypeId):TkB (W.alloc (Obj.cells #[.int .i64 S,v1,v2,v3,v4,v5,.int .i64 all] t)) W.heap.size S v1 v2 v3 v4 v5 all:=by
 refine⟨?_,?_,?_,?_,?_,?_,?_,fun i=>by simp⟩ <;> simp
theorem frz_grown {row:Option Nat}{b i:Nat}(hg:W.grownBy W' row)(hl:b<W.heap.size)(hne:some b≠row):W'.frozen? ⟨b,i,none⟩=W.frozen? ⟨b,i,none⟩:=by
 unfold World.frozen?;rw[hg.block b hl hne]
theorem TkB.grown (h:TkB W g S v1 v2 v3 v4 v5 all){row:Option Nat}(hg:W.grownBy W' row)(hne:some g≠row):TkB W' g S v1 v2 v3 v4 v5 all:=
 ⟨hg.cell h.c0 hne,hg.cell h.c1 hne,hg.cell h.c2 hne,hg.cell h.c3 hne,hg.cell h.c4 hne,hg.cell h.c5 hne,hg.cell h.c6 hne,fun i=>by rw[frz_grown hg h.lt hne];exact h.f i⟩
theorem TkB.put (h:TkB W g S v1 v2 v3 v4 v5 all)(b:Int):TkB (W.setCell ⟨g,6,none⟩ (.int .i64 b)) g S v1 v2 v3 v4 v5 b:=
 ⟨cellOff (by decide) h.c0,cellOff (by decide) h.c1,cellOff (by decide) h.c2,cellOff (by decide) h.c3,cellOff (by decide) h.c4,cellOff (by decide) h.c5,cellSame h.c6,fun i=>by rw[frozSet];exact h.f i⟩
end
def FwAsks (w:World)(g:Nat)(Hs:HoQ)(Fs:Nat→Nat→List Ft):Prop:=
 ∀ (z:Nat) (hz:z<Hs.length) (h:Nat),h<16→∀W:World,Below w.heap.size w W→Calls Tryz.prog 60 #[.agg #[.string Hs[z].1,.int .i64 Hs[z].2.1,.int .i64 Hs[z].2.2],.int .i64 h,.pointer (some ⟨g,0,none⟩)] W fun e W' =>
   ∃gi lb,e=.returned (.func (Fn.func gi) #[] lb)∧(∀args w,(callFunc gi args).run Tryz.prog w=.ok (.enter gi args) w)∧ItF Tryz.prog gi lb FtV W'.heap.size (Fs z h) W'∧Below W.heap.size W W'
theorem fwbrk_any (g:Nat)(ao2:Option Addr)(n2 cap2:Nat)(a4:Option Addr)(n4 c4:Nat)(Hs:HoQ)(Fs:Nat→Nat→List Ft)(l:List Wi)(w:World)
 (hH:GS hstE w (.slice ao2 n2 cap2) Hs) (hl:GS wisE w (.slice a4 n4 c4) l) (hnm:∀h∈Hs,h.1.size≤1000000) (hfc:FwAsks w g Hs Fs):
 Calls Tryz.prog 59 #[.slice ao2 n2 cap2,.slice a4 n4 c4,.func (Fn.func 60) #[] #[.pointer (some ⟨g,0,none⟩)]] w fun e w'=>∃held p,e=.returned (.tuple #[.agg #[.int .i64 p.1,.string p.2.1,.int .i64 p.2.2],.bool (decide (held<l.length))])∧Fb l Hs Fs Hs.length 0 held p∧Below w.heap.size w w':=by
 have hX:=rbx_new w;obtain⟨w0,hw0⟩:∃W,(w.alloc (Obj.cells #[.int .i64 0,.string ⟨#[]⟩,.int .i64 0] 43)).alloc (Obj.cells #[.int .i64 0,.string ⟨#[]⟩,.int .i64 0] 43)=W:=⟨_,rfl⟩;rw[hw0] at hX;have HW0:Hid ((w.alloc (Obj.cells #[.int .i64 0,.string ⟨#[]⟩,.int .i64 0] 43)).alloc (Obj.cells #[.int .i64 0,.string ⟨#[]⟩,.int .i64 0] 43)=w0):=hw0;have HX:Hid (Rbx w w0 (0,ByteArray.empty,0)):=hX;have HLW:Hid (∀W,Below w.heap.size w W→GS wisE W (.slice a4 n4 c4) l):=fun W hb=>hl.later hb
 have HFC:Hid (FwAsks w g Hs Fs):=hfc;have HNM:Hid (∀h∈Hs,h.1.size≤1000000):=hnm;obtain⟨_,_,_,e5,hGn,hGm,hGc,hGa⟩:=hl.form;cases e5;obtain⟨_,_,_,e6,hHn,hHm,_,hHa⟩:=hH.form;cases e6;have HGN:Hid (l.length=n4):=hGn;have HCAP:Hid (n4≤c4):=hGc;have HHN:Hid (Hs.length=n2):=hHn;have HHA:Hid (0<n2→∃g o,ao2=some ⟨g,o,none⟩∧GAt hstE w g o Hs∧cap2≤maxLen):=hHa;have hn4:n4≤maxLen:=hGm;have hn2:n2≤maxLen:=hHm;unfold maxLen at hn4 hn2;have HF0:Hid (Fb l Hs Fs 0 0 n4 (0,ByteArray.empty,0)):=by
  have h:=fb_0 (l:=l) (Hs:=Hs) (Fs:=Fs);rw[hGn] at h;exact h
 clear hX hw0 hl hH hfc hnm hGn hGm hGc hGa hHn hHm hHa;go_enter Tryz.func59,Tryz.ntmps59;go_upto_region 2 with fail;rw[HW0.out];clear HW0;go_wp2
 go_loopw [9,18] (fun hv i wr=>∃(z hd:Nat) (p:Int×ByteArray×Int),z≤n2∧hv=.int .i64 hd∧i=.int .i64 z∧Fb l Hs Fs z 0 hd p∧Rbx w wr p) (fun _ i _=>n2-(intOf i).toNat)
 case atStart=>exact⟨0,n4,(0,ByteArray.empty,0),by omega,rfl,rfl,HF0.out,HX.out⟩
 case round =>
  obtain⟨z,hd,p,hz,rfl,rfl,hF,hR⟩:=hrel;have HF:Hid (Fb l Hs Fs z 0 hd p):=hF;have HR:Hid (Rbx w wr p):=hR;have hdle:hd≤n4:=by rw[←HGN.out];exact hF.le
  clear hF hR;by_cases hlt:z<n2
  ·obtain⟨g2,o2,hao2,hc2,_⟩:=HHA.out (by omega);subst hao2;obtain⟨z0,z1,z2,hzl,hZk,p0,p1,p2⟩:=hst_at (hc2.later HR.out.below) HHN.out hlt;have HZK:Hid (Hs[z]=(z0,(z1,z2))):=hZk;have HZD:Hid (Hs.getD z zeO=(z0,(z1,z2))):=by
    show _=_;rw[getO hzl,hZk]
   have HSZ:Hid (z0.size≤1000000):=by
    have:=HNM.out Hs[z] (List.getElem_mem hzl);rw[hZk] at this;exact this
   have hba:Below wr.heap.size wr (wr.alloc (Obj.cells #[Value.string z0,.int .i64 z1,.int .i64 z2] 77)):=(Below.refl _ _).alloc (Nat.le_refl _) _;have hhb:=hsbox_new wr z0 z1 z2 77;have hR2:=HR.out.later hba;obtain⟨w2,hw2⟩:∃W,wr.alloc (Obj.cells #[Value.string z0,.int .i64 z1,.int .i64 z2] 77)=W:=⟨_,rfl⟩;obtain⟨gh,hgh⟩:∃q,q=wr.heap.size:=⟨_,rfl⟩;rw[hw2] at hhb hR2;rw[←hgh] at hhb;have HW2:Hid (wr.alloc (Obj.cells #[Value.string z0,.int .i64 z1,.int .i64 z2] 77)=w2):=hw2;have HGH:Hid (wr.heap.size=gh):=hgh.symm;have HHB:Hid (HsBox w2 gh z0 z1 z2):=hhb;have HR2:Hid (Rbx w w2 p):=hR2;have HLG:Hid (w.heap.size+1<gh):=by
    show _<_;rw[hgh];exact HR.out.p.lt
   clear hc2 hZk hba hhb hR2 hw2 hgh HR;go_upto_region 6 with fail;rw[HW2.out,HGH.out];clear HW2 HGH p0 p1 p2;go_wp2
   go_loopw [9,22] (fun hv i wr=>∃(h hd:Nat) (p:Int×ByteArray×Int),h≤16∧hv=.int .i64 hd∧i=.int .i64 h∧Fb l Hs Fs z h hd p∧Rbx w wr p∧HsBox wr gh z0 z1 z2) (fun _ i _=>16-(intOf i).toNat)
   case atStart=>exact⟨0,hd,p,by omega,rfl,rfl,HF.out,HR2.out,HHB.out⟩
   case round =>
    clear HF HR2 HHB hdle;obtain⟨h,hd,p,hh,rfl,rfl,hF,hR,hS⟩:=hrel;have HF:Hid (Fb l Hs Fs z h hd p):=hF;have HR:Hid (Rbx w wr p):=hR;have HS:Hid (HsBox wr gh z0 z1 z2):=hS;have hdle:hd≤n4:=by rw[←HGN.out];exact hF.le
    clear hF hR hS;by_cases hlt16:h<16
    ·have HGT:Hid (∀W,Below wr.heap.size wr W→GS wisE W (.slice a4 hd c4) (l.take hd)):=fun W hb=>(HLW.out W (HR.out.below.trans (hb.mono HR.out.below.size))).take hdle
     obtain⟨_,_,_,e7,hTn,hTm,_,hTa⟩:=(HGT.out wr (Below.refl _ _)).form;cases e7;have HTN:Hid ((l.take hd).length=hd):=hTn;have HTM:Hid (hd≤maxLen):=hTm;have HTA:Hid (0<hd→∃g o,a4=some ⟨g,o,none⟩∧GAt wisE wr g o (l.take hd)∧c4≤maxLen):=hTa;have HASK:Hid (wisAsks wr 92 (.pointer (some ⟨gh,0,none⟩)) (fun u=>abW u z0)):=fun y0 y1 y2 y3 W hb=>first1_any y0 y1 y2 y3 gh z0 z1 z2 W (HS.out.later hb)
     obtain⟨c,hc⟩:∃c,c=(l.take hd).any (fun u=>abW u z0):=⟨_,rfl⟩;have HC:Hid ((l.take hd).any (fun u=>abW u z0)=c):=hc.symm;obtain⟨s0,s1,s2⟩:=HS.out;have hcap:=HCAP.out;have nb0:(0:Int)≤(hd:Int):=by omega
     have nb1:(hd:Int)≤(c4:Int):=by omega
     have nb2:(hd:Int)≤(n4:Int):=by omega
     clear hc hTn hTm hTa
     go_wp2_with fail
     refine (wis_hasF a4 hd c4 _ _ (fun u=>abW u z0) (l.take hd) _ HTN.out HTM.out HTA.out (enters_of Tryz.func92 (by kernel_rfl) rfl) HASK.out).mono ?_;rintro e w3 ⟨rfl,hb3⟩;rw[HC.out];have HR3:Hid (Rbx w w3 p):=HR.out.later hb3;have HS3:Hid (HsBox w3 gh z0 z1 z2):=HS.out.later hb3;have HGT3:Hid (∀W,Below w3.heap.size w3 W→GS wisE W (.slice a4 hd c4) (l.take hd)):=fun W hb=>HGT.out W (hb3.trans (hb.mono hb3.size))
     clear hb3 s0 s1 s2 HTN HTM HTA HASK HGT HR HS;cases c with
     | false =>
       have HFO:Hid (Fb l Hs Fs (z+1) 0 hd p):=HF.out.off (by rw[HZD.out];exact HC.out);go_wp2;go_roundw
       case rel=>exact⟨z+1,hd,p,by omega,rfl,by go_num,HFO.out,HR3.out⟩
       case measure=>simp[intOf];omega
     | true =>
       obtain⟨N,hN⟩:∃N,N=hwN (l.take hd) z0 (Fs z h):=⟨_,rfl⟩;have HN:Hid (hwN (l.take hd) z0 (Fs z h)=N):=hN.symm;have HFCW:Hid (∀W,Below w3.heap.size w3 W→Calls Tryz.prog 60 #[.agg #[.string z0,.int .i64 z1,.int .i64 z2],.int .i64 h,.pointer (some ⟨g,0,none⟩)] W fun e W' =>
        ∃gi lb,e=.returned (.func (Fn.func gi) #[] lb)∧(∀args w,(callFunc gi args).run Tryz.prog w=.ok (.enter gi args) w)∧ItF Tryz.prog gi lb FtV W'.heap.size (Fs z h) W'∧Below W.heap.size W W'):=fun W hb=>by
        have h:=HFC.out z hzl h hlt16 W (HR3.out.below.trans (hb.mono HR3.out.below.size));rw[HZK.out] at h;exact h
       have HHOL:Hid (∀(gi:Nat) (lb:Array Value) (W:World),(∀args w,(callFunc gi args).run Tryz.prog w=.ok (.enter gi args) w)→ItF Tryz.prog gi lb FtV W.heap.size (Fs z h) W→Below w3.heap.size w3 W→Calls Tryz.prog 94 #[.slice a4 hd c4,.string z0,.func (Fn.func gi) #[] lb] W fun e W'=>e=.returned (.int .i64 N)∧Below W.heap.size W W'):=fun gi lb W eg hit hb=>by
        rw[hN];exact holding_any a4 hd c4 (l.take hd) z0 gi lb (Fs z h) W.heap.size W (HGT3.out W hb) eg hit (Nat.le_refl _)
       have HSW:Hid (∀W,Below w3.heap.size w3 W→W.cell? ⟨gh,0,none⟩=some (.string z0)∧W.cell? ⟨gh,1,none⟩=some (.int .i64 z1)∧W.cell? ⟨gh,2,none⟩=some (.int .i64 z2)):=fun W hb=>HS3.out.later hb
       obtain⟨s0,s1,s2⟩:=HS3.out;clear hN;go_upto_region 10 with fail
       go_cut [13] from 23 to 51 (fun v w'=>v=.int .i64 N∧Below w3.heap.size w3 w')
       case first =>
        go_region_held3 (fun W=>W.cell? ⟨gh,0,none⟩=some (.string z0)∧W.cell? ⟨gh,1,none⟩=some (.int .i64 z1)∧W.cell? ⟨gh,2,none⟩=some (.int .i64 z2))
         (first | (with_reducible assumption) | (with_reducible exact HSW.out _ (Below.drew (Below.refl _ _))) | (with_reducible exact HSW.out _ HBX.out) | (with_reducible exact HSW.out _ HBY.out))
         (first
          | (go_at_call 60;refine (HFCW.out _ (Below.drew (Below.refl _ _))).mono ?_;rintro e w' ⟨gi,lb,rfl,eg,hit,hb⟩;have HBX:Hid (Below w3.heap.size w3 w'):=bdrew hb;have HEG:Hid (∀args w,(callFunc gi args).run Tryz.prog w=.ok (.enter gi args) w):=eg;have HIT:Hid (ItF Tryz.prog gi lb FtV w'.heap.size (Fs z h) w'):=hit;clear hb eg hit)
          | (go_at_call 94;refine (HHOL.out _ _ _ HEG.out HIT.out HBX.out).mono ?_;rintro e w'' ⟨rfl,hb⟩;have HBY:Hid (Below w3.heap.size w3 w''):=HBX.out.trans (hb.mono HBX.out.size);clear hb))
        all_goals (go_wp2_with fail;go_meet)
        all_goals exact⟨rfl,HBY.out⟩
       case rest =>
        obtain⟨rfl,hbw⟩:=hcut;have HR4:Hid (Rbx w wc p):=HR3.out.later hbw;have HS4:Hid (HsBox wc gh z0 z1 z2):=HS3.out.later hbw;clear hbw HR3 HS3 HGT3 HFCW HHOL HSW s0 s1 s2;obtain⟨s0,s1,s2⟩:=HS4.out;by_cases hNl:N<hd
        ·have HFL:Hid (Fb l Hs Fs z (h+1) N ((N:Int),z0,(h:Int))):=by
          have:=HF.out.less hlt16 hzl (by rw[HZD.out];exact HN.out) hNl;rw[HZD.out] at this;exact this
         have dN:decide ((N:Int)<(hd:Int))=true:=by simp;omega
         go_wp2_with fail
         refine (clone_any z0 _ HSZ.out).mono ?_;rintro e w6 ⟨rfl,hb6⟩;have HR6:Hid (Rbx w w6 p):=HR4.out.later hb6;have HS6:Hid (HsBox w6 gh z0 z1 z2):=HS4.out.later hb6;obtain⟨r0,r1,r2,rf⟩:=HR6.out.p;have f0:=rf 0;have f1:=rf 1;have f2:=rf 2;have HSP:Hid (∀a b c,HsBox (put3 w6 (w.heap.size+1) a b c) gh z0 z1 z2):=fun a b c=>by
          have o:∀(W:World) (i j:Nat) (x:Value),(W.setCell ⟨w.heap.size+1,i,none⟩ x).cell? ⟨gh,j,none⟩=W.cell? ⟨gh,j,none⟩:=fun W i j x=>World.cell?_setCell_other _ _ _ _ (by intro e;injection e with e1;have:=HLG.out;omega)
          unfold put3;obtain⟨x0,x1,x2⟩:=HS6.out;exact⟨by rw[o,o,o];exact x0,by rw[o,o,o];exact x1,by rw[o,o,o];exact x2⟩
         clear hb6 rf s0 s1 s2 hNl;go_wp2;go_roundw
         case rel=>exact⟨h+1,N,((N:Int),z0,(h:Int)),by omega,rfl,by go_num,HFL.out,HR6.out.put ((N:Int),z0,(h:Int)),HSP.out _ _ _⟩
         case measure=>simp[intOf];omega
        have HFS:Hid (Fb l Hs Fs z (h+1) hd p):=HF.out.same (by rw[HZD.out,HN.out];exact hNl);have dN:decide ((N:Int)<(hd:Int))=false:=by simp;omega
        have hNl2:hd≤N:=by omega
        go_wp2;go_roundw
        case rel=>exact⟨h+1,hd,p,by omega,rfl,by go_num,HFS.out,HR4.out,HS4.out⟩
        case measure=>simp[intOf];omega
    obtain rfl:h=16:=by omega
    have HFO:Hid (Fb l Hs Fs (z+1) 0 hd p):=HF.out.host;go_wp2;go_roundw
    case rel=>exact⟨z+1,hd,p,by omega,rfl,by go_num,HFO.out,HR.out⟩
    case measure=>simp[intOf];omega
  obtain rfl:z=n2:=by omega
  obtain⟨P1,P2,P3⟩:=p;obtain⟨q0,q1,q2,_⟩:=HR.out.p;obtain⟨r0,r1,r2,rf⟩:=HR.out.r;have f0:=rf 0;have f1:=rf 1;have f2:=rf 2;have HB:Hid (Below w.heap.size w wr):=HR.out.below;have HFE:Hid (Fb l Hs Fs Hs.length 0 hd (P1,P2,P3)):=by
   have h:=HF.out;rw[←HHN.out] at h;exact h
  dsimp only at q0 q1 q2
  clear rf;go_wp2;refine bodyPost_ret (v:=.tuple #[.agg #[.int .i64 P1,.string P2,.int .i64 P3],.bool (decide ((hd:Int)<(n4:Int)))]) (by simp[results,Tryz.results59,go_sem, *]) rfl ⟨hd,(P1,P2,P3),?_,HFE.out,below_put3 HB.out _ (Nat.le_refl _) _ _ _⟩;rw[show decide (hd<l.length)=decide ((hd:Int)<(n4:Int)) by rw[HGN.out];simp]
end
section
open Go.RowKit Go.Shelf
attribute [local go_sem] Oper.semAt_some
theorem nm_small {a:ByteArray}(h:nmB a=true):a.size≤6:=by
 simp only[nmB,Bool.and_eq_true,decide_eq_true_eq] at h;exact h.2.1
structure NIn (w:World)(g:Nat)(S:Int)(v1 v2 v3:Value)(Ls:LkQ)(Hs:HoQ)(Ts:List (List Ru)):Prop where
 box:NeBox w g S v1 v2 v3
 l:GS lnkE w v1 Ls
 h:GS hstE w v2 Hs
 t:TS w v3 Ts
theorem NIn.later {w w':World}{g:Nat}{S:Int}{v1 v2 v3:Value}{Ls:LkQ}{Hs:HoQ}{Ts:List (List Ru)}(k:NIn w g S v1 v2 v3 Ls Hs Ts)(hb:Below w.heap.size w w'):NIn w' g S v1 v2 v3 Ls Hs Ts:=
 ⟨k.box.later hb,k.l.later hb,k.h.later hb,k.t.later hb⟩
theorem values1_in (n:Nat)(h3:3≤n)(l n₀:Nat)(F:Ft)(b Bs:Nat)(ao4:Option Addr)(n4 cap4:Nat)(J:Nat→(Nat→Prop)→World→Prop)(Jx:World→Prop)(W:World)(hB:Boxed W Bs 96 (.slice (some ⟨b,0,none⟩) 1 1))(hf:FaBox W b F.1 F.2.1 (.slice ao4 n4 cap4))(hG:GS hopE W (.slice ao4 n4 cap4) F.2.2)
 (h0:J 0 (fun _=>False) W) (hab:∀k X A A',J k X A→Kb (fun b=>b<W.heap.size∨X b) A A'→J k X A')
 (hY:∀k X A args x (Y:Nat→Prop),J k X A→[F][k]?=some x→FtV A args x→W.heap.size≤A.heap.size→(∀b,Y b→W.heap.size≤b∧¬X b)→YieldAt Fence.wide 0 Tryz.prog l args A fun e A' =>
  (e=.returned (.bool true)∧(∃X',J (k+1) X' A'∧∀b,X' b→X b∨A.heap.size≤b)∧Kb (fun b=>b<n₀∨Y b) A A')∨(e=.returned (.bool false)∧Jx A'∧Kb (fun b=>b<n₀∨Y b) A A')):
 CallsIn Fence.wide n Tryz.prog 96 #[.func (.yield l) #[] #[],.pointer (some ⟨Bs,0,none⟩)] W fun e W'=>(∃v,e=.returned v)∧((∃X,J 1 X W')∨Jx W'):=by
 have h1:1≤n:=by omega
 obtain⟨F1,F2,F3⟩:=F
 dsimp only at hf hG
 have hBA:Below W.heap.size W (W.alloc (Obj.cells #[.int .i64 F1,.string F2,.slice ao4 n4 cap4] 83)):=(Below.refl _ _).alloc (Nat.le_refl _) _;have hJ0:=hab _ _ _ _ h0 (Kb.of_below hBA (fun b hb _=>hb));have hy0:=yield_any (m':=n-1) (hY 0 _ (W.alloc (Obj.cells #[.int .i64 F1,.string F2,.slice ao4 n4 cap4] 83)) #[.agg #[.int .i64 F1,.string F2,.slice ao4 n4 cap4]] (F1,F2,F3) (fun _=>False) hJ0 rfl ⟨ao4,n4,cap4,rfl,hG.later hBA⟩ hBA.size (fun _ h=>h.elim));obtain⟨fn,tmps,assign,body,hy,hR⟩:=hy0;have HR:Hid (RoundIn Fence.wide (n-1) Tryz.prog l fn tmps assign body (W.alloc (Obj.cells #[.int .i64 F1,.string F2,.slice ao4 n4 cap4] 83)) _):=hR;obtain⟨f0,f1,f2⟩:=hf;have hc0:=hB.cell;refine callsIn_of_wp Tryz.func96 rfl trivial ?_ rfl;simp only[Tryz.ntmps96,List.size_toArray,List.length_cons,List.length_nil,Nat.reduceAdd,Nat.reduceSub,Array.replicate_succ,Array.replicate_zero,List.push_toArray,List.append_toArray,List.nil_append,List.cons_append];clear hY hBA hJ0 hB hG hR h0 hab
 gi_wp2
 gi_loopw [7] (fun i wr=>∃k:Nat,k≤1∧i=.int .i64 k∧(k=0→wr=W)∧(k=1→∃X,J 1 X wr)) (fun i _=>1-(intOf i).toNat)
 case atStart=>exact⟨0,by omega,rfl,fun _=>rfl,fun h=>by omega⟩
 case round =>
  obtain⟨k,hk,rfl,hk0,hk1⟩:=hrel;by_cases hlt:k<1
  ·obtain rfl:k=0:=by omega
   have hw:=hk0 rfl;subst hw;clear hk0 hk1
   gi_wp2
   refine HR.out.mono ?_;rintro e W3 (⟨rfl,⟨X',hJ3,_⟩,hk3⟩ | ⟨rfl,hJx3,_⟩)
   ·have HJ3:Hid (∃X,J 1 X W3):=⟨X',hJ3⟩;clear hJ3 hk3
    gi_wp2
    go_roundw
    case rel=>exact⟨1,by omega,by go_num,fun h=>by omega,fun _=>HJ3.out⟩
    case measure=>simp[intOf]
   gi_wp2
   refine bodyPost_ret (results_none rfl _ _ _) rfl ?_;exact⟨⟨_,rfl⟩,.inr hJx3⟩
  obtain rfl:k=1:=by omega
  have HJ:Hid (∃X,J 1 X wr):=hk1 rfl;clear hk0 hk1
  gi_wp2
  go_end0
  exact⟨⟨_,rfl⟩,.inl HJ.out⟩
theorem values_it (F:Ft)(b Bs:Nat)(ao4:Option Addr)(n4 cap4:Nat)(w:World)(hB:Boxed w Bs 96 (.slice (some ⟨b,0,none⟩) 1 1))(hf:FaBox w b F.1 F.2.1 (.slice ao4 n4 cap4))(hG:GS hopE w (.slice ao4 n4 cap4) F.2.2):
 ItF Tryz.prog 96 #[.pointer (some ⟨Bs,0,none⟩)] FtV w.heap.size [F] w:=by
 intro l J Jx W hW hn h0 hlt hab hax hY;exact (callsIn_wide (n:=3)).1 (values1_in 3 (by omega) l w.heap.size F b Bs ao4 n4 cap4 J Jx W ((Kb.of_below hW (fun b hb _=>hb):Kb (fun _=>True) w W).boxed hB trivial) (hf.later hW) (hG.later hW) h0 hab hY)
theorem values_any (a:Option Addr)(len cap:Nat)(w:World):
 Calls Tryz.prog 61 #[.slice a len cap] w fun e w'=>e=.returned (.func (Fn.func 96) #[] #[.pointer (some ⟨w.heap.size,0,none⟩)])∧w'=w.alloc (.cells #[.slice a len cap] 96):=by
 go_enter Tryz.func61,Tryz.ntmps61;go_wp2;go_ret;exact⟨rfl,rfl⟩
theorem fates_any (m:ByteArray)(x y h:Int)(g:Nat)(S:Int)(ao:Option Addr)(n cap:Nat)(ao2:Option Addr)(n2 cap2:Nat)(ao3:Option Addr)(n3 cap3:Nat)(Ls:LkQ)(Hs:HoQ)(Ts:List (List Ru))(w:World)
 (hI:NIn w g S (.slice ao n cap) (.slice ao2 n2 cap2) (.slice ao3 n3 cap3) Ls Hs Ts) (hN:ntN S Ls Hs Ts=0) (hx:spB S (x,y)=true):
 Calls Tryz.prog 60 #[.agg #[.string m,.int .i64 x,.int .i64 y],.int .i64 h,.pointer (some ⟨g,0,none⟩)] w fun e w'=>∃gi lb,e=.returned (.func (Fn.func gi) #[] lb)∧(∀args w,(callFunc gi args).run Tryz.prog w=.ok (.enter gi args) w)∧ItF Tryz.prog gi lb FtV w'.heap.size [frF Ls Hs Ts (x,y) h] w'∧Below w.heap.size w w':=by
 have hb0:Below w.heap.size w (w.alloc (Obj.cells #[.string m,.int .i64 x,.int .i64 y] 77)):=(Below.refl _ _).alloc (Nat.le_refl _) _;have hI0:=hI.later hb0;have hs:=hsbox_new w m x y 77;obtain⟨w0,hw0⟩:∃W,w.alloc (Obj.cells #[.string m,.int .i64 x,.int .i64 y] 77)=W:=⟨_,rfl⟩;rw[hw0] at hb0 hI0 hs;have HW0:Hid (w.alloc (Obj.cells #[.string m,.int .i64 x,.int .i64 y] 77)=w0):=hw0;have HB0:Hid (Below w.heap.size w w0):=hb0;have HI0:Hid (NIn w0 g S (.slice ao n cap) (.slice ao2 n2 cap2) (.slice ao3 n3 cap3) Ls Hs Ts):=hI0;have HN:Hid (ntN S Ls Hs Ts=0):=hN;have HSP:Hid (spB S (x,y)=true):=hx;obtain⟨F,hF⟩:∃F,F=frF Ls Hs Ts (x,y) h:=⟨_,rfl⟩;have HF:Hid (frF Ls Hs Ts (x,y) h=F):=hF.symm;rw[←hF];obtain⟨b0,b1,b2,b3⟩:=hI0.box;obtain⟨s0,s1,s2⟩:=hs;clear hb0 hI0 hI hN hx hw0 hF;go_enter Tryz.func60,Tryz.ntmps60;go_upto_region 1 with fail;rw[HW0.out];clear HW0
 go_wp2_with fail
 refine (follow_any S ao n cap ao2 n2 cap2 ao3 n3 cap3 Ls Hs Ts x y h _ HI0.out.l HI0.out.h HI0.out.t HN.out HSP.out).mono ?_;rintro e w1 ⟨ao4,n4,cap4,rfl,hown,hb1⟩;rw[HF.out] at hown;rw[HF.out];have hG:GS hopE w1 (.slice ao4 n4 cap4) F.2.2:=own_GS (E:=hopE) hown;have HB1:Hid (Below w.heap.size w w1):=HB0.out.trans (hb1.mono HB0.out.size);have HG:Hid (GS hopE w1 (.slice ao4 n4 cap4) F.2.2):=hG;obtain⟨F1,hF1⟩:∃q,q=F.1:=⟨_,rfl⟩;obtain⟨F2,hF2⟩:∃q,q=F.2.1:=⟨_,rfl⟩;rw[←hF1,←hF2];have HFV:Hid (F.1=F1∧F.2.1=F2):=⟨hF1.symm,hF2.symm⟩;clear hF1 hF2 hown hb1 hG b0 b1 b2 b3 s0 s1 s2
 go_wp2_with fail
 refine (values_any _ _ _ _).mono ?_;rintro e w2 ⟨rfl,hw2⟩;have hal:Below w1.heap.size w1 (w1.alloc (Obj.cells #[.int .i64 F1,.string F2,.slice ao4 n4 cap4] 83)):=(Below.refl _ _).alloc (Nat.le_refl _) _;have hal2:Below (w1.alloc (Obj.cells #[.int .i64 F1,.string F2,.slice ao4 n4 cap4] 83)).heap.size (w1.alloc (Obj.cells #[.int .i64 F1,.string F2,.slice ao4 n4 cap4] 83)) w2:=by rw[hw2];exact (Below.refl _ _).alloc (Nat.le_refl _) _
 have hbx:Boxed w2 (w1.alloc (Obj.cells #[.int .i64 F1,.string F2,.slice ao4 n4 cap4] 83)).heap.size 96 (.slice (some ⟨w1.heap.size,0,none⟩) 1 1):=by rw[hw2];exact Boxed.new _ _ _
 have hfb:FaBox w2 w1.heap.size F.1 F.2.1 (.slice ao4 n4 cap4):=by rw[HFV.out.1,HFV.out.2];exact (fabox_new w1 F1 F2 _ 83).later hal2
 have HIT:Hid (ItF Tryz.prog 96 #[.pointer (some ⟨(w1.alloc (Obj.cells #[.int .i64 F1,.string F2,.slice ao4 n4 cap4] 83)).heap.size,0,none⟩)] FtV w2.heap.size [F] w2):=values_it F _ _ ao4 n4 cap4 w2 hbx hfb ((HG.out.later hal).later hal2);have HB2:Hid (Below w.heap.size w w2):=HB1.out.trans ((hal.trans (hal2.mono hal.size)).mono HB1.out.size);clear hw2 hal hal2 hbx hfb;go_wp2;go_ret;refine⟨_,_,rfl,enters_of Tryz.func96 (by kernel_rfl) rfl,?_,HB2.out⟩;have h:=HIT.out;rw[World.size_alloc] at h;exact h
theorem broken_any (g:Nat)(S:Int)(ao:Option Addr)(n cap:Nat)(ao2:Option Addr)(n2 cap2:Nat)(ao3:Option Addr)(n3 cap3:Nat)(a4:Option Addr)(n4 c4:Nat)(Ls:LkQ)(Hs:HoQ)(Ts:List (List Ru))(l:List Wi)(w:World)
 (hI:NIn w g S (.slice ao n cap) (.slice ao2 n2 cap2) (.slice ao3 n3 cap3) Ls Hs Ts) (hN:ntN S Ls Hs Ts=0) (hl:GS wisE w (.slice a4 n4 c4) l):
 Calls Tryz.prog 59 #[.slice ao2 n2 cap2,.slice a4 n4 c4,.func (Fn.func 60) #[] #[.pointer (some ⟨g,0,none⟩)]] w fun e w'=>e=.returned (.tuple #[.agg #[.int .i64 (prV Hs (brW Ls Hs Ts l Hs l.length)).1,.string (prV Hs (brW Ls Hs Ts l Hs l.length)).2.1,.int .i64 (prV Hs (brW Ls Hs Ts l Hs l.length)).2.2],.bool (brW Ls Hs Ts l Hs l.length).isSome])∧Below w.heap.size w w':=by
 have hHG:=(tp_0 (nt_0 hN).1).2.2.2.2.1;refine (fwbrk_any g ao2 n2 cap2 a4 n4 c4 Hs (fun z h=>[frF Ls Hs Ts (Hs.getD z zeO).2 (h:Int)]) l w hI.h hl (fun h hh=>?_) ?_).mono ?_
 ·have:=nm_small (hHG h hh).1;omega
 ·intro z hz h h16 W hW;have e:Hs.getD z zeO=Hs[z]:=getO hz
  dsimp only
  rw[e];exact fates_any Hs[z].1 Hs[z].2.1 Hs[z].2.2 h g S ao n cap ao2 n2 cap2 ao3 n3 cap3 Ls Hs Ts W (hI.later hW) hN (hHG _ (List.getElem_mem hz)).2
 rintro e w' ⟨held,p,rfl,hF,hb⟩;obtain⟨e1,e2⟩:=fb_br hF;rw[e1,e2];exact⟨rfl,hb⟩
structure HoBox (w W:World)(S:Int)(v1 v2 v3:Value):Prop where
 below:Below w.heap.size w W
 n:NeBox W w.heap.size S v1 v2 v3
 p:PrBox w W (w.heap.size+1) 0 ⟨#[]⟩ 0
theorem hobox_new (w:World)(S:Int)(v1 v2 v3:Value):HoBox w ((w.alloc (Obj.cells #[.int .i64 S,v1,v2,v3] 28)).alloc (Obj.cells #[.int .i64 0,.string ⟨#[]⟩,.int .i64 0] 43)) S v1 v2 v3:=by
 have e1:(w.alloc (Obj.cells #[.int .i64 S,v1,v2,v3] 28)).heap.size=w.heap.size+1:=by simp
 have hb:∀(W:World) (o:Obj),Below W.heap.size W (W.alloc o):=fun W o=>(Below.refl _ _).alloc (Nat.le_refl _) _
 have hn:=(nebox_new w S v1 v2 v3 28).later (hb _ (Obj.cells #[.int .i64 0,.string ⟨#[]⟩,.int .i64 0] 43));have hB:=((Below.refl w.heap.size w).alloc (Nat.le_refl _) (Obj.cells #[.int .i64 S,v1,v2,v3] 28)).alloc (by rw[e1];omega) (Obj.cells #[.int .i64 0,.string ⟨#[]⟩,.int .i64 0] 43)
 generalize w.alloc (Obj.cells #[.int .i64 S,v1,v2,v3] 28)=X at e1 hn hB
 have hr:=prbox_new X w 0 ⟨#[]⟩ 0;rw[e1] at hr;exact⟨hB,hn,hr⟩
theorem HoBox.later {w W W':World}{S:Int}{v1 v2 v3:Value}(k:HoBox w W S v1 v2 v3)(hb:Below W.heap.size W W'):HoBox w W' S v1 v2 v3:=
 ⟨k.below.trans (hb.mono k.below.size),k.n.later hb,k.p.later hb⟩
theorem holds_any (S:Int)(ao:Option Addr)(n cap:Nat)(ao2:Option Addr)(n2 cap2:Nat)(ao3:Option Addr)(n3 cap3:Nat)(a4:Option Addr)(n4 c4:Nat)(Ls:LkQ)(Hs:HoQ)(Ts:List (List Ru))(l:List Wi)(w:World)
 (hL:GS lnkE w (.slice ao n cap) Ls) (hH:GS hstE w (.slice ao2 n2 cap2) Hs) (hT:TS w (.slice ao3 n3 cap3) Ts) (hl:GS wisE w (.slice a4 n4 c4) l):
 Calls Tryz.prog 35 #[.agg #[.int .i64 S,.slice ao n cap,.slice ao2 n2 cap2,.slice ao3 n3 cap3],.slice a4 n4 c4] w fun e w'=>e=.returned (.tuple #[.agg #[.int .i64 (wiV S Ls Hs Ts l).1,.string (wiV S Ls Hs Ts l).2.1,.int .i64 (wiV S Ls Hs Ts l).2.2],noV (wiN S Ls Hs Ts l)])∧Below w.heap.size w w':=by
 obtain⟨R,hR⟩:∃R,R=wiN S Ls Hs Ts l:=⟨_,rfl⟩;obtain⟨V,hV⟩:∃V,V=wiV S Ls Hs Ts l:=⟨_,rfl⟩;have HR:Hid (R=wiN S Ls Hs Ts l):=hR;have HV:Hid (V=wiV S Ls Hs Ts l):=hV;rw[←hR,←hV];have HLW:Hid (∀W,Below w.heap.size w W→GS lnkE W (.slice ao n cap) Ls):=fun W hb=>hL.later hb
 have HHW:Hid (∀W,Below w.heap.size w W→GS hstE W (.slice ao2 n2 cap2) Hs):=fun W hb=>hH.later hb
 have HTW:Hid (∀W,Below w.heap.size w W→TS W (.slice ao3 n3 cap3) Ts):=fun W hb=>hT.later hb
 have HlW:Hid (∀W,Below w.heap.size w W→GS wisE W (.slice a4 n4 c4) l):=fun W hb=>hl.later hb
 have hX:=hobox_new w S (.slice ao n cap) (.slice ao2 n2 cap2) (.slice ao3 n3 cap3);obtain⟨w0,hw0⟩:∃W,(w.alloc (Obj.cells #[.int .i64 S,.slice ao n cap,.slice ao2 n2 cap2,.slice ao3 n3 cap3] 28)).alloc (Obj.cells #[.int .i64 0,.string ⟨#[]⟩,.int .i64 0] 43)=W:=⟨_,rfl⟩;rw[hw0] at hX;have HX:Hid (HoBox w w0 S (.slice ao n cap) (.slice ao2 n2 cap2) (.slice ao3 n3 cap3)):=hX;have HW0:Hid ((w.alloc (Obj.cells #[.int .i64 S,.slice ao n cap,.slice ao2 n2 cap2,.slice ao3 n3 cap3] 28)).alloc (Obj.cells #[.int .i64 0,.string ⟨#[]⟩,.int .i64 0] 43)=w0):=hw0;clear hL hH hT hl hR hV hX hw0;go_enter Tryz.func35,Tryz.ntmps35;go_upto_region 1 with fail;rw[HW0.out];obtain⟨_,⟨b0,b1,b2,b3⟩,_⟩:=HX.out;clear HW0
 go_wp2_with fail
 refine (ncheck_any S ao n cap ao2 n2 cap2 ao3 n3 cap3 Ls Hs Ts _ (HLW.out _ HX.out.below) (HHW.out _ HX.out.below) (HTW.out _ HX.out.below)).mono ?_;rintro e w1 ⟨rfl,hb1⟩;obtain⟨T,hT⟩:∃T,T=ntN S Ls Hs Ts:=⟨_,rfl⟩;have HT:Hid (T=ntN S Ls Hs Ts):=hT;rw[←hT];have HX1:Hid (HoBox w w1 S (.slice ao n cap) (.slice ao2 n2 cap2) (.slice ao3 n3 cap3)):=HX.out.later hb1;clear hT hb1 HX b0 b1 b2 b3;by_cases h0:T=0
 ·have HN0:Hid (ntN S Ls Hs Ts=0):=HT.out.symm.trans h0;subst h0;rw[no_ok rfl];obtain⟨_,⟨b0,b1,b2,b3⟩,_⟩:=HX1.out
  go_wp2_with fail
  refine (wcheck_any S ao n cap ao2 n2 cap2 a4 n4 c4 Ls Hs l _ (HLW.out _ HX1.out.below) (HHW.out _ HX1.out.below) (HlW.out _ HX1.out.below)).mono ?_;rintro e w2 ⟨rfl,hb2⟩;obtain⟨U,hU⟩:∃U,U=wsN S Ls Hs l:=⟨_,rfl⟩;have HU:Hid (U=wsN S Ls Hs l):=hU;rw[←hU];have HX2:Hid (HoBox w w2 S (.slice ao n cap) (.slice ao2 n2 cap2) (.slice ao3 n3 cap3)):=HX1.out.later hb2;clear hU hb2 HX1 b0 b1 b2 b3;by_cases h5:U=0
  ·have HU0:Hid (wsN S Ls Hs l=0):=HU.out.symm.trans h5;subst h5;rw[no_ok rfl];obtain⟨_,⟨b0,b1,b2,b3⟩,_⟩:=HX2.out;have hlw:w.heap.size<w2.heap.size:=bLQ _ _ b0
   go_wp2_with fail
   refine (broken_any w.heap.size S ao n cap ao2 n2 cap2 ao3 n3 cap3 a4 n4 c4 Ls Hs Ts l _ ⟨HX2.out.n,HLW.out _ HX2.out.below,HHW.out _ HX2.out.below,HTW.out _ HX2.out.below⟩ HN0.out (HlW.out _ HX2.out.below)).mono ?_;rintro e w3 ⟨rfl,hb3⟩;obtain⟨O,hO⟩:∃O,O=brW Ls Hs Ts l Hs l.length:=⟨_,rfl⟩;have HRO:Hid (R=if O.isSome then 9 else 0):=by
    show _=_;rw[HR.out,wiN,if_pos HN0.out,if_pos HU0.out,hO]
   have HVO:Hid (V=prV Hs O):=by
    show _=_;rw[HV.out,wiV,if_pos ⟨HN0.out,HU0.out⟩,hO]
   rw[←hO,←HVO.out];have HX3:Hid (HoBox w w3 S (.slice ao n cap) (.slice ao2 n2 cap2) (.slice ao3 n3 cap3)):=HX2.out.later hb3;obtain⟨V1,hV1⟩:∃q,q=V.1:=⟨_,rfl⟩;obtain⟨V2,hV2⟩:∃q,q=V.2.1:=⟨_,rfl⟩;obtain⟨V3,hV3⟩:∃q,q=V.2.2:=⟨_,rfl⟩;have HVV:Hid (V.1=V1∧V.2.1=V2∧V.2.2=V3):=⟨hV1.symm,hV2.symm,hV3.symm⟩;rw[←hV1,←hV2,←hV3];have hal:Below w3.heap.size w3 (w3.alloc (Obj.cells #[.int .i64 V1,.string V2,.int .i64 V3] 43)):=(Below.refl _ _).alloc (Nat.le_refl _) _;have hpr:=prbox_new w3 w V1 V2 V3;have hX4:=HX3.out.later hal;obtain⟨w4,hw4⟩:∃W,w3.alloc (Obj.cells #[.int .i64 V1,.string V2,.int .i64 V3] 43)=W:=⟨_,rfl⟩;obtain⟨gp,hgp⟩:∃q,q=w3.heap.size:=⟨_,rfl⟩;rw[hw4] at hal hpr hX4;rw[←hgp] at hpr;have HW4:Hid (w3.alloc (Obj.cells #[.int .i64 V1,.string V2,.int .i64 V3] 43)=w4):=hw4;have HGP:Hid (w3.heap.size=gp):=hgp.symm;have HLP:Hid (w.heap.size+1<gp):=by
    show _<_;rw[hgp];have h1:=bLQ _ _ HX3.out.p.c0;simpa using h1
   have HPR:Hid (PrBox w w4 gp V1 V2 V3):=hpr;have HX4:Hid (HoBox w w4 S (.slice ao n cap) (.slice ao2 n2 cap2) (.slice ao3 n3 cap3)):=hX4;clear hb3 hO hV1 hV2 hV3 hal hpr hX4 hw4 hgp b0 b1 b2 b3 HX2;obtain⟨B,hB⟩:∃B,B=O.isSome:=⟨_,rfl⟩;have HBO:Hid (O.isSome=B):=hB.symm;rw[←hB];clear hB;go_upto_region 8 with fail;rw[HW4.out,HGP.out];clear HW4 HGP;obtain⟨hB4,_,⟨r0,r1,r2,rf⟩⟩:=HX4.out;have f0:=rf 0;have f1:=rf 1;have f2:=rf 2;have HB4:Hid (Below w.heap.size w w4):=hB4;obtain⟨p0,p1,p2,_⟩:=HPR.out;clear hB4 rf;cases B with
   | true =>
     have HR9:Hid (R=9):=by
      show _=_;rw[HRO.out,HBO.out,if_pos rfl]
     go_wp2;refine bodyPost_ret (v:=.tuple #[.agg #[.int .i64 V1,.string V2,.int .i64 V3],.iface 68 (.int .i64 9)]) (by simp[results,Tryz.results35,go_sem, *]) rfl ⟨by rw[HR9.out,HVV.out.1,HVV.out.2.1,HVV.out.2.2];rfl,below_put3 HB4.out _ (by omega) _ _ _⟩
   | false =>
     have HR9:Hid (R=0):=by
      show _=_;rw[HRO.out,HBO.out,if_neg (by decide)]
     have HVZ:Hid (V=(0,ByteArray.empty,0)):=by
      show _=_;rw[HVO.out];cases O with
      | none=>rfl
      | some p=>have:=HBO.out;simp at this
     go_wp2;refine bodyPost_ret (v:=.tuple #[.agg #[.int .i64 0,.string ⟨#[]⟩,.int .i64 0],.nilIface]) (by simp[results,Tryz.results35,go_sem, *]) rfl ⟨by rw[HR9.out,HVZ.out];rfl,below_put3 HB4.out _ (by omega) _ _ _⟩
  rw[no_ne h5];have HNE:Hid (U≠0):=h5;have HR1:Hid (R=U):=by
   show _=_;rw[HR.out,wiN,if_pos HN0.out,if_neg (by rw[←HU.out];exact h5),HU.out]
  have HV1:Hid (V=(0,ByteArray.empty,0)):=by
   show _=_;rw[HV.out,wiV,if_neg (fun h=>h5 (HU.out.trans h.2))]
  obtain⟨hB2,_,⟨r0,r1,r2,rf⟩⟩:=HX2.out;have f0:=rf 0;have f1:=rf 1;have f2:=rf 2;have HB2:Hid (Below w.heap.size w w2):=hB2;clear h5 hB2 rf;go_wp2;refine bodyPost_ret (v:=.tuple #[.agg #[.int .i64 0,.string ⟨#[]⟩,.int .i64 0],.iface 68 (.int .i64 U)]) (by simp[results,Tryz.results35,go_sem, *]) rfl ⟨by rw[HR1.out,HV1.out,no_ne HNE.out];rfl,below_put3 HB2.out _ (by omega) _ _ _⟩
 rw[no_ne h0];have HNE:Hid (T≠0):=h0;have HR1:Hid (R=T):=by
  show _=_;rw[HR.out,wiN,if_neg (by rw[←HT.out];exact h0),HT.out]
 have HV1:Hid (V=(0,ByteArray.empty,0)):=by
  show _=_;rw[HV.out,wiV,if_neg (fun h=>h0 (HT.out.trans h.1))]
 obtain⟨hB2,_,⟨r0,r1,r2,rf⟩⟩:=HX1.out;have f0:=rf 0;have f1:=rf 1;have f2:=rf 2;have HB2:Hid (Below w.heap.size w w1):=hB2;clear h0 hB2 rf;go_wp2;refine bodyPost_ret (v:=.tuple #[.agg #[.int .i64 0,.string ⟨#[]⟩,.int .i64 0],.iface 68 (.int .i64 T)]) (by simp[results,Tryz.results35,go_sem, *]) rfl ⟨by rw[HR1.out,HV1.out,no_ne HNE.out];rfl,below_put3 HB2.out _ (by omega) _ _ _⟩
end
end Go.Proofs.YtiokpmlhmlcojaaGreatDoor
