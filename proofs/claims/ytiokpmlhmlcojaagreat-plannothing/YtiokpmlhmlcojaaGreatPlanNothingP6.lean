/- Contracts and facts on the way to PlanNothing, joined into one text: PlanDiff, PlanMath, PlanMath2, PlanOnly, MixMath, MixMath2, MixMath3, NetMath4, StHop, RuleOrder, RuleLook, RuleApply, NetStep1, NetLegMath. -/
import Derived.Test.YtiokpmlhmlcojaaGreatPlanNothingP5
namespace Go.Proofs.YtiokpmlhmlcojaaGreat
set_option linter.unusedSimpArgs false
set_option linter.unusedVariables false
set_option maxHeartbeats 16000000
set_option maxRecDepth 100000
section
open Go.RowKit
abbrev LkT:Type:=(Int×Int)×(Int×Int)
abbrev HoT:Type:=ByteArray×(Int×Int)
structure NI (W:World)(v1 v2 v3:Value)(Ls:List LkT)(Hs:List HoT)(Ts:List (List Ru)):Prop where
 l:GS lnkE W v1 Ls
 h:GS hstE W v2 Hs
 t:TS W v3 Ts
theorem NI.later {W W':World}{v1 v2 v3:Value}{Ls:List LkT}{Hs:List HoT}{Ts:List (List Ru)}(h:NI W v1 v2 v3 Ls Hs Ts)(hb:Below W.heap.size W W'):NI W' v1 v2 v3 Ls Hs Ts:=⟨h.l.later hb,h.h.later hb,h.t.later hb⟩
theorem NI.form {W:World}{v1 v2 v3:Value}{Ls:List LkT}{Hs:List HoT}{Ts:List (List Ru)}(h:NI W v1 v2 v3 Ls Hs Ts):∃ao n cap ao2 n2 cap2 ao3 n3 cap3,v1=.slice ao n cap∧v2=.slice ao2 n2 cap2∧v3=.slice ao3 n3 cap3:=by
 obtain⟨ao,n,cap,e,_⟩:=h.l.form;obtain⟨ao2,n2,cap2,e2,_⟩:=h.h.form
 rcases h.t with ⟨ao3,cap3,e3,_⟩ | ⟨g,o,cap3,e3,_⟩
 ·exact⟨ao,n,cap,ao2,n2,cap2,ao3,_,cap3,e,e2,e3⟩
 exact⟨ao,n,cap,ao2,n2,cap2,_,_,cap3,e,e2,e3⟩
theorem BN.ni {W:World}{b:Nat}{S:Int}{v1 v2 v3:Value}{Ls:List LkT}{Hs:List HoT}{Ts:List (List Ru)}(h:BN W b S v1 v2 v3 Ls Hs Ts):NI W v1 v2 v3 Ls Hs Ts:=⟨h.l,h.h,h.t⟩
def pdN (S:Int)(Ls:List LkT)(Hs:List HoT)(Ts:List (List Ru))(S':Int)(Ls':List LkT)(Hs':List HoT)(Ts':List (List Ru))(ws:List Wi):Int:=if diN S Ls Hs Ts S' Ls' Hs' Ts'=0 then wsN S Ls Hs ws else diN S Ls Hs Ts S' Ls' Hs' Ts'
def pdL (S:Int)(Ls:List LkT)(Hs:List HoT)(Ts:List (List Ru))(S':Int)(Ls':List LkT)(Hs':List HoT)(Ts':List (List Ru))(ws:List Wi):List Op8:=if pdN S Ls Hs Ts S' Ls' Hs' Ts' ws=0 then diL S Ls Hs Ts S' Ls' Hs' Ts' else []
theorem pdiff_any (S:Int)(v1 v2 v3:Value)(S':Int)(u1 u2 u3 v4:Value)(Ls:List LkT)(Hs:List HoT)(Ts:List (List Ru))(Ls':List LkT)(Hs':List HoT)(Ts':List (List Ru))(ws:List Wi)(w:World)
 (hN:NI w v1 v2 v3 Ls Hs Ts) (hM:NI w u1 u2 u3 Ls' Hs' Ts') (hw:GS wisE w v4 ws):
 Calls Tryz.prog 13 #[.agg #[.int .i64 S,v1,v2,v3],.agg #[.int .i64 S',u1,u2,u3],v4] w fun e w'=>∃v,e=.returned (.tuple #[v,noV (pdN S Ls Hs Ts S' Ls' Hs' Ts' ws)])∧NO w' w.heap.size v (pdL S Ls Hs Ts S' Ls' Hs' Ts' ws)∧Below w.heap.size w w':=by
 obtain⟨ao,n,cap,ao2,n2,cap2,ao3,n3,cap3,rfl,rfl,rfl⟩:=hN.form;obtain⟨bo,m,dap,bo2,m2,dap2,bo3,m3,dap3,rfl,rfl,rfl⟩:=hM.form;obtain⟨a4,n4,c4,rfl,_⟩:=hw.form;obtain⟨w1,hw1⟩:∃W,W=(w.alloc (Obj.cells #[.int .i64 S,.slice ao n cap,.slice ao2 n2 cap2,.slice ao3 n3 cap3] 28)).alloc (Obj.cells #[.int .i64 S',.slice bo m dap,.slice bo2 m2 dap2,.slice bo3 m3 dap3] 28):=⟨_,rfl⟩;have hb1:Below w.heap.size w w1:=by rw[hw1];exact ((Below.refl _ _).alloc (Nat.le_refl _) _).alloc (by simp) _
 have hbx:NN w1 w.heap.size S (.slice ao n cap) (.slice ao2 n2 cap2) (.slice ao3 n3 cap3) S' (.slice bo m dap) (.slice bo2 m2 dap2) (.slice bo3 m3 dap3):=by rw[hw1];exact nn_new w S _ _ _ S' _ _ _ 28
 have HNW:Hid (∀W,Below w1.heap.size w1 W→NI W (.slice ao n cap) (.slice ao2 n2 cap2) (.slice ao3 n3 cap3) Ls Hs Ts∧NI W (.slice bo m dap) (.slice bo2 m2 dap2) (.slice bo3 m3 dap3) Ls' Hs' Ts'∧GS wisE W (.slice a4 n4 c4) ws):=fun W h=>⟨(hN.later hb1).later h,(hM.later hb1).later h,(hw.later hb1).later h⟩
 have HBX:Hid (NeBox w1 w.heap.size S (.slice ao n cap) (.slice ao2 n2 cap2) (.slice ao3 n3 cap3)):=hbx.1;have HB1:Hid (Below w.heap.size w w1):=hb1;have HW1:Hid (w1=(w.alloc (Obj.cells #[.int .i64 S,.slice ao n cap,.slice ao2 n2 cap2,.slice ao3 n3 cap3] 28)).alloc (Obj.cells #[.int .i64 S',.slice bo m dap,.slice bo2 m2 dap2,.slice bo3 m3 dap3] 28)):=hw1;obtain⟨X,hX⟩:∃q,q=diN S Ls Hs Ts S' Ls' Hs' Ts':=⟨_,rfl⟩;have HX:Hid (diN S Ls Hs Ts S' Ls' Hs' Ts'=X):=hX.symm;obtain⟨U,hU⟩:∃q,q=wsN S Ls Hs ws:=⟨_,rfl⟩;have HU:Hid (wsN S Ls Hs ws=U):=hU.symm;obtain⟨E,hE⟩:∃q,q=pdN S Ls Hs Ts S' Ls' Hs' Ts' ws:=⟨_,rfl⟩;have HE:Hid (E=if X=0 then U else X):=by rw[hE,pdN,hX,hU];exact rfl
 have HPL:Hid (pdL S Ls Hs Ts S' Ls' Hs' Ts' ws=if E=0 then diL S Ls Hs Ts S' Ls' Hs' Ts' else []):=by rw[hE];exact rfl
 rw[←hE];clear hN hM hw hb1 hbx hw1 hX hU hE;go_enter Tryz.func13,Tryz.ntmps13
 go_wp2_with fail
 rw[←HW1.out];refine (chDiff_any S ao n cap ao2 n2 cap2 ao3 n3 cap3 S' bo m dap bo2 m2 dap2 bo3 m3 dap3 Ls Hs Ts Ls' Hs' Ts' w1 (HNW.out _ (Below.refl _ _)).1.l (HNW.out _ (Below.refl _ _)).1.h (HNW.out _ (Below.refl _ _)).1.t (HNW.out _ (Below.refl _ _)).2.1.l (HNW.out _ (Below.refl _ _)).2.1.h (HNW.out _ (Below.refl _ _)).2.1.t).mono ?_;rintro e w2 ⟨v,rfl,hNO,hb2⟩;rw[HX.out];have HB2:Hid (Below w1.heap.size w1 w2):=hb2;have HNO:Hid (∀W,Below w2.heap.size w2 W→NO W w.heap.size v (diL S Ls Hs Ts S' Ls' Hs' Ts')):=fun W h=>(hNO.later h).mono HB1.out.size
 obtain⟨b0,b1,b2,b3⟩:=HBX.out.later hb2;clear hNO hb2 HW1 HBX;by_cases hX0:X=0
 ·subst hX0;rw[no_ok rfl];have hEU:E=U:=HE.out.trans (if_pos rfl);subst hEU
  go_wp2_with fail
  refine (wcheck_any S ao n cap ao2 n2 cap2 a4 n4 c4 Ls Hs ws w2 (HNW.out _ HB2.out).1.l (HNW.out _ HB2.out).1.h (HNW.out _ HB2.out).2.2).mono ?_;rintro e w3 ⟨rfl,hb3⟩;rw[HU.out];have HB3:Hid (Below w2.heap.size w2 w3):=hb3;have HBW:Hid (Below w.heap.size w w3):=HB1.out.trans ((HB2.out.trans (hb3.mono HB2.out.size)).mono HB1.out.size);clear hb3 b0 b1 b2 b3;by_cases hE0:E=0
  ·have HL:Hid (pdL S Ls Hs Ts S' Ls' Hs' Ts' ws=diL S Ls Hs Ts S' Ls' Hs' Ts'):=HPL.out.trans (if_pos hE0);have HE0:Hid (E=0):=hE0;rw[no_ok hE0];clear hE0;go_wp2;refine bodyPost_ret (v:=.tuple #[v,.nilIface]) (by simp[results,Tryz.results13,go_sem, *]) rfl ⟨v,by rw[no_ok HE0.out],by rw[HL.out];exact HNO.out _ HB3.out,HBW.out⟩
  have HL:Hid (pdL S Ls Hs Ts S' Ls' Hs' Ts' ws=[]):=HPL.out.trans (if_neg hE0);have HE0:Hid (E≠0):=hE0;rw[no_ne hE0];clear hE0;go_wp2;refine bodyPost_ret (v:=.tuple #[.slice none 0 0,.iface 63 (.int .i64 E)]) (by simp[results,Tryz.results13,go_sem, *]) rfl ⟨.slice none 0 0,by rw[no_ne HE0.out],by rw[HL.out];exact NO.nil _ _,HBW.out⟩
 have hEX:E=X:=HE.out.trans (if_neg hX0);subst hEX;have HL:Hid (pdL S Ls Hs Ts S' Ls' Hs' Ts' ws=[]):=HPL.out.trans (if_neg hX0);have HE0:Hid (E≠0):=hX0;have HBW:Hid (Below w.heap.size w w2):=HB1.out.trans (HB2.out.mono HB1.out.size);rw[no_ne hX0];clear hX0;go_wp2;refine bodyPost_ret (v:=.tuple #[.slice none 0 0,.iface 63 (.int .i64 E)]) (by simp[results,Tryz.results13,go_sem, *]) rfl ⟨.slice none 0 0,by rw[no_ne HE0.out],by rw[HL.out];exact NO.nil _ _,HBW.out⟩
def inS (s a:Nat):Bool:=s.testBit (6-a)
def onS (a:Nat):Nat:=2 ^ (6-a)
def mnS (s t:Nat):Nat:=s &&& (63 ^^^ t)
theorem in_or (s t a:Nat):inS (s ||| t) a=(inS s a || inS t a):=Nat.testBit_or ..
theorem in_on {a b:Nat}(ha:a≤6)(hb:b≤6):inS (onS b) a=decide (a=b):=by
 rw[inS,onS,Nat.testBit_two_pow];by_cases h:a=b
 ·rw[h];simp
 rw[decide_eq_false h,decide_eq_false (by omega)]
theorem in_mn {s t a:Nat}(h1:1≤a)(h2:a≤6):inS (mnS s t) a=(inS s a && !inS t a):=by
 have e:(63:Nat).testBit (6-a)=true:=by
  have:∀k:Fin 6,(63:Nat).testBit k=true:=by decide
  exact this ⟨6-a,by omega⟩
 rw[mnS,inS,Nat.testBit_and,Nat.testBit_xor,e,Bool.true_xor];rfl
theorem in_0 (a:Nat):inS 0 a=false:=Nat.zero_testBit _
theorem or_lt {s t:Nat}(hs:s<64)(ht:t<64):s ||| t<64:=Nat.or_lt_two_pow (n:=6) hs ht
theorem mn_lt {s t:Nat}(hs:s<64):mnS s t<64:=Nat.lt_of_le_of_lt Nat.and_le_left hs
theorem on_lt {a:Nat}(h:1≤a):onS a<64:=by
 have:onS a≤2 ^ 5:=Nat.pow_le_pow_right (by decide) (by omega);omega
theorem set_ext {s t:Nat}(hs:s<64)(ht:t<64)(h:∀a,1≤a→a≤6→inS s a=inS t a):s=t:=by
 apply Nat.eq_of_testBit_eq
 intro i;by_cases hi:i<6
 ·have:=h (6-i) (by omega) (by omega);unfold inS at this
  rwa [show 6-(6-i)=i by omega] at this
 have two:(2:Nat) ^ 6≤2 ^ i:=Nat.pow_le_pow_right (by decide) (by omega);rw[Nat.testBit_lt_two_pow (by omega),Nat.testBit_lt_two_pow (by omega)]
theorem set_0 {s:Nat}(hs:s<64)(h:∀a,1≤a→a≤6→inS s a=false):s=0:=set_ext hs (by decide) fun a h1 h2=>by rw[h a h1 h2,in_0]
theorem set_some {s:Nat}(hs:s<64)(h:s≠0):∃a,1≤a∧a≤6∧inS s a=true:=by
 by_cases hx:∃a,1≤a∧a≤6∧inS s a=true
 ·exact hx
 exact absurd (set_0 hs fun a h1 h2=>by
  cases e:inS s a
  ·rfl
  exact absurd ⟨a,h1,h2,e⟩ hx) h
theorem on_sub {s a:Nat}(h1:1≤a)(h2:a≤6):(mnS (onS a) s=0)↔inS s a=true:=by
 constructor
 ·intro h;have:=in_mn (s:=onS a) (t:=s) h1 h2;rw[h,in_0,in_on h2 h2] at this;simpa using this.symm
 intro h;refine set_0 (mn_lt (on_lt h1)) fun b k1 k2=>?_
 rw[in_mn k1 k2,in_on k2 h2];by_cases e:b=a
 ·subst e;rw[h];simp
 simp[e]
def opA (D:List Op8)(a:Int):List Op8:=D.filter fun o=>o.w==a
def rnTo (D:List Op8)(s:Nat):Nat→List Op8
 | 0=>[]
 | k+1=>rnTo D s k++(if inS s (k+1)=true then opA D ((k+1:Nat):Int) else [])
def rnL (D:List Op8)(s:Nat):List Op8:=rnTo D s 6
def bkL (As Bs:List (List Ru))(k:Nat):List Op8:=ofS ((k+1:Nat):Int) (dfL (As.getD k []) (Bs.getD k []))
theorem cd_succ (As Bs:List (List Ru))(k:Nat):cdL As Bs (k+1)=cdL As Bs k++bkL As Bs k:=by rw[cdL,bkL];rfl
theorem bk_w {As Bs:List (List Ru)}{k:Nat}:∀o∈bkL As Bs k,o.w=((k+1:Nat):Int):=by
 intro o ho;unfold bkL ofS at ho;obtain⟨x,_,rfl⟩:=List.mem_map.1 ho;rfl
theorem cd_w {As Bs:List (List Ru)}:∀{n:Nat},∀o∈cdL As Bs n,1≤o.w∧o.w≤(n:Int)
 | 0,o,ho=>by cases ho
 | n+1,o,ho=>by
   rw[cd_succ,List.mem_append] at ho
   rcases ho with ho | ho
   ·have:=cd_w o ho;omega
   have:=bk_w o ho;omega
theorem fil_bk (As Bs:List (List Ru))(k:Nat)(p:Int→Bool):(bkL As Bs k).filter (fun o=>p o.w)=if p ((k+1:Nat):Int)=true then bkL As Bs k else []:=by
 by_cases h:p ((k+1:Nat):Int)=true
 ·rw[if_pos h];exact List.filter_eq_self.2 fun o ho=>by rw[bk_w o ho];exact h
 rw[if_neg h];exact List.filter_eq_nil_iff.2 fun o ho=>by rw[bk_w o ho];exact h
theorem opA_cd (As Bs:List (List Ru))(k:Nat):∀n:Nat,opA (cdL As Bs n) ((k+1:Nat):Int)=if k<n then bkL As Bs k else []
 | 0=>rfl
 | n+1=>by
   have h:=opA_cd As Bs k n;unfold opA at h ⊢;rw[cd_succ,List.filter_append,h,fil_bk As Bs n (fun x=>x==((k+1:Nat):Int))];by_cases e:n=k
   ·subst e;simp
   have e2:(((n+1:Nat):Int)==((k+1:Nat):Int))=false:=by
    rw[beq_eq_false_iff_ne];omega
   rw[e2];by_cases h1:k<n
   ·simp[h1,show k<n+1 by omega]
   simp[h1,show ¬k<n+1 by omega]
theorem rd_cd (As Bs:List (List Ru))(n s:Nat):∀k,rnTo (cdL As Bs n) s (k+1)=rnTo (cdL As Bs n) s k++(if inS s (k+1)=true∧k<n then bkL As Bs k else []):=by
 intro k;rw[rnTo,opA_cd];by_cases h1:inS s (k+1)=true
 ·by_cases h2:k<n
  ·simp[h1,h2]
  simp[h1,h2]
 simp[h1]
theorem of_rd {As Bs:List (List Ru)}{n s:Nat}{p:Int→Bool}(hn:n≤6)(hp:∀a:Nat,1≤a→a≤6→p (a:Int)=inS s a):(cdL As Bs n).filter (fun o=>p o.w)=rnL (cdL As Bs n) s:=by
 have h1:∀k,k≤n→(cdL As Bs k).filter (fun o=>p o.w)=rnTo (cdL As Bs n) s k:=by
  intro k
  induction k with
  | zero=>intro _;rfl
  | succ k ih =>
    intro hk;rw[cd_succ,List.filter_append,ih (by omega),fil_bk,rd_cd,hp (k+1) (by omega) (by omega)];by_cases h:inS s (k+1)=true
    ·simp[h,show k<n by omega]
    simp[h]
 have h2:∀k,n≤k→rnTo (cdL As Bs n) s k=rnTo (cdL As Bs n) s n:=by
  intro k hk
  induction k with
  | zero=>rw[show n=0 by omega]
  | succ k ih =>
    by_cases e:n=k+1
    ·rw[e]
    rw[rd_cd,ih (by omega)];simp[show ¬k<n by omega]
 rw[h1 n (Nat.le_refl _),rnL,h2 6 hn]
def nwT (As Bs:List (List Ru))(s:Nat):List (List Ru):=(List.range As.length).map fun k=>if inS s (k+1)=true then alL (As.getD k []) (dfL (As.getD k []) (Bs.getD k [])) else As.getD k []
theorem nw_len (As Bs:List (List Ru))(s:Nat):(nwT As Bs s).length=As.length:=by simp[nwT]
theorem nw_get {As Bs:List (List Ru)}{s k:Nat}(h:k<As.length):(nwT As Bs s).getD k []=if inS s (k+1)=true then alL (As.getD k []) (dfL (As.getD k []) (Bs.getD k [])) else As.getD k []:=by
 simp[nwT,List.getD,h]
theorem nw_0 (As Bs:List (List Ru)):nwT As Bs 0=As:=by
 refine List.ext_getElem (by rw[nw_len]) fun k h1 h2=>?_
 simp[nwT,in_0,h2]
theorem ca_rd {S:Int}{As Bs:List (List Ru)}(hS:(As.length:Int)=S)(h6:As.length≤6)(ht:∀j,j<As.length→twN (As.getD j []) (Bs.getD j [])=0){s t:Nat}(hd:∀a,1≤a→a≤6→inS t a=true→inS s a=false):
 ∀k,k≤As.length→caN S (nwT As Bs s) (rnTo (cdL As Bs As.length) t k)=0∧∀j,(caT (nwT As Bs s) (rnTo (cdL As Bs As.length) t k)).getD j []=if j<k then (nwT As Bs (s ||| t)).getD j [] else (nwT As Bs s).getD j []:=by
 intro k
 induction k with
 | zero=>intro _;exact⟨rfl,fun j=>by simp[rnTo,caT]⟩
 | succ k ih =>
   intro hk;obtain⟨i1,i2⟩:=ih (by omega);rw[rd_cd];by_cases h:inS t (k+1)=true
   ·rw[if_pos ⟨h,by omega⟩];have hsk:inS s (k+1)=false:=hd (k+1) (by omega) (by omega) h;have hlen:((caT (nwT As Bs s) (rnTo (cdL As Bs As.length) t k)).length:Int)=S:=by rw[ca_len,nw_len];exact hS
    have hta:taT (caT (nwT As Bs s) (rnTo (cdL As Bs As.length) t k)) ((k+1:Nat):Int)=As.getD k []:=by
     unfold taT;rw[show (((k+1:Nat):Int)-1).toNat=k by omega,i2 k,if_neg (by omega),nw_get (by omega),if_neg (by rw[hsk];decide)]
    have hal:alN (As.getD k []) (dfL (As.getD k []) (Bs.getD k []))=0:=(al_diff (ht k (by omega))).1;have hsw:swB S ((k+1:Nat):Int)=true:=by simp[swB];omega
    obtain⟨c1,c2⟩:=ca_of hsw (l:=dfL (As.getD k []) (Bs.getD k [])) hlen (by rw[hta];exact hal);refine⟨by rw[ca_app,if_pos i1];exact c1,fun j=>?_⟩;rw[cj_app,bkL,c2,hta,show (((k+1:Nat):Int)-1).toNat=k by omega,getD_set,ca_len,nw_len];by_cases e:j=k
    ·subst e;rw[if_pos ⟨rfl,by omega⟩,if_pos (by omega),nw_get (by omega),if_pos (by rw[in_or,h];simp)]
    rw[if_neg (fun x=>e x.1),i2 j];by_cases h3:j<k
    ·rw[if_pos h3,if_pos (by omega)]
    rw[if_neg h3,if_neg (by omega)]
   rw[if_neg (fun x=>h x.1),List.append_nil];refine⟨i1,fun j=>?_⟩;rw[i2 j];by_cases e:j=k
   ·subst e;rw[if_neg (by omega),if_pos (by omega),nw_get (by omega),nw_get (by omega),in_or];simp only[Bool.not_eq_true] at h;rw[h,Bool.or_false]
   by_cases h3:j<k
   ·rw[if_pos h3,if_pos (by omega)]
   rw[if_neg h3,if_neg (by omega)]
section
variable (sf:Nat→Nat→Bool)(all:Nat)
def fiS (done:Nat):Nat→Nat
 | 0=>0
 | k+1=>if (inS (mnS all done) (k+1)&&sf done (fiS done k ||| onS (k+1)))=true then fiS done k ||| onS (k+1) else fiS done k
theorem fi_lt (done:Nat):∀k,fiS sf all done k<64
 | 0=>by simp[fiS]
 | k+1=>by
   rw[fiS];by_cases h:(inS (mnS all done) (k+1)&&sf done (fiS sf all done k ||| onS (k+1)))=true
   ·rw[if_pos h];exact or_lt (fi_lt done k) (on_lt (by omega))
   rw[if_neg h];exact fi_lt done k
theorem fi_in (done:Nat):∀k,k≤6→∀a,1≤a→a≤6→inS (fiS sf all done k) a=true→inS (mnS all done) a=true∧a≤k
 | 0,_,a,_,_,h=>by rw[fiS,in_0] at h;cases h
 | k+1,hk,a,h1,h2,h=>by
   rw[fiS] at h;by_cases c:(inS (mnS all done) (k+1)&&sf done (fiS sf all done k ||| onS (k+1)))=true
   ·rw[if_pos c,in_or,in_on h2 hk] at h;by_cases e:a=k+1
    ·subst e;simp only[Bool.and_eq_true] at c;exact⟨c.1,Nat.le_refl _⟩
    have:=fi_in done k (by omega) a h1 h2 (by simpa[e] using h);exact⟨this.1,by omega⟩
   rw[if_neg c] at h;have:=fi_in done k (by omega) a h1 h2 h;exact⟨this.1,by omega⟩
theorem fi_safe (done:Nat):∀k,fiS sf all done k=0∨sf done (fiS sf all done k)=true
 | 0=>.inl rfl
 | k+1=>by
   rw[fiS];by_cases c:(inS (mnS all done) (k+1)&&sf done (fiS sf all done k ||| onS (k+1)))=true
   ·rw[if_pos c];simp only[Bool.and_eq_true] at c;exact .inr c.2
   rw[if_neg c];exact fi_safe done k
def roO (nx:Nat→Nat):Nat→Nat→Option (List Nat)
 | 0,done=>if done=all then some [] else none
 | n+1,done=>if done=all then some [] else if nx done=0 then none else (roO nx n (done ||| nx done)).map (nx done :: ·)
end
def lfN (all done:Nat):Nat:=((List.range 6).filter fun k=>inS (mnS all done) (k+1)).length
theorem lf_le (all done:Nat):lfN all done≤6:=Nat.le_trans (List.length_filter_le _ _) (by simp)
theorem fil_lt {α:Type}{p q:α→Bool}:∀{l:List α} {a:α},(∀x,q x=true→p x=true)→a∈l→p a=true→q a=false→(l.filter q).length<(l.filter p).length
 | x :: l,a,h,ha,h1,h2=>by
   have hle:∀l:List α,(l.filter q).length≤(l.filter p).length:=by
    intro l
    induction l with
    | nil=>exact Nat.le_refl _
    | cons y l ih =>
      rw[List.filter_cons,List.filter_cons];cases hq:q y
      ·cases hp:p y
       ·simpa using ih
       simp;omega
      simp[h y hq];exact ih
   rw[List.filter_cons,List.filter_cons]
   rcases List.mem_cons.1 ha with e | e
   ·subst e;rw[h1,h2];have:=hle l;simp;omega
   have:=fil_lt h e h1 h2;cases hq:q x
   ·cases hp:p x
    ·simpa using this
    simp;omega
   simp[h x hq];exact this
theorem lf_less {all done s:Nat}(hs:s<64)(h0:s≠0)(hsub:∀a,1≤a→a≤6→inS s a=true→inS (mnS all done) a=true):lfN all (done ||| s)<lfN all done:=by
 obtain⟨a,h1,h2,h3⟩:=set_some hs h0;have hin:=hsub a h1 h2 h3;unfold lfN;obtain⟨k,rfl⟩:∃k,a=k+1:=⟨a-1,by omega⟩;have e:∀k,k∈List.range 6→inS (mnS all (done ||| s)) (k+1)=(inS (mnS all done) (k+1) && !inS s (k+1)):=fun k hk=>by
  have:=List.mem_range.1 hk;rw[in_mn (by omega) (by omega),in_mn (by omega) (by omega),in_or];cases inS all (k+1) <;> cases inS done (k+1) <;> cases inS s (k+1) <;> rfl
 rw[List.filter_congr e];exact fil_lt (a:=k) (fun x hx=>by simp only[Bool.and_eq_true] at hx;exact hx.1) (List.mem_range.2 (by omega)) hin (by rw[h3];simp)
def NxOK (all:Nat)(nx:Nat→Nat):Prop:=∀done,nx done<64∧∀a,1≤a→a≤6→inS (nx done) a=true→inS (mnS all done) a=true
theorem nx_fi (sf:Nat→Nat→Bool)(all:Nat):NxOK all fun done=>fiS sf all done 6:=fun done=>⟨fi_lt sf all done 6,fun a h1 h2 h=>(fi_in sf all done 6 (Nat.le_refl _) a h1 h2 h).1⟩
theorem lf_0 {all done:Nat}(ha:all<64)(hd:done<64)(hs:∀a,1≤a→a≤6→inS done a=true→inS all a=true)(h:lfN all done=0):done=all:=by
 refine set_ext hd ha fun a h1 h2=>?_
 have hn:=List.length_eq_zero_iff.1 h;rw[List.filter_eq_nil_iff] at hn;have:=hn (a-1) (List.mem_range.2 (by omega));rw[show a-1+1=a by omega,in_mn h1 h2] at this;cases e1:inS done a
 ·cases e2:inS all a
  ·rfl
  rw[e1,e2] at this;simp at this
 exact (hs a h1 h2 e1).symm
theorem ro_more {all:Nat}{nx:Nat→Nat}(hx:NxOK all nx)(ha:all<64):∀(n m done:Nat),done<64→(∀a,1≤a→a≤6→inS done a=true→inS all a=true)→lfN all done≤n→lfN all done≤m→roO all nx n done=roO all nx m done
 | 0,m,done,hd,hs,hn,hm=>by
   have e:=lf_0 ha hd hs (by omega);cases m <;> simp[roO,e]
 | n+1,0,done,hd,hs,hn,hm=>by
   have e:=lf_0 ha hd hs (by omega);simp[roO,e]
 | n+1,m+1,done,hd,hs,hn,hm=>by
   rw[roO,roO];by_cases e:done=all
   ·rw[if_pos e,if_pos e]
   rw[if_neg e,if_neg e];by_cases e0:nx done=0
   ·rw[if_pos e0,if_pos e0]
   rw[if_neg e0,if_neg e0];have hl:=lf_less (hx done).1 e0 (hx done).2;rw[ro_more hx ha n m (done ||| nx done) (or_lt hd (hx done).1) (fun a h1 h2 h=>by
    rw[in_or] at h;by_cases e1:inS done a=true
    ·exact hs a h1 h2 e1
    have:=(hx done).2 a h1 h2 (by simpa[e1] using h);rw[in_mn h1 h2] at this;simp only[Bool.and_eq_true] at this;exact this.1) (by omega) (by omega)]
def roA (all:Nat)(nx:Nat→Nat)(done:Nat):Option (List Nat):=roO all nx 6 done
theorem ro_end {all:Nat}(nx:Nat→Nat):roA all nx all=some []:=by simp[roA,roO]
theorem ro_none {all done:Nat}{nx:Nat→Nat}(h:done≠all)(h0:nx done=0):roA all nx done=none:=by simp[roA,roO,h,h0]
theorem ro_step {all done:Nat}{nx:Nat→Nat}(hx:NxOK all nx)(ha:all<64)(hd:done<64)(hs:∀a,1≤a→a≤6→inS done a=true→inS all a=true)(h:done≠all)(h0:nx done≠0):roA all nx done=(roA all nx (done ||| nx done)).map (nx done :: ·):=by
 have hl:=lf_less (hx done).1 h0 (hx done).2;have h6:=lf_le all done;have hs':∀a,1≤a→a≤6→inS (done ||| nx done) a=true→inS all a=true:=fun a h1 h2 h=>by
  rw[in_or] at h;by_cases e1:inS done a=true
  ·exact hs a h1 h2 e1
  have:=(hx done).2 a h1 h2 (by simpa[e1] using h);rw[in_mn h1 h2] at this;simp only[Bool.and_eq_true] at this;exact this.1
 rw[roA,roO,if_neg h,if_neg h0,roA,ro_more hx ha 5 6 _ (or_lt hd (hx done).1) hs' (by omega) (by omega)]
theorem ret_num {k:IntKind}{a b:Int}(h:a=b):Ending.returned (.int k a)=.returned (.int k b):=by rw[h]
theorem or_fin:∀s t:Fin 64,bits .or .i64 ((s:Nat):Int) ((t:Nat):Int)=(((s:Nat) ||| (t:Nat):Nat):Int):=by decide +kernel
theorem mn_fin:∀s t:Fin 64,bits .andNot .i64 ((s:Nat):Int) ((t:Nat):Int)=((mnS (s:Nat) (t:Nat):Nat):Int):=by decide +kernel
theorem and_fin:∀s t:Fin 64,bits .and .i64 ((s:Nat):Int) ((t:Nat):Int)=(((s:Nat) &&& (t:Nat):Nat):Int):=by decide +kernel
theorem bits_or {s t:Nat}(hs:s<64)(ht:t<64):bits .or .i64 (s:Int) (t:Int)=((s ||| t:Nat):Int):=or_fin ⟨s,hs⟩ ⟨t,ht⟩
theorem bits_mn {s t:Nat}(hs:s<64)(ht:t<64):bits .andNot .i64 (s:Int) (t:Int)=((mnS s t:Nat):Int):=mn_fin ⟨s,hs⟩ ⟨t,ht⟩
theorem bits_and {s t:Nat}(hs:s<64)(ht:t<64):bits .and .i64 (s:Int) (t:Int)=((s &&& t:Nat):Int):=and_fin ⟨s,hs⟩ ⟨t,ht⟩
theorem only_any (a:Nat)(w:World)(h1:1≤a)(h2:a≤6):
 Calls Tryz.prog 23 #[.int .i64 (a:Int)] w fun e w'=>e=.returned (.int .i64 (onS a:Int))∧w'=w:=by
 have h0:0≤(a:Int):=by omega
 have h3:(a:Int)≤6:=by omega
 go_enter Tryz.func23,Tryz.ntmps23;go_wp2;go_ret;refine⟨ret_num ?_,rfl⟩
 rcases (by omega:a=1∨a=2∨a=3∨a=4∨a=5∨a=6) with rfl | rfl | rfl | rfl | rfl | rfl <;> decide +kernel
theorem setHas_any (s x:Nat)(w:World)(hs:s<64)(hx:x<64):
 Calls Tryz.prog 25 #[.int .i64 (s:Int),.int .i64 (x:Int)] w fun e w'=>e=.returned (.bool (decide (mnS x s=0)))∧w'=w:=by
 have HE:Hid (bits .andNot .i64 (x:Int) (s:Int)=((mnS x s:Nat):Int)):=bits_mn hx hs;go_enter Tryz.func25,Tryz.ntmps25;go_wp2;go_ret;refine⟨?_,rfl⟩;rw[HE.out];by_cases h:mnS x s=0
 ·rw[h];rfl
 have:(((mnS x s:Nat):Int)==0)=false:=by rw[beq_eq_false_iff_ne];omega
 simp[h,this]
theorem setHas_on (s a:Nat)(w:World)(hs:s<64)(h1:1≤a)(h2:a≤6):
 Calls Tryz.prog 25 #[.int .i64 (s:Int),.int .i64 (onS a:Int)] w fun e w'=>e=.returned (.bool (inS s a))∧w'=w:=by
 refine (setHas_any s (onS a) w hs (on_lt h1)).mono ?_;rintro e w' ⟨rfl,rfl⟩;refine⟨?_,rfl⟩;have h:=on_sub (s:=s) h1 h2;cases hi:inS s a
 ·rw[decide_eq_false (fun h3=>by have:=h.1 h3;rw[hi] at this;cases this)]
 rw[decide_eq_true (h.2 hi)]
structure LO {α:Type}(r:α→α→Bool):Prop where
 irr:∀a,r a a=false
 tr:∀a b c,r a b=true→r b c=true→r a c=true
 tot:∀a b,r a b=false→r b a=false→a=b
theorem lo_int:LO (fun (a b:Int)=>decide (a<b)):=⟨by simp,fun a b c h1 h2=>by simp at *;omega,fun a b h1 h2=>by simp at *;omega⟩
theorem lo_u8:LO (fun (a b:UInt8)=>decide (a<b)):=by
 refine⟨by simp,fun a b c h1 h2=>?_,fun a b h1 h2=>?_⟩
 ·simp only[decide_eq_true_eq] at *;exact UInt8.lt_trans h1 h2
 simp only[decide_eq_false_iff_not,UInt8.not_lt] at *;exact UInt8.le_antisymm h2 h1
def lexP {α β:Type}[DecidableEq α](r:α→α→Bool)(s:β→β→Bool)(a b:α×β):Bool:=if a.1=b.1 then s a.2 b.2 else r a.1 b.1
theorem lo_pair {α β:Type}[DecidableEq α]{r:α→α→Bool}{s:β→β→Bool}(hr:LO r)(hs:LO s):LO (lexP r s):=by
 refine⟨fun a=>by simp[lexP,hs.irr],fun a b c h1 h2=>?_,fun a b h1 h2=>?_⟩
 ·unfold lexP at *;by_cases e1:a.1=b.1
  ·rw[if_pos e1] at h1;by_cases e2:b.1=c.1
   ·rw[if_pos e2] at h2;rw[if_pos (e1.trans e2)];exact hs.tr _ _ _ h1 h2
   rw[if_neg e2] at h2;rw[if_neg (by rw[e1];exact e2),e1];exact h2
  rw[if_neg e1] at h1;by_cases e2:b.1=c.1
  ·rw[if_pos e2] at h2;rw[if_neg (by rw[←e2];exact e1),←e2];exact h1
  rw[if_neg e2] at h2;have h3:=hr.tr _ _ _ h1 h2;by_cases e3:a.1=c.1
  ·rw[e3,hr.irr] at h3;cases h3
  rw[if_neg e3];exact h3
 unfold lexP at *;by_cases e1:a.1=b.1
 ·rw[if_pos e1] at h1;rw[if_pos e1.symm] at h2;exact Prod.ext e1 (hs.tot _ _ h1 h2)
 rw[if_neg e1] at h1;rw[if_neg (fun e=>e1 e.symm)] at h2;exact absurd (hr.tot _ _ h1 h2) e1
def lexL {α:Type}[DecidableEq α](r:α→α→Bool):List α→List α→Bool
 | _,[]=>false
 | [],_ :: _=>true
 | a :: x,b :: y=>if a=b then lexL r x y else r a b
theorem lo_list {α:Type}[DecidableEq α]{r:α→α→Bool}(hr:LO r):LO (lexL r):=by
 refine⟨fun l=>?_,fun a=>?_,fun a=>?_⟩
 ·induction l with
  | nil=>rfl
  | cons x l ih=>simp[lexL,ih]
 ·induction a with
  | nil =>
    intro b c h1 h2;cases b with
    | nil=>cases c <;> simp[lexL] at *
    | cons y b =>
      cases c with
      | nil=>simp[lexL] at h2
      | cons z c=>rfl
  | cons x a ih =>
    intro b c h1 h2;cases b with
    | nil=>simp[lexL] at h1
    | cons y b =>
      cases c with
      | nil=>simp[lexL] at h2
      | cons z c =>
        rw[lexL] at *;by_cases e1:x=y
        ·rw[if_pos e1] at h1;by_cases e2:y=z
         ·rw[if_pos e2] at h2;rw[if_pos (e1.trans e2)];exact ih _ _ h1 h2
         rw[if_neg e2] at h2;rw[if_neg (by rw[e1];exact e2),e1];exact h2
        rw[if_neg e1] at h1;by_cases e2:y=z
        ·rw[if_pos e2] at h2;rw[if_neg (by rw[←e2];exact e1),←e2];exact h1
        rw[if_neg e2] at h2;have h3:=hr.tr _ _ _ h1 h2;by_cases e3:x=z
        ·rw[e3,hr.irr] at h3;cases h3
        rw[if_neg e3];exact h3
 induction a with
 | nil =>
   intro b h1 h2;cases b with
   | nil=>rfl
   | cons y b=>simp[lexL] at h1
 | cons x a ih =>
   intro b h1 h2;cases b with
   | nil=>simp[lexL] at h2
   | cons y b =>
     rw[lexL] at h1 h2;by_cases e1:x=y
     ·rw[if_pos e1] at h1;rw[if_pos e1.symm] at h2;rw[e1,ih _ h1 h2]
     rw[if_neg e1] at h1;rw[if_neg (fun e=>e1 e.symm)] at h2;exact absurd (hr.tot _ _ h1 h2) e1
theorem bytes_lex:∀x y:List UInt8,Op.bytesLess x y=lexL (fun (a b:UInt8)=>decide (a<b)) x y
 | _,[]=>by simp[Op.bytesLess,lexL]
 | [],_ :: _=>by simp[Op.bytesLess,lexL]
 | a :: x,b :: y=>by
   rw[Op.bytesLess,lexL,bytes_lex x y];by_cases e:a=b
   ·subst e;simp
   rw[if_neg e];simp[e]
theorem nm_loop (b:ByteArray):∀(k i:Nat) (r:List UInt8),b.size-i=k→ByteArray.toList.loop b i r=r.reverse++b.data.toList.drop i
 | 0,i,r,h=>by
   rw[ByteArray.toList.loop,if_neg (by omega)];have e:b.data.toList.length≤i:=by rw[Array.length_toList];show b.size≤i;omega
   rw[List.drop_eq_nil_of_le e,List.append_nil]
 | k+1,i,r,h=>by
   have hi:i<b.size:=by omega
   rw[ByteArray.toList.loop,if_pos hi,nm_loop b k (i+1) _ (by omega)];have hl:i<b.data.toList.length:=by rw[Array.length_toList];exact hi
   rw[List.drop_eq_getElem_cons hl,List.reverse_cons,List.append_assoc];have e:b.get! i=b.data.toList[i]:=by
    rw[Array.getElem_toList];show b.data[i]! = b.data[i];exact getElem!_pos b.data i hi
   rw[e];rfl
theorem nm_list (b:ByteArray):b.toList=b.data.toList:=by
 show ByteArray.toList.loop b 0 []=_;rw[nm_loop b _ 0 [] rfl];simp
theorem nm_inj {a b:ByteArray}(h:a.toList=b.toList):a=b:=by
 rw[nm_list,nm_list] at h;exact ByteArray.ext (Array.toList_inj.1 h)
def nmL (a b:ByteArray):Bool:=Op.bytesLess a.toList b.toList
theorem lo_name:LO nmL:=by
 have h:=lo_list lo_u8;refine⟨fun a=>?_,fun a b c h1 h2=>?_,fun a b h1 h2=>?_⟩
 ·rw[nmL,bytes_lex];exact h.irr _
 ·rw[nmL,bytes_lex] at *;exact h.tr _ _ _ h1 h2
 rw[nmL,bytes_lex] at h1 h2;have e:=h.tot _ _ h1 h2;exact nm_inj e
def faL:(Int×ByteArray×HpQ)→(Int×ByteArray×HpQ)→Bool:=
 lexP (fun (a b:Int)=>decide (a<b)) (lexP nmL (lexL (lexP (lexP (fun (a b:Int)=>decide (a<b)) (fun (a b:Int)=>decide (a<b))) (fun (a b:Int)=>decide (a<b)))))
theorem lo_fate:LO faL:=lo_pair lo_int (lo_pair lo_name (lo_list (lo_pair (lo_pair lo_int lo_int) lo_int)))
def puR {α:Type}(r:α→α→Bool)(f:α):List α→List α
 | []=>[f]
 | x :: l=>if r f x=true then f :: x :: l else if r x f=true then x :: puR r f l else x :: l
theorem pu_mem {α:Type}{r:α→α→Bool}(hr:LO r)(f:α):∀{l:List α} {x:α},x∈puR r f l↔x=f∨x∈l
 | [],x=>by simp[puR]
 | y :: l,x=>by
   rw[puR];by_cases h1:r f y=true
   ·rw[if_pos h1];simp
   rw[if_neg h1];by_cases h2:r y f=true
   ·rw[if_pos h2,List.mem_cons,pu_mem hr f,List.mem_cons];constructor
    ·rintro (h | h | h)
     ·exact .inr (.inl h)
     ·exact .inl h
     exact .inr (.inr h)
    rintro (h | h | h)
    ·exact .inr (.inl h)
    ·exact .inl h
    exact .inr (.inr h)
   rw[if_neg h2];have e:y=f:=hr.tot _ _ (by simpa using h2) (by simpa using h1);subst e;simp
def onL (k:HpQ→List (Int×ByteArray×HpQ)→List (Int×ByteArray×HpQ))(l:HpQ)(a:List (Int×ByteArray×HpQ))(g:(Int×ByteArray) ⊕ ((Int×Int)×Int)):List (Int×ByteArray×HpQ):=
 match g with
 | .inl e=>puR faL (e.1,e.2,l) a
 | .inr p=>k (l++[p]) a
def chB (As Bs:List (List Ru))(s:Int):Bool:=decide (0<(bey (taT As s) (taT Bs s)).length+(bey (taT Bs s) (taT As s)).length)
section
variable (Ls:LkQ)(Hs:HoQ)(As Bs:List (List Ru))
def wkL:Nat→HpQ→List Int→List (Int×ByteArray×HpQ)→List (Int×ByteArray×HpQ)
 | 0,_,_,a=>a
 | n+1,l,met,a =>
   if chB As Bs (laH l).1.1=true then
    onL (fun l' a'=>wkL n l' (if (laH l).1.1∈met then met else met++[(laH l).1.1]) a') l
     (if (laH l).1.1∈met then a else onL (fun l' a'=>wkL n l' met a') l a (goE Ls Hs (taT As (laH l).1.1) l (laH l)))
     (goE Ls Hs (taT Bs (laH l).1.1) l (laH l))
   else if (laH l).1.1∈met then a else onL (fun l' a'=>wkL n l' met a') l a (goE Ls Hs (taT As (laH l).1.1) l (laH l))
variable {Ls Hs As Bs}
theorem on_mem {k:HpQ→List (Int×ByteArray×HpQ)→List (Int×ByteArray×HpQ)}(hk:∀l a x,x∈k l a↔x∈a∨x∈k l [])(l:HpQ)(a:List (Int×ByteArray×HpQ))(g:(Int×ByteArray) ⊕ ((Int×Int)×Int))(x:Int×ByteArray×HpQ):x∈onL k l a g↔x∈a∨x∈onL k l [] g:=by
 cases g with
 | inl e =>
   simp only[onL];rw[pu_mem lo_fate,pu_mem lo_fate];simp only[List.not_mem_nil,or_false];exact Or.comm
 | inr p=>exact hk _ _ _
theorem wk_mem:∀(n:Nat) (l:HpQ) (met:List Int) (a:List (Int×ByteArray×HpQ)) (x:Int×ByteArray×HpQ),x∈wkL Ls Hs As Bs n l met a↔x∈a∨x∈wkL Ls Hs As Bs n l met []
 | 0,l,met,a,x=>by simp[wkL]
 | n+1,l,met,a,x=>by
   have h1:=on_mem (k:=fun l' a'=>wkL Ls Hs As Bs n l' met a') (fun l a x=>wk_mem n l met a x) l;have h2:=on_mem (k:=fun l' a'=>wkL Ls Hs As Bs n l' (if (laH l).1.1∈met then met else met++[(laH l).1.1]) a') (fun l' a x=>wk_mem n l' _ a x) l;rw[wkL,wkL];by_cases hc:chB As Bs (laH l).1.1=true
   ·rw[if_pos hc,if_pos hc];by_cases hm:(laH l).1.1∈met
    ·simp only[hm,if_true] at h2 ⊢;exact h2 _ _ _
    simp only[hm,if_false] at h2 ⊢;rw[h2,h1,h2 (onL _ l [] _)];exact or_assoc
   rw[if_neg hc,if_neg hc];by_cases hm:(laH l).1.1∈met
   ·rw[if_pos hm,if_pos hm];simp
   rw[if_neg hm,if_neg hm];exact h1 _ _ _
def seeL (Ls:LkQ)(Hs:HoQ)(As Bs:List (List Ru))(s:Int×Int)(h:Int):List (Int×ByteArray×HpQ):=wkL Ls Hs As Bs 24 [(s,h)] [] []
end
theorem getR {L:List Ru}{k:Nat}(h:k<L.length):L.getD k zeR=L[k]:=by simp[List.getD,h]
theorem be_in {L:List Ru}{h:Int}(h0:0≤beTo L h L.length):L.getD (beTo L h L.length).toNat zeR∈L∧(L.getD (beTo L h L.length).toNat zeR).has h=true∧∀r∈L,r.has h=true→ordR r (L.getD (beTo L h L.length).toNat zeR)≤0:=by
 have hb:=be_bd L h L.length;have hl:(beTo L h L.length).toNat<L.length:=by omega
 obtain⟨d1,d2⟩:=be_yes h0;refine⟨by rw[getR hl];exact List.getElem_mem hl,d1,fun r hr hh=>?_⟩;obtain⟨j,hj,rfl⟩:=List.getElem_of_mem hr;have:=d2 j hj (by rw[getR hj];exact hh);rw[getR hj] at this;exact this
theorem be_neg {L:List Ru}{h:Int}(h0:beTo L h L.length<0):∀r∈L,r.has h=false:=by
 intro r hr;obtain⟨j,hj,rfl⟩:=List.getElem_of_mem hr;have:=be_no h0 j hj;rw[getR hj] at this;exact this
theorem be_sign {A B:List Ru}(hm:∀r,r∈A→r∈B){h:Int}(h0:0≤beTo A h A.length):0≤beTo B h B.length:=by
 obtain⟨d1,d2,_⟩:=be_in h0
 rcases Int.lt_or_le (beTo B h B.length) 0 with h1 | h1
 ·have:=be_neg h1 _ (hm _ d1);rw[d2] at this;cases this
 exact h1
theorem lu_alike {A B:List Ru}(hA:tbN A=0)(hB:tbN B=0)(hm:∀r,r∈A↔r∈B)(h:Int):(luN A h=0↔luN B h=0)∧(luN A h=0→roR A h=roR B h):=by
 have e:luN A h=0↔luN B h=0:=by
  rw[lu_0,lu_0];exact⟨fun q=>⟨hB,q.2.1,be_sign (fun r=>(hm r).1) q.2.2⟩,fun q=>⟨hA,q.2.1,be_sign (fun r=>(hm r).2) q.2.2⟩⟩
 refine⟨e,fun h0=>?_⟩;have h1:=e.1 h0;have a:=be_in (lu_0.1 h0).2.2;have b:=be_in (lu_0.1 h1).2.2;rw[roR,roR,luI,luI,if_pos h0,if_pos h1];have q1:=b.2.2 _ ((hm _).1 a.1) a.2.1;have q2:=a.2.2 _ ((hm _).2 b.1) b.2.1;exact tb_key hB ((hm _).1 a.1) b.1 (by rw[keyB,ord_as q1 q2];rfl)
theorem st_alike {A B:List Ru}(hA:tbN A=0)(hB:tbN B=0)(hm:∀r,r∈A↔r∈B)(p:(Int×Int)×Int):stT B p=stT A p:=by
 obtain⟨e1,e2⟩:=lu_alike hA hB hm p.2;unfold stT;by_cases h:luN A p.2=0
 ·rw[if_pos h,if_pos (e1.1 h),e2 h]
 rw[if_neg h,if_neg (fun q=>h (e1.2 q))]
theorem ch_alike {As Bs:List (List Ru)}{s:Int}(h:chB As Bs s=false):∀r,r∈taT As s↔r∈taT Bs s:=by
 have h1:(bey (taT As s) (taT Bs s)).length=0∧(bey (taT Bs s) (taT As s)).length=0:=by
  unfold chB at h;simp at h;constructor
  ·rw[h.1];rfl
  rw[h.2];rfl
 have sub {X Y:List Ru} (e:(bey X Y).length=0):∀r∈X,r∈Y:=by
  intro r hr;have e:=List.length_eq_zero_iff.1 e;rw[bey,List.filter_eq_nil_iff] at e;have:=e r hr;simp at this;exact in_iff.1 this
 exact fun r=>⟨sub h1.1 r,sub h1.2 r⟩
section
variable {Ls:LkQ}{Hs:HoQ}{Ts:List (List Ru)}{l:HpQ}{q:(Int×Int)×Int}
theorem fo_r (h:l.length≤24):foF Ls Hs Ts (25-l.length) l=match enE Ls Hs Ts l (laH l) with | .inl e=>(e.1,e.2,l) | .inr p=>foF Ls Hs Ts (24-l.length) (l++[p]):=by
 have e:25-l.length=(24-l.length)+1:=by omega
 rw[e];exact fo_s _ _
theorem la_app (l:HpQ)(p:(Int×Int)×Int):laH (l++[p])=p:=by
 rw[la_at];simp only[List.length_append,List.length_cons,List.length_nil,Nat.add_sub_cancel,Nat.zero_add];exact at_app l p
end
end
section
open Go.ChangeShapes Go.WideShapes Go.ChangeAt Go.RowKit Go.Joins
def hopE:Enc ((Int×Int)×Int) where
 c:=fun x=>[.int .i64 x.1.1,.int .i64 x.1.2,.int .i64 x.2]
 n:=3
 len:=fun _=>rfl
 pos:=by decide
 one:=by
  intro x u hu;simp at hu
  rcases hu with rfl | rfl | rfl <;> rfl
theorem hop_cells {w:World}{g o:Nat}{x0 x1 x2:Int}(h:VAt w g o (hopE.c ((x0,x1),x2))):w.cell? ⟨g,o,none⟩=some (.int .i64 x0)∧w.cell? ⟨g,o+1,none⟩=some (.int .i64 x1)∧w.cell? ⟨g,o+2,none⟩=some (.int .i64 x2):=
 ⟨h 0 _ rfl,h 1 _ rfl,h 2 _ rfl⟩
theorem hop_at {w:World}{g o:Nat}{L:HpQ}(h:GAt hopE w g o L){n k:Nat}(hn:L.length=n)(hk:k<n):
 ∃(x0:Int) (x1:Int) (x2:Int) (hl:k<L.length),L[k]=((x0,x1),x2)∧w.cell? ⟨g,o+k*3,none⟩=some (.int .i64 x0)∧w.cell? ⟨g,o+k*3+1,none⟩=some (.int .i64 x1)∧w.cell? ⟨g,o+k*3+2,none⟩=some (.int .i64 x2):=
 have hl:k<L.length:=by omega
 ⟨_,_,_,hl,rfl,hop_cells (h k hl)⟩
theorem hop_new (w:World)(x0 x1 x2:Int)(t:TypeId):VAt (w.alloc (Obj.cells #[.int .i64 x0,.int .i64 x1,.int .i64 x2] t)) w.heap.size 0 (hopE.c ((x0,x1),x2)):=vat_new w [.int .i64 x0,.int .i64 x1,.int .i64 x2] t
def hopB (a b:(Int×Int)×Int):Bool:=(a.1.1==b.1.1)&&((a.1.2==b.1.2)&&((a.2==b.2)))
theorem hop_ways (x0 x1 x2 y0 y1 y2:Int):
 ((x0==y0)=false∧hopB ((x0,x1),x2) ((y0,y1),y2)=false) ∨
 ((x0==y0)=true∧(x1==y1)=false∧hopB ((x0,x1),x2) ((y0,y1),y2)=false) ∨
 ((x0==y0)=true∧(x1==y1)=true∧(x2==y2)=false∧hopB ((x0,x1),x2) ((y0,y1),y2)=false) ∨
 ((x0==y0)=true∧(x1==y1)=true∧(x2==y2)=true∧hopB ((x0,x1),x2) ((y0,y1),y2)=true):=by
 have e:hopB ((x0,x1),x2) ((y0,y1),y2)=((x0==y0)&&((x1==y1)&&((x2==y2)))):=rfl;rw[e];cases h0:(x0==y0)
 ·simp
 skip;cases h1:(x1==y1)
 ·simp
 skip;cases h2:(x2==y2)
 ·simp
 skip;simp
theorem hop_eq (x0 x1 x2 y0 y1 y2:Int)(w:World):(Op.equal 101 (.agg #[.int .i64 x0,.int .i64 x1,.int .i64 x2]) (.agg #[.int .i64 y0,.int .i64 y1,.int .i64 y2])).run Tryz.prog w=.ok (hopB ((x0,x1),x2) ((y0,y1),y2)) w:=by
 unfold Op.equal Op.maxDepth;rw[run_equalIn_struct w 9999 _ _ _ (by kernel_rfl) (by kernel_rfl)]
 rcases hop_ways x0 x1 x2 y0 y1 y2 with ⟨e0,e⟩ | ⟨e0,e1,e⟩ | ⟨e0,e1,e2,e⟩ | ⟨e0,e1,e2,e⟩
 all_goals
  rw[e];go_simp
theorem hop_info:(Tryz.prog.info? 101).map (fun i=>(i.zero,i.size,i.bytes))=some (some (.agg #[.int .i64 0,.int .i64 0,.int .i64 0]),3,24):=by kernel_rfl
theorem hop_zero:(Value.agg #[.int .i64 0,.int .i64 0,.int .i64 0]).cells.size=3:=by simp[Value.cells]
end
section
open Go.RowKit
theorem nan_any (a:Int)(w:World):Calls Tryz.prog 117 #[.int .i64 a] w fun e w'=>e=.returned (.bool false)∧w'=w:=by
 go_enter Tryz.func117,Tryz.ntmps117;go_wp2;go_ret;exact⟨by simp,rfl⟩
theorem compare_any (a b:Int)(w:World):Calls Tryz.prog 116 #[.int .i64 a,.int .i64 b] w fun e w'=>e=.returned (.int .i64 (cmpN a b))∧w'=w:=by
 by_cases h1:a<b
 ·have e:cmpN a b = -1:=by simp[cmpN,h1]
  rw[e];clear e;have g1:decide (a<b)=true:=by simpa using h1
  go_enter Tryz.func116,Tryz.ntmps116
  go_wp2_with (first | (go_at_call 117;refine (nan_any _ _).mono ?_;rintro e w' ⟨rfl,rfl⟩))
  go_ret;exact⟨rfl,rfl⟩
 have g1:decide (a<b)=false:=by simpa using h1
 by_cases h2:b<a
 ·have e:cmpN a b=1:=by simp[cmpN,h1,h2]
  rw[e];clear e;have g2:decide (b<a)=true:=by simpa using h2
  go_enter Tryz.func116,Tryz.ntmps116
  go_wp2_with (first | (go_at_call 117;refine (nan_any _ _).mono ?_;rintro e w' ⟨rfl,rfl⟩))
  go_ret;exact⟨rfl,rfl⟩
 have e:cmpN a b=0:=by simp[cmpN,h1,h2]
 rw[e];clear e;have g2:decide (b<a)=false:=by simpa using h2
 go_enter Tryz.func116,Tryz.ntmps116
 go_wp2_with (first | (go_at_call 117;refine (nan_any _ _).mono ?_;rintro e w' ⟨rfl,rfl⟩))
 go_ret;exact⟨rfl,rfl⟩
theorem or_any (x y z:Int)(g:Nat)(w:World)(h0:w.cell? ⟨g,0,none⟩=some (.int .i64 x))(h1:w.cell? ⟨g,1,none⟩=some (.int .i64 y))(h2:w.cell? ⟨g,2,none⟩=some (.int .i64 z)):
 Calls Tryz.prog 115 #[.slice (some ⟨g,0,none⟩) 3 3] w fun e w'=>e=.returned (.int .i64 (orN x y z))∧w'=w:=by
 generalize hq:orN x y z=q
 have HQ:Hid ((if x=0 then (if y=0 then z else y) else x)=q):=hq;clear hq;go_enter Tryz.func115,Tryz.ntmps115;go_wp2
 go_loopw [8] (fun i wr=>∃k:Nat,k≤3∧i=.int .i64 k∧(0<k→x=0)∧(1<k→y=0)∧(2<k→z=0)∧wr=w) (fun i _=>3-(intOf i).toNat)
 case atStart=>exact⟨0,by omega,rfl,by omega,by omega,by omega,rfl⟩
 case round =>
  obtain⟨k,hk,rfl,a0,a1,a2,hw⟩:=hrel
  replace hw:=hw.symm
  subst hw
  rcases (by omega:k=0∨k=1∨k=2∨k=3) with rfl | rfl | rfl | rfl
  ·clear a0 a1 a2;by_cases hx:x=0
   ·have g1:(x==0)=true:=by simpa using hx
    have g2:(x != 0)=false:=by simpa using hx
    go_wp2;go_roundw
    case rel=>exact⟨1,by omega,rfl,fun _=>hx,by omega,by omega,trivial⟩
    case measure=>simp[intOf]
   have g1:(x==0)=false:=by simpa using hx
   have g2:(x != 0)=true:=by simpa using hx
   go_wp2;go_ret;exact⟨by rw[←HQ.out,if_neg hx];rfl,rfl⟩
  ·have hx:=a0 (by omega);clear a0 a1 a2;by_cases hy:y=0
   ·have g1:(y==0)=true:=by simpa using hy
    have g2:(y != 0)=false:=by simpa using hy
    go_wp2;go_roundw
    case rel=>exact⟨2,by omega,rfl,fun _=>hx,fun _=>hy,by omega,trivial⟩
    case measure=>simp[intOf]
   have g1:(y==0)=false:=by simpa using hy
   have g2:(y != 0)=true:=by simpa using hy
   go_wp2;go_ret;exact⟨by rw[←HQ.out,if_pos hx,if_neg hy];rfl,rfl⟩
  ·have hx:=a0 (by omega);have hy:=a1 (by omega);clear a0 a1 a2;by_cases hz:z=0
   ·have g1:(z==0)=true:=by simpa using hz
    have g2:(z != 0)=false:=by simpa using hz
    go_wp2;go_roundw
    case rel=>exact⟨3,by omega,rfl,fun _=>hx,fun _=>hy,fun _=>hz,trivial⟩
    case measure=>simp[intOf]
   have g1:(z==0)=false:=by simpa using hz
   have g2:(z != 0)=true:=by simpa using hz
   go_wp2;go_ret;exact⟨by rw[←HQ.out,if_pos hx,if_pos hy];rfl,rfl⟩
  have hx:=a0 (by omega);have hy:=a1 (by omega);have hz:=a2 (by omega);clear a0 a1 a2;go_wp2;go_ret;exact⟨by rw[←HQ.out,if_pos hx,if_pos hy,hz];rfl,rfl⟩
theorem compare_b (a b:Int)(w:World):Calls Tryz.prog 116 #[.int .i64 a,.int .i64 b] w fun e w'=>e=.returned (.int .i64 (cmpN a b))∧Below w.heap.size w w':=
 (compare_any a b w).mono fun _ w' h=>⟨h.1,by rw[h.2];exact Below.refl _ _⟩
theorem or_b (x y z:Int)(g:Nat)(w:World)(h0:w.cell? ⟨g,0,none⟩=some (.int .i64 x))(h1:w.cell? ⟨g,1,none⟩=some (.int .i64 y))(h2:w.cell? ⟨g,2,none⟩=some (.int .i64 z)):
 Calls Tryz.prog 115 #[.slice (some ⟨g,0,none⟩) 3 3] w fun e w'=>e=.returned (.int .i64 (orN x y z))∧Below w.heap.size w w':=
 (or_any x y z g w h0 h1 h2).mono fun _ w' h=>⟨h.1,by rw[h.2];exact Below.refl _ _⟩
theorem cells3 {W:World}(x y z:Value)(t:TypeId):
 (W.alloc (.cells #[x,y,z] t)).cell? ⟨W.heap.size,0,none⟩=some x∧(W.alloc (.cells #[x,y,z] t)).cell? ⟨W.heap.size,1,none⟩=some y∧(W.alloc (.cells #[x,y,z] t)).cell? ⟨W.heap.size,2,none⟩=some z:=by
 refine⟨?_,?_,?_⟩ <;> simp
def OS (w:World)(p m b p' m' b':Int)(w':World):Prop:=
 Below w.heap.size w w'∧(w'.cell? ⟨w.heap.size,0,none⟩=some (.int .i64 p)∧w'.cell? ⟨w.heap.size,1,none⟩=some (.int .i64 m)∧w'.cell? ⟨w.heap.size,2,none⟩=some (.int .i64 b)) ∧
  (w'.cell? ⟨w.heap.size+1,0,none⟩=some (.int .i64 p')∧w'.cell? ⟨w.heap.size+1,1,none⟩=some (.int .i64 m')∧w'.cell? ⟨w.heap.size+1,2,none⟩=some (.int .i64 b'))
theorem OS.later {w W W':World}{p m b p' m' b':Int}(hb:Below W.heap.size W W')(h:OS w p m b p' m' b' W):OS w p m b p' m' b' W':=by
 obtain⟨h0,⟨h1,h2,h3⟩,⟨h4,h5,h6⟩⟩:=h;exact⟨h0.trans (hb.mono h0.size),⟨cell_later hb h1,cell_later hb h2,cell_later hb h3⟩,⟨cell_later hb h4,cell_later hb h5,cell_later hb h6⟩⟩
theorem order_any (p m b o s v p' m' b' o' s' v':Int)(w:World):
 Calls Tryz.prog 112 #[.agg #[.int .i64 p,.int .i64 m,.int .i64 b,.int .i64 o,.int .i64 s,.int .i64 v],.agg #[.int .i64 p',.int .i64 m',.int .i64 b',.int .i64 o',.int .i64 s',.int .i64 v']] w fun e w'=>e=.returned (.int .i64 (ordN p m b p' m' b'))∧Below w.heap.size w w':=by
 have hS0:OS w p m b p' m' b' ((w.alloc (Obj.cells #[.int .i64 p,.int .i64 m,.int .i64 b,.int .i64 o,.int .i64 s,.int .i64 v] 37)).alloc (Obj.cells #[.int .i64 p',.int .i64 m',.int .i64 b',.int .i64 o',.int .i64 s',.int .i64 v'] 37)):=by
  refine⟨((Below.refl _ _).alloc (Nat.le_refl _) _).alloc (by simp) _,⟨?_,?_,?_⟩,⟨?_,?_,?_⟩⟩ <;> simp
 go_enter Tryz.func112,Tryz.ntmps112;go_wp2
 generalize ((w.alloc (Obj.cells #[.int .i64 p,.int .i64 m,.int .i64 b,.int .i64 o,.int .i64 s,.int .i64 v] 37)).alloc (Obj.cells #[.int .i64 p',.int .i64 m',.int .i64 b',.int .i64 o',.int .i64 s',.int .i64 v'] 37))=W0 at *
 unfold OS at hS0
 go_region_held3 (fun w'=>Below w.heap.size w w'∧(w'.cell? ⟨w.heap.size,0,none⟩=some (.int .i64 p)∧w'.cell? ⟨w.heap.size,1,none⟩=some (.int .i64 m)∧w'.cell? ⟨w.heap.size,2,none⟩=some (.int .i64 b)) ∧
  (w'.cell? ⟨w.heap.size+1,0,none⟩=some (.int .i64 p')∧w'.cell? ⟨w.heap.size+1,1,none⟩=some (.int .i64 m')∧w'.cell? ⟨w.heap.size+1,2,none⟩=some (.int .i64 b')))
  (first | assumption | exact OS.later (by assumption) (by assumption) | exact OS.later (Below.drew (Below.refl _ _)) (by assumption) | exact OS.later (Below.alloc (Below.refl _ _) (Nat.le_refl _) _) (by assumption))
  (first
   | (go_at_call 116;refine (compare_b _ _ _).mono ?_;rintro e w' ⟨rfl,hb⟩)
   | (go_at_call 115;refine (or_b (cmpN p p') (cmpN m m') (cmpN b b') _ _ (cells3 _ _ _ _).1 (cells3 _ _ _ _).2.1 (cells3 _ _ _ _).2.2).mono ?_;rintro e w' ⟨rfl,hb⟩))
 have hS:=(‹Below w.heap.size w w'∧_›).1;go_wp2;go_ret;exact⟨rfl,hS⟩
def CA (w:World)(g:Nat)(p m b o s v:Int)(w':World):Prop:=
 Below w.heap.size w w'∧w'.cell? ⟨g,0,none⟩=some (.int .i64 p)∧w'.cell? ⟨g,1,none⟩=some (.int .i64 m)∧w'.cell? ⟨g,2,none⟩=some (.int .i64 b) ∧
  w'.cell? ⟨g,3,none⟩=some (.int .i64 o)∧w'.cell? ⟨g,4,none⟩=some (.int .i64 s)∧w'.cell? ⟨g,5,none⟩=some (.int .i64 v)
theorem CA.later {w W W':World}{g:Nat}{p m b o s v:Int}(hb:Below W.heap.size W W')(h:CA w g p m b o s v W):CA w g p m b o s v W':=by
 obtain⟨h0,h1,h2,h3,h4,h5,h6⟩:=h;exact⟨h0.trans (hb.mono h0.size),cell_later hb h1,cell_later hb h2,cell_later hb h3,cell_later hb h4,cell_later hb h5,cell_later hb h6⟩
def CB (w:World)(g:Nat)(p m b o s v:Int)(g' o':Nat)(p' m' b' q' s' v':Int)(w':World):Prop:=
 (Below w.heap.size w w'∧w'.cell? ⟨g,0,none⟩=some (.int .i64 p)∧w'.cell? ⟨g,1,none⟩=some (.int .i64 m)∧w'.cell? ⟨g,2,none⟩=some (.int .i64 b) ∧
  w'.cell? ⟨g,3,none⟩=some (.int .i64 o)∧w'.cell? ⟨g,4,none⟩=some (.int .i64 s)∧w'.cell? ⟨g,5,none⟩=some (.int .i64 v)) ∧
 w'.cell? ⟨g',o',none⟩=some (.int .i64 p')∧w'.cell? ⟨g',o'+1,none⟩=some (.int .i64 m')∧w'.cell? ⟨g',o'+2,none⟩=some (.int .i64 b') ∧
  w'.cell? ⟨g',o'+3,none⟩=some (.int .i64 q')∧w'.cell? ⟨g',o'+4,none⟩=some (.int .i64 s')∧w'.cell? ⟨g',o'+5,none⟩=some (.int .i64 v')
theorem CB.later {w W W':World}{g:Nat}{p m b o s v:Int}{g' o':Nat}{p' m' b' q' s' v':Int}(hb:Below W.heap.size W W')(h:CB w g p m b o s v g' o' p' m' b' q' s' v' W):CB w g p m b o s v g' o' p' m' b' q' s' v' W':=by
 obtain⟨h0,h1,h2,h3,h4,h5,h6⟩:=h;exact⟨CA.later hb h0,cell_later hb h1,cell_later hb h2,cell_later hb h3,cell_later hb h4,cell_later hb h5,cell_later hb h6⟩
def cntB (m b h x y:Int):Bool:=hasB m b h&&(decide (x<0) || decide (0<y))
theorem be_next {L:List Ru}{h:Int}{k:Nat}(x:Int)(hx:x=beTo L h k)(y:Bool)(hy:((L.getD k zeR).has h&&(decide (x<0) || decide (0<ordR (L.getD k zeR) (L.getD x.toNat zeR))))=y):beTo L h (k+1)=if y then (k:Int) else x:=by
 subst hx;rw[beTo,hy]
theorem counting_some (g o cap n:Nat)(h:Int)(L:List Ru)(w:World)(hc:RAt w g o L)(hn:L.length=n)(hcap2:n≤maxLen):
 Calls Tryz.prog 105 #[.slice (some ⟨g,o,none⟩) n cap,.int .i64 h] w fun e w'=>e=.returned (.int .i64 (beTo L h n))∧Below w.heap.size w w':=by
 have HN:Hid (L.length=n):=hn;unfold maxLen at hcap2;clear hn;go_enter Tryz.func105,Tryz.ntmps105;go_wp2
 go_loopw [5,10] (fun x i wr=>∃k:Nat,k≤n∧x=.int .i64 (beTo L h k)∧i=.int .i64 k∧Below w.heap.size w wr) (fun _ i _=>n-(intOf i).toNat)
 case atStart=>exact⟨0,by omega,rfl,rfl,Below.refl _ _⟩
 case round =>
  obtain⟨k,hk,rfl,rfl,hB⟩:=hrel;have hbd:=be_bd L h k
  generalize hx:beTo L h k=x at *
  have HX:Hid (x=beTo L h k):=hx.symm;obtain⟨x0,x1⟩:=hbd;clear hx;have HB:Hid (Below w.heap.size w wr):=hB;by_cases hlt:k<n
  ·obtain⟨p,m,b,q,s,v,hkl,hL,q0,q1,q2,q3,q4,q5⟩:=(hc.later hB).at HN.out hlt;have HK:Hid (L.getD k zeR=⟨p,m,b,q,s,v⟩):=(getD_at hkl).trans hL;have HA:Hid (CA wr wr.heap.size p m b q s v (wr.alloc (Obj.cells #[.int .i64 p,.int .i64 m,.int .i64 b,.int .i64 q,.int .i64 s,.int .i64 v] 37))):=by
    refine⟨(Below.refl _ _).alloc (Nat.le_refl _) _,?_,?_,?_,?_,?_,?_⟩ <;> simp
   have HCC:Hid (RAt wr g o L):=hc.later hB;clear hL hB;go_upto_region 5 with fail;clear q0 q1 q2 q3 q4 q5
   go_cut [10,31] from 10 to 33 (fun i c w'=>i=.int .i64 k∧c=.bool (cntB m b h x (ordR ⟨p,m,b,q,s,v⟩ (L.getD x.toNat zeR)))∧Below wr.heap.size wr w')
   case first =>
    have hS0:=HA.out;clear HA;have HW0:Hid (Below wr.heap.size wr (wr.alloc (Obj.cells #[.int .i64 p,.int .i64 m,.int .i64 b,.int .i64 q,.int .i64 s,.int .i64 v] 37))):=(Below.refl _ _).alloc (Nat.le_refl _) _;have HW0:Hid (Below wr.heap.size wr (wr.alloc (Obj.cells #[.int .i64 p,.int .i64 m,.int .i64 b,.int .i64 q,.int .i64 s,.int .i64 v] 37))):=(Below.refl _ _).alloc (Nat.le_refl _) _
    generalize (wr.alloc (Obj.cells #[.int .i64 p,.int .i64 m,.int .i64 b,.int .i64 q,.int .i64 s,.int .i64 v] 37))=W0 at *
    cases hh:hasB m b h
    ·refine wp_region_quiet (C:=CA wr wr.heap.size p m b q s v) (by kernel_rfl) (by kernel_rfl) (CA.later (W:=W0) (Below.drew (Below.refl _ _)) hS0) ?_;simp only[List.toList_toArray];go_big_quiet_want;refine qv (.pointer (some ⟨wr.heap.size,1,none⟩)) ?_ ?_
     ·rintro w' ⟨z0,z1,z2,z3,z4,z5,z6⟩;go_simp
     simp only[Act.put,AP];go_big_quiet_on;go_big_quiet_want;refine qv (.agg #[.int .i64 m,.int .i64 b]) ?_ ?_
     ·rintro w' ⟨z0,z1,z2,z3,z4,z5,z6⟩;go_simp
     simp only[Act.put,AP];go_big_quiet_on;go_big_quiet_want;refine qv (.int .i64 h) ?_ ?_
     ·rintro w' ⟨z0,z1,z2,z3,z4,z5,z6⟩;go_simp
     simp only[Act.put,AP];go_big_quiet_on;go_big_quiet_want;refine quiet_call (f:=111) (args:=#[.agg #[.int .i64 m,.int .i64 b],.int .i64 h]) (v:=.bool false) (fun w'=>?_) (fun w' hC=>(has_any m b h w').mono (fun e w2 h2=>⟨by rw[h2.1,hh],CA.later h2.2 hC⟩)) ?_
     ·go_simp
     simp only[Act.put,AP];go_big_quiet_on;go_big_quiet_want;refine qv (.bool false) ?_ ?_
     ·rintro w' ⟨z0,z1,z2,z3,z4,z5,z6⟩;go_simp
     simp only[Act.put,AP];go_big_quiet_on;go_big_quiet_skip;go_big_quiet_skip;go_big_quiet_skip;go_big_quiet_skip;go_big_quiet_skip;go_big_quiet_skip;go_big_quiet_skip;go_big_quiet_skip;go_big_quiet_skip;go_big_quiet_skip;go_big_quiet_skip;go_big_quiet_want;refine qv (.bool false) ?_ ?_
     ·rintro w' ⟨z0,z1,z2,z3,z4,z5,z6⟩;go_simp
     simp only[Act.put,AP];go_big_quiet_on;refine wpQuiet_nil ?_;intro w' hC
     go_wp2_with fail
     go_meet
     case rel=>exact⟨rfl,by simp[cntB,hh],hC.1⟩
    by_cases hx0:x<0
    ·have hx1:decide (x<0)=true:=by simpa using hx0
     refine wp_region_quiet (C:=CA wr wr.heap.size p m b q s v) (by kernel_rfl) (by kernel_rfl) (CA.later (W:=W0) (Below.drew (Below.refl _ _)) hS0) ?_;simp only[List.toList_toArray];go_big_quiet_want;refine qv (.pointer (some ⟨wr.heap.size,1,none⟩)) ?_ ?_
     ·rintro w' ⟨z0,z1,z2,z3,z4,z5,z6⟩;go_simp
     simp only[Act.put,AP];go_big_quiet_on;go_big_quiet_want;refine qv (.agg #[.int .i64 m,.int .i64 b]) ?_ ?_
     ·rintro w' ⟨z0,z1,z2,z3,z4,z5,z6⟩;go_simp
     simp only[Act.put,AP];go_big_quiet_on;go_big_quiet_want;refine qv (.int .i64 h) ?_ ?_
     ·rintro w' ⟨z0,z1,z2,z3,z4,z5,z6⟩;go_simp
     simp only[Act.put,AP];go_big_quiet_on;go_big_quiet_want;refine quiet_call (f:=111) (args:=#[.agg #[.int .i64 m,.int .i64 b],.int .i64 h]) (v:=.bool true) (fun w'=>?_) (fun w' hC=>(has_any m b h w').mono (fun e w2 h2=>⟨by rw[h2.1,hh],CA.later h2.2 hC⟩)) ?_
     ·go_simp
     simp only[Act.put,AP];go_big_quiet_on;go_big_quiet_want;refine qv (.bool true) ?_ ?_
     ·rintro w' ⟨z0,z1,z2,z3,z4,z5,z6⟩;go_simp
     simp only[Act.put,AP];go_big_quiet_on;go_big_quiet_want;refine qv (.int .i64 x) ?_ ?_
     ·rintro w' ⟨z0,z1,z2,z3,z4,z5,z6⟩;go_simp
     simp only[Act.put,AP];go_big_quiet_on;go_big_quiet_want;refine qv (.bool true) ?_ ?_
     ·rintro w' ⟨z0,z1,z2,z3,z4,z5,z6⟩;go_simp
     simp only[Act.put,AP];go_big_quiet_on;go_big_quiet_want;refine qv (.bool true) ?_ ?_
     ·rintro w' ⟨z0,z1,z2,z3,z4,z5,z6⟩;go_simp
     simp only[Act.put,AP];go_big_quiet_on;go_big_quiet_skip;go_big_quiet_skip;go_big_quiet_skip;go_big_quiet_skip;go_big_quiet_skip;go_big_quiet_skip;go_big_quiet_skip;go_big_quiet_want;refine qv (.bool true) ?_ ?_
     ·rintro w' ⟨z0,z1,z2,z3,z4,z5,z6⟩;go_simp
     simp only[Act.put,AP];go_big_quiet_on;go_big_quiet_want;refine qv (.bool true) ?_ ?_
     ·rintro w' ⟨z0,z1,z2,z3,z4,z5,z6⟩;go_simp
     simp only[Act.put,AP];go_big_quiet_on;refine wpQuiet_nil ?_;intro w' hC
     go_wp2_with fail
     go_meet
     case rel=>exact⟨rfl,by simp[cntB,hh,hx0],hC.1⟩
    obtain⟨y,hy⟩:∃y:Nat,x=(y:Int):=⟨x.toNat,by omega⟩;have hx2:decide ((y:Int)<0)=false:=by simp
    subst hy;obtain⟨p2,m2,b2,q2,s2,v2,hyl,hLy,y0,y1,y2,y3,y4,y5⟩:=HCC.out.at HN.out (show y<n by omega);have HYL:Hid (L.getD ((y:Nat):Int).toNat zeR=⟨p2,m2,b2,q2,s2,v2⟩):=by
     show L.getD ((y:Nat):Int).toNat zeR=_;rw[Int.toNat_natCast,getD_at hyl,hLy]
    have yb0:(0:Int)≤(y:Int):=by omega
    have yb1:((y:Int))<(n:Int):=by omega
    have hS1:CB wr wr.heap.size p m b q s v g (o+y*6) p2 m2 b2 q2 s2 v2 W0:=⟨hS0,cell_later HW0.out y0,cell_later HW0.out y1,cell_later HW0.out y2,cell_later HW0.out y3,cell_later HW0.out y4,cell_later HW0.out y5⟩;clear y0 y1 y2 y3 y4 y5 hLy hS0;have hS0:=hS1;clear hS1;refine wp_region_quiet (C:=CB wr wr.heap.size p m b q s v g (o+y*6) p2 m2 b2 q2 s2 v2) (by kernel_rfl) (by kernel_rfl) (CB.later (W:=W0) (Below.drew (Below.refl _ _)) hS0) ?_;simp only[List.toList_toArray];go_big_quiet_want;refine qv (.pointer (some ⟨wr.heap.size,1,none⟩)) ?_ ?_
    ·rintro w' ⟨⟨z0,z1,z2,z3,z4,z5,z6⟩,y1,y2,y3,y4,y5,y6⟩;go_simp
    simp only[Act.put,AP];go_big_quiet_on;go_big_quiet_want;refine qv (.agg #[.int .i64 m,.int .i64 b]) ?_ ?_
    ·rintro w' ⟨⟨z0,z1,z2,z3,z4,z5,z6⟩,y1,y2,y3,y4,y5,y6⟩;go_simp
    simp only[Act.put,AP];go_big_quiet_on;go_big_quiet_want;refine qv (.int .i64 h) ?_ ?_
    ·rintro w' ⟨⟨z0,z1,z2,z3,z4,z5,z6⟩,y1,y2,y3,y4,y5,y6⟩;go_simp
    simp only[Act.put,AP];go_big_quiet_on;go_big_quiet_want;refine quiet_call (f:=111) (args:=#[.agg #[.int .i64 m,.int .i64 b],.int .i64 h]) (v:=.bool true) (fun w'=>?_) (fun w' hC=>(has_any m b h w').mono (fun e w2 h2=>⟨by rw[h2.1,hh],CB.later h2.2 hC⟩)) ?_
    ·go_simp
    simp only[Act.put,AP];go_big_quiet_on;go_big_quiet_want;refine qv (.bool true) ?_ ?_
    ·rintro w' ⟨⟨z0,z1,z2,z3,z4,z5,z6⟩,y1,y2,y3,y4,y5,y6⟩;go_simp
    simp only[Act.put,AP];go_big_quiet_on;go_big_quiet_want;refine qv (.int .i64 (y:Int)) ?_ ?_
    ·rintro w' ⟨⟨z0,z1,z2,z3,z4,z5,z6⟩,y1,y2,y3,y4,y5,y6⟩;go_simp
    simp only[Act.put,AP];go_big_quiet_on;go_big_quiet_want;refine qv (.bool false) ?_ ?_
    ·rintro w' ⟨⟨z0,z1,z2,z3,z4,z5,z6⟩,y1,y2,y3,y4,y5,y6⟩;go_simp
    simp only[Act.put,AP];go_big_quiet_on;go_big_quiet_want;refine qv (.bool false) ?_ ?_
    ·rintro w' ⟨⟨z0,z1,z2,z3,z4,z5,z6⟩,y1,y2,y3,y4,y5,y6⟩;go_simp
    simp only[Act.put,AP];go_big_quiet_on;go_big_quiet_want;refine qv (.agg #[.int .i64 p,.int .i64 m,.int .i64 b,.int .i64 q,.int .i64 s,.int .i64 v]) ?_ ?_
    ·rintro w' ⟨⟨z0,z1,z2,z3,z4,z5,z6⟩,y1,y2,y3,y4,y5,y6⟩;go_simp
    simp only[Act.put,AP];go_big_quiet_on;go_big_quiet_want;refine qv (.slice (some ⟨g,o,none⟩) n cap) ?_ ?_
    ·rintro w' ⟨⟨z0,z1,z2,z3,z4,z5,z6⟩,y1,y2,y3,y4,y5,y6⟩;go_simp
    simp only[Act.put,AP];go_big_quiet_on;go_big_quiet_want;refine qv (.int .i64 (y:Int)) ?_ ?_
    ·rintro w' ⟨⟨z0,z1,z2,z3,z4,z5,z6⟩,y1,y2,y3,y4,y5,y6⟩;go_simp
    simp only[Act.put,AP];go_big_quiet_on;go_big_quiet_want;refine qv (.pointer (some ⟨g,o+y*6,none⟩)) ?_ ?_
    ·rintro w' ⟨⟨z0,z1,z2,z3,z4,z5,z6⟩,y1,y2,y3,y4,y5,y6⟩;go_simp
    simp only[Act.put,AP];go_big_quiet_on;go_big_quiet_want;refine qv (.agg #[.int .i64 p2,.int .i64 m2,.int .i64 b2,.int .i64 q2,.int .i64 s2,.int .i64 v2]) ?_ ?_
    ·rintro w' ⟨⟨z0,z1,z2,z3,z4,z5,z6⟩,y1,y2,y3,y4,y5,y6⟩;go_simp
    simp only[Act.put,AP];go_big_quiet_on;go_big_quiet_want;refine quiet_call (f:=112) (args:=#[.agg #[.int .i64 p,.int .i64 m,.int .i64 b,.int .i64 q,.int .i64 s,.int .i64 v],.agg #[.int .i64 p2,.int .i64 m2,.int .i64 b2,.int .i64 q2,.int .i64 s2,.int .i64 v2]]) (v:=.int .i64 (ordN p m b p2 m2 b2)) (fun w'=>?_) (fun w' hC=>(order_any p m b q s v p2 m2 b2 q2 s2 v2 w').mono (fun e w2 h2=>⟨h2.1,CB.later h2.2 hC⟩)) ?_
    ·go_simp
    simp only[Act.put,AP];go_big_quiet_on;go_big_quiet_want;refine qv (.bool (decide (0<ordN p m b p2 m2 b2))) ?_ ?_
    ·rintro w' ⟨⟨z0,z1,z2,z3,z4,z5,z6⟩,y1,y2,y3,y4,y5,y6⟩;go_simp
    simp only[Act.put,AP];go_big_quiet_on;go_big_quiet_want;refine qv (.bool (decide (0<ordN p m b p2 m2 b2))) ?_ ?_
    ·rintro w' ⟨⟨z0,z1,z2,z3,z4,z5,z6⟩,y1,y2,y3,y4,y5,y6⟩;go_simp
    simp only[Act.put,AP];go_big_quiet_on;go_big_quiet_want;refine qv (.bool (decide (0<ordN p m b p2 m2 b2))) ?_ ?_
    ·rintro w' ⟨⟨z0,z1,z2,z3,z4,z5,z6⟩,y1,y2,y3,y4,y5,y6⟩;go_simp
    simp only[Act.put,AP];go_big_quiet_on;refine wpQuiet_nil ?_;intro w' hC
    go_wp2_with fail
    go_meet
    case rel=>exact⟨rfl,by rw[HYL.out];simp[cntB,hh,hx2,ordR];first | rfl | exact decide_eq_decide.2 Iff.rfl,hC.1.1⟩
   case rest =>
    obtain⟨rfl,hc2,hB2⟩:=hcut;have HB1:=HB.out.trans (hB2.mono HB.out.size);have HY:=be_next (L:=L) (h:=h) (k:=k) x HX.out _ rfl;rw[HK.out] at HY;have HYY:Hid (beTo L h (k+1)=if cntB m b h x (ordR ⟨p,m,b,q,s,v⟩ (L.getD x.toNat zeR)) then (k:Int) else x):=HY;clear HY hB2 HA HCC
    generalize cntB m b h x (ordR ⟨p,m,b,q,s,v⟩ (L.getD x.toNat zeR))=Y at *
    subst hc2;cases Y
    ·go_wp2;go_roundw
     case rel=>exact⟨k+1,by omega,by rw[HYY.out];rfl,by go_num,HB1⟩
     case measure=>simp[intOf];omega
    go_wp2;go_roundw
    case rel=>exact⟨k+1,by omega,by rw[HYY.out];rfl,by go_num,HB1⟩
    case measure=>simp[intOf];omega
  obtain rfl:k=n:=by omega
  go_wp2;go_ret;exact⟨by rw[←HX.out];rfl,HB.out⟩
theorem counting_nil (ao:Option Addr)(cap:Nat)(h:Int)(w:World):
 Calls Tryz.prog 105 #[.slice ao 0 cap,.int .i64 h] w fun e w'=>e=.returned (.int .i64 (-1))∧Below w.heap.size w w':=by
 go_enter Tryz.func105,Tryz.ntmps105;go_wp2
 go_loopw [5,10] (fun x i wr=>x=.int .i64 (-1)∧i=.int .i64 0∧wr=w) (fun _ i _=>0)
 case atStart=>exact⟨rfl,rfl,rfl⟩
 case round =>
  obtain⟨rfl,rfl,rfl⟩:=hrel;go_wp2;go_ret;exact⟨rfl,Below.refl _ _⟩
theorem counting_any (x:Value)(L:List Ru)(h:Int)(w:World)(hs:SR w x L):
 Calls Tryz.prog 105 #[x,.int .i64 h] w fun e w'=>e=.returned (.int .i64 (beTo L h L.length))∧Below w.heap.size w w':=by
 rcases hs with ⟨ao,cap,rfl,rfl⟩ | ⟨g,o,cap,rfl,h1,h2,hc⟩
 ·exact counting_nil ao cap h w
 exact counting_some g o cap _ h L w hc rfl (Nat.le_trans h1 h2)
theorem apply_any (p m b o s v h:Int)(w:World):
 Calls Tryz.prog 106 #[.agg #[.int .i64 p,.int .i64 m,.int .i64 b,.int .i64 o,.int .i64 s,.int .i64 v],.int .i64 h] w fun e w'=>e=.returned (.tuple #[.int .i64 (apR p m b o s v h),noV (apN p m b o s v h)])∧Below w.heap.size w w':=by
 cases hr:ruOk p m b o s v
 ·have hn:=ruN_ne hr;rw[apR_bad (by rw[apN_bad h hr];exact hn),apN_bad h hr,no_ne hn];go_enter Tryz.func106,Tryz.ntmps106
  go_wp2_with fail
  refine (ruCheck_any _ _ _ _ _ _ _).mono ?_;rintro e w1 ⟨rfl,hb1⟩;rw[no_ne hn];go_wp2;refine bodyPost_ret (v:=.tuple #[.int .i64 0,.iface 63 (.int .i64 (ruN p m b o s v))]) (by simp[results,Tryz.results106,go_sem]) rfl ⟨rfl,?_⟩;exact ((Below.refl _ _).alloc (Nat.le_refl _) _).trans (hb1.mono (by simp))
 have hn:=ruN_ok hr;cases hh:hdrB h
 ·have e:apN p m b o s v h=1:=by simp[apN,hr,hh]
  rw[apR_bad (by rw[e];decide),e];clear e;go_enter Tryz.func106,Tryz.ntmps106
  go_wp2_with fail
  refine (ruCheck_any _ _ _ _ _ _ _).mono ?_;rintro e w1 ⟨rfl,hb1⟩;rw[no_ok hn]
  go_wp2_with fail
  refine (isHeader_no _ _ hh).mono ?_;rintro e w' ⟨rfl,rfl⟩;go_wp2;refine bodyPost_ret (v:=.tuple #[.int .i64 0,.iface 63 (.int .i64 1)]) (by simp[results,Tryz.results106,go_sem]) rfl ⟨rfl,?_⟩;exact ((Below.refl _ _).alloc (Nat.le_refl _) _).trans (hb1.mono (by simp))
 have hlt:w.heap.size<(w.alloc (Obj.cells #[.int .i64 p,.int .i64 m,.int .i64 b,.int .i64 o,.int .i64 s,.int .i64 v] 37)).heap.size:=by simp
 cases ha:hasB m b h
 ·have e:apN p m b o s v h=5:=by simp[apN,hr,hh,ha]
  rw[apR_bad (by rw[e];decide),e];clear e;go_enter Tryz.func106,Tryz.ntmps106
  go_wp2_with fail
  refine (ruCheck_any _ _ _ _ _ _ _).mono ?_;rintro e w1 ⟨rfl,hb1⟩;rw[no_ok hn];obtain⟨hc1,hf1⟩:=bcell hb1;have hB:=((Below.refl w.heap.size w).alloc (Nat.le_refl _) (Obj.cells #[.int .i64 p,.int .i64 m,.int .i64 b,.int .i64 o,.int .i64 s,.int .i64 v] 37)).trans (hb1.mono (by simp));have hlt2:w.heap.size<w1.heap.size:=by have:=hb1.size;omega
  clear hb1
  go_wp2_with fail
  refine (isHeader_yes _ _ hh).mono ?_;rintro e w' ⟨rfl,rfl⟩
  go_wp2_with fail
  refine (has_any _ _ _ _).mono ?_;rintro e w2 ⟨rfl,hb2⟩;rw[ha];obtain⟨hc2,hf2⟩:=bcell hb2;have hB2:=hB.trans (hb2.mono (by omega));clear hb2 hB;go_wp2;refine bodyPost_ret (v:=.tuple #[.int .i64 0,.iface 63 (.int .i64 5)]) (by simp[results,Tryz.results106,go_sem]) rfl ⟨rfl,?_⟩;exact hB2
 cases ho:(o==0)
 ·have e:apN p m b o s v h=0:=by simp[apN,hr,hh,ha,ho]
  have e2:apR p m b o s v h=apV s v h:=by simp[apR,e]
  rw[e2,e];clear e e2;go_enter Tryz.func106,Tryz.ntmps106
  go_wp2_with fail
  refine (ruCheck_any _ _ _ _ _ _ _).mono ?_;rintro e w1 ⟨rfl,hb1⟩;rw[no_ok hn];obtain⟨hc1,hf1⟩:=bcell hb1;have hB:=((Below.refl w.heap.size w).alloc (Nat.le_refl _) (Obj.cells #[.int .i64 p,.int .i64 m,.int .i64 b,.int .i64 o,.int .i64 s,.int .i64 v] 37)).trans (hb1.mono (by simp));have hlt2:w.heap.size<w1.heap.size:=by have:=hb1.size;omega
  clear hb1
  go_wp2_with fail
  refine (isHeader_yes _ _ hh).mono ?_;rintro e w' ⟨rfl,rfl⟩
  go_wp2_with fail
  refine (has_any _ _ _ _).mono ?_;rintro e w2 ⟨rfl,hb2⟩;rw[ha];obtain⟨hc2,hf2⟩:=bcell hb2;have hB2:=hB.trans (hb2.mono (by omega));clear hb2 hB;go_wp2;refine bodyPost_ret (v:=.tuple #[.int .i64 (apV s v h),.nilIface]) (by simp[results,Tryz.results106,go_sem,apV]) rfl ⟨rfl,?_⟩;exact hB2
 have e:apN p m b o s v h=5:=by simp[apN,hr,hh,ha,ho]
 rw[apR_bad (by rw[e];decide),e];clear e;go_enter Tryz.func106,Tryz.ntmps106
 go_wp2_with fail
 refine (ruCheck_any _ _ _ _ _ _ _).mono ?_;rintro e w1 ⟨rfl,hb1⟩;rw[no_ok hn];obtain⟨hc1,hf1⟩:=bcell hb1;have hB:=((Below.refl w.heap.size w).alloc (Nat.le_refl _) (Obj.cells #[.int .i64 p,.int .i64 m,.int .i64 b,.int .i64 o,.int .i64 s,.int .i64 v] 37)).trans (hb1.mono (by simp));have hlt2:w.heap.size<w1.heap.size:=by have:=hb1.size;omega
 clear hb1
 go_wp2_with fail
 refine (isHeader_yes _ _ hh).mono ?_;rintro e w' ⟨rfl,rfl⟩
 go_wp2_with fail
 refine (has_any _ _ _ _).mono ?_;rintro e w2 ⟨rfl,hb2⟩;rw[ha];obtain⟨hc2,hf2⟩:=bcell hb2;have hB2:=hB.trans (hb2.mono (by omega));clear hb2 hB;go_wp2;refine bodyPost_ret (v:=.tuple #[.int .i64 0,.iface 63 (.int .i64 5)]) (by simp[results,Tryz.results106,go_sem]) rfl ⟨rfl,?_⟩;exact hB2
theorem st_a {t:List Ru}{x y h:Int}(e:luN t h≠0):stT t ((x,y),h)=none:=if_neg e
theorem st_b {t:List Ru}{x y h p m b o s v:Int}(e:luN t h=0)(hr:roR t h=⟨p,m,b,o,s,v⟩)(ha:apN p m b o s v h≠0):stT t ((x,y),h)=none:=by
 unfold stT;simp only;rw[if_pos e,hr];exact if_neg ha
theorem st_c {t:List Ru}{x y h p m b o s v:Int}(e:luN t h=0)(hr:roR t h=⟨p,m,b,o,s,v⟩)(ha:apN p m b o s v h=0):stT t ((x,y),h)=some ((x,o),apR p m b o s v h):=by
 unfold stT;simp only;rw[if_pos e,hr];exact if_pos ha
def sbox (w:World)(S:Int)(v1 v2 v3:Value)(x y h:Int):World:=((w.alloc (Obj.cells #[.int .i64 S,v1,v2,v3] 28)).alloc (Obj.cells #[.int .i64 x,.int .i64 y,.int .i64 h] 101)).alloc (Obj.cells #[.int .i64 0,.int .i64 0,.int .i64 0] 101)
structure SBox (w W:World)(S:Int)(v1 v2 v3:Value)(x y h:Int):Prop where
 below:Below w.heap.size w W
 n:NeBox W w.heap.size S v1 v2 v3
 i0:W.cell? ⟨w.heap.size+1,0,none⟩=some (.int .i64 x)
 i1:W.cell? ⟨w.heap.size+1,1,none⟩=some (.int .i64 y)
 i2:W.cell? ⟨w.heap.size+1,2,none⟩=some (.int .i64 h)
 r0:W.cell? ⟨w.heap.size+1+1,0,none⟩=some (.int .i64 0)
 r1:W.cell? ⟨w.heap.size+1+1,1,none⟩=some (.int .i64 0)
 r2:W.cell? ⟨w.heap.size+1+1,2,none⟩=some (.int .i64 0)
 f:∀i,W.frozen? ⟨w.heap.size+1+1,i,none⟩=false
theorem sbox_new (w:World)(S:Int)(v1 v2 v3:Value)(x y h:Int):SBox w (sbox w S v1 v2 v3 x y h) S v1 v2 v3 x y h:=by
 have e1:(w.alloc (Obj.cells #[.int .i64 S,v1,v2,v3] 28)).heap.size=w.heap.size+1:=by simp
 have e2:((w.alloc (Obj.cells #[.int .i64 S,v1,v2,v3] 28)).alloc (Obj.cells #[.int .i64 x,.int .i64 y,.int .i64 h] 101)).heap.size=w.heap.size+1+1:=by simp
 have hb:∀(W:World) (o:Obj),Below W.heap.size W (W.alloc o):=fun W o=>(Below.refl _ _).alloc (Nat.le_refl _) _
 have hs:=(vat_new (w.alloc (Obj.cells #[.int .i64 S,v1,v2,v3] 28)) [.int .i64 x,.int .i64 y,.int .i64 h] 101).later (hb _ (Obj.cells #[.int .i64 0,.int .i64 0,.int .i64 0] 101));rw[e1] at hs;have hr:=vat_new ((w.alloc (Obj.cells #[.int .i64 S,v1,v2,v3] 28)).alloc (Obj.cells #[.int .i64 x,.int .i64 y,.int .i64 h] 101)) [.int .i64 0,.int .i64 0,.int .i64 0] 101;rw[e2] at hr;have hf:∀k,(sbox w S v1 v2 v3 x y h).frozen? ⟨((w.alloc (Obj.cells #[.int .i64 S,v1,v2,v3] 28)).alloc (Obj.cells #[.int .i64 x,.int .i64 y,.int .i64 h] 101)).heap.size,k,none⟩=false:=fun k=>by
  unfold sbox
  generalize (w.alloc (Obj.cells #[.int .i64 S,v1,v2,v3] 28)).alloc (Obj.cells #[.int .i64 x,.int .i64 y,.int .i64 h] 101)=X
  simp
 rw[e2] at hf;exact⟨(((Below.refl _ _).alloc (Nat.le_refl _) _).alloc (by rw[e1];omega) _).alloc (by rw[e2];omega) _,((nebox_new w S v1 v2 v3 28).later (hb _ _)).later (hb _ _),hs 0 _ rfl,hs 1 _ rfl,hs 2 _ rfl,hr 0 _ rfl,hr 1 _ rfl,hr 2 _ rfl,hf⟩
theorem SBox.later {w W W':World}{S:Int}{v1 v2 v3:Value}{x y h:Int}(k:SBox w W S v1 v2 v3 x y h)(hb:Below W.heap.size W W'):SBox w W' S v1 v2 v3 x y h:=
 ⟨k.below.trans (hb.mono k.below.size),k.n.later hb,cell_later hb k.i0,cell_later hb k.i1,cell_later hb k.i2,cell_later hb k.r0,cell_later hb k.r1,cell_later hb k.r2,fun i=>(hb.frozen (p:=⟨w.heap.size+1+1,i,none⟩) (show (⟨w.heap.size+1+1,0,none⟩:Addr).block<W.heap.size from bLQ W ⟨w.heap.size+1+1,0,none⟩ k.r0)).trans (k.f i)⟩
theorem below_three {w W:World}(h:Below w.heap.size w W)(g:Nat)(hg:w.heap.size≤g)(u v x:Value):Below w.heap.size w (((W.setCell ⟨g,0,none⟩ u).setCell ⟨g,1,none⟩ v).setCell ⟨g,2,none⟩ x):=((h.setCell (p:=⟨g,0,none⟩) hg u).setCell (p:=⟨g,1,none⟩) hg v).setCell (p:=⟨g,2,none⟩) hg x
theorem step_any (S:Int)(ao:Option Addr)(n cap:Nat)(ao2:Option Addr)(n2 cap2:Nat)(ao3:Option Addr)(n3 cap3:Nat)(Ts:List (List Ru))(x y h:Int)(w:World)
 (hT:TS w (.slice ao3 n3 cap3) Ts) (hG:∀k,k<Ts.length→tbN (Ts.getD k [])=0) (h1:1≤x) (h2:x≤(n3:Int)) (h6:n3≤6):
 Calls Tryz.prog 86 #[.agg #[.int .i64 S,.slice ao n cap,.slice ao2 n2 cap2,.slice ao3 n3 cap3],.agg #[.int .i64 x,.int .i64 y,.int .i64 h]] w fun e w'=>e=.returned (.tuple #[.agg #[.int .i64 ((stO Ts ((x,y),h)).getD zeH).1.1,.int .i64 ((stO Ts ((x,y),h)).getD zeH).1.2,.int .i64 ((stO Ts ((x,y),h)).getD zeH).2],.bool (stO Ts ((x,y),h)).isSome])∧Below w.heap.size w w':=by
 obtain⟨k,rfl⟩:∃k:Nat,x=(k:Int)+1:=⟨(x-1).toNat,by omega⟩;have hk:k<n3:=by omega
 obtain⟨_,_,_,e1,hTn,hTm,_,hTa⟩:=hT.form;cases e1;obtain⟨g,o,rfl,hc,_⟩:=hTa (by omega);have hX:=sbox_new w S (.slice ao n cap) (.slice ao2 n2 cap2) (.slice (some ⟨g,o,none⟩) n3 cap3) ((k:Int)+1) y h;obtain⟨a4,n4,c4,q0,hs⟩:=(hc.later hX.below) k (by rw[hTn];exact hk);obtain⟨t,ht⟩:∃t,t=Ts.getD k []:=⟨_,rfl⟩;have hs2:SR (sbox w S (.slice ao n cap) (.slice ao2 n2 cap2) (.slice (some ⟨g,o,none⟩) n3 cap3) ((k:Int)+1) y h) (.slice a4 n4 c4) t:=by
  rw[ht,getT (by rw[hTn];exact hk)];exact hs
 have HTB:Hid (tbN t=0):=by
  show _=_;rw[ht];exact hG k (by rw[hTn];exact hk)
 have HST:Hid (stO Ts (((k:Int)+1,y),h)=stT t (((k:Int)+1,y),h)):=by
  show _=_;unfold stO taT;simp only;rw[ht]
  congr 2
  omega
 obtain⟨A,hA⟩:∃A,A=stO Ts (((k:Int)+1,y),h):=⟨_,rfl⟩;have HA:Hid (A=stT t (((k:Int)+1,y),h)):=hA.trans HST.out;rw[←hA];obtain⟨w0,hw0⟩:∃W,W=sbox w S (.slice ao n cap) (.slice ao2 n2 cap2) (.slice (some ⟨g,o,none⟩) n3 cap3) ((k:Int)+1) y h:=⟨_,rfl⟩;rw[←hw0] at hX q0 hs2;have HX:Hid (SBox w w0 S (.slice ao n cap) (.slice ao2 n2 cap2) (.slice (some ⟨g,o,none⟩) n3 cap3) ((k:Int)+1) y h):=hX;have HS:Hid (SR w0 (.slice a4 n4 c4) t):=hs2;have HW0:Hid (((w.alloc (Obj.cells #[.int .i64 S,.slice ao n cap,.slice ao2 n2 cap2,.slice (some ⟨g,o,none⟩) n3 cap3] 28)).alloc (Obj.cells #[.int .i64 ((k:Int)+1),.int .i64 y,.int .i64 h] 101)).alloc (Obj.cells #[.int .i64 0,.int .i64 0,.int .i64 0] 101)=w0):=hw0.symm;have hw:IntKind.i64.wrap ((k:Int)+1-1)=(k:Int):=by rw[show (k:Int)+1-1=(k:Int) from by omega];exact wrap_small (by omega) (by omega)
 have kb0:(0:Int)≤(k:Int):=by omega
 have kb1:(k:Int)<(n3:Int):=by omega
 clear hT hTn hTm hTa hc hs hs2 hX hA HST hw0 ht hG;go_enter Tryz.func86,Tryz.ntmps86;go_upto_region 1 with fail;rw[HW0.out];obtain⟨_,⟨b0,b1,b2,b3⟩,i0,i1,i2,r0,r1,r2,f⟩:=HX.out;clear HW0 f r0 r1 r2
 go_wp2_with fail
 refine (counting_any (.slice a4 n4 c4) t h _ HS.out).mono ?_;rintro e w1 ⟨rfl,hb1⟩;have HX1:Hid (SBox w w1 S (.slice ao n cap) (.slice ao2 n2 cap2) (.slice (some ⟨g,o,none⟩) n3 cap3) ((k:Int)+1) y h):=HX.out.later hb1;have HS1:Hid (SR w1 (.slice a4 n4 c4) t):=HS.out.later hb1;obtain⟨I,hI⟩:∃I,I=beTo t h t.length:=⟨_,rfl⟩;have HI:Hid (I=beTo t h t.length):=hI;rw[←hI];clear hI hb1 HX HS b0 b1 b2 b3 i0 i1 i2 q0;by_cases h0:I<0
 ·have HA2:Hid (A=none):=by
   show _=_;rw[HA.out,st_a (fun e=>by have:=(lu_0.1 e).2.2;rw[←HI.out] at this;omega)]
  obtain⟨hB2,⟨b0,b1,b2,b3⟩,i0,i1,i2,r0,r1,r2,f⟩:=HX1.out;have HB2:Hid (Below w.heap.size w w1):=hB2;have f0:=f 0;have f1:=f 1;have f2:=f 2;clear f hB2;go_wp2;refine bodyPost_ret (v:=.tuple #[.agg #[.int .i64 0,.int .i64 0,.int .i64 0],.bool false]) (by simp[results,Tryz.results86,go_sem, *]) rfl ⟨by rw[HA2.out];rfl,below_three HB2.out _ (by omega) _ _ _⟩
 have hbd:=be_bd t h t.length;obtain⟨j,rfl⟩:∃j:Nat,I=(j:Int):=⟨I.toNat,by omega⟩;have hjl:j<t.length:=by
  have:=HI.out;omega
 obtain⟨_,_,_,e4,hn4,hm4,_,ha4⟩:=HS1.out.form;cases e4;obtain⟨g4,o4,rfl,hc4,_⟩:=ha4 (by omega);have hjn:j<n4:=by omega
 obtain⟨p,m,b,q,s,v,hl,hLj,c0,c1,c2,c3,c4',c5⟩:=hc4.at hn4 hjn;have HRO:Hid (luN t h=0→roR t h=⟨p,m,b,q,s,v⟩):=by
  intro e;rw[roR,luI,if_pos e,←HI.out,Int.toNat_natCast,getD_at hjl,hLj]
 have HLT:Hid (hdrB h=true→luN t h=0):=fun e=>lu_0.2 ⟨HTB.out,e,by rw[←HI.out];omega⟩
 have HC4:Hid (RAt w1 g4 o4 t):=hc4;have HN4:Hid (t.length=n4):=hn4;have HLJ:Hid (t[j]=⟨p,m,b,q,s,v⟩):=hLj;have jb0:(0:Int)≤(j:Int):=by omega
 have jb1:(j:Int)<(n4:Int):=by omega
 obtain⟨_,⟨b0,b1,b2,b3⟩,i0,i1,i2,r0,r1,r2,f⟩:=HX1.out;have hlt4:g4<w1.heap.size:=bLQ _ _ c0;have hlt1:w.heap.size+1<w1.heap.size:=bLQ _ _ i0;obtain⟨V,hV⟩:∃V,V=apR p m b q s v h:=⟨_,rfl⟩;obtain⟨N,hN⟩:∃N,N=apN p m b q s v h:=⟨_,rfl⟩;have HV:Hid (V=apR p m b q s v h):=hV;have HN:Hid (N=apN p m b q s v h):=hN;clear hV hN h0 hbd hn4 hm4 ha4 hc4 hLj f HI HTB r0 r1 r2;go_upto_region 5 with fail
 go_cut [8,9] from 26 to 35 (fun hd er w'=>hd=.int .i64 V∧er=noV N∧Below w1.heap.size w1 w')
 case first =>
  go_region_with (go_at_call 106;refine (apply_any p m b q s v h _).mono ?_;rintro e w' ⟨rfl,hb⟩;rw[←HV.out,←HN.out];have HBX:Hid (Below w1.heap.size w1 w'):=(Below.drew (Below.refl _ _)).trans (hb.mono (by simp));clear hb)
  all_goals (go_wp2_with fail;go_meet)
  all_goals exact⟨rfl,rfl,HBX.out⟩
 case rest =>
  obtain⟨rfl,rfl,hbw⟩:=hcut;have HX2:Hid (SBox w wc S (.slice ao n cap) (.slice ao2 n2 cap2) (.slice (some ⟨g,o,none⟩) n3 cap3) ((k:Int)+1) y h):=HX1.out.later hbw;obtain⟨p',m',b',q',s',v',hl',hLj',c0,c1,c2,c3,c4',c5⟩:=(HC4.out.later hbw).at HN4.out hjn;rw[HLJ.out] at hLj';cases hLj';obtain⟨hB2,⟨b0,b1,b2,b3⟩,i0,i1,i2,r0,r1,r2,f⟩:=HX2.out;have HB2:Hid (Below w.heap.size w wc):=hB2;have hlt4:g4<wc.heap.size:=bLQ _ _ c0;have hlt1:w.heap.size+1<wc.heap.size:=bLQ _ _ i0;have hlt2:w.heap.size+1+1<wc.heap.size:=bLQ _ _ r0;have f0:=f 0;have f1:=f 1;have f2:=f 2;clear hbw f hB2 HX1 HC4;by_cases h5:N=0
  ·subst h5;rw[no_ok rfl];have HA2:Hid (A=some (((k:Int)+1,q),V)):=by
    show _=_;have hl:=HLT.out (ap_yes HN.out.symm).2.1;rw[HA.out,st_c hl (HRO.out hl) HN.out.symm,HV.out]
   go_upto_region 8 with fail
   go_region
   all_goals
    go_wp2;refine bodyPost_ret (v:=.tuple #[.agg #[.int .i64 ((k:Int)+1),.int .i64 q,.int .i64 V],.bool true]) (by simp[results,Tryz.results86,go_sem, *]) rfl ⟨by rw[HA2.out];rfl,?_⟩
    first
     | exact below_three (HB2.out.trans ((Below.drew (Below.refl _ _)).mono HB2.out.size)) _ (by omega) _ _ _
  rw[no_ne h5];have HA2:Hid (A=none):=by
   show _=_;by_cases hl:luN t h=0
   ·rw[HA.out,st_b hl (HRO.out hl) (by rw[←HN.out];exact h5)]
   rw[HA.out,st_a hl]
  clear h5;go_wp2;refine bodyPost_ret (v:=.tuple #[.agg #[.int .i64 0,.int .i64 0,.int .i64 0],.bool false]) (by simp[results,Tryz.results86,go_sem, *]) rfl ⟨by rw[HA2.out];rfl,below_three HB2.out _ (by omega) _ _ _⟩
abbrev Lg:=Int×ByteArray×((Int×Int)×Int)
def lgT (Ls:LkQ)(Hs:HoQ)(t:List Ru)(p:(Int×Int)×Int):Lg:=
 match stT t p with
 | none=>(2,ByteArray.empty,zeH)
 | some q=>match atO Hs q.1 with
   | some m=>(1,m,zeH)
   | none=>match peerO Ls q.1 with
     | none=>(3,ByteArray.empty,zeH)
     | some s=>(0,ByteArray.empty,(s,q.2))
def afB (g:Lg)(l:HpQ):Bool:=(g.1==0)&&((l.length==24) || (l.any fun x=>heB g.2.2 x))
def afL (g:Lg)(l:HpQ):Lg:=if afB g l=true then (4,ByteArray.empty,zeH) else g
def lgE (g:Lg):(Int×ByteArray) ⊕ ((Int×Int)×Int):=if g.1=0 then .inr g.2.2 else .inl (g.1,g.2.1)
section
variable {Ls:LkQ}{Hs:HoQ}{t:List Ru}{p:(Int×Int)×Int}{l:HpQ}
theorem lg_2 (h:stT t p=none):lgT Ls Hs t p=(2,ByteArray.empty,zeH):=by
 unfold lgT;rw[h]
theorem lg_1 {q:(Int×Int)×Int}(h:stT t p=some q){m:ByteArray}(ha:atO Hs q.1=some m):lgT Ls Hs t p=(1,m,zeH):=by
 unfold lgT;rw[h];simp only[ha]
theorem lg_3 {q:(Int×Int)×Int}(h:stT t p=some q)(ha:atO Hs q.1=none)(hp:peerO Ls q.1=none):lgT Ls Hs t p=(3,ByteArray.empty,zeH):=by
 unfold lgT;rw[h];simp only[ha,hp]
theorem lg_0 {q:(Int×Int)×Int}(h:stT t p=some q)(ha:atO Hs q.1=none){s:Int×Int}(hp:peerO Ls q.1=some s):lgT Ls Hs t p=(0,ByteArray.empty,(s,q.2)):=by
 unfold lgT;rw[h];simp only[ha,hp]
theorem af_ne {g:Lg}(h:g.1≠0):afL g l=g:=by
 unfold afL afB;rw[if_neg (by simp[h])]
theorem af_0 {g:Lg}(h:(afL g l).1=0):afL g l=g∧g.1=0∧l.length≠24∧(l.any fun x=>heB g.2.2 x)=false:=by
 by_cases e:afB g l=true
 ·rw[afL,if_pos e] at h;cases h
 have e1:afL g l=g:=by rw[afL,if_neg e]
 rw[e1] at h;refine⟨e1,h,?_,?_⟩
 ·intro h24;exact e (by simp[afB,h,h24])
 cases hx:l.any fun x=>heB g.2.2 x with
 | false=>rfl
 | true=>exact absurd (by simp only[afB,h,hx];simp) e
theorem go_lg:goE Ls Hs t l p=lgE (afL (lgT Ls Hs t p) l):=by
 unfold goE;cases h:stT t p with
 | none=>simp only[lg_2 h,af_ne (l:=l) (g:=(2,ByteArray.empty,zeH)) (by simp)];rfl
 | some q =>
   cases ha:atO Hs q.1 with
   | some m=>simp only[ha,lg_1 (Ls:=Ls) h ha,af_ne (l:=l) (g:=(1,m,zeH)) (by simp)];rfl
   | none =>
     cases hp:peerO Ls q.1 with
     | none=>simp only[ha,hp,lg_3 h ha hp,af_ne (l:=l) (g:=(3,ByteArray.empty,zeH)) (by simp)];rfl
     | some s =>
       simp only[ha,hp,lg_0 h ha hp];by_cases e:l.length=24∨l.any (fun x=>heB (s,q.2) x)=true
       ·rw[if_pos e,afL,if_pos]
        ·rfl
        rcases e with e | e
        ·simp[afB,e]
        simp only[afB,e];simp
       rw[if_neg e,afL,if_neg]
       ·rfl
       rw[not_or] at e;simp only[afB,Bool.and_eq_true,Bool.or_eq_true,beq_iff_eq];exact fun h=>h.2.elim e.1 e.2
end
section
variable {S:Int}{Ls:LkQ}{Hs:HoQ}{Ts:List (List Ru)}{l:HpQ}
theorem fo_end (h:l.length≤24){g:Lg}(hg:g=afL (lgT Ls Hs (taT Ts (laH l).1.1) (laH l)) l)(h0:g.1≠0):foF Ls Hs Ts (25-l.length) l=(g.1,g.2.1,l):=by
 have e:enE Ls Hs Ts l (laH l)=.inl (g.1,g.2.1):=by
  show goE _ _ _ _ _=_;rw[go_lg,←hg,lgE,if_neg h0]
 rw[fo_r h,e]
theorem fo_on (h:l.length≤24){g:Lg}(hg:g=afL (lgT Ls Hs (taT Ts (laH l).1.1) (laH l)) l)(h0:g.1=0):foF Ls Hs Ts (25-l.length) l=foF Ls Hs Ts (25-(l++[g.2.2]).length) (l++[g.2.2]):=by
 have e:enE Ls Hs Ts l (laH l)=.inr g.2.2:=by
  show goE _ _ _ _ _=_;rw[go_lg,←hg,lgE,if_pos h0]
 rw[fo_r h,e];simp only[List.length_append,List.length_cons,List.length_nil];rw[show 24-l.length=25-(l.length+(0+1)) by omega]
theorem lg_sp (ht:tpN S Ls Hs=0){t:List Ru}{p:(Int×Int)×Int}(h:(lgT Ls Hs t p).1=0):spB S (lgT Ls Hs t p).2.2.1=true:=by
 cases h1:stT t p with
 | none=>rw[lg_2 h1] at h;cases h
 | some q =>
   cases ha:atO Hs q.1 with
   | some m=>rw[lg_1 h1 ha] at h;cases h
   | none =>
     cases hp:peerO Ls q.1 with
     | none=>rw[lg_3 h1 ha hp] at h;cases h
     | some s =>
       rw[lg_0 h1 ha hp];exact peer_sp ht hp
theorem lg_name (ht:tpN S Ls Hs=0)(t:List Ru)(p:(Int×Int)×Int):(lgT Ls Hs t p).2.1.size≤1000000:=by
 cases h1:stT t p with
 | none=>rw[lg_2 h1];decide
 | some q =>
   cases ha:atO Hs q.1 with
   | some m =>
     rw[lg_1 h1 ha]
     rcases at_ix Hs q.1 with ⟨_,ho⟩ | ⟨k,hk,_,ho⟩
     ·rw[ha] at ho;cases ho
     rw[ha] at ho;cases ho;have h:=(tp_0 ht).2.2.2.2.1 Hs[k] (List.getElem_mem hk);have h2:=h.1;simp only[nmB,Bool.and_eq_true,decide_eq_true_eq] at h2;show Hs[k].1.size≤_;omega
   | none =>
     cases hp:peerO Ls q.1 with
     | none=>rw[lg_3 h1 ha hp];decide
     | some s =>
       rw[lg_0 h1 ha hp];show ByteArray.empty.size≤1000000;decide
theorem af_name {g:Lg}(h:g.2.1.size≤1000000):(afL g l).2.1.size≤1000000:=by
 unfold afL;by_cases e:afB g l=true
 ·rw[if_pos e];decide
 rw[if_neg e];exact h
end
end
end Go.Proofs.YtiokpmlhmlcojaaGreat
