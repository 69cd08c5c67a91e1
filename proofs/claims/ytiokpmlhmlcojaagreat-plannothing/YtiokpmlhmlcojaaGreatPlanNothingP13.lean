/- Contracts and facts on the way to PlanNothing, joined into one text: PlanLeastB, PlanNothingMath, TopoOf, TopoLine1, NetOf, PlanNothing. -/
import Derived.Test.YtiokpmlhmlcojaaGreatPlanNothingP12
namespace Go.Proofs.YtiokpmlhmlcojaaGreat
set_option linter.unusedSimpArgs false
set_option linter.unusedVariables false
set_option maxHeartbeats 16000000
set_option maxRecDepth 100000
section
open Go.RowKit Go.Shelf
theorem kn_new (sf:Nat→Nat→Bool)(all:Nat)(W:World):KN sf all W.heap.size (W.alloc (.map #[] 0)):=⟨[],mat_new setKey crV W,fun d _ c hc=>by cases hc⟩
theorem least_any (S:Int)(v1 v2 v3:Value)(S':Int)(u1 u2 u3 v4:Value)(Ls:List LkT)(Hs:List HoT)(Ts:List (List Ru))(Ls':List LkT)(Hs':List HoT)(Ts':List (List Ru))(ws:List Wi)(w:World)
 (hN:NI w v1 v2 v3 Ls Hs Ts) (hM:NI w u1 u2 u3 Ls' Hs' Ts') (hw:GS wisE w v4 ws):
 Calls Tryz.prog 7 #[.agg #[.int .i64 S,v1,v2,v3],.agg #[.int .i64 S',u1,u2,u3],v4] w fun e w'=>∃v,e=.returned (.tuple #[v,noV (leN S Ls Hs Ts S' Ls' Hs' Ts' ws)])∧RS w' v (leL S Ls Hs Ts S' Ls' Hs' Ts' ws)∧Below w.heap.size w w':=by
 obtain⟨ao,n,cap,ao2,n2,cap2,ao3,n3,cap3,rfl,rfl,rfl⟩:=hN.form;obtain⟨bo,m,dap,bo2,m2,dap2,bo3,m3,dap3,rfl,rfl,rfl⟩:=hM.form;obtain⟨a4,n4,c4,rfl,_⟩:=hw.form;obtain⟨w1,hw1⟩:∃W,W=(w.alloc (Obj.cells #[.int .i64 S,.slice ao n cap,.slice ao2 n2 cap2,.slice ao3 n3 cap3] 28)).alloc (Obj.cells #[.int .i64 S',.slice bo m dap,.slice bo2 m2 dap2,.slice bo3 m3 dap3] 28):=⟨_,rfl⟩;have hb1:Below w.heap.size w w1:=by rw[hw1];exact ((Below.refl _ _).alloc (Nat.le_refl _) _).alloc (by simp) _
 have hnn:NN w1 w.heap.size S (.slice ao n cap) (.slice ao2 n2 cap2) (.slice ao3 n3 cap3) S' (.slice bo m dap) (.slice bo2 m2 dap2) (.slice bo3 m3 dap3):=by rw[hw1];exact nn_new w S _ _ _ S' _ _ _ 28
 have HNW:Hid (NI w1 (.slice ao n cap) (.slice ao2 n2 cap2) (.slice ao3 n3 cap3) Ls Hs Ts∧NI w1 (.slice bo m dap) (.slice bo2 m2 dap2) (.slice bo3 m3 dap3) Ls' Hs' Ts'∧GS wisE w1 (.slice a4 n4 c4) ws):=⟨hN.later hb1,hM.later hb1,hw.later hb1⟩;have HB1:Hid (Below w.heap.size w w1):=hb1;have HW1:Hid ((w.alloc (Obj.cells #[.int .i64 S,.slice ao n cap,.slice ao2 n2 cap2,.slice ao3 n3 cap3] 28)).alloc (Obj.cells #[.int .i64 S',.slice bo m dap,.slice bo2 m2 dap2,.slice bo3 m3 dap3] 28)=w1):=hw1.symm;obtain⟨D,hD⟩:∃D,D=pdL S Ls Hs Ts S' Ls' Hs' Ts' ws:=⟨_,rfl⟩;obtain⟨X,hX⟩:∃q,q=pbN S Ls Hs Ts S' Ls' Hs' Ts' ws:=⟨_,rfl⟩;have HPK:Hid (X=0→PlOK S Ls Hs Ts Ts' ws D):=fun h=>by
  rw[hD];exact (pd_ok (pb_pd (hX.symm.trans h)).1).1
 obtain⟨N,hNN⟩:∃q,q=leN S Ls Hs Ts S' Ls' Hs' Ts' ws:=⟨_,rfl⟩;have HN:Hid (N=if X=0 then rsN (leO Ls Hs Ts Ts' ws D) else X):=by rw[hNN,hX,hD];exact rfl
 obtain⟨L,hL⟩:∃q,q=leL S Ls Hs Ts S' Ls' Hs' Ts' ws:=⟨_,rfl⟩;have HL:Hid (L=if X=0 then rsL D (leO Ls Hs Ts Ts' ws D) else []):=by rw[hL,hX,hD];exact rfl
 rw[←hNN,←hL];have HD:Hid (pdL S Ls Hs Ts S' Ls' Hs' Ts' ws=D):=hD.symm;have HX:Hid (pbN S Ls Hs Ts S' Ls' Hs' Ts' ws=X):=hX.symm;have HAL:Hid (alS D<64):=by show _<_;rw[hD];exact al_lt pd_few.1
 obtain⟨⟨q0,q1,q2,q3⟩,r0,r1,r2,r3⟩:=hnn;clear hN hM hw hb1 hw1 hD hX hNN hL;go_enter Tryz.func7,Tryz.ntmps7;go_upto_region 1 with fail;rw[HW1.out]
 go_wp2_with fail
 refine (begin_any S (.slice ao n cap) (.slice ao2 n2 cap2) (.slice ao3 n3 cap3) S' (.slice bo m dap) (.slice bo2 m2 dap2) (.slice bo3 m3 dap3) (.slice a4 n4 c4) Ls Hs Ts Ls' Hs' Ts' ws w1 HNW.out.1 HNW.out.2.1 HNW.out.2.2 pd_few.1 pd_few.2).mono ?_;rintro e w2 ⟨t0,t1,t2,t3,t4,t5,t6,rfl,hOK,hNO,hb2⟩;rw[HX.out];rw[HX.out,HD.out] at hOK;rw[HX.out] at hNO;have HB2:Hid (Below w.heap.size w w2):=HB1.out.trans (hb2.mono HB1.out.size);by_cases hX0:X=0
 ·obtain⟨bm,rfl,rfl,rfl,rfl,rfl,rfl,rfl,hT⟩:=hOK hX0;rw[no_ok hX0];have HN2:Hid (N=rsN (leO Ls Hs Ts Ts' ws D)):=HN.out.trans (if_pos hX0);have HL2:Hid (L=rsL D (leO Ls Hs Ts Ts' ws D)):=HL.out.trans (if_pos hX0);have HP:Hid (PlOK S Ls Hs Ts Ts' ws D):=HPK.out hX0;have HT2:Hid (TskOK w2 (.slice ao n cap) (.slice ao2 n2 cap2) (.slice ao3 n3 cap3) (.slice a4 n4 c4) bm Ls Hs Ts ws D):=hT;obtain⟨w3,hw3⟩:∃W,w2.alloc (Obj.cells #[.int .i64 S,.slice ao n cap,.slice ao2 n2 cap2,.slice ao3 n3 cap3,.slice a4 n4 c4,.map (some bm),.int .i64 (alS D:Int)] 57)=W:=⟨_,rfl⟩;have hb3:Below w2.heap.size w2 w3:=by rw[←hw3];exact (Below.refl _ _).alloc (Nat.le_refl _) _
  have hs3:w3.heap.size=w2.heap.size+1:=by rw[←hw3];simp
  have htb:TkB w3 w2.heap.size S (.slice ao n cap) (.slice ao2 n2 cap2) (.slice ao3 n3 cap3) (.slice a4 n4 c4) (.map (some bm)) (alS D:Int):=by rw[←hw3];exact tkb_new w2 S _ _ _ _ _ _ 57
  have HW3:Hid (w2.alloc (Obj.cells #[.int .i64 S,.slice ao n cap,.slice ao2 n2 cap2,.slice ao3 n3 cap3,.slice a4 n4 c4,.map (some bm),.int .i64 (alS D:Int)] 57)=w3):=hw3;obtain⟨bk,hbk⟩:∃q,w3.heap.size=q:=⟨_,rfl⟩;obtain⟨w4,hw4⟩:∃W,(w3.alloc (.map #[] 0)).alloc (Obj.cells #[.map (some bk)] 73)=W:=⟨_,rfl⟩;have hbm:Below w3.heap.size w3 (w3.alloc (.map #[] 0)):=(Below.refl _ _).alloc (Nat.le_refl _) _;have hsm:(w3.alloc (.map #[] 0)).heap.size=bk+1:=by rw[←hbk];simp
  have hbc:Below (w3.alloc (.map #[] 0)).heap.size (w3.alloc (.map #[] 0)) w4:=by rw[←hw4];exact (Below.refl _ _).alloc (Nat.le_refl _) _
  have hb34:Below w3.heap.size w3 w4:=hbm.trans (hbc.mono (by simp));have HBK:Hid (w3.heap.size=bk):=hbk;have HW4:Hid ((w3.alloc (.map #[] 0)).alloc (Obj.cells #[.map (some bk)] 73)=w4):=hw4;have HLC:Hid (LeC bk w2.heap.size (bk+1) S (.slice ao n cap) (.slice ao2 n2 cap2) (.slice ao3 n3 cap3) (.slice a4 n4 c4) (.map (some bm)) (alS D) w4):=by
   refine⟨htb.later hb34,?_,by omega,by omega⟩;rw[←hw4,←hsm];simp
  have HB24:Hid (Below w2.heap.size w2 w4):=hb3.trans (hb34.mono hb3.size);have HK4:Hid (KN (sfB Ls Hs Ts Ts' ws) (alS D) bk w4):=by
   have h:=kn_new (sfB Ls Hs Ts Ts' ws) (alS D) w3;rw[hbk] at h;exact h.kb (p:=fun _=>True) (Kb.of_below hbc fun _ h _=>h) trivial
  have HBL:Hid (w2.heap.size≤bk∧w.heap.size≤bk):=⟨by omega,by have:=HB2.out.size;omega⟩;obtain⟨x0,x1,x2,x3,x4,x5,x6,_⟩:=HLC.out.tk;have hmk:=run_makeMap (P:=Tryz.prog) 73 w3;clear hOK hNO hb2 hX0 hT hw3 hb3 q0 q1 q2 q3 r0 r1 r2 r3 hs3 htb hbk hw4 hbm hsm hbc hb34;go_upto_region 4 with fail;rw[HW3.out];go_upto_region 5 with fail;rw[HBK.out,HW4.out]
  go_wp2_with fail
  refine (rounds_least HT2.out HP.out HAL.out HBL.out.1 w4 HLC.out HB24.out HK4.out).mono ?_;rintro e w5 ⟨v,rfl,hR,hk5⟩;have HR:Hid (RS w5 v L):=by rw[HL2.out];exact hR
  have HB5:Hid (Below w.heap.size w w5):=(HB2.out.trans (HB24.out.mono HB2.out.size)).trans (hk5.below (Nat.le_trans HB2.out.size HB24.out.size) fun b hb=>by show b≠bk;have:=HBL.out.2;omega);obtain⟨er,her⟩:∃er,er=noV (rsN (roA (alS D) (fun done=>(shC (sfB Ls Hs Ts Ts' ws) (alS D) done).2) 0)):=⟨_,rfl⟩;rw[←her];have HER:Hid (er=noV N):=by rw[her,HN2.out];exact rfl
  clear hR hk5 her x0 x1 x2 x3 x4 x5 x6 hmk;go_wp2;refine bodyPost_ret (v:=.tuple #[v,er]) (by simp[results,Tryz.results7,go_sem, *]) rfl ⟨v,by rw[HER.out],HR.out,HB5.out⟩
 obtain⟨rfl,rfl,rfl,rfl,rfl,rfl,rfl⟩:=hNO hX0;rw[no_ne hX0];have HN2:Hid (N=X):=HN.out.trans (if_neg hX0);have HL2:Hid (L=[]):=HL.out.trans (if_neg hX0);have HX0:Hid (X≠0):=hX0;have HB3:Hid (Below w.heap.size w (w2.alloc (Obj.cells #[.int .i64 0,.slice none 0 0,.slice none 0 0,.slice none 0 0,.slice none 0 0,.map none,.int .i64 0] 57))):=HB2.out.alloc HB2.out.size _;clear hX0 hOK hNO hb2 q0 q1 q2 q3 r0 r1 r2 r3;go_wp2;refine bodyPost_ret (v:=.tuple #[.slice none 0 0,.iface 63 (.int .i64 X)]) (by simp[results,Tryz.results7,go_sem, *]) rfl ⟨.slice none 0 0,by rw[HN2.out,no_ne HX0.out],by rw[HL2.out];exact RS.nil _,HB3.out⟩
end
section
open Go.RowKit
theorem bey_self (t:List Ru):bey t t=[]:=List.filter_eq_nil_iff.2 fun r hr=>by rw[in_iff.2 hr];decide
theorem cd_self (As:List (List Ru)):∀n,cdL As As n=[]
 | 0=>rfl
 | n+1=>by
   rw[cd_succ,cd_self As n,bkL,dfL,bey_self];by_cases h:twN (As.getD n []) (As.getD n [])=0
   ·rw[if_pos h];rfl
   rw[if_neg h];rfl
theorem fi_free {sf:Nat→Nat→Bool}(hs:∀d s,sf d s=true)(all done:Nat):∀k,k≤6→∀a,1≤a→a≤6→inS (fiS sf all done k) a=(decide (a≤k)&&inS (mnS all done) a)
 | 0,_,a,h1,h2=>by rw[fiS,in_0,decide_eq_false (by omega)];rfl
 | k+1,hk,a,h1,h2=>by
   have ih:=fi_free hs all done k (by omega) a h1 h2;rw[fiS,hs,Bool.and_true];by_cases c:inS (mnS all done) (k+1)=true
   ·rw[if_pos c,in_or,ih,in_on h2 hk];by_cases e:a=k+1
    ·subst e;rw[c];simp
    rw[decide_eq_false e,Bool.or_false];by_cases h:a≤k
    ·rw[decide_eq_true h,decide_eq_true (show a≤k+1 by omega)]
    rw[decide_eq_false h,decide_eq_false (show ¬a≤k+1 by omega)]
   rw[if_neg c,ih];by_cases e:a=k+1
   ·subst e;simp only[Bool.not_eq_true] at c;rw[c];simp
   by_cases h:a≤k
   ·rw[decide_eq_true h,decide_eq_true (show a≤k+1 by omega)]
   rw[decide_eq_false h,decide_eq_false (show ¬a≤k+1 by omega)]
theorem fi_all {sf:Nat→Nat→Bool}(hs:∀d s,sf d s=true){all:Nat}(ha:all<64):fiS sf all 0 6=all:=by
 refine set_ext (fi_lt sf all 0 6) ha fun a h1 h2=>?_
 rw[fi_free hs all 0 6 (Nat.le_refl _) a h1 h2,decide_eq_true h2,in_mn h1 h2,in_0];simp
theorem ro_free {sf:Nat→Nat→Bool}(hs:∀d s,sf d s=true){all:Nat}(ha:all<64):roA all (fun d=>fiS sf all d 6) 0=if all=0 then some [] else some [all]:=by
 by_cases h:all=0
 ·subst h;rw[if_pos rfl];exact ro_end _
 rw[if_neg h,ro_step (nx_fi sf all) ha (by decide) (fun a _ _ k=>by rw[in_0] at k;cases k) (fun e=>h e.symm) (by rw[fi_all hs ha];exact h),fi_all hs ha,Nat.zero_or,ro_end];rfl
theorem al_nil {D:List Op8}(h:∀o∈D,1≤o.w∧o.w≤6):alS D=0↔D.length=0:=by
 constructor
 ·intro h0;cases D with
  | nil=>rfl
  | cons o D =>
    have ho:=h o (List.mem_cons_self ..);have:=(al_mem h (a:=o.w.toNat) (by omega) (by omega)).2 ⟨o,List.mem_cons_self ..,by omega⟩;rw[h0,in_0] at this;cases this
 intro h0;rw[List.length_eq_zero_iff.1 h0];rfl
section
variable {S:Int}{Ls:List LkT}{Hs:List HoT}{As Bs:List (List Ru)}{S':Int}{Ls':List LkT}{Hs':List HoT}{ws:List Wi}
theorem sf_free (d s:Nat):sfB Ls Hs As Bs [] d s=true:=rfl
theorem pn_self:(plL S Ls Hs As S Ls Hs As ws).length=0:=by
 unfold plL;by_cases hb:pbN S Ls Hs As S Ls Hs As ws=0
 ·rw[if_pos hb];have hD:pdL S Ls Hs As S Ls Hs As ws=[]:=by rw[((pd_ok (pb_pd hb).1).1).d];exact cd_self As _
  rw[hD];have e:plO Ls Hs As As ws []=some []:=ro_end _;rw[e];rfl
 rw[if_neg hb];rfl
theorem pn_two (h:plN S Ls Hs As S' Ls' Hs' Bs []=0):(plL S Ls Hs As S' Ls' Hs' Bs []).length=if (diL S Ls Hs As S' Ls' Hs' Bs).length=0 then 0 else 1:=by
 have hb:=(pl_0 h).1;have hp:=(pb_pd hb).1;have hD:pdL S Ls Hs As S' Ls' Hs' Bs []=diL S Ls Hs As S' Ls' Hs' Bs:=by unfold pdL;rw[if_pos hp]
 have hw:=pd_few (S:=S) (Ls:=Ls) (Hs:=Hs) (Ts:=As) (S':=S') (Ls':=Ls') (Hs':=Hs') (Ts':=Bs) (ws:=[]);rw[hD] at hw;have ha:=al_lt hw.1;have hn:=al_nil hw.1;unfold plL;rw[if_pos hb,hD];have e:plO Ls Hs As Bs [] (diL S Ls Hs As S' Ls' Hs' Bs)=_:=ro_free (sf:=sfB Ls Hs As Bs []) (fun d s=>sf_free d s) ha;rw[e];by_cases c:(diL S Ls Hs As S' Ls' Hs' Bs).length=0
 ·rw[if_pos (hn.2 c),if_pos c];rfl
 rw[if_neg (fun k=>c (hn.1 k)),if_neg c];rfl
end
end
section
open Go.ChangeShapes Go.WideShapes Go.ChangeAt Go.RowKit Go.Joins
section
variable {P:Program}{α:Type}{E:Enc α}
theorem gs_open {H:Type}{enc:TypeId×Value→H}{W:World}{fuel:Nat}{cs:List Value}{x:DataW H×List MemPlace}(ts te:TypeId)(hu:P.underlying ts=some (.slice te))(hC:P.cellsOf te=E.n)(x0:α)
 (hel:∀(n:Nat) (cs:List Value) (x:DataW H×List MemPlace),DataW.trod enc P W 0 (fun _=>true) true n te cs=some x→∃y,cs=E.c y)
 (hf2:DataW.trod enc P W 0 (fun _=>true) true fuel ts cs=some x):∃ao n cap L,cs=[.slice ao n cap]∧GS E W (.slice ao n cap) L:=by
 obtain⟨d,p⟩:=x
 rcases Go.Deep.open_slice hu hf2 with ⟨hc,hx⟩ | ⟨a,len0,cap,m,k,D,Pl,hc,_,hl,hm,hmm,hx,hall⟩
 ·exact⟨_,_,_,[],hc,.inl ⟨none,0,rfl,rfl⟩⟩
 simp only[if_true] at hmm;subst hmm
 rcases Nat.eq_zero_or_pos len0 with h0 | h0
 ·subst h0;exact⟨_,_,_,[],hc,.inl ⟨_,_,rfl,rfl⟩⟩
 have each:∀i,i<m→∃y:α,∀j,j<E.n→W.cell? (a.add (i*E.n+j))=(E.c y)[j]?:=by
  intro i hi;obtain⟨cs,h1,h2⟩:=hall i hi;rw[hC] at h1;obtain⟨_,hlen,hcell⟩:=World.cells?_some h1;obtain⟨y,rfl⟩:=hel _ _ _ h2;refine⟨y,fun j hj=>?_⟩;have:=hcell j (by omega);rw[Go.Deep.add_add] at this;exact this
 have iR:Inhabited α:=⟨x0⟩;obtain⟨R,hR⟩:=Go.Deep.choose_lt each;obtain⟨sb,so,spot⟩:=a;have hspot:spot=none:=by
  have h1:=hR 0 (by omega) 0 E.pos;have h2:(E.c (R 0))[0]?.isSome=true:=by
   rw[List.getElem?_eq_getElem (by rw[E.len];exact E.pos)];rfl
  obtain⟨u,hu2⟩:=Option.isSome_iff_exists.1 h2;rw[hu2] at h1;simpa[Addr.add] using World.cell?_spot h1
 subst hspot;have hadd:∀j,(⟨sb,so,none⟩:Addr).add j=⟨sb,so+j,none⟩:=by
  intro j;simp only[Addr.add]
  first
   | rfl
   | (split
      ·next h0=>rw[h0];rfl
      rfl)
 refine⟨_,_,_,(List.range len0).map R,hc,.inr ⟨sb,so,_,by simp,by simpa using hl,hm,fun i hi j u hu2=>?_⟩⟩;have hi2:i<len0:=by simpa using hi
 have e:((List.range len0).map R)[i]=R i:=by simp
 rw[e] at hu2;have hj:j<E.n:=by
  have:=(List.getElem?_eq_some_iff.1 hu2).1;rw[E.len] at this;exact this
 have hc:=hR i (by omega) j hj;rw[hadd,hu2,←Nat.add_assoc] at hc;exact hc
end
theorem topo_open {H:Type}{enc:TypeId×Value→H}{W:World}{n:Nat}{cs:List Value}{x:DataW H×List MemPlace}
 (h:DataW.trod enc Tryz.prog W 0 (fun _=>true) true n 25 cs=some x):∃S ao n cap ao2 n2 cap2 Ls Hs,cs=[.int .i64 S,.slice ao n cap,.slice ao2 n2 cap2]∧GS lnkE W (.slice ao n cap) Ls∧GS hstE W (.slice ao2 n2 cap2) Hs:=by
 obtain⟨xs,k,_,_,hl,hlen,hf⟩:=DataW.trod_struct Tryz.underlying25 h;have hC:Tryz.prog.cellsOf 25=3:=by kernel_rfl
 have hT0:Tryz.prog.cellsOf 3=1:=by kernel_rfl
 have hT1:Tryz.prog.cellsOf 22=1:=by kernel_rfl
 have hT2:Tryz.prog.cellsOf 23=1:=by kernel_rfl
 rw[hC] at hl
 match cs,hl with
 | [c0,c1,c2],_ =>
   match xs,hlen with
   | [z0,z1,z2],_ =>
     have g0:=hf 0 _ rfl;have g1:=hf 1 _ rfl;have g2:=hf 2 _ rfl;simp[hT0,hT1,hT2] at g0 g1 g2;obtain⟨v0,e0,_,_⟩:=DataW.trod_int Tryz.underlying3 g0;obtain⟨ao,n,cap,Ls,e1,hL⟩:=gs_open (E:=lnkE) 22 78 Tryz.underlying22 (by kernel_rfl) ((0,0),(0,0)) (fun _ _ _ h=>lnk_open h) g1;obtain⟨ao2,n2,cap2,Hs,e2,hH⟩:=gs_open (E:=hstE) 23 33 Tryz.underlying23 (by kernel_rfl) (ByteArray.empty,(0,0)) (fun _ _ _ h=>hst_open h) g2;simp at e0 e1 e2;exact⟨v0,ao,n,cap,ao2,n2,cap2,Ls,Hs,by simp[e0,e1,e2],hL,hH⟩
end
section
open Go.RowKit
structure LN (w W:World)(n:Int)(v u:Value)(k:Nat):Prop where
 below:Below w.heap.size w W
 r0:W.cell? ⟨w.heap.size,0,none⟩=some (.int .i64 0)
 r1:W.cell? ⟨w.heap.size,1,none⟩=some (.slice none 0 0)
 r2:W.cell? ⟨w.heap.size,2,none⟩=some (.slice none 0 0)
 rf:∀i,W.frozen? ⟨w.heap.size,i,none⟩=false
 c0:W.cell? ⟨w.heap.size+1,0,none⟩=some (.int .i64 n)
 c1:W.cell? ⟨w.heap.size+1,1,none⟩=some v
 c2:W.cell? ⟨w.heap.size+1,2,none⟩=some u
 cf:∀i,W.frozen? ⟨w.heap.size+1,i,none⟩=false
 lt:w.heap.size+2≤W.heap.size
 own:W.ownsRow (w.heap.size+2) 78 4 v (lnTo k).length (cellsG lnkE (lnTo k))
theorem LN.low {w W W':World}{n:Int}{v u:Value}{k:Nat}(h:LN w W n v u k)(hb:Below (w.heap.size+2) W W'){v':Value}{k':Nat}(hv:v'=v)(ho:W'.ownsRow (w.heap.size+2) 78 4 v' (lnTo k').length (cellsG lnkE (lnTo k'))):LN w W' n v u k':=by
 subst hv;have hc:∀(g i:Nat) (x:Value),g<w.heap.size+2→W.cell? ⟨g,i,none⟩=some x→W'.cell? ⟨g,i,none⟩=some x:=fun g i x hg e=>(hb.cell (p:=⟨g,i,none⟩) hg).trans e
 have hf:∀(g i:Nat),g<w.heap.size+2→W.frozen? ⟨g,i,none⟩=false→W'.frozen? ⟨g,i,none⟩=false:=fun g i hg e=>(hb.frozen (p:=⟨g,i,none⟩) hg).trans e
 exact⟨h.below.trans (hb.mono (by omega)),hc _ _ _ (by omega) h.r0,hc _ _ _ (by omega) h.r1,hc _ _ _ (by omega) h.r2,fun i=>hf _ _ (by omega) (h.rf i),hc _ _ _ (by omega) h.c0,hc _ _ _ (by omega) h.c1,hc _ _ _ (by omega) h.c2,fun i=>hf _ _ (by omega) (h.cf i),Nat.le_trans h.lt hb.size,ho⟩
theorem LN.put1 {w W W2:World}{n:Int}{v u v':Value}{k:Nat}(h:LN w W n v u k)(hb:Below (w.heap.size+2) W W2)(ho:W2.ownsRow (w.heap.size+2) 78 4 v' (lnTo (k+1)).length (cellsG lnkE (lnTo (k+1)))):LN w (W2.setCell ⟨w.heap.size+1,1,none⟩ v') n v' u (k+1):=by
 have hc:∀(g i:Nat) (x:Value),g<w.heap.size+2→¬(g=w.heap.size+1∧i=1)→W.cell? ⟨g,i,none⟩=some x→(W2.setCell ⟨w.heap.size+1,1,none⟩ v').cell? ⟨g,i,none⟩=some x:=fun g i x hg hn e=>by
  rw[World.cell?_setCell_other _ _ _ _ (fun e2=>by simp only[Addr.mk.injEq,and_true] at e2;exact hn ⟨e2.1.symm,e2.2.symm⟩)];exact (hb.cell (p:=⟨g,i,none⟩) hg).trans e
 have hf:∀(g i:Nat),g<w.heap.size+2→W.frozen? ⟨g,i,none⟩=false→(W2.setCell ⟨w.heap.size+1,1,none⟩ v').frozen? ⟨g,i,none⟩=false:=fun g i hg e=>by
  have h2:=(hb.frozen (p:=⟨g,i,none⟩) hg).trans e;simpa using h2
 have h1:=(hb.cell (p:=⟨w.heap.size+1,1,none⟩) (by simp)).trans h.c1;exact⟨(h.below.trans (hb.mono (by omega))).setCell (p:=⟨w.heap.size+1,1,none⟩) (by simp) _,hc _ _ _ (by omega) (by omega) h.r0,hc _ _ _ (by omega) (by omega) h.r1,hc _ _ _ (by omega) (by omega) h.r2,fun i=>hf _ _ (by omega) (h.rf i),hc _ _ _ (by omega) (by omega) h.c0,World.cell?_setCell_same _ _ _ h1,hc _ _ _ (by omega) (by omega) h.c2,fun i=>hf _ _ (by omega) (h.cf i),by
  have:=h.lt;have h3:=hb.size;simp;omega,ownsRow_setCell_below ho (by simp) _⟩
theorem LN.put2 {w W W2:World}{n:Int}{v u u':Value}{k:Nat}(h:LN w W n v u k)(hb:Below (w.heap.size+2) W W2)(ho:W2.ownsRow (w.heap.size+2) 78 4 v (lnTo k).length (cellsG lnkE (lnTo k))):LN w (W2.setCell ⟨w.heap.size+1,2,none⟩ u') n v u' k:=by
 have hc:∀(g i:Nat) (x:Value),g<w.heap.size+2→¬(g=w.heap.size+1∧i=2)→W.cell? ⟨g,i,none⟩=some x→(W2.setCell ⟨w.heap.size+1,2,none⟩ u').cell? ⟨g,i,none⟩=some x:=fun g i x hg hn e=>by
  rw[World.cell?_setCell_other _ _ _ _ (fun e2=>by simp only[Addr.mk.injEq,and_true] at e2;exact hn ⟨e2.1.symm,e2.2.symm⟩)];exact (hb.cell (p:=⟨g,i,none⟩) hg).trans e
 have hf:∀(g i:Nat),g<w.heap.size+2→W.frozen? ⟨g,i,none⟩=false→(W2.setCell ⟨w.heap.size+1,2,none⟩ u').frozen? ⟨g,i,none⟩=false:=fun g i hg e=>by
  have h2:=(hb.frozen (p:=⟨g,i,none⟩) hg).trans e;simpa using h2
 have h1:=(hb.cell (p:=⟨w.heap.size+1,2,none⟩) (by simp)).trans h.c2;exact⟨(h.below.trans (hb.mono (by omega))).setCell (p:=⟨w.heap.size+1,2,none⟩) (by simp) _,hc _ _ _ (by omega) (by omega) h.r0,hc _ _ _ (by omega) (by omega) h.r1,hc _ _ _ (by omega) (by omega) h.r2,fun i=>hf _ _ (by omega) (h.rf i),hc _ _ _ (by omega) (by omega) h.c0,hc _ _ _ (by omega) (by omega) h.c1,World.cell?_setCell_same _ _ _ h1,fun i=>hf _ _ (by omega) (h.cf i),by
  have:=h.lt;have h3:=hb.size;simp;omega,ownsRow_setCell_below ho (by simp) _⟩
theorem ln_start (w:World)(n:Int)(w0:World)(hw:(w.alloc (Obj.cells #[.int .i64 0,.slice none 0 0,.slice none 0 0] 25)).alloc (Obj.cells #[.int .i64 n,.slice none 0 0,.slice none 0 0] 25)=w0):LN w w0 n (.slice none 0 0) (.slice none 0 0) 0:=by
 subst hw;have e1:(w.alloc (Obj.cells #[.int .i64 0,.slice none 0 0,.slice none 0 0] 25)).heap.size=w.heap.size+1:=by simp
 have hb:∀(W:World) (o:Obj),Below W.heap.size W (W.alloc o):=fun W o=>(Below.refl _ _).alloc (Nat.le_refl _) _
 have hr:=(vat_new w [.int .i64 0,.slice none 0 0,.slice none 0 0] 25).later (hb _ (Obj.cells #[.int .i64 n,.slice none 0 0,.slice none 0 0] 25));have hs:=vat_new (w.alloc (Obj.cells #[.int .i64 0,.slice none 0 0,.slice none 0 0] 25)) [.int .i64 n,.slice none 0 0,.slice none 0 0] 25;have hg:∀(W:World) (cs:Array Value) (t:TypeId) (i:Nat),(W.alloc (.cells cs t)).frozen? ⟨W.heap.size,i,none⟩=false:=fun W cs t i=>by simp
 have hf2:=hg (w.alloc (Obj.cells #[.int .i64 0,.slice none 0 0,.slice none 0 0] 25)) #[.int .i64 n,.slice none 0 0,.slice none 0 0] 25;rw[e1] at hs hf2;refine⟨((Below.refl _ _).alloc (Nat.le_refl _) _).alloc (by rw[e1];omega) _,hr 0 _ rfl,hr 1 _ rfl,hr 2 _ rfl,fun i=>?_,hs 0 _ rfl,hs 1 _ rfl,hs 2 _ rfl,hf2,by simp,World.ownsRow_nil _ _ _ _⟩;exact ((hb _ _).frozen (p:=⟨w.heap.size,i,none⟩) (by simp)).trans (hg w _ _ i)
theorem ln_apart {w:World}{b1 e1 s1 n1 b2 e2 s2 n2:Nat}{v1 v2:Value}{x1 x2:List Value}(h1:w.ownsRow b1 e1 s1 v1 n1 x1)(h2:w.ownsRow b2 e2 s2 v2 n2 x2)(he:e1≠e2):v1.ownBlock=none∨v1.ownBlock≠v2.ownBlock:=by
 rcases h1.2 with ⟨rfl,_⟩ | ⟨g,cap,cur,rfl,_,hg,_⟩
 ·exact .inl rfl
 refine .inr ?_
 rcases h2.2 with ⟨rfl,_⟩ | ⟨g2,cap2,cur2,rfl,_,hg2,_⟩
 ·exact fun h=>by cases h
 intro h;simp only[Value.ownBlock,Option.some.injEq] at h;subst h;rw[hg] at hg2;simp only[Option.some.injEq,Obj.cells.injEq] at hg2;exact he hg2.2.1
def set3 (W:World)(g:Nat)(u v x:Value):World:=((W.setCell ⟨g,0,none⟩ u).setCell ⟨g,1,none⟩ v).setCell ⟨g,2,none⟩ x
theorem below3 {w W:World}(h:Below w.heap.size w W)(g:Nat)(hg:w.heap.size≤g)(u v x:Value):Below w.heap.size w (set3 W g u v x):=((h.setCell (p:=⟨g,0,none⟩) hg u).setCell (p:=⟨g,1,none⟩) hg v).setCell (p:=⟨g,2,none⟩) hg x
theorem own_set3 {W:World}{B e size n:Nat}{v:Value}{xs:List Value}(h:W.ownsRow B e size v n xs)(g:Nat)(hg:g<B)(a b c:Value):(set3 W g a b c).ownsRow B e size v n xs:=ownsRow_setCell_below (ownsRow_setCell_below (ownsRow_setCell_below h hg _) hg _) hg _
theorem line_any (N:Nat)(w:World)(h1:1≤N)(h7:N≤7):
 Calls Tryz.prog 8 #[.int .i64 (N:Int)] w fun e w'=>∃ao n cap ao2 n2 cap2,e=.returned (.agg #[.int .i64 (N:Int),.slice ao n cap,.slice ao2 n2 cap2])∧GS lnkE w' (.slice ao n cap) (lnTo (N-1))∧GS hstE w' (.slice ao2 n2 cap2) (lnH (N:Int))∧Below w.heap.size w w':=by
 obtain⟨i0,hi,hz0,hz1,hz2⟩:=info_parts lnk_info;obtain⟨j0,hj,hy0,hy1,hy2⟩:=info_parts hst_info;obtain⟨wa,hwa⟩:∃W,w.alloc (Obj.cells #[.int .i64 0,.slice none 0 0,.slice none 0 0] 25)=W:=⟨_,rfl⟩;obtain⟨w0,hw0⟩:∃W,wa.alloc (Obj.cells #[.int .i64 (N:Int),.slice none 0 0,.slice none 0 0] 25)=W:=⟨_,rfl⟩;have HS:Hid (LN w w0 (N:Int) (.slice none 0 0) (.slice none 0 0) 0):=ln_start w _ w0 (by rw[hwa];exact hw0);have HSZ:Hid (wa.heap.size=w.heap.size+1):=by
  show _=_;rw[←hwa];simp
 have HW0:Hid (wa.alloc (Obj.cells #[.int .i64 (N:Int),.slice none 0 0,.slice none 0 0] 25)=w0):=hw0;clear hw0;go_enter Tryz.func8,Tryz.ntmps8;go_wp2;rw[HW0.out,HSZ.out]
 go_loopw [4] (fun i wr=>∃(k:Nat) (v:Value),k+1≤N∧i=.int .i64 ((k:Int)+1)∧LN w wr (N:Int) v (.slice none 0 0) k) (fun i _=>N-(intOf i).toNat)
 case atStart=>exact⟨0,_,h1,rfl,HS.out⟩
 case round =>
  obtain⟨k,v,hk,rfl,hL⟩:=hrel;have HL:Hid (LN w wr (N:Int) v (.slice none 0 0) k):=hL;obtain⟨_,r0,r1,r2,rf,c0,c1,c2,cf,hlt,hown⟩:=hL;have f1:=cf 1;have f2:=cf 2;clear HS HW0 hwa;by_cases hlt2:k+1<N
  ·have hl:(k:Int)+1<(N:Int):=by omega
   have hw2:IntKind.i64.wrap ((k:Int)+1+1)=(k:Int)+1+1:=wrap_small (by omega) (by omega);have hlen:=ln_len k;have HOWN:Hid (wr.ownsRow (w.heap.size+2) 78 4 v (lnTo k).length (cellsG lnkE (lnTo k))):=hown;clear hown rf cf
   go_wp2_with (at_builtin;refine wpList_append_own _ rfl _ _ 22 rfl (w.heap.size+2) 78 i0 (.agg #[.int .i64 0,.int .i64 0,.int .i64 0,.int .i64 0]) 4 32 Tryz.underlying22 hi hz0 hz1 hz2 lnk_zero (by decide) _ _ _ rfl (HOWN.out.alloc _) ⟨wr.heap.size,0,none⟩ 1 1 [.int .i64 ((k:Int)+1),.int .i64 2,.int .i64 ((k:Int)+1+1),.int .i64 1] rfl rfl ?c1 ?c2 ?c3 ?c4 ?c5 ?_)
   case c1 =>
    intro j u hj
    match j,hj with
    | 0,hj=>simp at hj;subst hj;simp[Addr.add]
    | 1,hj=>simp at hj;subst hj;simp[Addr.add]
    | 2,hj=>simp at hj;subst hj;simp[Addr.add]
    | 3,hj=>simp at hj;subst hj;simp[Addr.add]
   case c2=>intro u hu;simp at hu;rcases hu with rfl | rfl | rfl | rfl <;> rfl
   case c3=>unfold maxLen;omega
   case c4=>omega
   case c5=>simp;omega
   intro v' w3 hown3 hgrow _;obtain⟨ao3,cap3,rfl⟩:=own_form hown3;have hb3:Below (w.heap.size+2) wr w3:=((Below.refl _ wr).alloc (by omega) _).grown hgrow (by simp;omega) (fun g hg=>(HOWN.out.lt g hg).1);have HN:Hid (LN w (w3.setCell ⟨w.heap.size+1,1,none⟩ (.slice ao3 (k+1) cap3)) (N:Int) (.slice ao3 (k+1) cap3) (.slice none 0 0) (k+1)):=by
    refine HL.out.put1 hb3 ?_;have e:lnTo (k+1)=lnTo k++[(((k:Int)+1,2),((k:Int)+1+1,1))]:=rfl;rw[ln_len,e,cellsG_app,cellsG_one];have h3:=hown3
    try rw[ln_len] at h3
    exact h3
   have d1:=(hb3.cell (p:=⟨w.heap.size+1,1,none⟩) (by simp)).trans c1;have d0:=(hb3.cell (p:=⟨w.heap.size+1,0,none⟩) (by simp)).trans c0;have g1:=(hb3.frozen (p:=⟨w.heap.size+1,1,none⟩) (by simp)).trans f1;clear hb3 hgrow hown3;go_wp2;go_roundw
   case rel=>exact⟨k+1,_,by omega,by go_num,HN.out⟩
   case measure=>simp[intOf];omega
  obtain rfl:N=k+1:=by omega
  have hl:¬((k:Int)+1<((k+1:Nat):Int)):=by omega
  have HOWN:Hid (wr.ownsRow (w.heap.size+2) 78 4 v (lnTo k).length (cellsG lnkE (lnTo k))):=hown;clear hown rf cf
  go_wp2_with (at_builtin;refine wpList_append_own _ rfl _ _ 23 rfl (w.heap.size+2) 33 j0 (.agg #[.string ByteArray.empty,.int .i64 0,.int .i64 0]) 3 32 Tryz.underlying23 hj hy0 hy1 hy2 hst_zero (by decide) _ _ _ rfl (World.ownsRow_nil _ _ _ _) ⟨wr.heap.size,0,none⟩ 1 1 [.string ⟨#[97]⟩,.int .i64 1,.int .i64 3] rfl rfl ?c1 ?c2 ?c3 ?c4 ?c5 ?_)
  case c2=>first | exact⟨rfl,rfl,rfl⟩ | (intro u hu;simp at hu;rcases hu with rfl | rfl | rfl <;> rfl)
  case c3=>unfold maxLen;omega
  case c5=>first | omega | (simp;omega)
  intro v3 w3 hown3 hgrow _;obtain⟨ao3,cap3,rfl⟩:=own_form hown3;have hb3:Below (w.heap.size+2) wr w3:=((Below.refl _ wr).alloc (by omega) _).grown hgrow (by simp;omega) (fun g hg=>by cases hg);have hk3:w3.ownsRow (w.heap.size+2) 78 4 v (lnTo k).length (cellsG lnkE (lnTo k)):=(HOWN.out.alloc _).kept hgrow (by cases hv:v.ownBlock <;> simp[Value.ownBlock]);have hN3:LN w (w3.setCell ⟨w.heap.size+1,2,none⟩ (.slice ao3 1 cap3)) ((k+1:Nat):Int) v (.slice ao3 1 cap3) k:=HL.out.put2 hb3 hk3;have hO3:(w3.setCell ⟨w.heap.size+1,2,none⟩ (.slice ao3 1 cap3)).ownsRow (w.heap.size+2) 33 3 (.slice ao3 1 cap3) 1 [.string ⟨#[97]⟩,.int .i64 1,.int .i64 3]:=ownsRow_setCell_below hown3 (by simp) _;have d2:=(hb3.cell (p:=⟨w.heap.size+1,2,none⟩) (by simp)).trans c2;have g2:=(hb3.frozen (p:=⟨w.heap.size+1,2,none⟩) (by simp)).trans f2;obtain⟨w4,hw4⟩:∃W,w3.setCell ⟨w.heap.size+1,2,none⟩ (.slice ao3 1 cap3)=W:=⟨_,rfl⟩;rw[hw4] at hN3 hO3;have HN3:Hid (LN w w4 ((k+1:Nat):Int) v (.slice ao3 1 cap3) k):=hN3;have HO3:Hid (w4.ownsRow (w.heap.size+2) 33 3 (.slice ao3 1 cap3) 1 [.string ⟨#[97]⟩,.int .i64 1,.int .i64 3]):=hO3;have HW4:Hid (w3.setCell ⟨w.heap.size+1,2,none⟩ (.slice ao3 1 cap3)=w4):=hw4;have e2:=hN3.c2;have f2':=hN3.cf 2;have hlt4:=hN3.lt;clear hb3 hk3 hN3 hO3 hgrow hown3 hw4 r0 r1 r2 c0 c1 c2 f1 f2 HOWN;go_upto_region 7 with fail;rw[HW4.out];clear d2 g2
  go_wp2_with (at_builtin;refine wpList_append_own _ rfl _ _ 23 rfl (w.heap.size+2) 33 j0 (.agg #[.string ByteArray.empty,.int .i64 0,.int .i64 0]) 3 32 Tryz.underlying23 hj hy0 hy1 hy2 hst_zero (by decide) _ _ _ rfl (HO3.out.alloc _) ⟨w4.heap.size,0,none⟩ 1 1 [.string ⟨#[98]⟩,.int .i64 ((k:Int)+1),.int .i64 4] rfl rfl ?m1 ?m2 ?m3 ?m4 ?m5 ?_)
  case m1 =>
   intro j u hj
   match j,hj with
   | 0,hj=>simp at hj;subst hj;simp[Addr.add]
   | 1,hj=>simp at hj;subst hj;simp[Addr.add]
   | 2,hj=>simp at hj;subst hj;simp[Addr.add]
  case m2=>intro u hu;simp at hu;rcases hu with rfl | rfl | rfl <;> rfl
  case m3=>unfold maxLen;omega
  case m4=>omega
  case m5=>simp;omega
  intro v5 w5 hown5 hgrow5 _;obtain⟨ao5,cap5,rfl⟩:=own_form hown5;have hb5:Below (w.heap.size+2) w4 w5:=((Below.refl _ w4).alloc (by omega) _).grown hgrow5 (by simp;omega) (fun g hg=>(HO3.out.lt g hg).1);have hk5:w5.ownsRow (w.heap.size+2) 78 4 v (lnTo k).length (cellsG lnkE (lnTo k)):=(HN3.out.own.alloc _).kept hgrow5 (ln_apart HN3.out.own HO3.out (by decide));have hN5:LN w (w5.setCell ⟨w.heap.size+1,2,none⟩ (.slice ao5 2 cap5)) ((k+1:Nat):Int) v (.slice ao5 2 cap5) k:=HN3.out.put2 hb5 hk5;have hO5:(w5.setCell ⟨w.heap.size+1,2,none⟩ (.slice ao5 2 cap5)).ownsRow (w.heap.size+2) 33 3 (.slice ao5 2 cap5) (lnH ((k+1:Nat):Int)).length (cellsG hstE (lnH ((k+1:Nat):Int))):=ownsRow_setCell_below hown5 (by simp) _;have d2:=(hb5.cell (p:=⟨w.heap.size+1,2,none⟩) (by simp)).trans e2;have g2:=(hb5.frozen (p:=⟨w.heap.size+1,2,none⟩) (by simp)).trans f2';obtain⟨w6,hw6⟩:∃W,w5.setCell ⟨w.heap.size+1,2,none⟩ (.slice ao5 2 cap5)=W:=⟨_,rfl⟩;rw[hw6] at hN5 hO5;have HN5:Hid (LN w w6 ((k+1:Nat):Int) v (.slice ao5 2 cap5) k):=hN5;have HGH:Hid (∀a b c,GS hstE (set3 w6 w.heap.size a b c) (.slice ao5 2 cap5) (lnH ((k+1:Nat):Int))):=fun a b c=>own_GS (own_set3 hO5 _ (by omega) a b c)
  have HGL:Hid (∀a b c,GS lnkE (set3 w6 w.heap.size a b c) v (lnTo k)):=fun a b c=>own_GS (own_set3 hN5.own _ (by omega) a b c)
  have HW6:Hid (w5.setCell ⟨w.heap.size+1,2,none⟩ (.slice ao5 2 cap5)=w6):=hw6;obtain⟨aoL,capL,hvL⟩:=own_form hN5.own;have HVL:Hid (v=.slice aoL (lnTo k).length capL):=hvL;clear hb5 hk5 hN5 hO5 hgrow5 hown5 hw6 e2 f2' HN3 HO3 hvL;go_upto_region 8 with fail;rw[HW6.out];obtain⟨hB6,r0,r1,r2,rf,c0,c1,c2,_,hlt6,_⟩:=HN5.out;rw[HVL.out] at c1;have rf0:=rf 0;have rf1:=rf 1;have rf2:=rf 2;have HB6:Hid (Below w.heap.size w w6):=hB6;clear d2 g2 rf hB6 HW6;go_wp2;have e0:k+1-1=k:=by omega
  refine bodyPost_ret (v:=.agg #[.int .i64 ((k+1:Nat):Int),.slice aoL (lnTo k).length capL,.slice ao5 2 cap5]) (by simp[results,Tryz.results8,go_sem, *]) rfl ⟨aoL,_,capL,ao5,2,cap5,rfl,?_,?_,below3 HB6.out _ (Nat.le_refl _) _ _ _⟩
  ·rw[e0,←HVL.out];exact HGL.out _ _ _
  exact HGH.out _ _ _
end
section
open Go.ChangeShapes Go.WideShapes Go.ChangeAt Go.RowKit Go.Joins
theorem gs_SR {w:World}{v:Value}{L:List Ru}(h:GS rlE w v L):SR w v L:=by
 rcases h with h | ⟨g,o,cap,h1,h2,h3,h4⟩
 ·exact .inl h
 refine .inr ⟨g,o,cap,h1,h2,h3,fun i hi=>?_⟩;have hv:=h4 i hi
 generalize L[i]=r at hv
 obtain⟨p,m,b,q,s,x⟩:=r;obtain⟨q0,q1,q2,q3,q4,q5⟩:=rl_cells hv;exact⟨q0,q1,q2,q3,q4,q5⟩
theorem table_open {H:Type}{enc:TypeId×Value→H}{W:World}{fuel:Nat}{cs:List Value}{x:DataW H×List MemPlace}
 (h:DataW.trod enc Tryz.prog W 0 (fun _=>true) true fuel 39 cs=some x):∃ao n cap L,cs=[.slice ao n cap]∧SR W (.slice ao n cap) L:=by
 obtain⟨ao,n,cap,L,e,hL⟩:=gs_open (E:=rlE) 39 37 Tryz.underlying39 (by kernel_rfl) zeR (fun _ _ _ h=>rl_open h) h;exact⟨ao,n,cap,L,e,gs_SR hL⟩
theorem tables_open {H:Type}{enc:TypeId×Value→H}{W:World}{fuel:Nat}{cs:List Value}{x:DataW H×List MemPlace}
 (hf2:DataW.trod enc Tryz.prog W 0 (fun _=>true) true fuel 26 cs=some x):∃ao n cap Ts,cs=[.slice ao n cap]∧TS W (.slice ao n cap) Ts:=by
 obtain⟨d,p⟩:=x;have hC:Tryz.prog.cellsOf 39=1:=by kernel_rfl
 rcases Go.Deep.open_slice Tryz.underlying26 hf2 with ⟨hc,hx⟩ | ⟨a,len0,cap,m,k,D,Pl,hc,_,hl,hm,hmm,hx,hall⟩
 ·exact⟨_,_,_,[],hc,.inl ⟨none,0,rfl,rfl⟩⟩
 simp only[if_true] at hmm;subst hmm
 rcases Nat.eq_zero_or_pos len0 with h0 | h0
 ·subst h0;exact⟨_,_,_,[],hc,.inl ⟨_,_,rfl,rfl⟩⟩
 have each:∀i,i<m→∃L:List Ru,∃ao n cap,W.cell? (a.add i)=some (.slice ao n cap)∧SR W (.slice ao n cap) L:=by
  intro i hi;obtain⟨cs,h1,h2⟩:=hall i hi;rw[hC] at h1;obtain⟨_,hlen,hcell⟩:=World.cells?_some h1;obtain⟨ao,n,cap,L,rfl,hL⟩:=table_open h2;refine⟨L,ao,n,cap,?_,hL⟩;have:=hcell 0 (by simp);rw[Go.Deep.add_add] at this;simpa using this
 obtain⟨R,hR⟩:=Go.Deep.choose_lt each;obtain⟨sb,so,spot⟩:=a;have hspot:spot=none:=by
  obtain⟨ao,n,cap,h1,_⟩:=hR 0 (by omega);simpa[Addr.add] using World.cell?_spot h1
 subst hspot;have hadd:∀j,(⟨sb,so,none⟩:Addr).add j=⟨sb,so+j,none⟩:=by
  intro j;simp only[Addr.add]
  first
   | rfl
   | (split
      ·next h0=>rw[h0];rfl
      rfl)
 refine⟨_,_,_,(List.range len0).map R,hc,.inr ⟨sb,so,_,by simp,by simpa using hl,hm,fun i hi=>?_⟩⟩;have hi2:i<len0:=by simpa using hi
 have e:((List.range len0).map R)[i]=R i:=by simp
 rw[e];obtain⟨ao,n,cap,h1,h2⟩:=hR i (by omega);rw[hadd] at h1;exact⟨ao,n,cap,h1,h2⟩
theorem net_open {H:Type}{enc:TypeId×Value→H}{W:World}{n:Nat}{cs:List Value}{x:DataW H×List MemPlace}
 (h:DataW.trod enc Tryz.prog W 0 (fun _=>true) true n 28 cs=some x):∃S ao n cap ao2 n2 cap2 ao3 n3 cap3 Ls Hs Ts,cs=[.int .i64 S,.slice ao n cap,.slice ao2 n2 cap2,.slice ao3 n3 cap3]∧GS lnkE W (.slice ao n cap) Ls∧GS hstE W (.slice ao2 n2 cap2) Hs∧TS W (.slice ao3 n3 cap3) Ts:=by
 obtain⟨xs,k,_,_,hl,hlen,hf⟩:=DataW.trod_struct Tryz.underlying28 h;have hC:Tryz.prog.cellsOf 28=4:=by kernel_rfl
 have hT0:Tryz.prog.cellsOf 25=3:=by kernel_rfl
 have hT1:Tryz.prog.cellsOf 26=1:=by kernel_rfl
 rw[hC] at hl
 match cs,hl with
 | [c0,c1,c2,c3],_ =>
   match xs,hlen with
   | [z0,z1],_ =>
     have g0:=hf 0 _ rfl;have g1:=hf 1 _ rfl;simp[hT0,hT1] at g0 g1;obtain⟨S,ao,n,cap,ao2,n2,cap2,Ls,Hs,e0,hL,hH⟩:=topo_open g0;obtain⟨ao3,n3,cap3,Ts,e1,hT⟩:=tables_open g1;simp at e0 e1;exact⟨S,ao,n,cap,ao2,n2,cap2,ao3,n3,cap3,Ls,Hs,Ts,by simp[e0,e1],hL,hH,hT⟩
theorem net_of {H:Type}{enc:TypeId×Value→H}{W:World}{base:Nat}{v:Value}{d:DataW H}{p:List MemPlace}
 (hv:Value.okWide Tryz.prog W .any base 28 v) (h:DataW.Trod enc Tryz.prog W 0 (fun _=>true) true 28 v d p):∃S ao n cap ao2 n2 cap2 ao3 n3 cap3 Ls Hs Ts,v=.agg #[.int .i64 S,.slice ao n cap,.slice ao2 n2 cap2,.slice ao3 n3 cap3]∧GS lnkE W (.slice ao n cap) Ls∧GS hstE W (.slice ao2 n2 cap2) Hs∧TS W (.slice ao3 n3 cap3) Ts:=by
 obtain⟨cs,rfl,hsz⟩:=okWide_struct Tryz.underlying28 hv;obtain⟨n,hn⟩:=h;obtain⟨S,ao,n,cap,ao2,n2,cap2,ao3,n3,cap3,Ls,Hs,Ts,e,h1,h2,h3⟩:=net_open hn;refine⟨S,ao,n,cap,ao2,n2,cap2,ao3,n3,cap3,Ls,Hs,Ts,?_,h1,h2,h3⟩;simp only[Value.cells] at e;rw[←Array.toArray_toList (xs:=cs),e]
end
namespace planNothing
open Go.RowKit
theorem line_one (w:World):Calls Tryz.prog 8 #[.int .i64 1] w fun e w'=>∃ao n cap ao2 n2 cap2,e=.returned (.agg #[.int .i64 1,.slice ao n cap,.slice ao2 n2 cap2])∧GS lnkE w' (.slice ao n cap) []∧GS hstE w' (.slice ao2 n2 cap2) (lnH 1)∧Below w.heap.size w w':=line_any 1 w (by decide) (by decide)
theorem one_ok:leN 1 [] (lnH 1) [[]] 1 [] (lnH 1) [[⟨1,0,0,4,0,0⟩]] []=0:=by decide +kernel
theorem one_len:(leL 1 [] (lnH 1) [[]] 1 [] (lnH 1) [[⟨1,0,0,4,0,0⟩]] []).length=1:=by decide +kernel
theorem ts_one {w:World}(t:TypeId):TS (w.alloc (Obj.cells #[.slice none 0 0] t)) (.slice (some ⟨w.heap.size,0,none⟩) 1 1) [[]]:=by
 refine .inr ⟨w.heap.size,0,1,rfl,by simp,by unfold maxLen;omega,fun i hi=>?_⟩;obtain rfl:i=0:=by simp at hi;omega
 exact⟨none,0,0,by simp,.inl ⟨_,_,rfl,rfl⟩⟩
theorem ts_rule (w:World):TS ((w.alloc (Obj.cells #[.int .i64 1,.int .i64 0,.int .i64 0,.int .i64 4,.int .i64 0,.int .i64 0] 37)).alloc (Obj.cells #[.slice (some ⟨w.heap.size,0,none⟩) 1 1] 39)) (.slice (some ⟨w.heap.size+1,0,none⟩) 1 1) [[⟨1,0,0,4,0,0⟩]]:=by
 refine .inr ⟨w.heap.size+1,0,1,rfl,by simp,by unfold maxLen;omega,fun i hi=>?_⟩;obtain rfl:i=0:=by simp at hi;omega
 refine⟨some ⟨w.heap.size,0,none⟩,1,1,?_,?_⟩
 ·have h:=vat_new (w.alloc (Obj.cells #[.int .i64 1,.int .i64 0,.int .i64 0,.int .i64 4,.int .i64 0,.int .i64 0] 37)) [.slice (some ⟨w.heap.size,0,none⟩) 1 1] 39;rw[World.size_alloc] at h;exact h 0 _ rfl
 exact gs_SR ((gs_one (E:=rlE) w ⟨1,0,0,4,0,0⟩ 37 (vs:=[.int .i64 1,.int .i64 0,.int .i64 0,.int .i64 4,.int .i64 0,.int .i64 0]) rfl).later ((Below.refl _ _).alloc (Nat.le_refl _) _))
theorem walk (S:Int)(ao:Option Addr)(n cap:Nat)(ao2:Option Addr)(n2 cap2:Nat)(ao3:Option Addr)(n3 cap3:Nat)(S':Int)(bo:Option Addr)(m dap:Nat)(bo2:Option Addr)(m2 dap2:Nat)(bo3:Option Addr)(m3 dap3:Nat)(Ls:List LkT)(Hs:List HoT)(Ts:List (List Ru))(Ls':List LkT)(Hs':List HoT)(Ts':List (List Ru))(w:World)
 (hL:GS lnkE w (.slice ao n cap) Ls) (hH:GS hstE w (.slice ao2 n2 cap2) Hs) (hT:TS w (.slice ao3 n3 cap3) Ts) (hL':GS lnkE w (.slice bo m dap) Ls') (hH':GS hstE w (.slice bo2 m2 dap2) Hs') (hT':TS w (.slice bo3 m3 dap3) Ts'):
 Calls Tryz.prog 4 #[.agg #[.int .i64 S,.slice ao n cap,.slice ao2 n2 cap2,.slice ao3 n3 cap3],.agg #[.int .i64 S',.slice bo m dap,.slice bo2 m2 dap2,.slice bo3 m3 dap3]] w fun e w'=>e=.returned (.bool true)∧Below w.heap.size w w':=by
 have hal:∀(W:World) (o:Obj),Below W.heap.size W (W.alloc o):=fun W o=>(Below.refl _ _).alloc (Nat.le_refl _) _
 obtain⟨w1,hw1⟩:∃W,W=(w.alloc (Obj.cells #[.int .i64 S,.slice ao n cap,.slice ao2 n2 cap2,.slice ao3 n3 cap3] 28)).alloc (Obj.cells #[.int .i64 S',.slice bo m dap,.slice bo2 m2 dap2,.slice bo3 m3 dap3] 28):=⟨_,rfl⟩;have hb1:Below w.heap.size w w1:=by rw[hw1];exact ((Below.refl _ _).alloc (Nat.le_refl _) _).alloc (by simp) _
 have hnn:NN w1 w.heap.size S (.slice ao n cap) (.slice ao2 n2 cap2) (.slice ao3 n3 cap3) S' (.slice bo m dap) (.slice bo2 m2 dap2) (.slice bo3 m3 dap3):=by rw[hw1];exact nn_new w S _ _ _ S' _ _ _ 28
 have HNN:Hid (∀W,Below w1.heap.size w1 W→NN W w.heap.size S (.slice ao n cap) (.slice ao2 n2 cap2) (.slice ao3 n3 cap3) S' (.slice bo m dap) (.slice bo2 m2 dap2) (.slice bo3 m3 dap3)):=fun W h=>hnn.later h
 have HNA:Hid (∀W,Below w1.heap.size w1 W→NI W (.slice ao n cap) (.slice ao2 n2 cap2) (.slice ao3 n3 cap3) Ls Hs Ts∧NI W (.slice bo m dap) (.slice bo2 m2 dap2) (.slice bo3 m3 dap3) Ls' Hs' Ts'):=fun W h=>⟨NI.later (NI.later ⟨hL,hH,hT⟩ hb1) h,NI.later (NI.later ⟨hL',hH',hT'⟩ hb1) h⟩
 have HB1:Hid (Below w.heap.size w w1):=hb1;have HW1:Hid ((w.alloc (Obj.cells #[.int .i64 S,.slice ao n cap,.slice ao2 n2 cap2,.slice ao3 n3 cap3] 28)).alloc (Obj.cells #[.int .i64 S',.slice bo m dap,.slice bo2 m2 dap2,.slice bo3 m3 dap3] 28)=w1):=hw1.symm;clear hL hH hT hL' hH' hT' hb1 hw1 hnn;go_enter Tryz.func4,Tryz.ntmps4
 go_wp2_with fail
 rw[HW1.out];refine (line_one w1).mono ?_;rintro e w2 ⟨b1,k1,d1,b2,k2,d2,rfl,g1,g2,hb2⟩;have HB2:Hid (Below w1.heap.size w1 w2):=hb2;obtain⟨wx,hwx⟩:∃W,(w2.alloc (Obj.cells #[.slice none 0 0] 39)).alloc (Obj.cells #[.int .i64 1,.slice b1 k1 d1,.slice b2 k2 d2,.slice (some ⟨w2.heap.size,0,none⟩) 1 1] 28)=W:=⟨_,rfl⟩;have hbx:Below w2.heap.size w2 wx:=by rw[←hwx];exact ((Below.refl _ _).alloc (Nat.le_refl _) _).alloc (by simp) _
 have hnx:BN wx (w2.heap.size+1) 1 (.slice b1 k1 d1) (.slice b2 k2 d2) (.slice (some ⟨w2.heap.size,0,none⟩) 1 1) [] (lnH 1) [[]]:=by
  have h:=bn_new (S:=1) 28 (g1.later (hal w2 (Obj.cells #[.slice none 0 0] 39))) (g2.later (hal w2 (Obj.cells #[.slice none 0 0] 39))) (ts_one (w:=w2) 39);rw[World.size_alloc,hwx] at h;exact h
 have HNX:Hid (BN wx (w2.heap.size+1) 1 (.slice b1 k1 d1) (.slice b2 k2 d2) (.slice (some ⟨w2.heap.size,0,none⟩) 1 1) [] (lnH 1) [[]]):=hnx;have HWX:Hid ((w2.alloc (Obj.cells #[.slice none 0 0] 39)).alloc (Obj.cells #[.int .i64 1,.slice b1 k1 d1,.slice b2 k2 d2,.slice (some ⟨w2.heap.size,0,none⟩) 1 1] 28)=wx):=hwx;have HBX:Hid (Below w1.heap.size w1 wx):=HB2.out.trans (hbx.mono HB2.out.size);clear g1 g2 hb2 hbx hnx hwx
 go_wp2_with fail
 rw[HWX.out];refine (line_one wx).mono ?_;rintro e w3 ⟨e1,k3,d3,e2,k4,d4,rfl,g1,g2,hb3⟩;obtain⟨wy,hwy⟩:∃W,((w3.alloc (Obj.cells #[.int .i64 1,.int .i64 0,.int .i64 0,.int .i64 4,.int .i64 0,.int .i64 0] 37)).alloc (Obj.cells #[.slice (some ⟨w3.heap.size,0,none⟩) 1 1] 39)).alloc (Obj.cells #[.int .i64 1,.slice e1 k3 d3,.slice e2 k4 d4,.slice (some ⟨w3.heap.size+1,0,none⟩) 1 1] 28)=W:=⟨_,rfl⟩;have hb2:Below w3.heap.size w3 ((w3.alloc (Obj.cells #[.int .i64 1,.int .i64 0,.int .i64 0,.int .i64 4,.int .i64 0,.int .i64 0] 37)).alloc (Obj.cells #[.slice (some ⟨w3.heap.size,0,none⟩) 1 1] 39)):=((Below.refl _ _).alloc (Nat.le_refl _) _).alloc (by simp) _;have hby:Below w3.heap.size w3 wy:=by rw[←hwy];exact hb2.alloc (by simp;omega) _
 have hny:BN wy (w3.heap.size+1+1) 1 (.slice e1 k3 d3) (.slice e2 k4 d4) (.slice (some ⟨w3.heap.size+1,0,none⟩) 1 1) [] (lnH 1) [[⟨1,0,0,4,0,0⟩]]:=by
  have h:=bn_new (S:=1) 28 (g1.later hb2) (g2.later hb2) (ts_rule w3);rw[World.size_alloc,World.size_alloc,hwy] at h;exact h
 have hbxy:Below wx.heap.size wx wy:=hb3.trans (hby.mono hb3.size);have HBY:Hid (Below w1.heap.size w1 wy):=HBX.out.trans (hbxy.mono HBX.out.size);have HNY:Hid (BN wy (w2.heap.size+1) 1 (.slice b1 k1 d1) (.slice b2 k2 d2) (.slice (some ⟨w2.heap.size,0,none⟩) 1 1) [] (lnH 1) [[]]∧BN wy (w3.heap.size+1+1) 1 (.slice e1 k3 d3) (.slice e2 k4 d4) (.slice (some ⟨w3.heap.size+1,0,none⟩) 1 1) [] (lnH 1) [[⟨1,0,0,4,0,0⟩]]):=⟨HNX.out.later hbxy,hny⟩;have HWY:Hid (((w3.alloc (Obj.cells #[.int .i64 1,.int .i64 0,.int .i64 0,.int .i64 4,.int .i64 0,.int .i64 0] 37)).alloc (Obj.cells #[.slice (some ⟨w3.heap.size,0,none⟩) 1 1] 39)).alloc (Obj.cells #[.int .i64 1,.slice e1 k3 d3,.slice e2 k4 d4,.slice (some ⟨w3.heap.size+1,0,none⟩) 1 1] 28)=wy):=hwy;obtain⟨q0,q1,q2,q3⟩:=HNY.out.1.c;obtain⟨r0,r1,r2,r3⟩:=HNY.out.2.c;clear g1 g2 hb3 hb2 hby hny hbxy hwy hal;go_upto_region 3 with fail;rw[HWY.out]
 go_wp2_with fail
 refine (least_any 1 _ _ _ 1 _ _ _ (.slice none 0 0) [] (lnH 1) [[]] [] (lnH 1) [[⟨1,0,0,4,0,0⟩]] [] wy HNY.out.1.ni HNY.out.2.ni (GS.nil _)).mono ?_;rintro e w4 ⟨v,rfl,hR,hb4⟩;rw[one_ok,no_ok rfl];obtain⟨a5,n5,c5,rfl,hn5,_,_⟩:=hR.form;rw[one_len] at hn5;subst hn5;have HB4:Hid (Below w1.heap.size w1 w4):=HBY.out.trans (hb4.mono HBY.out.size);clear hR hb4 q0 q1 q2 q3 r0 r1 r2 r3;obtain⟨⟨q0,q1,q2,q3⟩,r0,r1,r2,r3⟩:=HNN.out w4 HB4.out
 go_wp2_with fail
 refine (plan_any S _ _ _ S _ _ _ (.slice none 0 0) Ls Hs Ts Ls Hs Ts [] w4 (HNA.out w4 HB4.out).1 (HNA.out w4 HB4.out).1 (GS.nil _)).mono ?_;rintro e w5 ⟨v,rfl,hR,hb5⟩;obtain⟨a6,n6,c6,rfl,hn6,_,_⟩:=hR.form;rw[pn_self] at hn6;subst hn6;obtain⟨N1,hN1⟩:∃N,N=plN S Ls Hs Ts S Ls Hs Ts []:=⟨_,rfl⟩;rw[←hN1];have HB5:Hid (Below w1.heap.size w1 w5):=HB4.out.trans (hb5.mono HB4.out.size);clear hR hb5 hN1 q0 q1 q2 q3 r0 r1 r2 r3;obtain⟨⟨q0,q1,q2,q3⟩,r0,r1,r2,r3⟩:=HNN.out w5 HB5.out
 go_wp2_with fail
 refine (plan_any S _ _ _ S' _ _ _ (.slice none 0 0) Ls Hs Ts Ls' Hs' Ts' [] w5 (HNA.out w5 HB5.out).1 (HNA.out w5 HB5.out).2 (GS.nil _)).mono ?_;rintro e w6 ⟨v,rfl,hR,hb6⟩;obtain⟨a7,n7,c7,rfl,hn7,_,_⟩:=hR.form;obtain⟨N2,hN2⟩:∃N,N=plN S Ls Hs Ts S' Ls' Hs' Ts' []:=⟨_,rfl⟩;have HP2:Hid (N2=0→n7=if (diL S Ls Hs Ts S' Ls' Hs' Ts').length=0 then 0 else 1):=fun h=>by
  rw[←hn7];exact pn_two (hN2.symm.trans h)
 rw[←hN2];have HB6:Hid (Below w1.heap.size w1 w6):=HB5.out.trans (hb6.mono HB5.out.size);clear hR hb6 hN2 hn7 q0 q1 q2 q3 r0 r1 r2 r3;obtain⟨⟨q0,q1,q2,q3⟩,r0,r1,r2,r3⟩:=HNN.out w6 HB6.out
 go_wp2_with fail
 refine (chDiff_any S ao n cap ao2 n2 cap2 ao3 n3 cap3 S' bo m dap bo2 m2 dap2 bo3 m3 dap3 Ls Hs Ts Ls' Hs' Ts' w6 (HNA.out w6 HB6.out).1.l (HNA.out w6 HB6.out).1.h (HNA.out w6 HB6.out).1.t (HNA.out w6 HB6.out).2.l (HNA.out w6 HB6.out).2.h (HNA.out w6 HB6.out).2.t).mono ?_;rintro e w7 ⟨v,rfl,hO,hb7⟩;obtain⟨a8,n8,c8,rfl,hn8,_⟩:=hO.gs.form;obtain⟨N3,hN3⟩:∃N,N=diN S Ls Hs Ts S' Ls' Hs' Ts':=⟨_,rfl⟩;rw[←hN3];have HP3:Hid (N2=0→n7=if n8=0 then 0 else 1):=fun h=>by
  have:=HP2.out h;rw[hn8] at this;exact this
 have HB7:Hid (Below w.heap.size w w7):=HB1.out.trans ((HB6.out.trans (hb7.mono HB6.out.size)).mono HB1.out.size);clear hO hb7 hN3 hn8 q0 q1 q2 q3 r0 r1 r2 r3;by_cases h1:N1=0
 ·rw[no_ok h1];by_cases h2:N2=0
  ·rw[no_ok h2];have h7:=HP3.out h2;by_cases h3:N3=0
   ·rw[no_ok h3];clear h1 h2 h3;by_cases h8:n8=0
    ·rw[if_pos h8] at h7;subst h7;subst h8;go_wp2;go_ret;exact⟨rfl,HB7.out⟩
    rw[if_neg h8] at h7;subst h7;have hq:((n8:Int)==0)=false:=by rw[beq_eq_false_iff_ne];omega
    clear h8;go_wp2;go_ret;exact⟨rfl,HB7.out⟩
   rw[no_ne h3];clear h1 h2 h3 h7;go_wp2;go_ret;exact⟨rfl,HB7.out⟩
  rw[no_ne h2];clear h1 h2;go_wp2;go_ret;exact⟨rfl,HB7.out⟩
 rw[no_ne h1];clear h1;go_wp2;go_ret;exact⟨rfl,HB7.out⟩
end planNothing
end Go.Proofs.YtiokpmlhmlcojaaGreat
