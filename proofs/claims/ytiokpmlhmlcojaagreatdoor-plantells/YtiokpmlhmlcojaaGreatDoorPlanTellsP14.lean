/- Contracts and facts on the way to PlanTells, joined into one text: PlanPlan, PlanVerMath, PlanVerify, RefPlanMath, RefDo, RefDiff, RefChanges, RefAlike. -/
import Derived.Test.YtiokpmlhmlcojaaGreatDoorPlanTellsP13
namespace Go.Proofs.YtiokpmlhmlcojaaGreatDoor
set_option linter.unusedSimpArgs false
set_option linter.unusedVariables false
set_option maxHeartbeats 16000000
set_option maxRecDepth 100000
section
open Go.RowKit
section
variable {S:Int}{Ls:List LkT}{Hs:List HoT}{Ts:List (List Ru)}{S':Int}{Ls':List LkT}{Hs':List HoT}{Ts':List (List Ru)}{ws:List Wi}
theorem tw_any (h:nwN S Ls Hs Ts S' Ls' Hs' Ts'=0)(hl:Ts.length=Ts'.length)(j:Nat):twN (Ts.getD j []) (Ts'.getD j [])=0:=by
 by_cases hj:j<Ts.length
 ·exact nw_tw h j hj (by omega)
 have e1:Ts.getD j []=[]:=by simp[List.getD,List.getElem?_eq_none (show Ts.length≤j by omega)]
 have e2:Ts'.getD j []=[]:=by simp[List.getD,List.getElem?_eq_none (show Ts'.length≤j by omega)]
 rw[e1,e2];rfl
theorem pd_ok (h:pdN S Ls Hs Ts S' Ls' Hs' Ts' ws=0):PlOK S Ls Hs Ts Ts' ws (pdL S Ls Hs Ts S' Ls' Hs' Ts' ws)∧nwN S Ls Hs Ts S' Ls' Hs' Ts'=0∧tpB S S' Ls Ls' Hs Hs'=true∧Ts.length=Ts'.length:=by
 have h1:=h;unfold pdN at h1;by_cases hd:diN S Ls Hs Ts S' Ls' Hs' Ts'=0
 ·rw[if_pos hd] at h1;have hd2:=hd;unfold diN at hd2;by_cases hn:nwN S Ls Hs Ts S' Ls' Hs' Ts'=0
  ·rw[if_pos hn] at hd2;by_cases ht:tpB S S' Ls Ls' Hs Hs'=true
   ·have hl:Ts.length=Ts'.length:=by
     have a:=(nt_0 (nw_two hn).1).2.1;have b:=(nt_0 (nw_two hn).2).2.1;have c:=(tpB_iff.1 ht).1;omega
    refine⟨⟨(nw_two hn).1,tw_any hn hl,h1,?_⟩,hn,ht,hl⟩;unfold pdL;rw[if_pos h];unfold diL;rw[if_pos hd]
   rw[if_neg ht] at hd2;cases hd2
  rw[if_neg hn] at hd2;exact absurd hd2 hn
 rw[if_neg hd] at h1;exact absurd h1 hd
theorem pd_few:(∀o∈pdL S Ls Hs Ts S' Ls' Hs' Ts' ws,1≤o.w∧o.w≤6)∧(pdL S Ls Hs Ts S' Ls' Hs' Ts' ws).length≤1000:=by
 by_cases h:pdN S Ls Hs Ts S' Ls' Hs' Ts' ws=0
 ·have k:=(pd_ok h).1;exact⟨k.w,by have:=k.few;omega⟩
 unfold pdL;rw[if_neg h];exact⟨(fun o ho=>absurd ho (by simp)),by simp⟩
theorem pb_pd (h:pbN S Ls Hs Ts S' Ls' Hs' Ts' ws=0):pdN S Ls Hs Ts S' Ls' Hs' Ts' ws=0∧wiN S Ls Hs Ts ws=0:=by
 unfold pbN at h;by_cases hd:pdN S Ls Hs Ts S' Ls' Hs' Ts' ws=0
 ·rw[if_pos hd] at h;exact⟨hd,h⟩
 rw[if_neg hd] at h;exact absurd h hd
end
def plO (Ls:List LkT)(Hs:List HoT)(As Bs:List (List Ru))(ws:List Wi)(D:List Op8):Option (List Nat):=roA (alS D) (fun done=>fiS (sfB Ls Hs As Bs ws) (alS D) done 6) 0
def plN (S:Int)(Ls:List LkT)(Hs:List HoT)(Ts:List (List Ru))(S':Int)(Ls':List LkT)(Hs':List HoT)(Ts':List (List Ru))(ws:List Wi):Int:=if pbN S Ls Hs Ts S' Ls' Hs' Ts' ws=0 then rsN (plO Ls Hs Ts Ts' ws (pdL S Ls Hs Ts S' Ls' Hs' Ts' ws)) else pbN S Ls Hs Ts S' Ls' Hs' Ts' ws
def plL (S:Int)(Ls:List LkT)(Hs:List HoT)(Ts:List (List Ru))(S':Int)(Ls':List LkT)(Hs':List HoT)(Ts':List (List Ru))(ws:List Wi):List (List Op8):=if pbN S Ls Hs Ts S' Ls' Hs' Ts' ws=0 then rsL (pdL S Ls Hs Ts S' Ls' Hs' Ts' ws) (plO Ls Hs Ts Ts' ws (pdL S Ls Hs Ts S' Ls' Hs' Ts' ws)) else []
theorem plan_any (S:Int)(v1 v2 v3:Value)(S':Int)(u1 u2 u3 v4:Value)(Ls:List LkT)(Hs:List HoT)(Ts:List (List Ru))(Ls':List LkT)(Hs':List HoT)(Ts':List (List Ru))(ws:List Wi)(w:World)
 (hN:NI w v1 v2 v3 Ls Hs Ts) (hM:NI w u1 u2 u3 Ls' Hs' Ts') (hw:GS wisE w v4 ws):
 Calls Tryz.prog 6 #[.agg #[.int .i64 S,v1,v2,v3],.agg #[.int .i64 S',u1,u2,u3],v4] w fun e w'=>∃v,e=.returned (.tuple #[v,noV (plN S Ls Hs Ts S' Ls' Hs' Ts' ws)])∧RS w' v (plL S Ls Hs Ts S' Ls' Hs' Ts' ws)∧Below w.heap.size w w':=by
 obtain⟨ao,n,cap,ao2,n2,cap2,ao3,n3,cap3,rfl,rfl,rfl⟩:=hN.form;obtain⟨bo,m,dap,bo2,m2,dap2,bo3,m3,dap3,rfl,rfl,rfl⟩:=hM.form;obtain⟨a4,n4,c4,rfl,_⟩:=hw.form;obtain⟨w1,hw1⟩:∃W,W=(w.alloc (Obj.cells #[.int .i64 S,.slice ao n cap,.slice ao2 n2 cap2,.slice ao3 n3 cap3] 28)).alloc (Obj.cells #[.int .i64 S',.slice bo m dap,.slice bo2 m2 dap2,.slice bo3 m3 dap3] 28):=⟨_,rfl⟩;have hb1:Below w.heap.size w w1:=by rw[hw1];exact ((Below.refl _ _).alloc (Nat.le_refl _) _).alloc (by simp) _
 have hnn:NN w1 w.heap.size S (.slice ao n cap) (.slice ao2 n2 cap2) (.slice ao3 n3 cap3) S' (.slice bo m dap) (.slice bo2 m2 dap2) (.slice bo3 m3 dap3):=by rw[hw1];exact nn_new w S _ _ _ S' _ _ _ 28
 have HNW:Hid (NI w1 (.slice ao n cap) (.slice ao2 n2 cap2) (.slice ao3 n3 cap3) Ls Hs Ts∧NI w1 (.slice bo m dap) (.slice bo2 m2 dap2) (.slice bo3 m3 dap3) Ls' Hs' Ts'∧GS wisE w1 (.slice a4 n4 c4) ws):=⟨hN.later hb1,hM.later hb1,hw.later hb1⟩;have HB1:Hid (Below w.heap.size w w1):=hb1;have HW1:Hid ((w.alloc (Obj.cells #[.int .i64 S,.slice ao n cap,.slice ao2 n2 cap2,.slice ao3 n3 cap3] 28)).alloc (Obj.cells #[.int .i64 S',.slice bo m dap,.slice bo2 m2 dap2,.slice bo3 m3 dap3] 28)=w1):=hw1.symm;obtain⟨D,hD⟩:∃D,D=pdL S Ls Hs Ts S' Ls' Hs' Ts' ws:=⟨_,rfl⟩;obtain⟨X,hX⟩:∃q,q=pbN S Ls Hs Ts S' Ls' Hs' Ts' ws:=⟨_,rfl⟩;have HPK:Hid (X=0→PlOK S Ls Hs Ts Ts' ws D):=fun h=>by
  rw[hD];exact (pd_ok (pb_pd (hX.symm.trans h)).1).1
 obtain⟨N,hNN⟩:∃q,q=plN S Ls Hs Ts S' Ls' Hs' Ts' ws:=⟨_,rfl⟩;have HN:Hid (N=if X=0 then rsN (plO Ls Hs Ts Ts' ws D) else X):=by rw[hNN,hX,hD];exact rfl
 obtain⟨L,hL⟩:∃q,q=plL S Ls Hs Ts S' Ls' Hs' Ts' ws:=⟨_,rfl⟩;have HL:Hid (L=if X=0 then rsL D (plO Ls Hs Ts Ts' ws D) else []):=by rw[hL,hX,hD];exact rfl
 rw[←hNN,←hL];have HD:Hid (pdL S Ls Hs Ts S' Ls' Hs' Ts' ws=D):=hD.symm;have HX:Hid (pbN S Ls Hs Ts S' Ls' Hs' Ts' ws=X):=hX.symm;have HAL:Hid (alS D<64):=by show _<_;rw[hD];exact al_lt pd_few.1
 obtain⟨⟨q0,q1,q2,q3⟩,r0,r1,r2,r3⟩:=hnn;clear hN hM hw hb1 hw1 hD hX hNN hL;go_enter Tryz.func6,Tryz.ntmps6;go_upto_region 1 with fail;rw[HW1.out]
 go_wp2_with fail
 refine (begin_any S (.slice ao n cap) (.slice ao2 n2 cap2) (.slice ao3 n3 cap3) S' (.slice bo m dap) (.slice bo2 m2 dap2) (.slice bo3 m3 dap3) (.slice a4 n4 c4) Ls Hs Ts Ls' Hs' Ts' ws w1 HNW.out.1 HNW.out.2.1 HNW.out.2.2 pd_few.1 pd_few.2).mono ?_;rintro e w2 ⟨t0,t1,t2,t3,t4,t5,t6,rfl,hOK,hNO,hb2⟩;rw[HX.out];rw[HX.out,HD.out] at hOK;rw[HX.out] at hNO;have HB2:Hid (Below w.heap.size w w2):=HB1.out.trans (hb2.mono HB1.out.size);by_cases hX0:X=0
 ·obtain⟨bm,rfl,rfl,rfl,rfl,rfl,rfl,rfl,hT⟩:=hOK hX0;rw[no_ok hX0];have HN2:Hid (N=rsN (plO Ls Hs Ts Ts' ws D)):=HN.out.trans (if_pos hX0);have HL2:Hid (L=rsL D (plO Ls Hs Ts Ts' ws D)):=HL.out.trans (if_pos hX0);have HP:Hid (PlOK S Ls Hs Ts Ts' ws D):=HPK.out hX0;obtain⟨w3,hw3⟩:∃W,w2.alloc (Obj.cells #[.int .i64 S,.slice ao n cap,.slice ao2 n2 cap2,.slice ao3 n3 cap3,.slice a4 n4 c4,.map (some bm),.int .i64 (alS D:Int)] 63)=W:=⟨_,rfl⟩;have hb3:Below w2.heap.size w2 w3:=by rw[←hw3];exact (Below.refl _ _).alloc (Nat.le_refl _) _
  have HB3:Hid (Below w.heap.size w w3):=HB2.out.trans (hb3.mono HB2.out.size);have htb:TkB w3 w2.heap.size S (.slice ao n cap) (.slice ao2 n2 cap2) (.slice ao3 n3 cap3) (.slice a4 n4 c4) (.map (some bm)) (alS D:Int):=by rw[←hw3];exact tkb_new w2 S _ _ _ _ _ _ 63
  have HT3:Hid (TskOK w3 (.slice ao n cap) (.slice ao2 n2 cap2) (.slice ao3 n3 cap3) (.slice a4 n4 c4) bm Ls Hs Ts ws D):=hT.later hb3;have HW3:Hid (w2.alloc (Obj.cells #[.int .i64 S,.slice ao n cap,.slice ao2 n2 cap2,.slice ao3 n3 cap3,.slice a4 n4 c4,.map (some bm),.int .i64 (alS D:Int)] 63)=w3):=hw3;obtain⟨x0,x1,x2,x3,x4,x5,x6,_⟩:=htb;clear hOK hNO hb2 hX0 hT hw3 hb3 q0 q1 q2 q3 r0 r1 r2 r3;go_upto_region 2 with fail;rw[HW3.out]
  go_wp2_with fail
  refine (rounds_fill S (.slice ao n cap) (.slice ao2 n2 cap2) (.slice ao3 n3 cap3) (.slice a4 n4 c4) bm (alS D) Ls Hs Ts Ts' ws D w3 HT3.out HP.out HAL.out).mono ?_;rintro e w4 ⟨v,rfl,hR,hb4⟩;have HR:Hid (RS w4 v L):=by rw[HL2.out];exact hR
  have HB4:Hid (Below w.heap.size w w4):=HB3.out.trans (hb4.mono HB3.out.size);obtain⟨er,her⟩:∃er,er=noV (rsN (roA (alS D) (fun done=>fiS (sfB Ls Hs Ts Ts' ws) (alS D) done 6) 0)):=⟨_,rfl⟩;rw[←her];have HER:Hid (er=noV N):=by rw[her,HN2.out];exact rfl
  clear hR hb4 her x0 x1 x2 x3 x4 x5 x6;go_wp2;refine bodyPost_ret (v:=.tuple #[v,er]) (by simp[results,Tryz.results6,go_sem, *]) rfl ⟨v,by rw[HER.out],HR.out,HB4.out⟩
 obtain⟨rfl,rfl,rfl,rfl,rfl,rfl,rfl⟩:=hNO hX0;rw[no_ne hX0];have HN2:Hid (N=X):=HN.out.trans (if_neg hX0);have HL2:Hid (L=[]):=HL.out.trans (if_neg hX0);have HX0:Hid (X≠0):=hX0;have HB3:Hid (Below w.heap.size w (w2.alloc (Obj.cells #[.int .i64 0,.slice none 0 0,.slice none 0 0,.slice none 0 0,.slice none 0 0,.map none,.int .i64 0] 63))):=HB2.out.alloc HB2.out.size _;clear hX0 hOK hNO hb2 q0 q1 q2 q3 r0 r1 r2 r3;go_wp2;refine bodyPost_ret (v:=.tuple #[.slice none 0 0,.iface 68 (.int .i64 X)]) (by simp[results,Tryz.results6,go_sem, *]) rfl ⟨.slice none 0 0,by rw[HN2.out,no_ne HX0.out],by rw[HL2.out];exact RS.nil _,HB3.out⟩
def mfN (S:Int)(Ls:List LkT)(Hs:List HoT)(Ts:List (List Ru))(o:List Op8)(l:List Wi):Int:=
 if cgN S Ls Hs Ts o=0 then (if (bsW Ls Hs Ts (caT Ts o) l Hs l.length).isNone then 0 else 9) else cgN S Ls Hs Ts o
theorem sf_mf {S:Int}{Ls:List LkT}{Hs:List HoT}{Ts:List (List Ru)}{o:List Op8}{l:List Wi}{N:Int}{p:Int×ByteArray×Int}(h:SfR S Ls Hs Ts o l N p)(h2:wsN S Ls Hs l=0):N=mfN S Ls Hs Ts o l:=by
 by_cases h1:cgN S Ls Hs Ts o=0
 ·rw[mfN,if_pos h1];exact sf_none h h1 h2
 rw[mfN,if_neg h1]
 rcases h with ⟨_,k2,_⟩ | ⟨k1,_,_,_⟩ | ⟨k1,_⟩
 ·exact k2
 ·exact absurd k1 h1
 exact absurd k1 h1
theorem mf_cg {S:Int}{Ls:List LkT}{Hs:List HoT}{Ts:List (List Ru)}{o:List Op8}{l:List Wi}(h:mfN S Ls Hs Ts o l=0):cgN S Ls Hs Ts o=0:=by
 unfold mfN at h;by_cases h1:cgN S Ls Hs Ts o=0
 ·exact h1
 rw[if_neg h1] at h;exact absurd h h1
def vtT (Ts:List (List Ru))(l:List (List Op8))(k:Nat):List (List Ru):=(l.take k).foldl caT Ts
theorem vt_0 (Ts:List (List Ru))(l:List (List Op8)):vtT Ts l 0=Ts:=rfl
theorem vt_next {Ts:List (List Ru)}{l:List (List Op8)}{k:Nat}{r:List Op8}(h:l[k]?=some r):vtT Ts l (k+1)=caT (vtT Ts l k) r:=by
 obtain⟨hk,e⟩:=List.getElem?_eq_some_iff.1 h;rw[vtT,List.take_succ_eq_append_getElem hk,List.foldl_append,e];rfl
def vfF (mt:Nat→Int):Nat→Nat
 | 0=>0
 | n+1=>if vfF mt n<n then vfF mt n else if mt n=0 then n+1 else n
theorem vf_le (mt:Nat→Int):∀n,vfF mt n≤n
 | 0=>Nat.le_refl _
 | n+1=>by
   rw[vfF];by_cases h:vfF mt n<n
   ·rw[if_pos h];omega
   rw[if_neg h];by_cases h2:mt n=0
   ·rw[if_pos h2];omega
   rw[if_neg h2];omega
theorem vf_ok {mt:Nat→Int}{n:Nat}(h:vfF mt n=n)(h0:mt n=0):vfF mt (n+1)=n+1:=by rw[vfF,if_neg (by omega),if_pos h0]
theorem vf_no {mt:Nat→Int}{k:Nat}(h:vfF mt k=k)(h0:mt k≠0):∀n,k<n→vfF mt n=k
 | 0,hn=>by omega
 | n+1,hn=>by
   by_cases e:k=n
   ·subst e;rw[vfF,if_neg (by omega),if_neg h0]
   have ih:=vf_no h h0 n (by omega);rw[vfF,if_pos (by omega),ih]
section
variable (S:Int)(Ls:List LkT)(Hs:List HoT)(Ts:List (List Ru))(S':Int)(Ls':List LkT)(Hs':List HoT)(Ts':List (List Ru))(ws:List Wi)(l:List (List Op8))
def vmN (k:Nat):Int:=mfN S Ls Hs (vtT Ts l k) (l.getD k []) ws
def vkN:Nat:=vfF (vmN S Ls Hs Ts ws l) l.length
def veE:Int:=if vkN S Ls Hs Ts ws l<l.length then vmN S Ls Hs Ts ws l (vkN S Ls Hs Ts ws l) else if (cdL (vtT Ts l l.length) Ts' Ts.length).length=0 then 0 else 6
def vrN:Int:=if pdN S Ls Hs Ts S' Ls' Hs' Ts' ws=0 then (if l.length≤20 then (if wiN S Ls Hs Ts ws=0 then veE S Ls Hs Ts Ts' ws l else wiN S Ls Hs Ts ws) else 4) else pdN S Ls Hs Ts S' Ls' Hs' Ts' ws
def vrK:Nat:=if pdN S Ls Hs Ts S' Ls' Hs' Ts' ws=0∧l.length≤20∧wiN S Ls Hs Ts ws=0 then vkN S Ls Hs Ts ws l else 0
end
section
variable {S:Int}{Ls:List LkT}{Hs:List HoT}{Ts:List (List Ru)}{S':Int}{Ls':List LkT}{Hs':List HoT}{Ts':List (List Ru)}{ws:List Wi}{l:List (List Op8)}
theorem vt_right (h:ntN S Ls Hs Ts=0):∀k,k≤l.length→vfF (vmN S Ls Hs Ts ws l) k=k→ntN S Ls Hs (vtT Ts l k)=0∧(vtT Ts l k).length=Ts.length
 | 0,_,_=>⟨h,rfl⟩
 | k+1,hk,hv=>by
   have h1:vfF (vmN S Ls Hs Ts ws l) k=k∧vmN S Ls Hs Ts ws l k=0:=by
    rw[vfF] at hv;by_cases c:vfF (vmN S Ls Hs Ts ws l) k<k
    ·rw[if_pos c] at hv;omega
    rw[if_neg c] at hv;have:=vf_le (vmN S Ls Hs Ts ws l) k;by_cases c2:vmN S Ls Hs Ts ws l k=0
    ·exact⟨by omega,c2⟩
    rw[if_neg c2] at hv;omega
   obtain⟨i1,i2⟩:=vt_right h k (by omega) h1.1;have hl:l[k]?=some l[k]:=List.getElem?_eq_getElem (by omega);have h2:=h1.2;unfold vmN at h2;have e:l.getD k []=l[k]:=by simp[List.getD,hl]
   rw[e] at h2;have hc:=mf_cg h2;rw[vt_next hl];exact⟨nt_ca i1 (cg_nt hc).2,by rw[ca_len];exact i2⟩
theorem vt_same (hP:pdN S Ls Hs Ts S' Ls' Hs' Ts' ws=0){Us:List (List Ru)}(hU:ntN S Ls Hs Us=0)(hl:Us.length=Ts.length):nwN S Ls Hs Us S' Ls' Hs' Ts'=0∧nsB S Ls Hs Us S' Ls' Hs' Ts'=decide ((cdL Us Ts' Ts.length).length=0):=by
 obtain⟨_,h1,h2,h3⟩:=pd_ok hP;have hb:=(nw_two h1).2;have hn:nwN S Ls Hs Us S' Ls' Hs' Ts'=0:=by unfold nwN;rw[if_pos hU];exact hb
 refine⟨hn,?_⟩;rw[nsB,hn,h2,etB,decide_eq_true (show Us.length=Ts'.length by omega),cs_cd (fun j hj=>nw_tw hn j hj (by omega)),hl];simp
end
structure NBx (W:World)(g:Nat)(S:Int)(v1 v2 v3:Value)(Ls:List LkT)(Hs:List HoT)(Ts:List (List Ru)):Prop where
 b:BN W g S v1 v2 v3 Ls Hs Ts
 f:∀i,W.frozen? ⟨g,i,none⟩=false
theorem NBx.later {W W':World}{g:Nat}{S:Int}{v1 v2 v3:Value}{Ls:List LkT}{Hs:List HoT}{Ts:List (List Ru)}(h:NBx W g S v1 v2 v3 Ls Hs Ts)(hb:Below W.heap.size W W'):NBx W' g S v1 v2 v3 Ls Hs Ts:=⟨h.b.later hb,frozLater h.f h.b.c.1 hb⟩
theorem nbx_new {W:World}{v1 v2 v3:Value}{Ls:List LkT}{Hs:List HoT}{Ts:List (List Ru)}(h:NI W v1 v2 v3 Ls Hs Ts)(S:Int)(t:TypeId):NBx (W.alloc (Obj.cells #[.int .i64 S,v1,v2,v3] t)) W.heap.size S v1 v2 v3 Ls Hs Ts:=⟨ni_bn h S t,fun i=>by simp⟩
theorem nbx_put {W:World}{B g:Nat}{S:Int}{a1 a2 a3:Value}{Ls:List LkT}{Hs:List HoT}{Ts Us:List (List Ru)}{v1 v2 v3:Value}(h:NA W B v1 v2 v3 Ls Hs Ts)(hg:g<B)(k:NBx W g S a1 a2 a3 Ls Hs Us):NBx (put4 W g (.int .i64 S) v1 v2 v3) g S v1 v2 v3 Ls Hs Ts:=by
 have h2:=(h.put (grown_put4 W g (.int .i64 S) v1 v2 v3) hg).gs;exact⟨⟨put4_cells k.b.c,h2.1,h2.2.1,h2.2.2⟩,fun i=>by unfold put4;rw[frozSet,frozSet,frozSet,frozSet];exact k.f i⟩
theorem verify_any (S:Int)(v1 v2 v3:Value)(S':Int)(u1 u2 u3 v4 v5:Value)(Ls:List LkT)(Hs:List HoT)(Ts:List (List Ru))(Ls':List LkT)(Hs':List HoT)(Ts':List (List Ru))(ws:List Wi)(l:List (List Op8))(w:World)
 (hN:NI w v1 v2 v3 Ls Hs Ts) (hM:NI w u1 u2 u3 Ls' Hs' Ts') (hw:GS wisE w v4 ws) (hl:RS w v5 l):
 Calls Tryz.prog 14 #[.agg #[.int .i64 S,v1,v2,v3],.agg #[.int .i64 S',u1,u2,u3],v4,v5] w fun e w'=>e=.returned (.tuple #[.int .i64 (vrK S Ls Hs Ts S' Ls' Hs' Ts' ws l:Int),noV (vrN S Ls Hs Ts S' Ls' Hs' Ts' ws l)])∧Below w.heap.size w w':=by
 obtain⟨ao,n,cap,ao2,n2,cap2,ao3,n3,cap3,rfl,rfl,rfl⟩:=hN.form;obtain⟨bo,m,dap,bo2,m2,dap2,bo3,m3,dap3,rfl,rfl,rfl⟩:=hM.form;obtain⟨a4,n4,c4,rfl,_⟩:=hw.form;obtain⟨a5,n5,c5,rfl,hl5,hm5,hc5⟩:=hl.form;have n63:n5≤9223372036854775807:=by unfold maxLen at hm5;omega
 obtain⟨w1,hw1⟩:∃W,W=(w.alloc (Obj.cells #[.int .i64 S,.slice ao n cap,.slice ao2 n2 cap2,.slice ao3 n3 cap3] 28)).alloc (Obj.cells #[.int .i64 S',.slice bo m dap,.slice bo2 m2 dap2,.slice bo3 m3 dap3] 28):=⟨_,rfl⟩;have hb1:Below w.heap.size w w1:=by rw[hw1];exact ((Below.refl _ _).alloc (Nat.le_refl _) _).alloc (by simp) _
 have hnn:NN w1 w.heap.size S (.slice ao n cap) (.slice ao2 n2 cap2) (.slice ao3 n3 cap3) S' (.slice bo m dap) (.slice bo2 m2 dap2) (.slice bo3 m3 dap3):=by rw[hw1];exact nn_new w S _ _ _ S' _ _ _ 28
 have HNW:Hid (∀W,Below w1.heap.size w1 W→NI W (.slice ao n cap) (.slice ao2 n2 cap2) (.slice ao3 n3 cap3) Ls Hs Ts∧NI W (.slice bo m dap) (.slice bo2 m2 dap2) (.slice bo3 m3 dap3) Ls' Hs' Ts'∧GS wisE W (.slice a4 n4 c4) ws∧RS W (.slice a5 n5 c5) l):=fun W h=>⟨(hN.later hb1).later h,(hM.later hb1).later h,(hw.later hb1).later h,(hl.later hb1).later h⟩
 have HNB:Hid (∀W,Below w1.heap.size w1 W→NeBox W w.heap.size S (.slice ao n cap) (.slice ao2 n2 cap2) (.slice ao3 n3 cap3)∧NeBox W (w.heap.size+1) S' (.slice bo m dap) (.slice bo2 m2 dap2) (.slice bo3 m3 dap3)):=fun W h=>⟨hnn.1.later h,hnn.2.later h⟩
 have HB1:Hid (Below w.heap.size w w1):=hb1;have HW1:Hid ((w.alloc (Obj.cells #[.int .i64 S,.slice ao n cap,.slice ao2 n2 cap2,.slice ao3 n3 cap3] 28)).alloc (Obj.cells #[.int .i64 S',.slice bo m dap,.slice bo2 m2 dap2,.slice bo3 m3 dap3] 28)=w1):=hw1.symm;have HLN:Hid (l.length=n5):=hl5;obtain⟨X,hX⟩:∃q,q=pdN S Ls Hs Ts S' Ls' Hs' Ts' ws:=⟨_,rfl⟩;have HX:Hid (pdN S Ls Hs Ts S' Ls' Hs' Ts' ws=X):=hX.symm;obtain⟨U,hU⟩:∃q,q=wiN S Ls Hs Ts ws:=⟨_,rfl⟩;have HU:Hid (wiN S Ls Hs Ts ws=U):=hU.symm;obtain⟨N,hNN⟩:∃q,q=vrN S Ls Hs Ts S' Ls' Hs' Ts' ws l:=⟨_,rfl⟩;have HN:Hid (N=if X=0 then (if n5≤20 then (if U=0 then veE S Ls Hs Ts Ts' ws l else U) else 4) else X):=by rw[hNN,vrN,hX,hU,hl5];exact rfl
 obtain⟨K,hKK⟩:∃q,q=vrK S Ls Hs Ts S' Ls' Hs' Ts' ws l:=⟨_,rfl⟩;have HK:Hid (K=if X=0∧n5≤20∧U=0 then vkN S Ls Hs Ts ws l else 0):=by rw[hKK,vrK,hX,hU,hl5];exact rfl
 rw[←hNN,←hKK];obtain⟨P1,hP1⟩:∃q,q=(wiV S Ls Hs Ts ws).1:=⟨_,rfl⟩;obtain⟨P2,hP2⟩:∃q,q=(wiV S Ls Hs Ts ws).2.1:=⟨_,rfl⟩;obtain⟨P3,hP3⟩:∃q,q=(wiV S Ls Hs Ts ws).2.2:=⟨_,rfl⟩;have HPV:Hid ((wiV S Ls Hs Ts ws).1=P1∧(wiV S Ls Hs Ts ws).2.1=P2∧(wiV S Ls Hs Ts ws).2.2=P3):=⟨hP1.symm,hP2.symm,hP3.symm⟩;clear hN hM hw hl hb1 hnn hw1 hX hU hNN hKK hP1 hP2 hP3 hl5 hm5 hc5;go_enter Tryz.func14,Tryz.ntmps14;go_upto_region 1 with fail;rw[HW1.out];clear HW1;obtain⟨⟨q0,q1,q2,q3⟩,r0,r1,r2,r3⟩:=HNB.out w1 (Below.refl _ _)
 go_wp2_with fail
 refine (pdiff_any S _ _ _ S' _ _ _ _ Ls Hs Ts Ls' Hs' Ts' ws w1 (HNW.out _ (Below.refl _ _)).1 (HNW.out _ (Below.refl _ _)).2.1 (HNW.out _ (Below.refl _ _)).2.2.1).mono ?_;rintro e w2 ⟨v,rfl,hNO,hb2⟩;rw[HX.out];have HB2:Hid (Below w1.heap.size w1 w2):=hb2;clear hNO hb2 q0 q1 q2 q3 r0 r1 r2 r3;by_cases hX0:X=0
 ·have HX0:Hid (pdN S Ls Hs Ts S' Ls' Hs' Ts' ws=0):=HX.out.trans hX0;have HNA:Hid (N=if n5≤20 then (if U=0 then veE S Ls Hs Ts Ts' ws l else U) else 4):=HN.out.trans (if_pos hX0);have HKA:Hid ((n5≤20→U=0→K=vkN S Ls Hs Ts ws l)∧(¬(n5≤20∧U=0)→K=0)):=⟨fun h1 h2=>HK.out.trans (if_pos ⟨hX0,h1,h2⟩),fun h=>HK.out.trans (if_neg (fun x=>h x.2))⟩;clear HN HK;subst hX0;rw[no_ok rfl];by_cases h20:n5≤20
  ·have e20:decide ((20:Int)<(n5:Int))=false:=by simp;omega
   obtain⟨⟨q0,q1,q2,q3⟩,_⟩:=HNB.out w2 HB2.out
   go_wp2_with fail
   refine (holds_any S ao n cap ao2 n2 cap2 ao3 n3 cap3 a4 n4 c4 Ls Hs Ts ws w2 (HNW.out _ HB2.out).1.l (HNW.out _ HB2.out).1.h (HNW.out _ HB2.out).1.t (HNW.out _ HB2.out).2.2.1).mono ?_;rintro e w3 ⟨rfl,hb3⟩;rw[HU.out,HPV.out.1,HPV.out.2.1,HPV.out.2.2];obtain⟨w4,hw4⟩:∃W,w3.alloc (Obj.cells #[.int .i64 P1,.string P2,.int .i64 P3] 43)=W:=⟨_,rfl⟩;have hb4:Below w3.heap.size w3 w4:=by rw[←hw4];exact (Below.refl _ _).alloc (Nat.le_refl _) _
   have h24:Below w2.heap.size w2 w4:=hb3.trans (hb4.mono hb3.size);have HB4:Hid (Below w1.heap.size w1 w4):=HB2.out.trans (h24.mono HB2.out.size);have HW4:Hid (w3.alloc (Obj.cells #[.int .i64 P1,.string P2,.int .i64 P3] 43)=w4):=hw4;have HBW4:Hid (Below w.heap.size w w4):=HB1.out.trans (HB4.out.mono HB1.out.size);clear hb3 hb4 h24 hw4 q0 q1 q2 q3;go_upto_region 7 with fail;rw[HW4.out];clear HW4;by_cases hU0:U=0
   ·have HNV:Hid (N=veE S Ls Hs Ts Ts' ws l):=by
     exact (HNA.out.trans (if_pos h20)).trans (if_pos hU0)
    have HKV:Hid (K=vkN S Ls Hs Ts ws l):=HKA.out.1 h20 hU0;rw[no_ok hU0];obtain⟨⟨q0,q1,q2,q3⟩,_⟩:=HNB.out w4 HB4.out;obtain⟨gn,hgn⟩:∃g,g=w4.heap.size:=⟨_,rfl⟩;obtain⟨w5,hw5⟩:∃W,w4.alloc (Obj.cells #[.int .i64 S,.slice ao n cap,.slice ao2 n2 cap2,.slice ao3 n3 cap3] 28)=W:=⟨_,rfl⟩;have HW5:Hid (w4.alloc (Obj.cells #[.int .i64 S,.slice ao n cap,.slice ao2 n2 cap2,.slice ao3 n3 cap3] 28)=w5):=hw5;have HGN:Hid (w4.heap.size=gn):=hgn.symm;have HNX5:Hid (NBx w5 gn S (.slice ao n cap) (.slice ao2 n2 cap2) (.slice ao3 n3 cap3) Ls Hs Ts):=by rw[←hw5,hgn];exact nbx_new (HNW.out _ HB4.out).1 S 28
    have HB5:Hid (Below gn w4 w5):=by rw[←hw5,hgn];exact (Below.refl _ _).alloc (Nat.le_refl _) _
    have HW4K:Hid (∀W,Below gn w4 W→NI W (.slice bo m dap) (.slice bo2 m2 dap2) (.slice bo3 m3 dap3) Ls' Hs' Ts'∧GS wisE W (.slice a4 n4 c4) ws∧RS W (.slice a5 n5 c5) l∧NeBox W (w.heap.size+1) S' (.slice bo m dap) (.slice bo2 m2 dap2) (.slice bo3 m3 dap3)∧Below w.heap.size w W):=fun W h=>by
     rw[hgn] at h;have h1:=HB4.out.trans (h.mono HB4.out.size);obtain⟨_,k2,k3,k4⟩:=HNW.out W h1;exact⟨k2,k3,k4,(HNB.out W h1).2,HBW4.out.trans (h.mono HBW4.out.size)⟩
    have HPK:Hid (PlOK S Ls Hs Ts Ts' ws (pdL S Ls Hs Ts S' Ls' Hs' Ts' ws)):=(pd_ok HX0.out).1;clear hgn hw5 hU0;go_upto_region 10 with fail;rw[HW5.out,HGN.out];clear HW5 q0 q1 q2 q3;go_wp2
    go_loopw [47] (fun i wr=>∃(k:Nat) (b1:Option Addr) (k1 d1:Nat) (b2:Option Addr) (k2 d2:Nat) (b3:Option Addr) (k3 d3:Nat),k≤n5∧i=.int .i64 (k:Int)∧vfF (vmN S Ls Hs Ts ws l) k=k∧NBx wr gn S (.slice b1 k1 d1) (.slice b2 k2 d2) (.slice b3 k3 d3) Ls Hs (vtT Ts l k)∧Below gn w4 wr) (fun i _=>n5-(intOf i).toNat)
    case atStart=>exact⟨0,_,_,_,_,_,_,_,_,_,by omega,rfl,rfl,HNX5.out,HB5.out⟩
    case round =>
     obtain⟨k,b1,k1,d1,b2,k2,d2,b3,k3,d3,hk,rfl,hvf,hNX,hB⟩:=hrel;obtain⟨wi,hwi⟩:∃X,X=wr:=⟨_,rfl⟩;subst hwi;have HNXi:Hid (NBx wi gn S (.slice b1 k1 d1) (.slice b2 k2 d2) (.slice b3 k3 d3) Ls Hs (vtT Ts l k)):=hNX;have HB:Hid (Below gn w4 wi):=hB;have HVF:Hid (vfF (vmN S Ls Hs Ts ws l) k=k):=hvf;clear hNX hB hvf HNX5 HB5;by_cases hlt:k<n5
     ·obtain⟨g5,o5,r,ar,nr,cr,ha5,hr,hcr,hGr⟩:=(HW4K.out wi HB.out).2.2.1.at hlt;subst ha5;have HR:Hid (l[k]?=some r):=hr;have HGR:Hid (∀W,Below wi.heap.size wi W→GS opE W (.slice ar nr cr) r):=fun W h=>hGr.later h
      obtain⟨F,hF⟩:∃F,F=vmN S Ls Hs Ts ws l k:=⟨_,rfl⟩;have HF:Hid (vmN S Ls Hs Ts ws l k=F):=hF.symm;have HMF:Hid (mfN S Ls Hs (vtT Ts l k) r ws=F):=show _=_ by
       rw[hF,vmN,List.getD,hr];rfl
      obtain⟨⟨x0,x1,x2,x3⟩,_,_,_⟩:=HNXi.out.b;have kb0:(0:Int)≤(k:Int):=by omega
      have kb1:(k:Int)<(n5:Int):=by omega
      clear hr hGr hF
      go_wp2_with fail
      refine (safe_any S b1 k1 d1 b2 k2 d2 b3 k3 d3 ar nr cr a4 n4 c4 Ls Hs (vtT Ts l k) r ws wi HNXi.out.b.l HNXi.out.b.h HNXi.out.b.t (HGR.out _ (Below.refl _ _)) (HW4K.out wi HB.out).2.1).mono ?_;rintro e w6 ⟨F',p,rfl,hSR,hb6⟩;have hFF:F'=F:=(sf_mf hSR HPK.out.ws).trans HMF.out;subst hFF;obtain⟨w7,hw7⟩:∃W,w6.alloc (Obj.cells #[.int .i64 p.1,.string p.2.1,.int .i64 p.2.2] 43)=W:=⟨_,rfl⟩;have hb7:Below wi.heap.size wi w7:=by rw[←hw7];exact hb6.alloc hb6.size _
      have HW7:Hid (w6.alloc (Obj.cells #[.int .i64 p.1,.string p.2.1,.int .i64 p.2.2] 43)=w7):=hw7;have HBI7:Hid (Below wi.heap.size wi w7):=hb7;have HB7:Hid (Below gn w4 w7):=HB.out.trans (hb7.mono (Nat.le_of_lt HNXi.out.b.lt));have HNX7:Hid (NBx w7 gn S (.slice b1 k1 d1) (.slice b2 k2 d2) (.slice b3 k3 d3) Ls Hs (vtT Ts l k)):=HNXi.out.later hb7;clear hSR hb6 hw7 hb7 x0 x1 x2 x3 hcr;go_upto_region 14 with fail;rw[HW7.out];clear HW7;by_cases hF0:F'=0
      ·rw[no_ok hF0];have HVN:Hid (vfF (vmN S Ls Hs Ts ws l) (k+1)=k+1):=vf_ok HVF.out (HF.out.trans hF0);have HCG:Hid (cgN S Ls Hs (vtT Ts l k) r=0):=mf_cg (HMF.out.trans hF0);obtain⟨⟨x0,x1,x2,x3⟩,_,_,_⟩:=HNX7.out.b;have xf0:=HNX7.out.f 0;clear hF0
       go_wp2_with fail
       refine (chApply_own S b1 k1 d1 b2 k2 d2 b3 k3 d3 ar nr cr Ls Hs (vtT Ts l k) r w7 HNX7.out.b.l HNX7.out.b.h HNX7.out.b.t (HGR.out _ HBI7.out)).mono ?_;rintro e w8 ⟨f1,l1,e1,f2,l2,e2,f3,l3,e3,rfl,hNA,hb8⟩;rw[HCG.out] at hNA ⊢;simp only[nvS,nvL,if_true] at hNA ⊢;have HNX8:Hid (NBx w8 gn S (.slice b1 k1 d1) (.slice b2 k2 d2) (.slice b3 k3 d3) Ls Hs (vtT Ts l k)):=HNX7.out.later hb8;have HNXN:Hid (NBx (put4 w8 gn (.int .i64 S) (.slice f1 l1 e1) (.slice f2 l2 e2) (.slice f3 l3 e3)) gn S (.slice f1 l1 e1) (.slice f2 l2 e2) (.slice f3 l3 e3) Ls Hs (vtT Ts l (k+1))):=by
        rw[vt_next HR.out];exact nbx_put hNA HNX7.out.b.lt HNX8.out
       have HB8:Hid (Below gn w4 (put4 w8 gn (.int .i64 S) (.slice f1 l1 e1) (.slice f2 l2 e2) (.slice f3 l3 e3))):=below_pn4 (HB7.out.trans (hb8.mono (Nat.le_of_lt HNX7.out.b.lt))) gn (Nat.le_refl _) _ _ _ _;obtain⟨⟨y0,y1,y2,y3⟩,_,_,_⟩:=HNX8.out.b;have yf0:=HNX8.out.f 0;have yf1:=HNX8.out.f 1;have yf2:=HNX8.out.f 2;have yf3:=HNX8.out.f 3;clear hNA hb8 x0 x1 x2 x3 xf0;go_wp2;go_roundw
       case rel=>exact⟨k+1,_,_,_,_,_,_,_,_,_,by omega,by go_num,HVN.out,HNXN.out,HB8.out⟩
       case measure=>simp[intOf];omega
      rw[no_ne hF0];have HVN:Hid (vkN S Ls Hs Ts ws l=k):=vf_no HVF.out (by rw[HF.out];exact hF0) l.length (by rw[HLN.out];exact hlt);have HKE:Hid (K=k):=HKV.out.trans HVN.out;have HNE:Hid (N=F'):=by
       have h:=HNV.out;unfold veE at h;rw[HVN.out,if_pos (by rw[HLN.out];exact hlt),HF.out] at h;exact h
      have HF0:Hid (F'≠0):=hF0;have HBE:Hid (Below w.heap.size w w7):=(HW4K.out w7 HB7.out).2.2.2.2;clear hF0;go_wp2;refine bodyPost_ret (v:=.tuple #[.int .i64 (k:Int),.iface 68 (.int .i64 F')]) (by simp[results,Tryz.results14,go_sem, *]) rfl ⟨by rw[HKE.out,HNE.out,no_ne HF0.out],HBE.out⟩
     obtain rfl:k=n5:=by omega
     have HVN:Hid (vkN S Ls Hs Ts ws l=k):=by have h:=HVF.out;rw[←HLN.out] at h;show vkN S Ls Hs Ts ws l=_;rw[←HLN.out];exact h
     have HKE:Hid (K=k):=HKV.out.trans HVN.out;obtain⟨hnt,hlen⟩:=vt_right (ws:=ws) (l:=l) HPK.out.nt l.length (Nat.le_refl _) (by have h:=HVF.out;rw[←HLN.out] at h;exact h);obtain⟨s1,s2⟩:=vt_same HX0.out hnt hlen;rw[HLN.out] at s1 s2;obtain⟨B,hBB⟩:∃B,B=decide ((cdL (vtT Ts l k) Ts' Ts.length).length=0):=⟨_,rfl⟩;rw[←hBB] at s2;have HS1:Hid (nwN S Ls Hs (vtT Ts l k) S' Ls' Hs' Ts'=0):=s1;have HS2:Hid (nsB S Ls Hs (vtT Ts l k) S' Ls' Hs' Ts'=B):=s2;have HNE:Hid (N=if B=true then 0 else 6):=by
      show N=if B=true then 0 else 6
      have h:=HNV.out;unfold veE at h;rw[HVN.out,HLN.out,if_neg (by omega)] at h;rw[h,hBB];by_cases c:(cdL (vtT Ts l k) Ts' Ts.length).length=0
      ·simp[c]
      simp[c]
     obtain⟨⟨x0,x1,x2,x3⟩,_,_,_⟩:=HNXi.out.b;obtain⟨y0,y1,y2,y3⟩:=(HW4K.out wi HB.out).2.2.2.1;clear hnt hlen s1 s2 hBB
     go_wp2_with fail
     refine (chSame_any S b1 k1 d1 b2 k2 d2 b3 k3 d3 S' bo m dap bo2 m2 dap2 bo3 m3 dap3 Ls Hs (vtT Ts l k) Ls' Hs' Ts' wi HNXi.out.b.l HNXi.out.b.h HNXi.out.b.t (HW4K.out wi HB.out).1.l (HW4K.out wi HB.out).1.h (HW4K.out wi HB.out).1.t).mono ?_;rintro e w6 ⟨rfl,hb6⟩;rw[HS1.out,HS2.out,no_ok rfl];have HBE:Hid (Below w.heap.size w w6):=(HW4K.out w6 (HB.out.trans (hb6.mono (Nat.le_of_lt HNXi.out.b.lt)))).2.2.2.2;clear hb6 x0 x1 x2 x3 y0 y1 y2 y3;cases B with
     | true =>
       have HNE2:Hid (N=0):=HNE.out.trans (by simp);go_wp2;refine bodyPost_ret (v:=.tuple #[.int .i64 (k:Int),.nilIface]) (by simp[results,Tryz.results14,go_sem, *]) rfl ⟨by rw[HKE.out,HNE2.out,no_ok rfl],HBE.out⟩
     | false =>
       have HNE2:Hid (N=6):=HNE.out.trans (by simp);go_wp2;refine bodyPost_ret (v:=.tuple #[.int .i64 (k:Int),.iface 68 (.int .i64 6)]) (by simp[results,Tryz.results14,go_sem, *]) rfl ⟨by rw[HKE.out,HNE2.out,no_ne (by decide)],HBE.out⟩
   rw[no_ne hU0];have HNE:Hid (N=U):=by
    exact (HNA.out.trans (if_pos h20)).trans (if_neg hU0)
   have HKE:Hid (K=0):=HKA.out.2 (fun x=>hU0 x.2);have HU0:Hid (U≠0):=hU0;clear hU0;go_wp2;refine bodyPost_ret (v:=.tuple #[.int .i64 0,.iface 68 (.int .i64 U)]) (by simp[results,Tryz.results14,go_sem, *]) rfl ⟨by rw[HKE.out,HNE.out,no_ne HU0.out];rfl,HBW4.out⟩
  have e20:decide ((20:Int)<(n5:Int))=true:=by simp;omega
  have HNE:Hid (N=4):=by
   exact HNA.out.trans (if_neg h20)
  have HKE:Hid (K=0):=HKA.out.2 (fun x=>h20 x.1);have HBW:Hid (Below w.heap.size w w2):=HB1.out.trans (HB2.out.mono HB1.out.size);go_wp2;refine bodyPost_ret (v:=.tuple #[.int .i64 0,.iface 68 (.int .i64 4)]) (by simp[results,Tryz.results14,go_sem, *]) rfl ⟨by rw[HKE.out,HNE.out,no_ne (by decide)];rfl,HBW.out⟩
 rw[no_ne hX0];have HNE:Hid (N=X):=HN.out.trans (if_neg hX0);have HKE:Hid (K=0):=HK.out.trans (if_neg (fun x=>hX0 x.1));have HX0:Hid (X≠0):=hX0;have HBW:Hid (Below w.heap.size w w2):=HB1.out.trans (HB2.out.mono HB1.out.size);clear hX0;go_wp2;refine bodyPost_ret (v:=.tuple #[.int .i64 0,.iface 68 (.int .i64 X)]) (by simp[results,Tryz.results14,go_sem, *]) rfl ⟨by rw[HKE.out,HNE.out,no_ne HX0.out];rfl,HBW.out⟩
theorem dc_len {sf:Nat→Nat→Bool}{done:Nat}:∀(l:List Int) (x:Nat×List Int×List Int),(l.foldl (dcA sf done) x).2.1.length+(l.foldl (dcA sf done) x).2.2.length=x.2.1.length+x.2.2.length+l.length
 | [],x=>by simp
 | a :: l,x=>by
   rw[List.foldl_cons,dc_len l];unfold dcA;by_cases h:sf done (x.1 ||| onS a.toNat)=true
   ·rw[if_pos h];simp;omega
   rw[if_neg h];simp;omega
theorem dc_sub {sf:Nat→Nat→Bool}{done:Nat}:∀(l:List Int) (x:Nat×List Int×List Int),(∀a∈l,1≤a∧a≤6)→x.1<64→(l.foldl (dcA sf done) x).1<64∧∀b:Nat,1≤b→b≤6→inS (l.foldl (dcA sf done) x).1 b=true→inS x.1 b=true∨(b:Int)∈l
 | [],x,_,hx=>⟨hx,fun b _ _ h=>.inl h⟩
 | a :: l,x,hl,hx=>by
   have ha:=hl a (List.mem_cons_self ..);have hl':∀b∈l,1≤b∧b≤6:=fun b hb=>hl b (List.mem_cons_of_mem _ hb)
   rw[List.foldl_cons];by_cases h:sf done (x.1 ||| onS a.toNat)=true
   ·have e:dcA sf done x a=(x.1 ||| onS a.toNat,x.2.1++[a],x.2.2):=by rw[dcA,if_pos h]
    rw[e];obtain⟨i1,i2⟩:=dc_sub (sf:=sf) (done:=done) l (x.1 ||| onS a.toNat,x.2.1++[a],x.2.2) hl' (or_lt hx (on_lt (by omega)));refine⟨i1,fun b h1 h2 h3=>?_⟩
    rcases i2 b h1 h2 h3 with h4 | h4
    ·rw[in_or,in_on h2 (by omega),Bool.or_eq_true] at h4
     rcases h4 with h4 | h4
     ·exact .inl h4
     have:=of_decide_eq_true h4;exact .inr (by rw[show ((b:Nat):Int)=a by omega];exact List.mem_cons_self ..)
    exact .inr (List.mem_cons_of_mem _ h4)
   have e:dcA sf done x a=(x.1,x.2.1,x.2.2++[a]):=by rw[dcA,if_neg h]
   rw[e];obtain⟨i1,i2⟩:=dc_sub (sf:=sf) (done:=done) l (x.1,x.2.1,x.2.2++[a]) hl' hx;refine⟨i1,fun b h1 h2 h3=>?_⟩
   rcases i2 b h1 h2 h3 with h4 | h4
   ·exact .inl h4
   exact .inr (List.mem_cons_of_mem _ h4)
theorem any_has (l:List Int)(x:Int):(l.any fun y=>y==x)=l.contains x:=by
 rw[Bool.eq_iff_iff,List.any_eq_true,List.contains_iff_mem];constructor
 ·rintro⟨y,h1,h2⟩;rw[←eq_of_beq h2];exact h1
 intro h;exact⟨x,h,by simp⟩
section
variable {S:Int}{Ls:List LkT}{Hs:List HoT}{As Bs:List (List Ru)}{ws:List Wi}{D:List Op8}
theorem PlOK.mf (h:PlOK S Ls Hs As Bs ws D){done t:Nat}(hd:∀a,1≤a→a≤6→inS t a=true→inS done a=false):decide (mfN S Ls Hs (nwT As Bs done) (rnL D t) ws=0)=sfB Ls Hs As Bs ws done t:=by
 rw[mfN,if_pos (h.cg hd),(h.ca hd).2,sfB];cases (bsW Ls Hs (nwT As Bs done) (nwT As Bs (done ||| t)) ws Hs ws.length).isNone <;> simp
theorem PlOK.of (h:PlOK S Ls Hs As Bs ws D){t:Nat}{l:List Int}(hl:∀a:Nat,1≤a→a≤6→l.contains (a:Int)=inS t a):(D.filter fun o=>l.any fun y=>y==o.w)=rnL D t:=by
 have e:(fun o:Op8=>l.any fun y=>y==o.w)=fun o:Op8=>(fun a:Int=>l.contains a) o.w:=by
  funext o
  exact any_has l o.w
 rw[e,h.d];exact of_rd h.len.2 hl
end
structure NBy (W:World)(g:Nat)(S:Int)(v1 v2 v3:Value)(Ls:List LkT)(Hs:List HoT)(Ts:List (List Ru)):Prop where
 x:NBx W g S v1 v2 v3 Ls Hs Ts
 n:∀o,4≤o→W.cell? ⟨g,o,none⟩=none
theorem cell_none {W W':World}{g o:Nat}{row:Option Nat}(hg:W.grownBy W' row)(hl:g<W.heap.size)(hne:some g≠row)(h:W.cell? ⟨g,o,none⟩=none):W'.cell? ⟨g,o,none⟩=none:=by
 unfold World.cell? at h ⊢;rw[hg.block g hl hne];exact h
theorem NBy.later {W W':World}{g:Nat}{S:Int}{v1 v2 v3:Value}{Ls:List LkT}{Hs:List HoT}{Ts:List (List Ru)}(h:NBy W g S v1 v2 v3 Ls Hs Ts)(hb:Below W.heap.size W W'):NBy W' g S v1 v2 v3 Ls Hs Ts:=⟨h.x.later hb,fun o ho=>cell_none (grown_below hb) h.x.b.lt (by simp) (h.n o ho)⟩
theorem NBy.off {W:World}{g:Nat}{S:Int}{a1:Option Addr}{k1 d1:Nat}{a2:Option Addr}{k2 d2:Nat}{a3:Option Addr}{k3 d3:Nat}{Ls:List LkT}{Hs:List HoT}{Ts:List (List Ru)}(h:NBy W g S (.slice a1 k1 d1) (.slice a2 k2 d2) (.slice a3 k3 d3) Ls Hs Ts){x:SlT}{L:List Ru}(hx:SR W (slV x) L):offB x g:=by
 obtain⟨ao,n,cap⟩:=x
 rcases hx with ⟨ao',cap',e,rfl⟩ | ⟨b,o,cap',e,h1,h2,h3⟩
 ·simp only[slV,Value.slice.injEq] at e;exact .inl e.2.1
 simp only[slV,Value.slice.injEq] at e;obtain⟨rfl,rfl,rfl⟩:=e;by_cases h0:L.length=0
 ·exact .inl h0
 refine .inr fun a ha=>?_
 cases ha;intro hb
 replace hb:b=g:=hb
 subst hb;obtain⟨c0,c1,c2,c3,c4,c5⟩:=h3 0 (by omega);obtain⟨n0,n1,n2,n3⟩:=h.x.b.c;simp only[Nat.zero_mul,Nat.add_zero] at c0 c1
 match o,c0,c1 with
 | 0,c0,c1=>rw[n1] at c1;cases c1
 | 1,c0,c1=>rw[n1] at c0;cases c0
 | 2,c0,c1=>rw[n2] at c0;cases c0
 | 3,c0,c1=>rw[n3] at c0;cases c0
 | o+4,c0,c1=>rw[h.n (o+4) (by omega)] at c0;cases c0
theorem NBy.offO {W:World}{g:Nat}{S:Int}{a1:Option Addr}{k1 d1:Nat}{a2:Option Addr}{k2 d2:Nat}{a3:Option Addr}{k3 d3:Nat}{Ls:List LkT}{Hs:List HoT}{Ts:List (List Ru)}(h:NBy W g S (.slice a1 k1 d1) (.slice a2 k2 d2) (.slice a3 k3 d3) Ls Hs Ts){x:SlT}{L:List Op8}(hx:GS opE W (slV x) L):offB x g:=by
 obtain⟨ao,n,cap⟩:=x
 rcases hx with ⟨ao',cap',e,rfl⟩ | ⟨b,o,cap',e,h1,h2,h3⟩
 ·simp only[slV,Value.slice.injEq] at e;exact .inl e.2.1
 simp only[slV,Value.slice.injEq] at e;obtain⟨rfl,rfl,rfl⟩:=e;by_cases h0:L.length=0
 ·exact .inl h0
 refine .inr fun a ha=>?_
 cases ha;intro hb
 replace hb:b=g:=hb
 subst hb;obtain⟨c0,c1,_⟩:=op_cells (x0:=L[0].w) (x1:=L[0].a) (x2:=L[0].r.p) (x3:=L[0].r.m) (x4:=L[0].r.b) (x5:=L[0].r.o) (x6:=L[0].r.s) (x7:=L[0].r.v) (h3 0 (by omega));obtain⟨n0,n1,n2,n3⟩:=h.x.b.c;simp only[Nat.zero_mul,Nat.add_zero] at c0 c1
 match o,c0,c1 with
 | 0,c0,c1=>rw[n1] at c1;cases c1
 | 1,c0,c1=>rw[n1] at c0;cases c0
 | 2,c0,c1=>rw[n2] at c0;cases c0
 | 3,c0,c1=>rw[n3] at c0;cases c0
 | o+4,c0,c1=>rw[h.n (o+4) (by omega)] at c0;cases c0
theorem cell_put4 {W:World}{g o:Nat}(ho:4≤o)(a b c d:Value):(put4 W g a b c d).cell? ⟨g,o,none⟩=W.cell? ⟨g,o,none⟩:=by
 unfold put4;rw[World.cell?_setCell_other _ _ _ _ (by simp),World.cell?_setCell_other _ _ _ _ (by simp),World.cell?_setCell_other _ _ _ _ (by simp),World.cell?_setCell_other _ _ _ _ (by simp)]
theorem tr_put4 {W:World}{e:TypeId}{A B g:Nat}{S:Int}{a1:Option Addr}{k1 d1:Nat}{a2:Option Addr}{k2 d2:Nat}{a3:Option Addr}{k3 d3:Nat}{Ls:List LkT}{Hs:List HoT}{Ts Us:List (List Ru)}{v:Value}{vs:List SlT}(h:TR e W A B v vs Us)(hg:g<B)(k:NBy W g S (.slice a1 k1 d1) (.slice a2 k2 d2) (.slice a3 k3 d3) Ls Hs Ts)(x y z u:Value):TR e (put4 W g x y z u) B B v vs Us:=by
 have hgr:=grown_put4 W g x y z u;exact⟨h.ov.kept hgr (.inr fun e2=>by have:=(h.ov.lt g e2).1;omega),h.lv,fun i x L c1 c2=>⟨((h.rv i x L c1 c2).1).grown hgr (fun b hb=>by cases hb;exact k.off (h.rv i x L c1 c2).1),(h.rv i x L c1 c2).2⟩,fun i x _ b h1 h2=>by omega⟩
theorem TR.off {e:TypeId}{W W':World}{B:Nat}{v:Value}{vs:List SlT}{Us:List (List Ru)}(h:TR e W B B v vs Us){row:Option Nat}(hg:W.grownBy W' row)(hr:∀b,row=some b→b<B∧∀x∈vs,offB x b):TR e W' B B v vs Us:=
 ⟨h.ov.kept hg (by
  cases row with
  | none=>exact none_or _
  | some b=>exact .inr fun e2=>by have:=(h.ov.lt b e2).1;have:=(hr b rfl).1;omega),h.lv,fun i x L c1 c2=>⟨(h.rv i x L c1 c2).1.grown hg (fun b hb=>(hr b hb).2 x (List.mem_of_getElem? c1)),(h.rv i x L c1 c2).2⟩,fun i x _ b h1 h2=>by omega⟩
theorem gs_sl_one {W:World}{v:Value}{vs us:List SlT}(h1:GS slE W v vs)(h2:GS slE W v us):vs=us:=by
 obtain⟨ao,n,cap,rfl,hn,_,_,ha⟩:=h1.form;obtain⟨_,_,_,e,hm,_,_,hb⟩:=h2.form;cases e;refine List.ext_getElem (by omega) fun i k1 k2=>?_
 obtain⟨g,o,rfl,hat,_⟩:=ha (by omega);obtain⟨g',o',e2,hbt,_⟩:=hb (by omega);cases e2;have c1:=hat i k1 0 _ rfl;have c2:=hbt i k2 0 _ rfl;rw[c1] at c2;have e3:slV vs[i]=slV us[i]:=Option.some.inj c2;have inj:∀a b:SlT,slV a=slV b→a=b:=fun ⟨a1,a2,a3⟩ ⟨b1,b2,b3⟩ h=>by
  simp only[slV,Value.slice.injEq] at h;obtain⟨rfl,rfl,rfl⟩:=h;rfl
 exact inj _ _ e3
def TOff (W:World)(out t:Value):Prop:=∀b,out.ownBlock=some b→∃vs0,GS slE W t vs0∧∀x∈vs0,offB x b
theorem TOff.later {W W':World}{out t:Value}(h:TOff W out t)(hb:Below W.heap.size W W'):TOff W' out t:=fun b e=>by
 obtain⟨vs0,h1,h2⟩:=h b e;exact⟨vs0,h1.later hb,h2⟩
theorem nby_put {W:World}{e:TypeId}{A B g:Nat}{S:Int}{a1:Option Addr}{k1 d1:Nat}{a2:Option Addr}{k2 d2:Nat}{a3:Option Addr}{k3 d3:Nat}{Ls:List LkT}{Hs:List HoT}{Ts Us:List (List Ru)}{v:Value}{vs:List SlT}(h:TR e W A B v vs Us)(hg:g<B)(k:NBy W g S (.slice a1 k1 d1) (.slice a2 k2 d2) (.slice a3 k3 d3) Ls Hs Ts)
 (hl:GS lnkE (put4 W g (.int .i64 S) (.slice a1 k1 d1) (.slice a2 k2 d2) v) (.slice a1 k1 d1) Ls) (hh:GS hstE (put4 W g (.int .i64 S) (.slice a1 k1 d1) (.slice a2 k2 d2) v) (.slice a2 k2 d2) Hs):NBy (put4 W g (.int .i64 S) (.slice a1 k1 d1) (.slice a2 k2 d2) v) g S (.slice a1 k1 d1) (.slice a2 k2 d2) v Ls Hs Us:=by
 have hgr:=grown_put4 W g (.int .i64 S) (.slice a1 k1 d1) (.slice a2 k2 d2) v;have hTR:TR e (put4 W g (.int .i64 S) (.slice a1 k1 d1) (.slice a2 k2 d2) v) 0 0 v vs Us:=by
  exact⟨own_mono (h.ov.kept hgr (.inr fun e2=>by have:=(h.ov.lt g e2).1;omega)) (Nat.zero_le _),h.lv,fun i x L c1 c2=>⟨((h.rv i x L c1 c2).1).grown hgr (fun b hb=>by cases hb;exact k.off (h.rv i x L c1 c2).1),(h.rv i x L c1 c2).2⟩,fun i x _ b h1 h2=>by omega⟩
 exact⟨⟨⟨put4_cells k.x.b.c,hl,hh,hTR.ts⟩,fun i=>by unfold put4;rw[frozSet,frozSet,frozSet,frozSet];exact k.x.f i⟩,fun o ho=>by rw[cell_put4 ho];exact k.n o ho⟩
theorem eqR_sy (a b:Ru):eqR a b=eqR b a:=by
 cases h:eqR b a
 ·exact eq_no.2 (fun e=>(eq_no.1 h) e.symm)
 exact eq_R.2 (eq_R.1 h).symm
theorem refIn_any (ao:Option Addr)(n cap:Nat)(p m b o s v:Int)(L:List Ru)(w:World)(hs:SR w (.slice ao n cap) L):
 Calls Tryz.prog 55 #[.slice ao n cap,.agg #[.int .i64 p,.int .i64 m,.int .i64 b,.int .i64 o,.int .i64 s,.int .i64 v]] w fun e w'=>e=.returned (.bool (inB L ⟨p,m,b,o,s,v⟩))∧Below w.heap.size w w':=by
 obtain⟨ao',n',cap',e,hn,hn2,hn3,ha⟩:=hs.form;cases e;have HN:Hid (L.length=n):=hn;have HA:Hid (0<n→∃g o,ao=some ⟨g,o,none⟩∧RAt w g o L∧cap≤maxLen):=ha;have HC0:=C6.new w p m b o s v 88;have HB0:Hid (Below w.heap.size w (w.alloc (Obj.cells #[.int .i64 p,.int .i64 m,.int .i64 b,.int .i64 o,.int .i64 s,.int .i64 v] 88))):=(Below.refl _ _).alloc (Nat.le_refl _) _;unfold maxLen at hn2;clear hn ha hs;go_enter Tryz.func55,Tryz.ntmps55;go_wp2
 go_loopw [5] (fun i wr=>∃k:Nat,k≤n∧i=.int .i64 k∧(L.take k).any (fun a=>eqR ⟨p,m,b,o,s,v⟩ a)=false∧Below w.heap.size w wr∧C6 wr w.heap.size 0 ⟨p,m,b,o,s,v⟩)
  (fun i _=>n-(intOf i).toNat)
 case atStart=>exact⟨0,by omega,rfl,by simp,HB0.out,HC0⟩
 case round =>
  obtain⟨k,hk,rfl,hno,hB,hC⟩:=hrel;have HB:Hid (Below w.heap.size w wr):=hB;have HC:Hid (C6 wr w.heap.size 0 ⟨p,m,b,o,s,v⟩):=hC;have HNO:Hid ((L.take k).any (fun a=>eqR ⟨p,m,b,o,s,v⟩ a)=false):=hno;clear hno HC0 HB0;by_cases hlt:k<n
  ·obtain⟨g,og,hao,hc,_⟩:=HA.out (by omega);subst hao;obtain⟨p',m',b',o',s',v',hkl,hL,q0,q1,q2,q3,q4,q5⟩:=(hc.later hB).at HN.out hlt;have HL:Hid (L[k]=⟨p',m',b',o',s',v'⟩):=hL;obtain⟨r0,r1,r2,r3,r4,r5⟩:=hC;simp only[Nat.zero_add] at r0 r1 r2 r3 r4 r5;have HCE:Hid (CI wr w.heap.size p m b o s v g (og+k*6) p' m' b' o' s' v' wr):=⟨Below.refl _ _,⟨r0,r1,r2,r3,r4,r5⟩,q0,q1,q2,q3,q4,q5⟩;clear hL hB HA q0 q1 q2 q3 q4 q5 r0 r1 r2 r3 r4 r5;go_upto_region 4 with fail;have kb0:(0:Int)≤(k:Int):=by omega
   have kb1:(k:Int)<(n:Int):=by omega
   go_cut [17] from 6 to 17 (fun c w'=>c=.bool (eqR ⟨p',m',b',o',s',v'⟩ ⟨p,m,b,o,s,v⟩)∧Below wr.heap.size wr w')
   case first =>
    as_aux_lemma =>
     refine wp_region_quiet (C:=CI wr w.heap.size p m b o s v g (og+k*6) p' m' b' o' s' v') (by kernel_rfl) (by kernel_rfl) (CI.later (W:=wr) (Below.drew (Below.refl _ _)) HCE.out) ?_;simp only[List.toList_toArray];go_big_quiet_want;refine qv (.slice (some ⟨g,og,none⟩) n cap) ?_ ?_
     ·rintro w' ⟨z0,⟨z1,z2,z3,z4,z5,z6⟩,y1,y2,y3,y4,y5,y6⟩;go_simp
     simp only[Act.put,AP];go_big_quiet_on;go_big_quiet_want;refine qv (.int .i64 (k:Int)) ?_ ?_
     ·rintro w' ⟨z0,⟨z1,z2,z3,z4,z5,z6⟩,y1,y2,y3,y4,y5,y6⟩;go_simp
     simp only[Act.put,AP];go_big_quiet_on;go_big_quiet_want;refine qv (.pointer (some ⟨g,og+k*6,none⟩)) ?_ ?_
     ·rintro w' ⟨z0,⟨z1,z2,z3,z4,z5,z6⟩,y1,y2,y3,y4,y5,y6⟩;go_simp
     simp only[Act.put,AP];go_big_quiet_on;go_big_quiet_want;refine qv (.agg #[.int .i64 p',.int .i64 m',.int .i64 b',.int .i64 o',.int .i64 s',.int .i64 v']) ?_ ?_
     ·rintro w' ⟨z0,⟨z1,z2,z3,z4,z5,z6⟩,y1,y2,y3,y4,y5,y6⟩;go_simp
     simp only[Act.put,AP];go_big_quiet_on;go_big_quiet_want;refine qv (.agg #[.int .i64 p,.int .i64 m,.int .i64 b,.int .i64 o,.int .i64 s,.int .i64 v]) ?_ ?_
     ·rintro w' ⟨z0,⟨z1,z2,z3,z4,z5,z6⟩,y1,y2,y3,y4,y5,y6⟩;go_simp
     simp only[Act.put,AP];go_big_quiet_on;go_big_quiet_want;refine quiet_val (v:=.bool (eqR ⟨p',m',b',o',s',v'⟩ ⟨p,m,b,o,s,v⟩)) (fun w' hC=>exec_bin rfl (by go_simp) (run_eqlR p' m' b' o' s' v' p m b o s v w')) ?_;simp only[Act.put,AP];go_big_quiet_on;refine wpQuiet_nil ?_;intro w' hC
     go_wp2_with fail
     go_meet
     case rel=>exact⟨rfl,hC.1⟩
   case rest =>
    obtain⟨rfl,hB2⟩:=hcut;have HB2:Hid (Below w.heap.size w wc):=HB.out.trans (hB2.mono HB.out.size);have HC2:Hid (C6 wc w.heap.size 0 ⟨p,m,b,o,s,v⟩):=HC.out.later hB2;clear hB2;cases ho:eqR ⟨p',m',b',o',s',v'⟩ ⟨p,m,b,o,s,v⟩
    ·go_wp2;go_roundw
     case rel=>exact⟨k+1,by omega,by go_num,any_nextR hkl HNO.out (by rw[HL.out,eqR_sy];exact ho),HB2.out,HC2.out⟩
     case measure=>simp[intOf];omega
    go_wp2;go_ret;exact⟨by rw[inB,any_hitR hkl (by rw[HL.out,eqR_sy];exact ho)];rfl,HB2.out⟩
  obtain rfl:k=n:=by omega
  go_wp2;go_ret;exact⟨by have:=HNO.out;rw[←HN.out,List.take_length] at this;rw[inB,this];rfl,HB.out⟩
def atTo (L:List Ru)(r:Ru)(k:Nat):Int:=if inB (L.take k) r then (ixN L r:Int) else -1
theorem at_0 (L:List Ru)(r:Ru):atTo L r 0 = -1:=by simp[atTo,inB]
theorem at_no {L:List Ru}{r x:Ru}{k:Nat}(hk:k<L.length)(hx:L[k]=x)(h:eqR x r=false):atTo L r (k+1)=atTo L r k:=by
 have e:inB (L.take (k+1)) r=inB (L.take k) r:=by
  rw[List.take_succ_eq_append_getElem hk,hx];simp[inB,eqR_sy r x,h]
 rw[atTo,atTo,e]
theorem at_yes {L:List Ru}{r x:Ru}{k:Nat}(hk:k<L.length)(hx:L[k]=x)(hL:tbN L=0)(h:eqR x r=true):atTo L r (k+1)=(k:Int):=by
 obtain rfl:=eq_R.1 h;have e:inB (L.take (k+1)) x=true:=in_iff.2 (by rw[List.take_succ_eq_append_getElem hk,hx];simp);have hn:=tb_nodup hL;have hsp:L=L.take k++x :: L.drop (k+1):=by
  rw[←hx];simp
 have hno:x ∉ L.take k:=by
  intro hm;rw[hsp,List.nodup_append] at hn;exact hn.2.2 x hm x (by simp) rfl
 rw[atTo,e,if_pos rfl];have:=ix_split (M:=L.drop (k+1)) hno;rw[←hsp] at this;rw[this,List.length_take];omega
theorem key_of_eq {a b:Ru}(h:keyB a b=false):eqR a b=false:=by
 cases e:eqR a b
 ·rfl
 rw[eq_R.1 e,key_rf] at h;cases h
theorem at_all {L:List Ru}{r:Ru}:atTo L r L.length=if inB L r then (ixN L r:Int) else -1:=by rw[atTo,List.take_length]
theorem any_step {L:List Ru}{f:Ru→Bool}{k:Nat}{x:Ru}(hk:k<L.length)(hx:L[k]=x):(L.take (k+1)).any f=((L.take k).any f || f x):=by
 rw[List.take_succ_eq_append_getElem hk,hx];simp
theorem SR.later' {w w':World}{v:Value}{L:List Ru}(h:SR w v L)(hb:Below w.heap.size w w'):SR w' v L:=h.later hb
theorem append_le {L:List Ru}{n:Nat}(h:L.length=n)(h2:tbN L=0):n≤12:=by
 have:=(tb_iff.1 h2).1;omega
theorem refDo_any (ao:Option Addr)(n cap:Nat)(a:Bool)(p m b o s v:Int)(L:List Ru)(w:World)(hs:SR w (.slice ao n cap) L)(h0:tbN L=0):
 Calls Tryz.prog 31 #[.slice ao n cap,.bool a,.agg #[.int .i64 p,.int .i64 m,.int .i64 b,.int .i64 o,.int .i64 s,.int .i64 v]] w fun e w'=>∃u,e=.returned (.tuple #[u,.int .i64 (chN L a ⟨p,m,b,o,s,v⟩)])∧NR w' w.heap.size u (chL L a ⟨p,m,b,o,s,v⟩)∧Below w.heap.size w w':=by
 obtain⟨ao',n',cap',e,hn,hn2,hn3,ha⟩:=hs.form;cases e;have HN:Hid (L.length=n):=hn;have HA:Hid (0<n→∃g o,ao=some ⟨g,o,none⟩∧RAt w g o L∧cap≤maxLen):=ha;have H0:Hid (tbN L=0):=h0;have HS:Hid (SR w (.slice ao n cap) L):=hs;have hn12:=append_le hn h0;have HC0:=C6.new w p m b o s v 88;have HB0:Hid (Below w.heap.size w (w.alloc (Obj.cells #[.int .i64 p,.int .i64 m,.int .i64 b,.int .i64 o,.int .i64 s,.int .i64 v] 88))):=(Below.refl _ _).alloc (Nat.le_refl _) _;clear hn ha hs hn2 h0;go_enter Tryz.func31,Tryz.ntmps31;go_wp2
 go_loopw [8,9,10] (fun x y i wr=>∃k:Nat,k≤n∧i=.int .i64 k∧x=.int .i64 (atTo L ⟨p,m,b,o,s,v⟩ k)∧y=.bool ((L.take k).any fun a=>keyB a ⟨p,m,b,o,s,v⟩)∧Below w.heap.size w wr∧C6 wr w.heap.size 0 ⟨p,m,b,o,s,v⟩)
  (fun x y i _=>n-(intOf i).toNat)
 case atStart=>exact⟨0,by omega,rfl,by rw[at_0],by simp,HB0.out,HC0⟩
 case round =>
  obtain⟨k,hk,rfl,rfl,rfl,hB,hC⟩:=hrel;have HB:Hid (Below w.heap.size w wr):=hB;have HC:Hid (C6 wr w.heap.size 0 ⟨p,m,b,o,s,v⟩):=hC;clear HC0 HB0;by_cases hlt:k<n
  ·obtain⟨g,og,hao,hc,_⟩:=HA.out (by omega);subst hao;obtain⟨p',m',b',o',s',v',hkl,hL,q0,q1,q2,q3,q4,q5⟩:=(hc.later hB).at HN.out hlt;have HL:Hid (L[k]=⟨p',m',b',o',s',v'⟩):=hL;obtain⟨r0,r1,r2,r3,r4,r5⟩:=hC;simp only[Nat.zero_add] at r0 r1 r2 r3 r4 r5;have HCE:Hid (CI wr w.heap.size p m b o s v g (og+k*6) p' m' b' o' s' v' wr):=⟨Below.refl _ _,⟨r0,r1,r2,r3,r4,r5⟩,q0,q1,q2,q3,q4,q5⟩;obtain⟨X,hX⟩:∃X,X=atTo L ⟨p,m,b,o,s,v⟩ k:=⟨_,rfl⟩;obtain⟨Y,hY⟩:∃Y,Y=((L.take k).any fun a=>keyB a ⟨p,m,b,o,s,v⟩):=⟨_,rfl⟩;have HX:Hid (X=atTo L ⟨p,m,b,o,s,v⟩ k):=hX;have HY:Hid (Y=((L.take k).any fun a=>keyB a ⟨p,m,b,o,s,v⟩)):=hY;rw[←hX,←hY];clear hX hY hL hB HA q0 q1 q2 q3 q4 q5 r0 r1 r2 r3 r4 r5;go_upto_region 6 with fail;have kb0:(0:Int)≤(k:Int):=by omega
   have kb1:(k:Int)<(n:Int):=by omega
   go_cut [35] from 12 to 42 (fun c w'=>c=.bool (keyB ⟨p',m',b',o',s',v'⟩ ⟨p,m,b,o,s,v⟩)∧Below wr.heap.size wr w')
   case first =>
    as_aux_lemma =>
     by_cases e1:p'=p
     ·have f1:(p'==p)=true:=by simpa using e1
      by_cases e2:m'=m
      ·have f2:(m'==m)=true:=by simpa using e2
       by_cases e3:b'=b
       ·have f3:(b'==b)=true:=by simpa using e3
        have hky:keyB ⟨p',m',b',o',s',v'⟩ ⟨p,m,b,o,s,v⟩=true:=by rw[key_eq];simp[e1,e2,e3]
        clear e1 e2 e3;refine wp_region_quiet (C:=CI wr w.heap.size p m b o s v g (og+k*6) p' m' b' o' s' v') (by kernel_rfl) (by kernel_rfl) (CI.later (W:=wr) (Below.drew (Below.refl _ _)) HCE.out) ?_;simp only[List.toList_toArray];go_big_quiet_want;refine qv (.slice (some ⟨g,og,none⟩) n cap) ?_ ?_
        ·rintro w' ⟨z0,⟨z1,z2,z3,z4,z5,z6⟩,y1,y2,y3,y4,y5,y6⟩;go_simp
        simp only[Act.put,AP];go_big_quiet_on;go_big_quiet_want;refine qv (.int .i64 (k:Int)) ?_ ?_
        ·rintro w' ⟨z0,⟨z1,z2,z3,z4,z5,z6⟩,y1,y2,y3,y4,y5,y6⟩;go_simp
        simp only[Act.put,AP];go_big_quiet_on;go_big_quiet_want;refine qv (.pointer (some ⟨g,og+k*6,none⟩)) ?_ ?_
        ·rintro w' ⟨z0,⟨z1,z2,z3,z4,z5,z6⟩,y1,y2,y3,y4,y5,y6⟩;go_simp
        simp only[Act.put,AP];go_big_quiet_on;go_big_quiet_want;refine qv (.pointer (some ⟨g,og+k*6,none⟩)) ?_ ?_
        ·rintro w' ⟨z0,⟨z1,z2,z3,z4,z5,z6⟩,y1,y2,y3,y4,y5,y6⟩;go_simp
        simp only[Act.put,AP];go_big_quiet_on;go_big_quiet_want;refine qv (.int .i64 p') ?_ ?_
        ·rintro w' ⟨z0,⟨z1,z2,z3,z4,z5,z6⟩,y1,y2,y3,y4,y5,y6⟩;go_simp
        simp only[Act.put,AP];go_big_quiet_on;go_big_quiet_want;refine qv (.pointer (some ⟨w.heap.size,0,none⟩)) ?_ ?_
        ·rintro w' ⟨z0,⟨z1,z2,z3,z4,z5,z6⟩,y1,y2,y3,y4,y5,y6⟩;go_simp
        simp only[Act.put,AP];go_big_quiet_on;go_big_quiet_want;refine qv (.int .i64 p) ?_ ?_
        ·rintro w' ⟨z0,⟨z1,z2,z3,z4,z5,z6⟩,y1,y2,y3,y4,y5,y6⟩;go_simp
        simp only[Act.put,AP];go_big_quiet_on;go_big_quiet_want;refine qv (.bool true) ?_ ?_
        ·rintro w' ⟨z0,⟨z1,z2,z3,z4,z5,z6⟩,y1,y2,y3,y4,y5,y6⟩;go_simp
        simp only[Act.put,AP];go_big_quiet_on;go_big_quiet_want;refine qv (.bool true) ?_ ?_
        ·rintro w' ⟨z0,⟨z1,z2,z3,z4,z5,z6⟩,y1,y2,y3,y4,y5,y6⟩;go_simp
        simp only[Act.put,AP];go_big_quiet_on;go_big_quiet_want;refine qv (.slice (some ⟨g,og,none⟩) n cap) ?_ ?_
        ·rintro w' ⟨z0,⟨z1,z2,z3,z4,z5,z6⟩,y1,y2,y3,y4,y5,y6⟩;go_simp
        simp only[Act.put,AP];go_big_quiet_on;go_big_quiet_want;refine qv (.int .i64 (k:Int)) ?_ ?_
        ·rintro w' ⟨z0,⟨z1,z2,z3,z4,z5,z6⟩,y1,y2,y3,y4,y5,y6⟩;go_simp
        simp only[Act.put,AP];go_big_quiet_on;go_big_quiet_want;refine qv (.pointer (some ⟨g,og+k*6,none⟩)) ?_ ?_
        ·rintro w' ⟨z0,⟨z1,z2,z3,z4,z5,z6⟩,y1,y2,y3,y4,y5,y6⟩;go_simp
        simp only[Act.put,AP];go_big_quiet_on;go_big_quiet_want;refine qv (.pointer (some ⟨g,og+k*6+1,none⟩)) ?_ ?_
        ·rintro w' ⟨z0,⟨z1,z2,z3,z4,z5,z6⟩,y1,y2,y3,y4,y5,y6⟩;go_simp
        simp only[Act.put,AP];go_big_quiet_on;go_big_quiet_want;refine qv (.agg #[.int .i64 m',.int .i64 b']) ?_ ?_
        ·rintro w' ⟨z0,⟨z1,z2,z3,z4,z5,z6⟩,y1,y2,y3,y4,y5,y6⟩;go_simp
        simp only[Act.put,AP];go_big_quiet_on;go_big_quiet_want;refine qv (.pointer (some ⟨w.heap.size,1,none⟩)) ?_ ?_
        ·rintro w' ⟨z0,⟨z1,z2,z3,z4,z5,z6⟩,y1,y2,y3,y4,y5,y6⟩;go_simp
        simp only[Act.put,AP];go_big_quiet_on;go_big_quiet_want;refine qv (.agg #[.int .i64 m,.int .i64 b]) ?_ ?_
        ·rintro w' ⟨z0,⟨z1,z2,z3,z4,z5,z6⟩,y1,y2,y3,y4,y5,y6⟩;go_simp
        simp only[Act.put,AP];go_big_quiet_on;go_big_quiet_want;refine qv (.bool true) ?_ ?_
        ·rintro w' ⟨z0,⟨z1,z2,z3,z4,z5,z6⟩,y1,y2,y3,y4,y5,y6⟩;go_simp
        simp only[Act.put,AP];go_big_quiet_on;go_big_quiet_want;refine qv (.bool true) ?_ ?_
        ·rintro w' ⟨z0,⟨z1,z2,z3,z4,z5,z6⟩,y1,y2,y3,y4,y5,y6⟩;go_simp
        simp only[Act.put,AP];go_big_quiet_on;refine wpQuiet_nil ?_;intro w' hC
        go_wp2_with fail
        go_meet
        case rel=>exact⟨by rw[hky],hC.1⟩
       have f3:(b'==b)=false:=by simpa using e3
       have hky:keyB ⟨p',m',b',o',s',v'⟩ ⟨p,m,b,o,s,v⟩=false:=by rw[key_eq];simp[e1,e2,e3]
       clear e1 e2 e3;refine wp_region_quiet (C:=CI wr w.heap.size p m b o s v g (og+k*6) p' m' b' o' s' v') (by kernel_rfl) (by kernel_rfl) (CI.later (W:=wr) (Below.drew (Below.refl _ _)) HCE.out) ?_;simp only[List.toList_toArray];go_big_quiet_want;refine qv (.slice (some ⟨g,og,none⟩) n cap) ?_ ?_
       ·rintro w' ⟨z0,⟨z1,z2,z3,z4,z5,z6⟩,y1,y2,y3,y4,y5,y6⟩;go_simp
       simp only[Act.put,AP];go_big_quiet_on;go_big_quiet_want;refine qv (.int .i64 (k:Int)) ?_ ?_
       ·rintro w' ⟨z0,⟨z1,z2,z3,z4,z5,z6⟩,y1,y2,y3,y4,y5,y6⟩;go_simp
       simp only[Act.put,AP];go_big_quiet_on;go_big_quiet_want;refine qv (.pointer (some ⟨g,og+k*6,none⟩)) ?_ ?_
       ·rintro w' ⟨z0,⟨z1,z2,z3,z4,z5,z6⟩,y1,y2,y3,y4,y5,y6⟩;go_simp
       simp only[Act.put,AP];go_big_quiet_on;go_big_quiet_want;refine qv (.pointer (some ⟨g,og+k*6,none⟩)) ?_ ?_
       ·rintro w' ⟨z0,⟨z1,z2,z3,z4,z5,z6⟩,y1,y2,y3,y4,y5,y6⟩;go_simp
       simp only[Act.put,AP];go_big_quiet_on;go_big_quiet_want;refine qv (.int .i64 p') ?_ ?_
       ·rintro w' ⟨z0,⟨z1,z2,z3,z4,z5,z6⟩,y1,y2,y3,y4,y5,y6⟩;go_simp
       simp only[Act.put,AP];go_big_quiet_on;go_big_quiet_want;refine qv (.pointer (some ⟨w.heap.size,0,none⟩)) ?_ ?_
       ·rintro w' ⟨z0,⟨z1,z2,z3,z4,z5,z6⟩,y1,y2,y3,y4,y5,y6⟩;go_simp
       simp only[Act.put,AP];go_big_quiet_on;go_big_quiet_want;refine qv (.int .i64 p) ?_ ?_
       ·rintro w' ⟨z0,⟨z1,z2,z3,z4,z5,z6⟩,y1,y2,y3,y4,y5,y6⟩;go_simp
       simp only[Act.put,AP];go_big_quiet_on;go_big_quiet_want;refine qv (.bool true) ?_ ?_
       ·rintro w' ⟨z0,⟨z1,z2,z3,z4,z5,z6⟩,y1,y2,y3,y4,y5,y6⟩;go_simp
       simp only[Act.put,AP];go_big_quiet_on;go_big_quiet_want;refine qv (.bool true) ?_ ?_
       ·rintro w' ⟨z0,⟨z1,z2,z3,z4,z5,z6⟩,y1,y2,y3,y4,y5,y6⟩;go_simp
       simp only[Act.put,AP];go_big_quiet_on;go_big_quiet_want;refine qv (.slice (some ⟨g,og,none⟩) n cap) ?_ ?_
       ·rintro w' ⟨z0,⟨z1,z2,z3,z4,z5,z6⟩,y1,y2,y3,y4,y5,y6⟩;go_simp
       simp only[Act.put,AP];go_big_quiet_on;go_big_quiet_want;refine qv (.int .i64 (k:Int)) ?_ ?_
       ·rintro w' ⟨z0,⟨z1,z2,z3,z4,z5,z6⟩,y1,y2,y3,y4,y5,y6⟩;go_simp
       simp only[Act.put,AP];go_big_quiet_on;go_big_quiet_want;refine qv (.pointer (some ⟨g,og+k*6,none⟩)) ?_ ?_
       ·rintro w' ⟨z0,⟨z1,z2,z3,z4,z5,z6⟩,y1,y2,y3,y4,y5,y6⟩;go_simp
       simp only[Act.put,AP];go_big_quiet_on;go_big_quiet_want;refine qv (.pointer (some ⟨g,og+k*6+1,none⟩)) ?_ ?_
       ·rintro w' ⟨z0,⟨z1,z2,z3,z4,z5,z6⟩,y1,y2,y3,y4,y5,y6⟩;go_simp
       simp only[Act.put,AP];go_big_quiet_on;go_big_quiet_want;refine qv (.agg #[.int .i64 m',.int .i64 b']) ?_ ?_
       ·rintro w' ⟨z0,⟨z1,z2,z3,z4,z5,z6⟩,y1,y2,y3,y4,y5,y6⟩;go_simp
       simp only[Act.put,AP];go_big_quiet_on;go_big_quiet_want;refine qv (.pointer (some ⟨w.heap.size,1,none⟩)) ?_ ?_
       ·rintro w' ⟨z0,⟨z1,z2,z3,z4,z5,z6⟩,y1,y2,y3,y4,y5,y6⟩;go_simp
       simp only[Act.put,AP];go_big_quiet_on;go_big_quiet_want;refine qv (.agg #[.int .i64 m,.int .i64 b]) ?_ ?_
       ·rintro w' ⟨z0,⟨z1,z2,z3,z4,z5,z6⟩,y1,y2,y3,y4,y5,y6⟩;go_simp
       simp only[Act.put,AP];go_big_quiet_on;go_big_quiet_want;refine qv (.bool false) ?_ ?_
       ·rintro w' ⟨z0,⟨z1,z2,z3,z4,z5,z6⟩,y1,y2,y3,y4,y5,y6⟩;go_simp
       simp only[Act.put,AP];go_big_quiet_on;go_big_quiet_want;refine qv (.bool false) ?_ ?_
       ·rintro w' ⟨z0,⟨z1,z2,z3,z4,z5,z6⟩,y1,y2,y3,y4,y5,y6⟩;go_simp
       simp only[Act.put,AP];go_big_quiet_on;refine wpQuiet_nil ?_;intro w' hC
       go_wp2_with fail
       go_meet
       case rel=>exact⟨by rw[hky],hC.1⟩
      have f2:(m'==m)=false:=by simpa using e2
      have hky:keyB ⟨p',m',b',o',s',v'⟩ ⟨p,m,b,o,s,v⟩=false:=by rw[key_eq];simp[e1,e2]
      clear e1 e2;refine wp_region_quiet (C:=CI wr w.heap.size p m b o s v g (og+k*6) p' m' b' o' s' v') (by kernel_rfl) (by kernel_rfl) (CI.later (W:=wr) (Below.drew (Below.refl _ _)) HCE.out) ?_;simp only[List.toList_toArray];go_big_quiet_want;refine qv (.slice (some ⟨g,og,none⟩) n cap) ?_ ?_
      ·rintro w' ⟨z0,⟨z1,z2,z3,z4,z5,z6⟩,y1,y2,y3,y4,y5,y6⟩;go_simp
      simp only[Act.put,AP];go_big_quiet_on;go_big_quiet_want;refine qv (.int .i64 (k:Int)) ?_ ?_
      ·rintro w' ⟨z0,⟨z1,z2,z3,z4,z5,z6⟩,y1,y2,y3,y4,y5,y6⟩;go_simp
      simp only[Act.put,AP];go_big_quiet_on;go_big_quiet_want;refine qv (.pointer (some ⟨g,og+k*6,none⟩)) ?_ ?_
      ·rintro w' ⟨z0,⟨z1,z2,z3,z4,z5,z6⟩,y1,y2,y3,y4,y5,y6⟩;go_simp
      simp only[Act.put,AP];go_big_quiet_on;go_big_quiet_want;refine qv (.pointer (some ⟨g,og+k*6,none⟩)) ?_ ?_
      ·rintro w' ⟨z0,⟨z1,z2,z3,z4,z5,z6⟩,y1,y2,y3,y4,y5,y6⟩;go_simp
      simp only[Act.put,AP];go_big_quiet_on;go_big_quiet_want;refine qv (.int .i64 p') ?_ ?_
      ·rintro w' ⟨z0,⟨z1,z2,z3,z4,z5,z6⟩,y1,y2,y3,y4,y5,y6⟩;go_simp
      simp only[Act.put,AP];go_big_quiet_on;go_big_quiet_want;refine qv (.pointer (some ⟨w.heap.size,0,none⟩)) ?_ ?_
      ·rintro w' ⟨z0,⟨z1,z2,z3,z4,z5,z6⟩,y1,y2,y3,y4,y5,y6⟩;go_simp
      simp only[Act.put,AP];go_big_quiet_on;go_big_quiet_want;refine qv (.int .i64 p) ?_ ?_
      ·rintro w' ⟨z0,⟨z1,z2,z3,z4,z5,z6⟩,y1,y2,y3,y4,y5,y6⟩;go_simp
      simp only[Act.put,AP];go_big_quiet_on;go_big_quiet_want;refine qv (.bool true) ?_ ?_
      ·rintro w' ⟨z0,⟨z1,z2,z3,z4,z5,z6⟩,y1,y2,y3,y4,y5,y6⟩;go_simp
      simp only[Act.put,AP];go_big_quiet_on;go_big_quiet_want;refine qv (.bool true) ?_ ?_
      ·rintro w' ⟨z0,⟨z1,z2,z3,z4,z5,z6⟩,y1,y2,y3,y4,y5,y6⟩;go_simp
      simp only[Act.put,AP];go_big_quiet_on;go_big_quiet_want;refine qv (.slice (some ⟨g,og,none⟩) n cap) ?_ ?_
      ·rintro w' ⟨z0,⟨z1,z2,z3,z4,z5,z6⟩,y1,y2,y3,y4,y5,y6⟩;go_simp
      simp only[Act.put,AP];go_big_quiet_on;go_big_quiet_want;refine qv (.int .i64 (k:Int)) ?_ ?_
      ·rintro w' ⟨z0,⟨z1,z2,z3,z4,z5,z6⟩,y1,y2,y3,y4,y5,y6⟩;go_simp
      simp only[Act.put,AP];go_big_quiet_on;go_big_quiet_want;refine qv (.pointer (some ⟨g,og+k*6,none⟩)) ?_ ?_
      ·rintro w' ⟨z0,⟨z1,z2,z3,z4,z5,z6⟩,y1,y2,y3,y4,y5,y6⟩;go_simp
      simp only[Act.put,AP];go_big_quiet_on;go_big_quiet_want;refine qv (.pointer (some ⟨g,og+k*6+1,none⟩)) ?_ ?_
      ·rintro w' ⟨z0,⟨z1,z2,z3,z4,z5,z6⟩,y1,y2,y3,y4,y5,y6⟩;go_simp
      simp only[Act.put,AP];go_big_quiet_on;go_big_quiet_want;refine qv (.agg #[.int .i64 m',.int .i64 b']) ?_ ?_
      ·rintro w' ⟨z0,⟨z1,z2,z3,z4,z5,z6⟩,y1,y2,y3,y4,y5,y6⟩;go_simp
      simp only[Act.put,AP];go_big_quiet_on;go_big_quiet_want;refine qv (.pointer (some ⟨w.heap.size,1,none⟩)) ?_ ?_
      ·rintro w' ⟨z0,⟨z1,z2,z3,z4,z5,z6⟩,y1,y2,y3,y4,y5,y6⟩;go_simp
      simp only[Act.put,AP];go_big_quiet_on;go_big_quiet_want;refine qv (.agg #[.int .i64 m,.int .i64 b]) ?_ ?_
      ·rintro w' ⟨z0,⟨z1,z2,z3,z4,z5,z6⟩,y1,y2,y3,y4,y5,y6⟩;go_simp
      simp only[Act.put,AP];go_big_quiet_on;go_big_quiet_want;refine qv (.bool false) ?_ ?_
      ·rintro w' ⟨z0,⟨z1,z2,z3,z4,z5,z6⟩,y1,y2,y3,y4,y5,y6⟩;go_simp
      simp only[Act.put,AP];go_big_quiet_on;go_big_quiet_want;refine qv (.bool false) ?_ ?_
      ·rintro w' ⟨z0,⟨z1,z2,z3,z4,z5,z6⟩,y1,y2,y3,y4,y5,y6⟩;go_simp
      simp only[Act.put,AP];go_big_quiet_on;refine wpQuiet_nil ?_;intro w' hC
      go_wp2_with fail
      go_meet
      case rel=>exact⟨by rw[hky],hC.1⟩
     have f1:(p'==p)=false:=by simpa using e1
     have hky:keyB ⟨p',m',b',o',s',v'⟩ ⟨p,m,b,o,s,v⟩=false:=by rw[key_eq];simp[e1]
     clear e1;refine wp_region_quiet (C:=CI wr w.heap.size p m b o s v g (og+k*6) p' m' b' o' s' v') (by kernel_rfl) (by kernel_rfl) (CI.later (W:=wr) (Below.drew (Below.refl _ _)) HCE.out) ?_;simp only[List.toList_toArray];go_big_quiet_want;refine qv (.slice (some ⟨g,og,none⟩) n cap) ?_ ?_
     ·rintro w' ⟨z0,⟨z1,z2,z3,z4,z5,z6⟩,y1,y2,y3,y4,y5,y6⟩;go_simp
     simp only[Act.put,AP];go_big_quiet_on;go_big_quiet_want;refine qv (.int .i64 (k:Int)) ?_ ?_
     ·rintro w' ⟨z0,⟨z1,z2,z3,z4,z5,z6⟩,y1,y2,y3,y4,y5,y6⟩;go_simp
     simp only[Act.put,AP];go_big_quiet_on;go_big_quiet_want;refine qv (.pointer (some ⟨g,og+k*6,none⟩)) ?_ ?_
     ·rintro w' ⟨z0,⟨z1,z2,z3,z4,z5,z6⟩,y1,y2,y3,y4,y5,y6⟩;go_simp
     simp only[Act.put,AP];go_big_quiet_on;go_big_quiet_want;refine qv (.pointer (some ⟨g,og+k*6,none⟩)) ?_ ?_
     ·rintro w' ⟨z0,⟨z1,z2,z3,z4,z5,z6⟩,y1,y2,y3,y4,y5,y6⟩;go_simp
     simp only[Act.put,AP];go_big_quiet_on;go_big_quiet_want;refine qv (.int .i64 p') ?_ ?_
     ·rintro w' ⟨z0,⟨z1,z2,z3,z4,z5,z6⟩,y1,y2,y3,y4,y5,y6⟩;go_simp
     simp only[Act.put,AP];go_big_quiet_on;go_big_quiet_want;refine qv (.pointer (some ⟨w.heap.size,0,none⟩)) ?_ ?_
     ·rintro w' ⟨z0,⟨z1,z2,z3,z4,z5,z6⟩,y1,y2,y3,y4,y5,y6⟩;go_simp
     simp only[Act.put,AP];go_big_quiet_on;go_big_quiet_want;refine qv (.int .i64 p) ?_ ?_
     ·rintro w' ⟨z0,⟨z1,z2,z3,z4,z5,z6⟩,y1,y2,y3,y4,y5,y6⟩;go_simp
     simp only[Act.put,AP];go_big_quiet_on;go_big_quiet_want;refine qv (.bool false) ?_ ?_
     ·rintro w' ⟨z0,⟨z1,z2,z3,z4,z5,z6⟩,y1,y2,y3,y4,y5,y6⟩;go_simp
     simp only[Act.put,AP];go_big_quiet_on;go_big_quiet_want;refine qv (.bool false) ?_ ?_
     ·rintro w' ⟨z0,⟨z1,z2,z3,z4,z5,z6⟩,y1,y2,y3,y4,y5,y6⟩;go_simp
     simp only[Act.put,AP];go_big_quiet_on;go_big_quiet_skip;go_big_quiet_skip;go_big_quiet_skip;go_big_quiet_skip;go_big_quiet_skip;go_big_quiet_skip;go_big_quiet_skip;go_big_quiet_skip;go_big_quiet_want;refine qv (.bool false) ?_ ?_
     ·rintro w' ⟨z0,⟨z1,z2,z3,z4,z5,z6⟩,y1,y2,y3,y4,y5,y6⟩;go_simp
     simp only[Act.put,AP];go_big_quiet_on;refine wpQuiet_nil ?_;intro w' hC
     go_wp2_with fail
     go_meet
     case rel=>exact⟨by rw[hky],hC.1⟩
   case rest =>
    obtain⟨rfl,hB2⟩:=hcut;have HBk:Hid (Below wr.heap.size wr wc):=hB2;have HB2:Hid (Below w.heap.size w wc):=HB.out.trans (hB2.mono HB.out.size);have HC2:Hid (C6 wc w.heap.size 0 ⟨p,m,b,o,s,v⟩):=HC.out.later hB2;have HCE2:Hid (CI wr w.heap.size p m b o s v g (og+k*6) p' m' b' o' s' v' wc):=CI.later hB2 HCE.out;clear hB2 HCE;cases hky:keyB ⟨p',m',b',o',s',v'⟩ ⟨p,m,b,o,s,v⟩
    ·go_wp2;go_roundw
     case rel=>exact⟨k+1,by omega,by go_num,by rw[HX.out,at_no hkl HL.out (key_of_eq hky)],by rw[HY.out,any_step hkl HL.out,hky,Bool.or_false],HB2.out,HC2.out⟩
     case measure=>simp[intOf];omega
    go_upto_region 8 with fail
    go_cut [41] from 12 to 42 (fun c w'=>c=.bool (eqR ⟨p',m',b',o',s',v'⟩ ⟨p,m,b,o,s,v⟩)∧Below wr.heap.size wr w')
    case first =>
     as_aux_lemma =>
      refine wp_region_quiet (C:=CI wr w.heap.size p m b o s v g (og+k*6) p' m' b' o' s' v') (by kernel_rfl) (by kernel_rfl) (CI.later (W:=wc) (Below.drew (Below.refl _ _)) HCE2.out) ?_;simp only[List.toList_toArray];go_big_quiet_want;refine qv (.slice (some ⟨g,og,none⟩) n cap) ?_ ?_
      ·rintro w' ⟨z0,⟨z1,z2,z3,z4,z5,z6⟩,y1,y2,y3,y4,y5,y6⟩;go_simp
      simp only[Act.put,AP];go_big_quiet_on;go_big_quiet_want;refine qv (.int .i64 (k:Int)) ?_ ?_
      ·rintro w' ⟨z0,⟨z1,z2,z3,z4,z5,z6⟩,y1,y2,y3,y4,y5,y6⟩;go_simp
      simp only[Act.put,AP];go_big_quiet_on;go_big_quiet_want;refine qv (.pointer (some ⟨g,og+k*6,none⟩)) ?_ ?_
      ·rintro w' ⟨z0,⟨z1,z2,z3,z4,z5,z6⟩,y1,y2,y3,y4,y5,y6⟩;go_simp
      simp only[Act.put,AP];go_big_quiet_on;go_big_quiet_want;refine qv (.agg #[.int .i64 p',.int .i64 m',.int .i64 b',.int .i64 o',.int .i64 s',.int .i64 v']) ?_ ?_
      ·rintro w' ⟨z0,⟨z1,z2,z3,z4,z5,z6⟩,y1,y2,y3,y4,y5,y6⟩;go_simp
      simp only[Act.put,AP];go_big_quiet_on;go_big_quiet_want;refine qv (.agg #[.int .i64 p,.int .i64 m,.int .i64 b,.int .i64 o,.int .i64 s,.int .i64 v]) ?_ ?_
      ·rintro w' ⟨z0,⟨z1,z2,z3,z4,z5,z6⟩,y1,y2,y3,y4,y5,y6⟩;go_simp
      simp only[Act.put,AP];go_big_quiet_on;go_big_quiet_want;refine quiet_val (v:=.bool (eqR ⟨p',m',b',o',s',v'⟩ ⟨p,m,b,o,s,v⟩)) (fun w' hC=>exec_bin rfl (by go_simp) (run_eqlR p' m' b' o' s' v' p m b o s v w')) ?_;simp only[Act.put,AP];go_big_quiet_on;refine wpQuiet_nil ?_;intro w' hC
      go_wp2_with fail
      go_meet
      case rel=>exact⟨rfl,hC.1⟩
    case rest =>
     obtain⟨rfl,hB3⟩:=hcut;have HB3:Hid (Below w.heap.size w wc):=HB.out.trans (hB3.mono HB.out.size);have HC3:Hid (C6 wc w.heap.size 0 ⟨p,m,b,o,s,v⟩):=HC.out.later hB3;clear hB3 HCE2 HBk HB2 HC2;cases ho:eqR ⟨p',m',b',o',s',v'⟩ ⟨p,m,b,o,s,v⟩
     ·go_wp2;go_roundw
      case rel=>exact⟨k+1,by omega,by go_num,by rw[HX.out,at_no hkl HL.out ho],by rw[any_step hkl HL.out,hky,Bool.or_true],HB3.out,HC3.out⟩
      case measure=>simp[intOf];omega
     go_wp2;go_roundw
     case rel=>exact⟨k+1,by omega,by go_num,by rw[at_yes hkl HL.out H0.out ho],by rw[any_step hkl HL.out,hky,Bool.or_true],HB3.out,HC3.out⟩
     case measure=>simp[intOf];omega
  obtain rfl:k=n:=by omega
  have HS1:Hid (SR wr (.slice ao k cap) L):=HS.out.later' HB.out;obtain⟨X,hX⟩:∃X,X=atTo L ⟨p,m,b,o,s,v⟩ k:=⟨_,rfl⟩;have HX:Hid (X=if inB L ⟨p,m,b,o,s,v⟩ then (ixN L ⟨p,m,b,o,s,v⟩:Int) else -1):=by
   show _=_;rw[hX,←HN.out,at_all]
  have hY:((L.take k).any fun a=>keyB a ⟨p,m,b,o,s,v⟩)=hitB L ⟨p,m,b,o,s,v⟩:=by rw[←HN.out,List.take_length];rfl
  rw[←hX,hY];obtain⟨r0,r1,r2,r3,r4,r5⟩:=hC;simp only[Nat.zero_add] at r0 r1 r2 r3 r4 r5;have hlt0:w.heap.size<wr.heap.size:=bLQ _ _ r0;clear hX hY hB hlt;cases a with
  | true =>
    cases hh:hitB L ⟨p,m,b,o,s,v⟩
    ·by_cases h12:12≤k
     ·have HCN:Hid (chN L true ⟨p,m,b,o,s,v⟩=4):=ch_full hh (by rw[HN.out];exact h12);have HCL:Hid (chL L true ⟨p,m,b,o,s,v⟩=[]):=chL_ne (by rw[ch_full hh (by rw[HN.out];exact h12)];decide);clear hh;go_wp2;refine bodyPost_ret (v:=.tuple #[.slice none 0 0,.int .i64 4]) (by simp[results,Tryz.results31,go_sem]) rfl ⟨_,by rw[HCN.out],by rw[HCL.out];exact NR.nil _ _,HB.out⟩
     have HCN:Hid (chN L true ⟨p,m,b,o,s,v⟩=0):=ch_add hh (by rw[HN.out];exact h12);have HCL:Hid (chL L true ⟨p,m,b,o,s,v⟩=L++[⟨p,m,b,o,s,v⟩]):=chL_add (ch_add hh (by rw[HN.out];exact h12));clear hh
     go_wp2_with (at_builtin;refine wpList_append_SR _ rfl _ _ 93 rfl Tryz.underlying93 w.heap.size _ rfl [] (World.ownsRow_nil _ _ _ _) _ rfl _ HS1.out (by simp[HN.out];omega) HB.out.size ?_)
     intro v1 w1 hown1 hg1;have HB1:Hid (Below w.heap.size w w1):=HB.out.grown hg1 HB.out.size (fun g hg=>by cases hg);have hBr:Below wr.heap.size wr w1:=(Below.refl _ _).grown hg1 (Nat.le_refl _) (fun g hg=>by cases hg);have HO1:Hid (w1.ownsRow w.heap.size 88 6 v1 L.length (cellsR L)):=hown1;obtain⟨d0,d1,d2,d3,d4,d5⟩:=HC.out.later hBr;simp only[Nat.zero_add] at d0 d1 d2 d3 d4 d5;have hlt1:w.heap.size<w1.heap.size:=bLQ _ _ d0;have hBB:Below w1.heap.size w1 (w1.alloc (Obj.cells #[.int .i64 p,.int .i64 m,.int .i64 b,.int .i64 o,.int .i64 s,.int .i64 v] 88)):=(Below.refl _ _).alloc (Nat.le_refl _) _;have HSO:=sr_one w1 p m b o s v 88;clear hown1 hg1 hBr r0 r1 r2 r3 r4 r5
     go_wp2_with (at_builtin;refine wpList_append_SR _ rfl _ _ 93 rfl Tryz.underlying93 w.heap.size _ rfl L (own_below HO1.out hBB) _ rfl [⟨p,m,b,o,s,v⟩] HSO (by simp[HN.out];omega) (HB1.out.trans (hBB.mono HB1.out.size)).size ?_)
     intro v2 w2 hown2 hg2;have HO2:Hid (NR w2 w.heap.size v2 (L++[⟨p,m,b,o,s,v⟩])):=NR.ofn hown2 (by simp);have HB2:Hid (Below w.heap.size w w2):=(HB1.out.trans (hBB.mono HB1.out.size)).grown hg2 (HB1.out.trans (hBB.mono HB1.out.size)).size (fun g hg=>((own_below HO1.out hBB).lt g hg).1);clear hown2 hg2 hBB HSO d0 d1 d2 d3 d4 d5;go_wp2;refine bodyPost_ret (v:=.tuple #[v2,.int .i64 0]) (by simp[results,Tryz.results31,go_sem]) rfl ⟨_,by rw[HCN.out],by rw[HCL.out];exact HO2.out,HB2.out⟩
    have HCN:Hid (chN L true ⟨p,m,b,o,s,v⟩=7):=ch_hit hh;have HCL:Hid (chL L true ⟨p,m,b,o,s,v⟩=[]):=chL_ne (by rw[ch_hit hh];decide);clear hh;go_wp2;refine bodyPost_ret (v:=.tuple #[.slice none 0 0,.int .i64 7]) (by simp[results,Tryz.results31,go_sem]) rfl ⟨_,by rw[HCN.out],by rw[HCL.out];exact NR.nil _ _,HB.out⟩
  | false =>
    generalize hitB L ⟨p,m,b,o,s,v⟩=Y
    cases hh:inB L ⟨p,m,b,o,s,v⟩
    ·have HCN:Hid (chN L false ⟨p,m,b,o,s,v⟩=5):=ch_none hh;have HCL:Hid (chL L false ⟨p,m,b,o,s,v⟩=[]):=chL_ne (by rw[ch_none hh];decide);obtain rfl:X = -1:=by rw[HX.out,hh];rfl
     clear hh HX;go_wp2;refine bodyPost_ret (v:=.tuple #[.slice none 0 0,.int .i64 5]) (by simp[results,Tryz.results31,go_sem]) rfl ⟨_,by rw[HCN.out],by rw[HCL.out];exact NR.nil _ _,HB.out⟩
    have HCN:Hid (chN L false ⟨p,m,b,o,s,v⟩=0):=ch_take hh;have HCL:Hid (chL L false ⟨p,m,b,o,s,v⟩=L.take (ixN L ⟨p,m,b,o,s,v⟩)++L.drop (ixN L ⟨p,m,b,o,s,v⟩+1)):=chL_take (ch_take hh);obtain rfl:X=(ixN L ⟨p,m,b,o,s,v⟩:Int):=by rw[HX.out,hh,if_pos rfl]
    have hi:ixN L ⟨p,m,b,o,s,v⟩<k:=by
     have:=ix_lt hh;rw[HN.out] at this;exact this
    obtain⟨g,og,hao,hRA,hcm⟩:=HA.out (by omega);subst hao
    generalize ixN L ⟨p,m,b,o,s,v⟩=i at *
    have HRA:Hid (RAt wr g og L):=hRA.later HB.out;have HCM:Hid (cap≤maxLen):=hcm;have hc63:(cap:Int)≤9223372036854775807:=by unfold maxLen at hcm;omega
    clear hh hRA hcm HA HX;have i0:¬((i:Int)<0):=by omega
    have i01:(0:Int)≤(i:Int):=by omega
    have i1:(i:Int)≤(cap:Int):=by omega
    have i2:((i+1:Nat):Int)≤(k:Int):=by omega
    have i21:(0:Int)≤((i+1:Nat):Int):=by omega
    have i3:IntKind.i64.wrap ((i:Int)+1)=((i+1:Nat):Int):=by rw[IntKind.wrap_i64];omega
    have HT1:Hid (SR wr (.slice (some ⟨g,og,none⟩) i cap) (L.take i)):=by
     have e1:(L.take i).length=i:=by rw[List.length_take,HN.out];omega
     exact .inr ⟨g,og,cap,by rw[e1],by rw[e1];omega,HCM.out,HRA.out.take i⟩
    have HL1:Hid ((L.take i).length≤12):=by
     show _≤_;rw[List.length_take];omega
    have HL2:Hid ((L.drop (i+1)).length≤12):=by
     show _≤_;rw[List.length_drop,HN.out];omega
    go_wp2_with (at_builtin;refine wpList_append_SR _ rfl _ _ 93 rfl Tryz.underlying93 w.heap.size _ rfl [] (World.ownsRow_nil _ _ _ _) _ rfl _ HT1.out (by have:=HL1.out;simp at this ⊢;omega) HB.out.size ?_)
    intro v1 w1 hown1 hg1;have HB1:Hid (Below w.heap.size w w1):=HB.out.grown hg1 HB.out.size (fun g hg=>by cases hg);have hBr:Below wr.heap.size wr w1:=(Below.refl _ _).grown hg1 (Nat.le_refl _) (fun g hg=>by cases hg);have HO1:Hid (w1.ownsRow w.heap.size 88 6 v1 (L.take i).length (cellsR (L.take i))):=NR.ofn hown1 (by simp);have HR1:Hid (RAt w1 g og L):=HRA.out.later hBr;clear hown1 hg1 hBr r0 r1 r2 r3 r4 r5;by_cases hcj:cap=i+1
    ·have HT2:Hid (SR w1 (.slice (some ⟨g,og,none⟩) 0 0) (L.drop (i+1))):=.inl ⟨_,_,rfl,List.drop_eq_nil_of_le (by rw[HN.out];omega)⟩;have hkj:k=i+1:=by omega
     generalize hj:i+1=j at i2 i21 i3 hcj hkj HT2 HL2
     subst hcj
     go_wp2_with (at_builtin;refine wpList_append_SR _ rfl _ _ 93 rfl Tryz.underlying93 w.heap.size _ rfl _ HO1.out _ rfl _ HT2.out (by have:=HL1.out;have:=HL2.out;omega) HB1.out.size ?_)
     intro v2 w2 hown2 hg2;have HO2:Hid (NR w2 w.heap.size v2 (L.take i++L.drop (i+1))):=by
      rw[hj];exact NR.ofn hown2 (by simp)
     have HB2:Hid (Below w.heap.size w w2):=HB1.out.grown hg2 HB1.out.size (fun g hg=>(HO1.out.lt g hg).1);clear hown2 hg2;go_wp2;refine bodyPost_ret (v:=.tuple #[v2,.int .i64 0]) (by simp[results,Tryz.results31,go_sem]) rfl ⟨_,by rw[HCN.out],by rw[HCL.out];exact HO2.out,HB2.out⟩
    have HT2:Hid (SR w1 (.slice (some ⟨g,og+(i+1)*6,none⟩) (k-(i+1)) (cap-(i+1))) (L.drop (i+1))):=by
     have e1:(L.drop (i+1)).length=k-(i+1):=by rw[List.length_drop,HN.out]
     exact .inr ⟨g,og+(i+1)*6,cap-(i+1),by rw[e1],by rw[e1];omega,Nat.le_trans (Nat.sub_le _ _) HCM.out,HR1.out.drop (i+1)⟩
    generalize hj:i+1=j at i2 i21 i3 hcj HT2 HL2
    go_wp2_with (at_builtin;refine wpList_append_SR _ rfl _ _ 93 rfl Tryz.underlying93 w.heap.size _ rfl _ HO1.out _ rfl _ HT2.out (by have:=HL1.out;have:=HL2.out;omega) HB1.out.size ?_)
    intro v2 w2 hown2 hg2;have HO2:Hid (NR w2 w.heap.size v2 (L.take i++L.drop (i+1))):=by
     rw[hj];exact NR.ofn hown2 (by simp)
    have HB2:Hid (Below w.heap.size w w2):=HB1.out.grown hg2 HB1.out.size (fun g hg=>(HO1.out.lt g hg).1);clear hown2 hg2;go_wp2;refine bodyPost_ret (v:=.tuple #[v2,.int .i64 0]) (by simp[results,Tryz.results31,go_sem]) rfl ⟨_,by rw[HCN.out],by rw[HCL.out];exact HO2.out,HB2.out⟩
theorem bey_no {A B:List Ru}{k:Nat}{r:Ru}(hk:k<A.length)(hr:A[k]=r)(h:inB B r=true):bey (A.take (k+1)) B=bey (A.take k) B:=by
 rw[List.take_succ_eq_append_getElem hk,hr];simp[bey,h]
theorem bey_yes {A B:List Ru}{k:Nat}{r:Ru}(hk:k<A.length)(hr:A[k]=r)(h:inB B r=false):bey (A.take (k+1)) B=bey (A.take k) B++[r]:=by
 rw[List.take_succ_eq_append_getElem hk,hr];simp[bey,h]
def opsS (s:Int)(a:Bool)(L:List Ru):List Op8:=L.map fun r=>⟨s,a,r⟩
theorem ops_app (s:Int)(a:Bool)(L:List Ru)(r:Ru):opsS s a (L++[r])=opsS s a L++[⟨s,a,r⟩]:=by simp[opsS]
theorem ops_len (s:Int)(a:Bool)(L:List Ru):(opsS s a L).length=L.length:=by simp[opsS]
theorem opsS_of {A B:List Ru}(s:Int)(h:twN A B=0):opsS s false (bey A B)++opsS s true (bey B A)=ofS s (dfL A B):=by
 rw[dfL,if_pos h];simp only[opsS,ofS,taken,added,List.map_append,List.map_map];rfl
theorem bey_few (A B:List Ru)(k:Nat):(bey (A.take k) B).length≤A.length:=by
 have h1:(bey (A.take k) B).length≤(A.take k).length:=List.length_filter_le _ _;have h2:=List.length_take_le' k A;omega
theorem refDiff_any (ao:Option Addr)(n cap:Nat)(ao2:Option Addr)(n2 cap2:Nat)(s:Int)(A B:List Ru)(w:World)(hA:SR w (.slice ao n cap) A)(hB:SR w (.slice ao2 n2 cap2) B)(h1:A.length≤12)(h2:B.length≤12):
 Calls Tryz.prog 33 #[.slice ao n cap,.slice ao2 n2 cap2,.int .i64 s] w fun e w'=>∃v,e=.returned v∧NO w' w.heap.size v (opsS s false (bey A B)++opsS s true (bey B A))∧Below w.heap.size w w':=by
 obtain⟨ao',n',cap',e,hn,hn2,hn3,ha⟩:=hA.form;cases e;obtain⟨ao',n',cap',e,hm,hm2,hm3,hb⟩:=hB.form;cases e;have HN:Hid (A.length=n):=hn;have HM:Hid (B.length=n2):=hm;have HA:Hid (0<n→∃g o,ao=some ⟨g,o,none⟩∧RAt w g o A∧cap≤maxLen):=ha;have HA2:Hid (0<n2→∃g o,ao2=some ⟨g,o,none⟩∧RAt w g o B∧cap2≤maxLen):=hb;have HSA:Hid (SR w (.slice ao n cap) A):=hA;have HSB:Hid (SR w (.slice ao2 n2 cap2) B):=hB;have n12:n≤12:=by omega
 have m12:n2≤12:=by omega
 clear hn ha hm hb hA hB hn2 hm2 h1 h2;go_enter Tryz.func33,Tryz.ntmps33;go_wp2
 go_loopw [7,8] (fun x i wr=>∃k:Nat,k≤n∧i=.int .i64 k∧NO wr w.heap.size x (opsS s false (bey (A.take k) B))∧Below w.heap.size w wr) (fun x i _=>n-(intOf i).toNat)
 case atStart=>exact⟨0,by omega,rfl,NO.nil _ _,Below.refl _ _⟩
 case round =>
  obtain⟨k,hk,rfl,hO,hB⟩:=hrel;have HB:Hid (Below w.heap.size w wr):=hB;have HO:Hid (NO wr w.heap.size u7 (opsS s false (bey (A.take k) B))):=hO;clear hO;by_cases hlt:k<n
  ·obtain⟨g,og,hao,hc,_⟩:=HA.out (by omega);subst hao;have HCk:Hid (RAt w g og A):=hc;obtain⟨p,m,b,q,t,v,hkl,hL,q0,q1,q2,q3,q4,q5⟩:=(hc.later hB).at HN.out hlt;have HL:Hid (A[k]=⟨p,m,b,q,t,v⟩):=hL;have hlt0:g<wr.heap.size:=bLQ _ _ q0;clear hL hB hc
   go_wp2_with fail
   refine (refIn_any ao2 n2 cap2 p m b q t v B _ (HSB.out.later HB.out)).mono ?_;rintro e w1 ⟨rfl,hb1⟩;have HB1:Hid (Below w.heap.size w w1):=HB.out.trans (hb1.mono HB.out.size);have HO1:Hid (NO w1 w.heap.size u7 (opsS s false (bey (A.take k) B))):=HO.out.later hb1;clear hb1 q0 q1 q2 q3 q4 q5;cases hi:inB B ⟨p,m,b,q,t,v⟩
   ·obtain⟨p',m',b',q',t',v',_,hL2,q0,q1,q2,q3,q4,q5⟩:=(HCk.out.later HB1.out).at HN.out hlt;rw[HL.out] at hL2;simp only[Ru.mk.injEq] at hL2;obtain⟨rfl,rfl,rfl,rfl,rfl,rfl⟩:=hL2;have hBB:Below w1.heap.size w1 (w1.alloc (Obj.cells #[.int .i64 s,.bool false,.int .i64 p,.int .i64 m,.int .i64 b,.int .i64 q,.int .i64 t,.int .i64 v] 90)):=(Below.refl _ _).alloc (Nat.le_refl _) _;have HRW:=op_row w1 s false p m b q t v 90;have HLN:Hid ((opsS s false (bey (A.take k) B)).length≤12):=by
     have:=bey_few A B k;show _≤_;rw[ops_len];have:=HN.out;omega
    go_wp2_with (at_builtin;refine wpList_append_ops _ rfl _ _ 39 rfl Tryz.underlying39 w.heap.size _ rfl _ (HO1.out.later hBB) _ rfl _ HRW (by have:=HLN.out;simp at this ⊢;omega) (HB1.out.trans (hBB.mono HB1.out.size)).size ?_)
    intro v' w3 hown3 hgrow;have HO3:Hid (NO w3 w.heap.size v' (opsS s false (bey (A.take (k+1)) B))):=by
     show NO _ _ _ _;rw[bey_yes hkl HL.out hi,ops_app];exact hown3
    have HB3:Hid (Below w.heap.size w w3):=(HB1.out.trans (hBB.mono HB1.out.size)).grown hgrow (HB1.out.trans (hBB.mono HB1.out.size)).size (fun g hg=>((HO1.out.later hBB).lt g hg).1);clear hown3 hgrow hBB HRW q0 q1 q2 q3 q4 q5;go_wp2;go_roundw
    case rel=>exact⟨k+1,by omega,by go_num,HO3.out,HB3.out⟩
    case measure=>simp[intOf];omega
   go_wp2;go_roundw
   case rel=>exact⟨k+1,by omega,by go_num,by rw[bey_no hkl HL.out hi];exact HO1.out,HB1.out⟩
   case measure=>simp[intOf];omega
  obtain rfl:k=n:=by omega
  have HO2:Hid (NO wr w.heap.size u7 (opsS s false (bey A B))):=by
   have:=HO.out;rw[←HN.out,List.take_length] at this;exact this
  clear HO hB HA hlt;go_wp2
  go_loopw [7,10] (fun x i w2=>∃j:Nat,j≤n2∧i=.int .i64 j∧NO w2 w.heap.size x (opsS s false (bey A B)++opsS s true (bey (B.take j) A))∧Below w.heap.size w w2) (fun x i _=>n2-(intOf i).toNat)
  case atStart=>exact⟨0,by omega,rfl,by simpa[opsS,bey] using HO2.out,HB.out⟩
  case round =>
   obtain⟨j,hj,rfl,hO,hB⟩:=hrel;clear HB HO2;have HB:Hid (Below w.heap.size w wr):=hB;have HO:Hid (NO wr w.heap.size u7 (opsS s false (bey A B)++opsS s true (bey (B.take j) A))):=hO;clear hO;by_cases hlt:j<n2
   ·obtain⟨g,og,hao,hc,_⟩:=HA2.out (by omega);subst hao;have HCk:Hid (RAt w g og B):=hc;obtain⟨p,m,b,q,t,v,hkl,hL,q0,q1,q2,q3,q4,q5⟩:=(hc.later hB).at HM.out hlt;have HL:Hid (B[j]=⟨p,m,b,q,t,v⟩):=hL;clear hL hB hc
    go_wp2_with fail
    refine (refIn_any ao k cap p m b q t v A _ (HSA.out.later HB.out)).mono ?_;rintro e w1 ⟨rfl,hb1⟩;have HB1:Hid (Below w.heap.size w w1):=HB.out.trans (hb1.mono HB.out.size);have HO1:Hid (NO w1 w.heap.size u7 (opsS s false (bey A B)++opsS s true (bey (B.take j) A))):=HO.out.later hb1;clear hb1 q0 q1 q2 q3 q4 q5;cases hi:inB A ⟨p,m,b,q,t,v⟩
    ·obtain⟨p',m',b',q',t',v',_,hL2,q0,q1,q2,q3,q4,q5⟩:=(HCk.out.later HB1.out).at HM.out hlt;rw[HL.out] at hL2;simp only[Ru.mk.injEq] at hL2;obtain⟨rfl,rfl,rfl,rfl,rfl,rfl⟩:=hL2;have hBB:Below w1.heap.size w1 (w1.alloc (Obj.cells #[.int .i64 s,.bool true,.int .i64 p,.int .i64 m,.int .i64 b,.int .i64 q,.int .i64 t,.int .i64 v] 90)):=(Below.refl _ _).alloc (Nat.le_refl _) _;have HRW:=op_row w1 s true p m b q t v 90;have HLN:Hid ((opsS s false (bey A B)++opsS s true (bey (B.take j) A)).length≤24):=by
      have h1:=bey_few B A j;have h2:(bey A B).length≤A.length:=List.length_filter_le _ _;show _≤_;rw[List.length_append,ops_len,ops_len];have:=HN.out;have:=HM.out;omega
     go_wp2_with (at_builtin;refine wpList_append_ops _ rfl _ _ 39 rfl Tryz.underlying39 w.heap.size _ rfl _ (HO1.out.later hBB) _ rfl _ HRW (by have:=HLN.out;simp at this ⊢;omega) (HB1.out.trans (hBB.mono HB1.out.size)).size ?_)
     intro v' w3 hown3 hgrow;have HO3:Hid (NO w3 w.heap.size v' (opsS s false (bey A B)++opsS s true (bey (B.take (j+1)) A))):=by
      show NO _ _ _ _;rw[bey_yes hkl HL.out hi,ops_app];exact hown3
     have HB3:Hid (Below w.heap.size w w3):=(HB1.out.trans (hBB.mono HB1.out.size)).grown hgrow (HB1.out.trans (hBB.mono HB1.out.size)).size (fun g hg=>((HO1.out.later hBB).lt g hg).1);clear hown3 hgrow hBB HRW q0 q1 q2 q3 q4 q5;go_wp2;go_roundw
     case rel=>exact⟨j+1,by omega,by go_num,HO3.out,HB3.out⟩
     case measure=>simp[intOf];omega
    go_wp2;go_roundw
    case rel=>exact⟨j+1,by omega,by go_num,by rw[bey_no hkl HL.out hi];exact HO1.out,HB1.out⟩
    case measure=>simp[intOf];omega
   obtain rfl:j=n2:=by omega
   have HO2:Hid (NO wr w.heap.size u7 (opsS s false (bey A B)++opsS s true (bey B A))):=by
    have:=HO.out;rw[←HM.out,List.take_length] at this;exact this
   clear HO hB hlt;go_wp2;go_ret;exact⟨_,rfl,HO2.out,HB.out⟩
theorem cd_next {As Bs:List (List Ru)}{k:Nat}(h:twN (As.getD k []) (Bs.getD k [])=0):cdL As Bs k++(opsS ((k+1:Nat):Int) false (bey (As.getD k []) (Bs.getD k []))++opsS ((k+1:Nat):Int) true (bey (Bs.getD k []) (As.getD k [])))=cdL As Bs (k+1):=by
 rw[opsS_of _ h,cdL];rfl
theorem refChanges_any (S:Int)(v1 v2:Value)(ao3:Option Addr)(n3 cap3:Nat)(S':Int)(u1 u2:Value)(bo3:Option Addr)(m3 dap3:Nat)(As Bs:List (List Ru))(w:World)(h1:v1.oneCell'=true)(h2:v2.oneCell'=true)(h3:u1.oneCell'=true)(h4:u2.oneCell'=true)
 (hT:TS w (.slice ao3 n3 cap3) As) (hT':TS w (.slice bo3 m3 dap3) Bs) (hl:As.length=Bs.length) (h8:As.length≤1000) (ht:∀j,twN (As.getD j []) (Bs.getD j [])=0):
 Calls Tryz.prog 13 #[.agg #[.int .i64 S,v1,v2,.slice ao3 n3 cap3],.agg #[.int .i64 S',u1,u2,.slice bo3 m3 dap3]] w fun e w'=>∃v,e=.returned v∧NO w' w.heap.size v (cdL As Bs As.length)∧Below w.heap.size w w':=by
 have hb0:Below w.heap.size w ((w.alloc (Obj.cells #[.int .i64 S,v1,v2,.slice ao3 n3 cap3] 28)).alloc (Obj.cells #[.int .i64 S',u1,u2,.slice bo3 m3 dap3] 28)):=((Below.refl _ _).alloc (Nat.le_refl _) _).alloc (by simp) _;have HNN:=nn_new w S v1 v2 (.slice ao3 n3 cap3) S' u1 u2 (.slice bo3 m3 dap3) 28;have HB0:Hid (Below w.heap.size w ((w.alloc (Obj.cells #[.int .i64 S,v1,v2,.slice ao3 n3 cap3] 28)).alloc (Obj.cells #[.int .i64 S',u1,u2,.slice bo3 m3 dap3] 28))):=hb0;obtain⟨_,_,_,e,hn,hn2,hn3,ha⟩:=hT.form;cases e;obtain⟨_,_,_,e,hm,hm2,hm3,hb⟩:=hT'.form;cases e;obtain rfl:n3=m3:=by omega
 have HN:Hid (As.length=n3):=hn;have HM:Hid (Bs.length=n3):=hm;have HA:Hid (0<n3→∃g o,ao3=some ⟨g,o,none⟩∧TAt w g o As∧cap3≤maxLen):=ha;have HA2:Hid (0<n3→∃g o,bo3=some ⟨g,o,none⟩∧TAt w g o Bs∧dap3≤maxLen):=hb;have HTW:Hid (∀j,twN (As.getD j []) (Bs.getD j [])=0):=ht;have n1000:n3≤1000:=by omega
 clear hT hT' hn ha hm hb hn2 hm2 hb0 ht hl h8;go_enter Tryz.func13,Tryz.ntmps13;go_wp2
 go_loopw [5,6] (fun x i wr=>∃k:Nat,k≤n3∧i=.int .i64 k∧NO wr (w.heap.size+2) x (cdL As Bs k)∧NN wr w.heap.size S v1 v2 (.slice ao3 n3 cap3) S' u1 u2 (.slice bo3 n3 dap3)∧Below w.heap.size w wr) (fun x i _=>n3-(intOf i).toNat)
 case atStart=>exact⟨0,by omega,rfl,NO.nil _ _,HNN,HB0.out⟩
 case round =>
  obtain⟨k,hk,rfl,hO,hX,hB⟩:=hrel;clear HNN HB0;have HB:Hid (Below w.heap.size w wr):=hB;have HO:Hid (NO wr (w.heap.size+2) u5 (cdL As Bs k)):=hO;have HX:Hid (NN wr w.heap.size S v1 v2 (.slice ao3 n3 cap3) S' u1 u2 (.slice bo3 n3 dap3)):=hX;obtain⟨⟨p0,p1,p2,p3⟩,s0,s1,s2,s3⟩:=hX;have hlt1:w.heap.size<wr.heap.size:=bLQ _ _ p0;have hlt2:w.heap.size+1<wr.heap.size:=bLQ _ _ s0;clear hO;by_cases hlt:k<n3
  ·obtain⟨g,og,hao,hc,_⟩:=HA.out (by omega);obtain⟨f,of,hbo,hd,_⟩:=HA2.out (by omega);subst hao hbo;obtain⟨a3,l3,c3,r0,hG3⟩:=(hc.later hB) k (by rw[HN.out];exact hlt);obtain⟨a4,l4,c4,r1,hG4⟩:=(hd.later hB) k (by rw[HM.out];exact hlt);have HG3:Hid (SR wr (.slice a3 l3 c3) (As.getD k [])):=by
    show SR _ _ _;rw[getT (by rw[HN.out];exact hlt)];exact hG3
   have HG4:Hid (SR wr (.slice a4 l4 c4) (Bs.getD k [])):=by
    show SR _ _ _;rw[getT (by rw[HM.out];exact hlt)];exact hG4
   have kb0:(0:Int)≤(k:Int):=by omega
   have kb1:(k:Int)<(n3:Int):=by omega
   have kw:IntKind.i64.wrap ((k:Int)+1)=((k+1:Nat):Int):=by rw[IntKind.wrap_i64];omega
   have HDF:Hid (∀W,Below wr.heap.size wr W→Calls Tryz.prog 33 #[.slice a3 l3 c3,.slice a4 l4 c4,.int .i64 ((k+1:Nat):Int)] W fun e w'=>∃v,e=.returned v∧NO w' wr.heap.size v (opsS ((k+1:Nat):Int) false (bey (As.getD k []) (Bs.getD k []))++opsS ((k+1:Nat):Int) true (bey (Bs.getD k []) (As.getD k [])))∧Below wr.heap.size wr w'):=fun W hW=>by
    have hw0:=tw_two (HTW.out k);refine (refDiff_any a3 l3 c3 a4 l4 c4 _ _ _ W (HG3.out.later hW) (HG4.out.later hW) (tb_iff.1 hw0.1).1 (tb_iff.1 hw0.2).1).mono ?_;rintro e w' ⟨v,e1,e2,e3⟩;exact⟨v,e1,e2.mono hW.size,hW.trans (e3.mono hW.size)⟩
   have HMK:Hid (∀W,Below wr.heap.size wr W→Below wr.heap.size wr W∧W.cell? ⟨w.heap.size,3,none⟩=some (.slice (some ⟨g,og,none⟩) n3 cap3)∧W.cell? ⟨w.heap.size+1,3,none⟩=some (.slice (some ⟨f,of,none⟩) n3 dap3)∧W.cell? ⟨g,og+k,none⟩=some (.slice a3 l3 c3)∧W.cell? ⟨f,of+k,none⟩=some (.slice a4 l4 c4)):=by
    intro W hW;obtain⟨⟨_,_,_,c1⟩,_,_,_,c2⟩:=HX.out.later hW;exact⟨hW,c1,c2,cell_later hW r0,cell_later hW r1⟩
   have HLN:Hid ((cdL As Bs k).length≤24000∧(opsS ((k+1:Nat):Int) false (bey (As.getD k []) (Bs.getD k []))++opsS ((k+1:Nat):Int) true (bey (Bs.getD k []) (As.getD k []))).length≤24000):=by
    have h1:=cd_few HTW.out k;have h2:=cd_few HTW.out (k+1);rw[←cd_next (HTW.out k),List.length_append] at h2;constructor <;> omega
   clear hc hd hB hG3 hG4;go_upto_region 5 with fail
   go_cut [7] from 8 to 30 (fun v w'=>NO w' wr.heap.size v (opsS ((k+1:Nat):Int) false (bey (As.getD k []) (Bs.getD k []))++opsS ((k+1:Nat):Int) true (bey (Bs.getD k []) (As.getD k [])))∧Below wr.heap.size wr w')
   case first =>
    go_region_held3 (fun W=>Below wr.heap.size wr W∧W.cell? ⟨w.heap.size,3,none⟩=some (.slice (some ⟨g,og,none⟩) n3 cap3)∧W.cell? ⟨w.heap.size+1,3,none⟩=some (.slice (some ⟨f,of,none⟩) n3 dap3)∧W.cell? ⟨g,og+k,none⟩=some (.slice a3 l3 c3)∧W.cell? ⟨f,of+k,none⟩=some (.slice a4 l4 c4))
     (first | assumption | exact HMK.out _ (Below.drew (Below.refl _ _)) | exact HMK.out _ HBX.out)
     (first | (go_at_call 33;refine (HDF.out _ (by first | exact Below.drew (Below.refl _ _) | exact Below.refl _ _)).mono ?_;rintro e w' ⟨v,rfl,hG,hb⟩;have HBX:Hid (Below wr.heap.size wr w'):=hb;have HGX:Hid (NO w' wr.heap.size v (opsS ((k+1:Nat):Int) false (bey (As.getD k []) (Bs.getD k []))++opsS ((k+1:Nat):Int) true (bey (Bs.getD k []) (As.getD k [])))):=hG;clear hb hG))
    all_goals (go_wp2_with fail;go_meet)
    all_goals exact⟨HGX.out,HBX.out⟩
   case rest =>
    obtain⟨hG,hb⟩:=hcut;have HBc:Hid (Below w.heap.size w wc):=HB.out.trans (hb.mono HB.out.size);have HOc:Hid (NO wc (w.heap.size+2) u5 (cdL As Bs k)):=HO.out.later hb;have HXc:Hid (NN wc w.heap.size S v1 v2 (.slice (some ⟨g,og,none⟩) n3 cap3) S' u1 u2 (.slice (some ⟨f,of,none⟩) n3 dap3)):=HX.out.later hb;have HGc:=hG.gs;have HSZ:Hid (w.heap.size+2≤wc.heap.size):=Nat.le_trans (by omega) hb.size;clear hG hb HDF HMK r0 r1 p0 p1 p2 p3 s0 s1 s2 s3
    go_wp2_with (at_builtin;refine wpList_append_ops _ rfl _ _ 39 rfl Tryz.underlying39 (w.heap.size+2) _ rfl _ HOc.out _ rfl _ HGc (by have:=HLN.out;omega) HSZ.out ?_)
    intro v' w3 hown3 hgrow;have HO3:Hid (NO w3 (w.heap.size+2) v' (cdL As Bs (k+1))):=by
     show NO _ _ _ _;rw[←cd_next (HTW.out k)];exact hown3
    have HB3:Hid (Below w.heap.size w w3):=HBc.out.grown hgrow HBc.out.size (fun g hg=>by have:=(HOc.out.lt g hg).1;omega);have HX3:Hid (NN w3 w.heap.size S v1 v2 (.slice (some ⟨g,og,none⟩) n3 cap3) S' u1 u2 (.slice (some ⟨f,of,none⟩) n3 dap3)):=HXc.out.grown hgrow (fun g hg=>(HOc.out.lt g hg).1);clear hown3 hgrow HGc;go_wp2;go_roundw
    case rel=>exact⟨k+1,by omega,by go_num,HO3.out,HX3.out,HB3.out⟩
    case measure=>simp[intOf];omega
  obtain rfl:k=n3:=by omega
  have HO2:Hid (NO wr w.heap.size u5 (cdL As Bs As.length)):=by
   show NO _ _ _ _;rw[HN.out];exact HO.out.mono (by omega)
  clear hB;go_wp2;go_ret;exact⟨_,rfl,HO2.out,HB.out⟩
theorem refAlike_any (S:Int)(ao:Option Addr)(n cap:Nat)(ao2:Option Addr)(n2 cap2:Nat)(Ls:LkQ)(Hs:HoQ)(S':Int)(bo:Option Addr)(m cap3:Nat)(bo2:Option Addr)(m2 cap4:Nat)(Ls':LkQ)(Hs':HoQ)(w:World)
 (hL:GS lnkE w (.slice ao n cap) Ls) (hH:GS hstE w (.slice ao2 n2 cap2) Hs) (hL':GS lnkE w (.slice bo m cap3) Ls') (hH':GS hstE w (.slice bo2 m2 cap4) Hs'):
 Calls Tryz.prog 26 #[.agg #[.int .i64 S,.slice ao n cap,.slice ao2 n2 cap2],.agg #[.int .i64 S',.slice bo m cap3,.slice bo2 m2 cap4]] w fun e w'=>e=.returned (.bool (tpB S S' Ls Ls' Hs Hs'))∧Below w.heap.size w w':=by
 obtain⟨_,_,_,e,hn,hn2,hn3,ha⟩:=hL.form;cases e;obtain⟨_,_,_,e,hm,hm2,hm3,hb⟩:=hL'.form;cases e;obtain⟨_,_,_,e,gn,gn2,gn3,ga⟩:=hH.form;cases e;obtain⟨_,_,_,e,gm,gm2,gm3,gb⟩:=hH'.form;cases e;have HN1:Hid (Ls.length=n):=hn;have HM1:Hid (Ls'.length=m):=hm;have HN2:Hid (Hs.length=n2):=gn;have HM2:Hid (Hs'.length=m2):=gm;have HA1:Hid (0<n→∃g o,ao=some ⟨g,o,none⟩∧GAt lnkE w g o Ls∧cap≤maxLen):=ha;have HB1:Hid (0<m→∃g o,bo=some ⟨g,o,none⟩∧GAt lnkE w g o Ls'∧cap3≤maxLen):=hb;have HA2:Hid (0<n2→∃g o,ao2=some ⟨g,o,none⟩∧GAt hstE w g o Hs∧cap2≤maxLen):=ga;have HB2:Hid (0<m2→∃g o,bo2=some ⟨g,o,none⟩∧GAt hstE w g o Hs'∧cap4≤maxLen):=gb;have n63:n≤9223372036854775807:=by unfold maxLen at hn2;omega
 have n263:n2≤9223372036854775807:=by unfold maxLen at gn2;omega
 have HT:Hid (TT ((w.alloc (Obj.cells #[.int .i64 S,.slice ao n cap,.slice ao2 n2 cap2] 25)).alloc (Obj.cells #[.int .i64 S',.slice bo m cap3,.slice bo2 m2 cap4] 25)) w.heap.size S S' (.slice ao n cap) (.slice ao2 n2 cap2) (.slice bo m cap3) (.slice bo2 m2 cap4)):=tt_new w S S' _ _ _ _ 25;have HBW:Hid (Below w.heap.size w ((w.alloc (Obj.cells #[.int .i64 S,.slice ao n cap,.slice ao2 n2 cap2] 25)).alloc (Obj.cells #[.int .i64 S',.slice bo m cap3,.slice bo2 m2 cap4] 25))):=((Below.refl _ _).alloc (Nat.le_refl _) _).alloc (by simp) _;clear hL hH hL' hH' hn ha hm hb hn2 hm2 gn ga gm gb gn2 gm2;obtain⟨R,hR⟩:∃R,R=tpB S S' Ls Ls' Hs Hs':=⟨_,rfl⟩;have HR:Hid (R=tpB S S' Ls Ls' Hs Hs'):=hR;rw[←hR];clear hR;by_cases hl:S=S'∧n=m∧n2=m2
 ·obtain⟨rfl,rfl,rfl⟩:=hl;have and_no1:smG lnkB Ls Ls'=false→tpB S S Ls Ls' Hs Hs'=false:=fun h=>by rw[tpB,h];simp
  have and_no2:smG hstB Hs Hs'=false→tpB S S Ls Ls' Hs Hs'=false:=fun h=>by rw[tpB,h];simp
  have e1:(S==S)=true:=by simp
  have e2:((n:Int)==(n:Int))=true:=by simp
  have e3:((n2:Int)==(n2:Int))=true:=by simp
  go_enter Tryz.func26,Tryz.ntmps26;go_wp2
  go_loopw [5] (fun i wr=>∃k1:Nat,k1≤n∧i=.int .i64 k1∧(∀j,j<k1→∀(h1:j<Ls.length) (h2:j<Ls'.length),lnkB Ls[j] Ls'[j]=true)∧TT wr w.heap.size S S (.slice ao n cap) (.slice ao2 n2 cap2) (.slice bo n cap3) (.slice bo2 n2 cap4)∧Below w.heap.size w wr) (fun i _=>n-(intOf i).toNat)
  case atStart=>exact⟨0,by omega,rfl,fun j hj=>absurd hj (by omega),HT.out,HBW.out⟩
  case round =>
   obtain⟨k1,hk,rfl,hall,hT,hB⟩:=hrel;clear HT HBW;have HB:Hid (Below w.heap.size w wr):=hB;have HT2:Hid (TT wr w.heap.size S S (.slice ao n cap) (.slice ao2 n2 cap2) (.slice bo n cap3) (.slice bo2 n2 cap4)):=hT;have HALL:Hid (∀j,j<k1→∀(h1:j<Ls.length) (h2:j<Ls'.length),lnkB Ls[j] Ls'[j]=true):=hall;obtain⟨⟨p0,p1,p2⟩,s0,s1,s2⟩:=hT;have hlt1:w.heap.size<wr.heap.size:=bLQ _ _ p0;have hlt2:w.heap.size+1<wr.heap.size:=bLQ _ _ s0;clear hall;by_cases hlt:k1<n
   ·obtain⟨g,og,hao,hc,_⟩:=HA1.out (by omega);obtain⟨g2,og2,hao2,hc2,_⟩:=HB1.out (by omega);subst hao hao2;obtain⟨x0,x1,x2,x3,hkl,hLk,q0,q1,q2,q3⟩:=lnk_at (hc.later hB) HN1.out hlt;obtain⟨y0,y1,y2,y3,hkm,hMk,r0,r1,r2,r3⟩:=lnk_at (hc2.later hB) HM1.out hlt;have HCE:Hid (LC w w.heap.size S S (.slice (some ⟨g,og,none⟩) n cap) (.slice ao2 n2 cap2) (.slice (some ⟨g2,og2,none⟩) n cap3) (.slice bo2 n2 cap4) g (og+k1*4) x0 x1 x2 x3 g2 (og2+k1*4) y0 y1 y2 y3 wr):=⟨hB,⟨p0,p1,p2⟩,⟨s0,s1,s2⟩,⟨q0,q1,q2,q3⟩,r0,r1,r2,r3⟩;have HLK:Hid (Ls[k1]=((x0,x1),(x2,x3))∧Ls'[k1]=((y0,y1),(y2,y3))):=⟨hLk,hMk⟩;clear q0 q1 q2 q3 r0 r1 r2 r3 hB hc hc2 hLk hMk HA1 HB1;go_upto_region 6 with fail;have kb0:(0:Int)≤(k1:Int):=by omega
    have kb1:(k1:Int)<(n:Int):=by omega
    clear p0 p1 p2 s0 s1 s2
    go_cut [47] from 30 to 47 (fun c w'=>c=.bool (!lnkB ((x0,x1),(x2,x3)) ((y0,y1),(y2,y3)))∧TT w' w.heap.size S S (.slice (some ⟨g,og,none⟩) n cap) (.slice ao2 n2 cap2) (.slice (some ⟨g2,og2,none⟩) n cap3) (.slice bo2 n2 cap4)∧Below w.heap.size w w')
    case first =>
     as_aux_lemma =>
      refine wp_region_quiet (C:=LC w w.heap.size S S (.slice (some ⟨g,og,none⟩) n cap) (.slice ao2 n2 cap2) (.slice (some ⟨g2,og2,none⟩) n cap3) (.slice bo2 n2 cap4) g (og+k1*4) x0 x1 x2 x3 g2 (og2+k1*4) y0 y1 y2 y3) (by kernel_rfl) (by kernel_rfl) (LC.later (W:=wr) (Below.drew (Below.refl _ _)) HCE.out) ?_;simp only[List.toList_toArray];go_big_quiet_want;refine qv (.pointer (some ⟨w.heap.size,1,none⟩)) ?_ ?_
      ·rintro w' ⟨z,⟨t0,t1,t2⟩,⟨s0,s1,s2⟩,⟨z0,z1,z2,z3⟩,u0,u1,u2,u3⟩;go_simp
      simp only[Act.put,AP];go_big_quiet_on;go_big_quiet_want;refine qv (.slice (some ⟨g,og,none⟩) n cap) ?_ ?_
      ·rintro w' ⟨z,⟨t0,t1,t2⟩,⟨s0,s1,s2⟩,⟨z0,z1,z2,z3⟩,u0,u1,u2,u3⟩;go_simp
      simp only[Act.put,AP];go_big_quiet_on;go_big_quiet_want;refine qv (.int .i64 (k1:Int)) ?_ ?_
      ·rintro w' ⟨z,⟨t0,t1,t2⟩,⟨s0,s1,s2⟩,⟨z0,z1,z2,z3⟩,u0,u1,u2,u3⟩;go_simp
      simp only[Act.put,AP];go_big_quiet_on;go_big_quiet_want;refine qv (.pointer (some ⟨g,og+k1*4,none⟩)) ?_ ?_
      ·rintro w' ⟨z,⟨t0,t1,t2⟩,⟨s0,s1,s2⟩,⟨z0,z1,z2,z3⟩,u0,u1,u2,u3⟩;go_simp
      simp only[Act.put,AP];go_big_quiet_on;go_big_quiet_want;refine qv (.agg #[.int .i64 x0,.int .i64 x1,.int .i64 x2,.int .i64 x3]) ?_ ?_
      ·rintro w' ⟨z,⟨t0,t1,t2⟩,⟨s0,s1,s2⟩,⟨z0,z1,z2,z3⟩,u0,u1,u2,u3⟩;go_simp
      simp only[Act.put,AP];go_big_quiet_on;go_big_quiet_want;refine qv (.pointer (some ⟨w.heap.size+1,1,none⟩)) ?_ ?_
      ·rintro w' ⟨z,⟨t0,t1,t2⟩,⟨s0,s1,s2⟩,⟨z0,z1,z2,z3⟩,u0,u1,u2,u3⟩;go_simp
      simp only[Act.put,AP];go_big_quiet_on;go_big_quiet_want;refine qv (.slice (some ⟨g2,og2,none⟩) n cap3) ?_ ?_
      ·rintro w' ⟨z,⟨t0,t1,t2⟩,⟨s0,s1,s2⟩,⟨z0,z1,z2,z3⟩,u0,u1,u2,u3⟩;go_simp
      simp only[Act.put,AP];go_big_quiet_on;go_big_quiet_want;refine qv (.int .i64 (k1:Int)) ?_ ?_
      ·rintro w' ⟨z,⟨t0,t1,t2⟩,⟨s0,s1,s2⟩,⟨z0,z1,z2,z3⟩,u0,u1,u2,u3⟩;go_simp
      simp only[Act.put,AP];go_big_quiet_on;go_big_quiet_want;refine qv (.pointer (some ⟨g2,og2+k1*4,none⟩)) ?_ ?_
      ·rintro w' ⟨z,⟨t0,t1,t2⟩,⟨s0,s1,s2⟩,⟨z0,z1,z2,z3⟩,u0,u1,u2,u3⟩;go_simp
      simp only[Act.put,AP];go_big_quiet_on;go_big_quiet_want;refine qv (.agg #[.int .i64 y0,.int .i64 y1,.int .i64 y2,.int .i64 y3]) ?_ ?_
      ·rintro w' ⟨z,⟨t0,t1,t2⟩,⟨s0,s1,s2⟩,⟨z0,z1,z2,z3⟩,u0,u1,u2,u3⟩;go_simp
      simp only[Act.put,AP];go_big_quiet_on;go_big_quiet_want;refine quiet_val (v:=.bool (!lnkB ((x0,x1),(x2,x3)) ((y0,y1),(y2,y3)))) (fun w' hC=>exec_bin rfl (by go_simp) (run_neq_of (lnk_eq x0 x1 x2 x3 y0 y1 y2 y3 w'))) ?_;simp only[Act.put,AP];go_big_quiet_on;refine wpQuiet_nil ?_;intro w' hC
      go_wp2_with fail
      go_meet
      case rel=>exact⟨rfl,⟨hC.2.1,hC.2.2.1⟩,hC.1⟩
    case rest =>
     obtain⟨rfl,hTT,hB2⟩:=hcut;have HB3:Hid (Below w.heap.size w wc):=hB2;have HT3:Hid (TT wc w.heap.size S S (.slice (some ⟨g,og,none⟩) n cap) (.slice ao2 n2 cap2) (.slice (some ⟨g2,og2,none⟩) n cap3) (.slice bo2 n2 cap4)):=hTT;clear HCE hB2 hTT;cases ho:lnkB ((x0,x1),(x2,x3)) ((y0,y1),(y2,y3))
     ·have HF:Hid (R=false):=by
       show R=false;rw[HR.out];exact and_no1 (smG_no hkl hkm (by rw[HLK.out.1,HLK.out.2];exact ho))
      go_wp2;go_ret;exact⟨by rw[HF.out];rfl,HB3.out⟩
     have HAL2:Hid (∀j,j<k1+1→∀(h1:j<Ls.length) (h2:j<Ls'.length),lnkB Ls[j] Ls'[j]=true):=by
      intro j hj h1 h2;by_cases e:j=k1
      ·subst e;rw[HLK.out.1,HLK.out.2];exact ho
      exact HALL.out j (by omega) h1 h2
     clear ho;go_wp2;go_roundw
     case rel=>exact⟨k1+1,by omega,by go_num,HAL2.out,HT3.out,HB3.out⟩
     case measure=>simp[intOf];omega
   obtain rfl:k1=n:=by omega
   have HS1:Hid (smG lnkB Ls Ls'=true):=smG_iff.2 ⟨by rw[HN1.out,HM1.out],fun i h1 h2=>HALL.out i (by rw[HN1.out] at h1;exact h1) h1 h2⟩;clear HALL hlt hB HA1 HB1;go_wp2
   go_loopw [6] (fun i wr=>∃k:Nat,k≤n2∧i=.int .i64 k∧(∀j,j<k→∀(h1:j<Hs.length) (h2:j<Hs'.length),hstB Hs[j] Hs'[j]=true)∧TT wr w.heap.size S S (.slice ao k1 cap) (.slice ao2 n2 cap2) (.slice bo k1 cap3) (.slice bo2 n2 cap4)∧Below w.heap.size w wr) (fun i _=>n2-(intOf i).toNat)
   case atStart=>exact⟨0,by omega,rfl,fun j hj=>absurd hj (by omega),HT2.out,HB.out⟩
   case round =>
    obtain⟨k,hk,rfl,hall,hT,hB⟩:=hrel;clear HT2 HB;have HB:Hid (Below w.heap.size w wr):=hB;have HT2:Hid (TT wr w.heap.size S S (.slice ao k1 cap) (.slice ao2 n2 cap2) (.slice bo k1 cap3) (.slice bo2 n2 cap4)):=hT;have HALL:Hid (∀j,j<k→∀(h1:j<Hs.length) (h2:j<Hs'.length),hstB Hs[j] Hs'[j]=true):=hall;obtain⟨⟨p0,p1,p2⟩,s0,s1,s2⟩:=hT;have hlt1:w.heap.size<wr.heap.size:=bLQ _ _ p0;have hlt2:w.heap.size+1<wr.heap.size:=bLQ _ _ s0;clear hall;by_cases hlt:k<n2
    ·obtain⟨g,og,hao,hc,_⟩:=HA2.out (by omega);obtain⟨g2,og2,hao2,hc2,_⟩:=HB2.out (by omega);subst hao hao2;obtain⟨x0,x1,x2,hkl,hLk,q0,q1,q2⟩:=hst_at (hc.later hB) HN2.out hlt;obtain⟨y0,y1,y2,hkm,hMk,r0,r1,r2⟩:=hst_at (hc2.later hB) HM2.out hlt;have HCE:Hid (HC w w.heap.size S S (.slice ao k1 cap) (.slice (some ⟨g,og,none⟩) n2 cap2) (.slice bo k1 cap3) (.slice (some ⟨g2,og2,none⟩) n2 cap4) g (og+k*3) x0 x1 x2 g2 (og2+k*3) y0 y1 y2 wr):=⟨hB,⟨p0,p1,p2⟩,⟨s0,s1,s2⟩,⟨q0,q1,q2⟩,r0,r1,r2⟩;have HLK:Hid (Hs[k]=(x0,(x1,x2))∧Hs'[k]=(y0,(y1,y2))):=⟨hLk,hMk⟩;clear q0 q1 q2 r0 r1 r2 hB hc hc2 hLk hMk HA2 HB2;go_upto_region 11 with fail;have kb0:(0:Int)≤(k:Int):=by omega
     have kb1:(k:Int)<(n2:Int):=by omega
     clear p0 p1 p2 s0 s1 s2
     go_cut [65] from 48 to 65 (fun c w'=>c=.bool (!hstB (x0,(x1,x2)) (y0,(y1,y2)))∧TT w' w.heap.size S S (.slice ao k1 cap) (.slice (some ⟨g,og,none⟩) n2 cap2) (.slice bo k1 cap3) (.slice (some ⟨g2,og2,none⟩) n2 cap4)∧Below w.heap.size w w')
     case first =>
      as_aux_lemma =>
       refine wp_region_quiet (C:=HC w w.heap.size S S (.slice ao k1 cap) (.slice (some ⟨g,og,none⟩) n2 cap2) (.slice bo k1 cap3) (.slice (some ⟨g2,og2,none⟩) n2 cap4) g (og+k*3) x0 x1 x2 g2 (og2+k*3) y0 y1 y2) (by kernel_rfl) (by kernel_rfl) (HC.later (W:=wr) (Below.drew (Below.refl _ _)) HCE.out) ?_;simp only[List.toList_toArray];go_big_quiet_want;refine qv (.pointer (some ⟨w.heap.size,2,none⟩)) ?_ ?_
       ·rintro w' ⟨z,⟨t0,t1,t2⟩,⟨s0,s1,s2⟩,⟨z0,z1,z2⟩,u0,u1,u2⟩;go_simp
       simp only[Act.put,AP];go_big_quiet_on;go_big_quiet_want;refine qv (.slice (some ⟨g,og,none⟩) n2 cap2) ?_ ?_
       ·rintro w' ⟨z,⟨t0,t1,t2⟩,⟨s0,s1,s2⟩,⟨z0,z1,z2⟩,u0,u1,u2⟩;go_simp
       simp only[Act.put,AP];go_big_quiet_on;go_big_quiet_want;refine qv (.int .i64 (k:Int)) ?_ ?_
       ·rintro w' ⟨z,⟨t0,t1,t2⟩,⟨s0,s1,s2⟩,⟨z0,z1,z2⟩,u0,u1,u2⟩;go_simp
       simp only[Act.put,AP];go_big_quiet_on;go_big_quiet_want;refine qv (.pointer (some ⟨g,og+k*3,none⟩)) ?_ ?_
       ·rintro w' ⟨z,⟨t0,t1,t2⟩,⟨s0,s1,s2⟩,⟨z0,z1,z2⟩,u0,u1,u2⟩;go_simp
       simp only[Act.put,AP];go_big_quiet_on;go_big_quiet_want;refine qv (.agg #[.string x0,.int .i64 x1,.int .i64 x2]) ?_ ?_
       ·rintro w' ⟨z,⟨t0,t1,t2⟩,⟨s0,s1,s2⟩,⟨z0,z1,z2⟩,u0,u1,u2⟩;go_simp
       simp only[Act.put,AP];go_big_quiet_on;go_big_quiet_want;refine qv (.pointer (some ⟨w.heap.size+1,2,none⟩)) ?_ ?_
       ·rintro w' ⟨z,⟨t0,t1,t2⟩,⟨s0,s1,s2⟩,⟨z0,z1,z2⟩,u0,u1,u2⟩;go_simp
       simp only[Act.put,AP];go_big_quiet_on;go_big_quiet_want;refine qv (.slice (some ⟨g2,og2,none⟩) n2 cap4) ?_ ?_
       ·rintro w' ⟨z,⟨t0,t1,t2⟩,⟨s0,s1,s2⟩,⟨z0,z1,z2⟩,u0,u1,u2⟩;go_simp
       simp only[Act.put,AP];go_big_quiet_on;go_big_quiet_want;refine qv (.int .i64 (k:Int)) ?_ ?_
       ·rintro w' ⟨z,⟨t0,t1,t2⟩,⟨s0,s1,s2⟩,⟨z0,z1,z2⟩,u0,u1,u2⟩;go_simp
       simp only[Act.put,AP];go_big_quiet_on;go_big_quiet_want;refine qv (.pointer (some ⟨g2,og2+k*3,none⟩)) ?_ ?_
       ·rintro w' ⟨z,⟨t0,t1,t2⟩,⟨s0,s1,s2⟩,⟨z0,z1,z2⟩,u0,u1,u2⟩;go_simp
       simp only[Act.put,AP];go_big_quiet_on;go_big_quiet_want;refine qv (.agg #[.string y0,.int .i64 y1,.int .i64 y2]) ?_ ?_
       ·rintro w' ⟨z,⟨t0,t1,t2⟩,⟨s0,s1,s2⟩,⟨z0,z1,z2⟩,u0,u1,u2⟩;go_simp
       simp only[Act.put,AP];go_big_quiet_on;go_big_quiet_want;refine quiet_val (v:=.bool (!hstB (x0,(x1,x2)) (y0,(y1,y2)))) (fun w' hC=>exec_bin rfl (by go_simp) (run_neq_of (hst_eq x0 x1 x2 y0 y1 y2 w'))) ?_;simp only[Act.put,AP];go_big_quiet_on;refine wpQuiet_nil ?_;intro w' hC
       go_wp2_with fail
       go_meet
       case rel=>exact⟨rfl,⟨hC.2.1,hC.2.2.1⟩,hC.1⟩
     case rest =>
      obtain⟨rfl,hTT,hB2⟩:=hcut;have HB3:Hid (Below w.heap.size w wc):=hB2;have HT3:Hid (TT wc w.heap.size S S (.slice ao k1 cap) (.slice (some ⟨g,og,none⟩) n2 cap2) (.slice bo k1 cap3) (.slice (some ⟨g2,og2,none⟩) n2 cap4)):=hTT;clear HCE hB2 hTT;cases ho:hstB (x0,(x1,x2)) (y0,(y1,y2))
      ·have HF:Hid (R=false):=by
        show R=false;rw[HR.out];exact and_no2 (smG_no hkl hkm (by rw[HLK.out.1,HLK.out.2];exact ho))
       go_wp2;go_ret;exact⟨by rw[HF.out];rfl,HB3.out⟩
      have HAL2:Hid (∀j,j<k+1→∀(h1:j<Hs.length) (h2:j<Hs'.length),hstB Hs[j] Hs'[j]=true):=by
       intro j hj h1 h2;by_cases e:j=k
       ·subst e;rw[HLK.out.1,HLK.out.2];exact ho
       exact HALL.out j (by omega) h1 h2
      clear ho;go_wp2;go_roundw
      case rel=>exact⟨k+1,by omega,by go_num,HAL2.out,HT3.out,HB3.out⟩
      case measure=>simp[intOf];omega
    obtain rfl:k=n2:=by omega
    have HS2:Hid (smG hstB Hs Hs'=true):=smG_iff.2 ⟨by rw[HN2.out,HM2.out],fun i h1 h2=>HALL.out i (by rw[HN2.out] at h1;exact h1) h1 h2⟩;clear HALL hlt hB HA2 HB2;have HF:Hid (R=true):=by
     show R=true;rw[HR.out,tpB,HS1.out,HS2.out];simp
    go_wp2;go_ret;exact⟨by rw[HF.out];rfl,HB.out⟩
 have HF:Hid (R=false):=by
  show R=false;rw[HR.out];cases e:tpB S S' Ls Ls' Hs Hs'
  ·rfl
  obtain⟨rfl,rfl,rfl⟩:=tpB_iff.1 e;exact absurd ⟨rfl,by rw[←HN1.out,HM1.out],by rw[←HN2.out,HM2.out]⟩ hl
 by_cases hS:S=S'
 ·subst hS;have e1:(S==S)=true:=by simp
  by_cases h1:n=m
  ·subst h1;have e2:((n:Int)==(n:Int))=true:=by simp
   have e3:((n2:Int)==(m2:Int))=false:=beq_eq_false_iff_ne.2 (fun e=>hl ⟨rfl,rfl,by omega⟩);have e4:((n2:Int) != (m2:Int))=true:=by rw[bne,e3];rfl
   clear hl;go_enter Tryz.func26,Tryz.ntmps26;go_wp2;go_ret;exact⟨by rw[HF.out];rfl,HBW.out⟩
  have e3:((n:Int)==(m:Int))=false:=beq_eq_false_iff_ne.2 (by omega);have e4:((n:Int) != (m:Int))=true:=by rw[bne,e3];rfl
  clear hl h1;go_enter Tryz.func26,Tryz.ntmps26;go_wp2;go_ret;exact⟨by rw[HF.out];rfl,HBW.out⟩
 have e3:(S==S')=false:=beq_eq_false_iff_ne.2 hS;have e4:(S != S')=true:=by rw[bne,e3];rfl
 clear hl hS;go_enter Tryz.func26,Tryz.ntmps26;go_wp2;go_ret;exact⟨by rw[HF.out];rfl,HBW.out⟩
end
end Go.Proofs.YtiokpmlhmlcojaaGreatDoor
