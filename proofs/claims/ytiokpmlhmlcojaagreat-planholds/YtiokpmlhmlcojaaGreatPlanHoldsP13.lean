/- Contracts and facts on the way to PlanHolds, joined into one text: PlanPlan, PlanVerMath, PlanHoldsMath, PlanLeastA, PlanLeastB, PlanVerify, TopoOf, NetOf, PlanHolds. -/
import Derived.Test.YtiokpmlhmlcojaaGreatPlanHoldsP12
namespace Go.Proofs.YtiokpmlhmlcojaaGreat
set_option linter.unusedSimpArgs false
set_option linter.unusedVariables false
set_option maxHeartbeats 16000000
set_option maxRecDepth 100000
section
open Go.RowKit
section
variable {S:Int}{Ls:List LkT}{Hs:List HoT}{Ts:List (List Ru)}{S':Int}{Ls':List LkT}{Hs':List HoT}{Ts':List (List Ru)}{ws:List Wi}
theorem tw_any (h:nwN S Ls Hs Ts S' Ls' Hs' Ts'=0)(hl:Ts.length=Ts'.length)(j:Nat):twN (Ts.getD j []) (Ts'.getD j [])=0:=by
 by_cases hj:j<Ts.length
 ·exact nw_tw h j hj (by omega)
 have e1:Ts.getD j []=[]:=by simp[List.getD,List.getElem?_eq_none (show Ts.length≤j by omega)]
 have e2:Ts'.getD j []=[]:=by simp[List.getD,List.getElem?_eq_none (show Ts'.length≤j by omega)]
 rw[e1,e2];rfl
theorem pd_ok (h:pdN S Ls Hs Ts S' Ls' Hs' Ts' ws=0):PlOK S Ls Hs Ts Ts' ws (pdL S Ls Hs Ts S' Ls' Hs' Ts' ws)∧nwN S Ls Hs Ts S' Ls' Hs' Ts'=0∧tpB S S' Ls Ls' Hs Hs'=true∧Ts.length=Ts'.length:=by
 have h1:=h;unfold pdN at h1;by_cases hd:diN S Ls Hs Ts S' Ls' Hs' Ts'=0
 ·rw[if_pos hd] at h1;have hd2:=hd;unfold diN at hd2;by_cases hn:nwN S Ls Hs Ts S' Ls' Hs' Ts'=0
  ·rw[if_pos hn] at hd2;by_cases ht:tpB S S' Ls Ls' Hs Hs'=true
   ·have hl:Ts.length=Ts'.length:=by
     have a:=(nt_0 (nw_two hn).1).2.1;have b:=(nt_0 (nw_two hn).2).2.1;have c:=(tpB_iff.1 ht).1;omega
    refine⟨⟨(nw_two hn).1,tw_any hn hl,h1,?_⟩,hn,ht,hl⟩;unfold pdL;rw[if_pos h];unfold diL;rw[if_pos hd]
   rw[if_neg ht] at hd2;cases hd2
  rw[if_neg hn] at hd2;exact absurd hd2 hn
 rw[if_neg hd] at h1;exact absurd h1 hd
theorem pd_few:(∀o∈pdL S Ls Hs Ts S' Ls' Hs' Ts' ws,1≤o.w∧o.w≤6)∧(pdL S Ls Hs Ts S' Ls' Hs' Ts' ws).length≤1000:=by
 by_cases h:pdN S Ls Hs Ts S' Ls' Hs' Ts' ws=0
 ·have k:=(pd_ok h).1;exact⟨k.w,by have:=k.few;omega⟩
 unfold pdL;rw[if_neg h];exact⟨(fun o ho=>absurd ho (by simp)),by simp⟩
theorem pb_pd (h:pbN S Ls Hs Ts S' Ls' Hs' Ts' ws=0):pdN S Ls Hs Ts S' Ls' Hs' Ts' ws=0∧wiN S Ls Hs Ts ws=0:=by
 unfold pbN at h;by_cases hd:pdN S Ls Hs Ts S' Ls' Hs' Ts' ws=0
 ·rw[if_pos hd] at h;exact⟨hd,h⟩
 rw[if_neg hd] at h;exact absurd h hd
end
def plO (Ls:List LkT)(Hs:List HoT)(As Bs:List (List Ru))(ws:List Wi)(D:List Op8):Option (List Nat):=roA (alS D) (fun done=>fiS (sfB Ls Hs As Bs ws) (alS D) done 6) 0
def plN (S:Int)(Ls:List LkT)(Hs:List HoT)(Ts:List (List Ru))(S':Int)(Ls':List LkT)(Hs':List HoT)(Ts':List (List Ru))(ws:List Wi):Int:=if pbN S Ls Hs Ts S' Ls' Hs' Ts' ws=0 then rsN (plO Ls Hs Ts Ts' ws (pdL S Ls Hs Ts S' Ls' Hs' Ts' ws)) else pbN S Ls Hs Ts S' Ls' Hs' Ts' ws
def plL (S:Int)(Ls:List LkT)(Hs:List HoT)(Ts:List (List Ru))(S':Int)(Ls':List LkT)(Hs':List HoT)(Ts':List (List Ru))(ws:List Wi):List (List Op8):=if pbN S Ls Hs Ts S' Ls' Hs' Ts' ws=0 then rsL (pdL S Ls Hs Ts S' Ls' Hs' Ts' ws) (plO Ls Hs Ts Ts' ws (pdL S Ls Hs Ts S' Ls' Hs' Ts' ws)) else []
theorem plan_any (S:Int)(v1 v2 v3:Value)(S':Int)(u1 u2 u3 v4:Value)(Ls:List LkT)(Hs:List HoT)(Ts:List (List Ru))(Ls':List LkT)(Hs':List HoT)(Ts':List (List Ru))(ws:List Wi)(w:World)
 (hN:NI w v1 v2 v3 Ls Hs Ts) (hM:NI w u1 u2 u3 Ls' Hs' Ts') (hw:GS wisE w v4 ws):
 Calls Tryz.prog 5 #[.agg #[.int .i64 S,v1,v2,v3],.agg #[.int .i64 S',u1,u2,u3],v4] w fun e w'=>∃v,e=.returned (.tuple #[v,noV (plN S Ls Hs Ts S' Ls' Hs' Ts' ws)])∧RS w' v (plL S Ls Hs Ts S' Ls' Hs' Ts' ws)∧Below w.heap.size w w':=by
 obtain⟨ao,n,cap,ao2,n2,cap2,ao3,n3,cap3,rfl,rfl,rfl⟩:=hN.form;obtain⟨bo,m,dap,bo2,m2,dap2,bo3,m3,dap3,rfl,rfl,rfl⟩:=hM.form;obtain⟨a4,n4,c4,rfl,_⟩:=hw.form;obtain⟨w1,hw1⟩:∃W,W=(w.alloc (Obj.cells #[.int .i64 S,.slice ao n cap,.slice ao2 n2 cap2,.slice ao3 n3 cap3] 28)).alloc (Obj.cells #[.int .i64 S',.slice bo m dap,.slice bo2 m2 dap2,.slice bo3 m3 dap3] 28):=⟨_,rfl⟩;have hb1:Below w.heap.size w w1:=by rw[hw1];exact ((Below.refl _ _).alloc (Nat.le_refl _) _).alloc (by simp) _
 have hnn:NN w1 w.heap.size S (.slice ao n cap) (.slice ao2 n2 cap2) (.slice ao3 n3 cap3) S' (.slice bo m dap) (.slice bo2 m2 dap2) (.slice bo3 m3 dap3):=by rw[hw1];exact nn_new w S _ _ _ S' _ _ _ 28
 have HNW:Hid (NI w1 (.slice ao n cap) (.slice ao2 n2 cap2) (.slice ao3 n3 cap3) Ls Hs Ts∧NI w1 (.slice bo m dap) (.slice bo2 m2 dap2) (.slice bo3 m3 dap3) Ls' Hs' Ts'∧GS wisE w1 (.slice a4 n4 c4) ws):=⟨hN.later hb1,hM.later hb1,hw.later hb1⟩;have HB1:Hid (Below w.heap.size w w1):=hb1;have HW1:Hid ((w.alloc (Obj.cells #[.int .i64 S,.slice ao n cap,.slice ao2 n2 cap2,.slice ao3 n3 cap3] 28)).alloc (Obj.cells #[.int .i64 S',.slice bo m dap,.slice bo2 m2 dap2,.slice bo3 m3 dap3] 28)=w1):=hw1.symm;obtain⟨D,hD⟩:∃D,D=pdL S Ls Hs Ts S' Ls' Hs' Ts' ws:=⟨_,rfl⟩;obtain⟨X,hX⟩:∃q,q=pbN S Ls Hs Ts S' Ls' Hs' Ts' ws:=⟨_,rfl⟩;have HPK:Hid (X=0→PlOK S Ls Hs Ts Ts' ws D):=fun h=>by
  rw[hD];exact (pd_ok (pb_pd (hX.symm.trans h)).1).1
 obtain⟨N,hNN⟩:∃q,q=plN S Ls Hs Ts S' Ls' Hs' Ts' ws:=⟨_,rfl⟩;have HN:Hid (N=if X=0 then rsN (plO Ls Hs Ts Ts' ws D) else X):=by rw[hNN,hX,hD];exact rfl
 obtain⟨L,hL⟩:∃q,q=plL S Ls Hs Ts S' Ls' Hs' Ts' ws:=⟨_,rfl⟩;have HL:Hid (L=if X=0 then rsL D (plO Ls Hs Ts Ts' ws D) else []):=by rw[hL,hX,hD];exact rfl
 rw[←hNN,←hL];have HD:Hid (pdL S Ls Hs Ts S' Ls' Hs' Ts' ws=D):=hD.symm;have HX:Hid (pbN S Ls Hs Ts S' Ls' Hs' Ts' ws=X):=hX.symm;have HAL:Hid (alS D<64):=by show _<_;rw[hD];exact al_lt pd_few.1
 obtain⟨⟨q0,q1,q2,q3⟩,r0,r1,r2,r3⟩:=hnn;clear hN hM hw hb1 hw1 hD hX hNN hL;go_enter Tryz.func5,Tryz.ntmps5;go_upto_region 1 with fail;rw[HW1.out]
 go_wp2_with fail
 refine (begin_any S (.slice ao n cap) (.slice ao2 n2 cap2) (.slice ao3 n3 cap3) S' (.slice bo m dap) (.slice bo2 m2 dap2) (.slice bo3 m3 dap3) (.slice a4 n4 c4) Ls Hs Ts Ls' Hs' Ts' ws w1 HNW.out.1 HNW.out.2.1 HNW.out.2.2 pd_few.1 pd_few.2).mono ?_;rintro e w2 ⟨t0,t1,t2,t3,t4,t5,t6,rfl,hOK,hNO,hb2⟩;rw[HX.out];rw[HX.out,HD.out] at hOK;rw[HX.out] at hNO;have HB2:Hid (Below w.heap.size w w2):=HB1.out.trans (hb2.mono HB1.out.size);by_cases hX0:X=0
 ·obtain⟨bm,rfl,rfl,rfl,rfl,rfl,rfl,rfl,hT⟩:=hOK hX0;rw[no_ok hX0];have HN2:Hid (N=rsN (plO Ls Hs Ts Ts' ws D)):=HN.out.trans (if_pos hX0);have HL2:Hid (L=rsL D (plO Ls Hs Ts Ts' ws D)):=HL.out.trans (if_pos hX0);have HP:Hid (PlOK S Ls Hs Ts Ts' ws D):=HPK.out hX0;obtain⟨w3,hw3⟩:∃W,w2.alloc (Obj.cells #[.int .i64 S,.slice ao n cap,.slice ao2 n2 cap2,.slice ao3 n3 cap3,.slice a4 n4 c4,.map (some bm),.int .i64 (alS D:Int)] 57)=W:=⟨_,rfl⟩;have hb3:Below w2.heap.size w2 w3:=by rw[←hw3];exact (Below.refl _ _).alloc (Nat.le_refl _) _
  have HB3:Hid (Below w.heap.size w w3):=HB2.out.trans (hb3.mono HB2.out.size);have htb:TkB w3 w2.heap.size S (.slice ao n cap) (.slice ao2 n2 cap2) (.slice ao3 n3 cap3) (.slice a4 n4 c4) (.map (some bm)) (alS D:Int):=by rw[←hw3];exact tkb_new w2 S _ _ _ _ _ _ 57
  have HT3:Hid (TskOK w3 (.slice ao n cap) (.slice ao2 n2 cap2) (.slice ao3 n3 cap3) (.slice a4 n4 c4) bm Ls Hs Ts ws D):=hT.later hb3;have HW3:Hid (w2.alloc (Obj.cells #[.int .i64 S,.slice ao n cap,.slice ao2 n2 cap2,.slice ao3 n3 cap3,.slice a4 n4 c4,.map (some bm),.int .i64 (alS D:Int)] 57)=w3):=hw3;obtain⟨x0,x1,x2,x3,x4,x5,x6,_⟩:=htb;clear hOK hNO hb2 hX0 hT hw3 hb3 q0 q1 q2 q3 r0 r1 r2 r3;go_upto_region 2 with fail;rw[HW3.out]
  go_wp2_with fail
  refine (rounds_fill S (.slice ao n cap) (.slice ao2 n2 cap2) (.slice ao3 n3 cap3) (.slice a4 n4 c4) bm (alS D) Ls Hs Ts Ts' ws D w3 HT3.out HP.out HAL.out).mono ?_;rintro e w4 ⟨v,rfl,hR,hb4⟩;have HR:Hid (RS w4 v L):=by rw[HL2.out];exact hR
  have HB4:Hid (Below w.heap.size w w4):=HB3.out.trans (hb4.mono HB3.out.size);obtain⟨er,her⟩:∃er,er=noV (rsN (roA (alS D) (fun done=>fiS (sfB Ls Hs Ts Ts' ws) (alS D) done 6) 0)):=⟨_,rfl⟩;rw[←her];have HER:Hid (er=noV N):=by rw[her,HN2.out];exact rfl
  clear hR hb4 her x0 x1 x2 x3 x4 x5 x6;go_wp2;refine bodyPost_ret (v:=.tuple #[v,er]) (by simp[results,Tryz.results5,go_sem, *]) rfl ⟨v,by rw[HER.out],HR.out,HB4.out⟩
 obtain⟨rfl,rfl,rfl,rfl,rfl,rfl,rfl⟩:=hNO hX0;rw[no_ne hX0];have HN2:Hid (N=X):=HN.out.trans (if_neg hX0);have HL2:Hid (L=[]):=HL.out.trans (if_neg hX0);have HX0:Hid (X≠0):=hX0;have HB3:Hid (Below w.heap.size w (w2.alloc (Obj.cells #[.int .i64 0,.slice none 0 0,.slice none 0 0,.slice none 0 0,.slice none 0 0,.map none,.int .i64 0] 57))):=HB2.out.alloc HB2.out.size _;clear hX0 hOK hNO hb2 q0 q1 q2 q3 r0 r1 r2 r3;go_wp2;refine bodyPost_ret (v:=.tuple #[.slice none 0 0,.iface 63 (.int .i64 X)]) (by simp[results,Tryz.results5,go_sem, *]) rfl ⟨.slice none 0 0,by rw[HN2.out,no_ne HX0.out],by rw[HL2.out];exact RS.nil _,HB3.out⟩
def mfN (S:Int)(Ls:List LkT)(Hs:List HoT)(Ts:List (List Ru))(o:List Op8)(l:List Wi):Int:=
 if cgN S Ls Hs Ts o=0 then (if (bsW Ls Hs Ts (caT Ts o) l Hs l.length).isNone then 0 else 9) else cgN S Ls Hs Ts o
theorem sf_mf {S:Int}{Ls:List LkT}{Hs:List HoT}{Ts:List (List Ru)}{o:List Op8}{l:List Wi}{N:Int}{p:Int×ByteArray×Int}(h:SfR S Ls Hs Ts o l N p)(h2:wsN S Ls Hs l=0):N=mfN S Ls Hs Ts o l:=by
 by_cases h1:cgN S Ls Hs Ts o=0
 ·rw[mfN,if_pos h1];exact sf_none h h1 h2
 rw[mfN,if_neg h1]
 rcases h with ⟨_,k2,_⟩ | ⟨k1,_,_,_⟩ | ⟨k1,_⟩
 ·exact k2
 ·exact absurd k1 h1
 exact absurd k1 h1
theorem mf_cg {S:Int}{Ls:List LkT}{Hs:List HoT}{Ts:List (List Ru)}{o:List Op8}{l:List Wi}(h:mfN S Ls Hs Ts o l=0):cgN S Ls Hs Ts o=0:=by
 unfold mfN at h;by_cases h1:cgN S Ls Hs Ts o=0
 ·exact h1
 rw[if_neg h1] at h;exact absurd h h1
def vtT (Ts:List (List Ru))(l:List (List Op8))(k:Nat):List (List Ru):=(l.take k).foldl caT Ts
theorem vt_0 (Ts:List (List Ru))(l:List (List Op8)):vtT Ts l 0=Ts:=rfl
theorem vt_next {Ts:List (List Ru)}{l:List (List Op8)}{k:Nat}{r:List Op8}(h:l[k]?=some r):vtT Ts l (k+1)=caT (vtT Ts l k) r:=by
 obtain⟨hk,e⟩:=List.getElem?_eq_some_iff.1 h;rw[vtT,List.take_succ_eq_append_getElem hk,List.foldl_append,e];rfl
def vfF (mt:Nat→Int):Nat→Nat
 | 0=>0
 | n+1=>if vfF mt n<n then vfF mt n else if mt n=0 then n+1 else n
theorem vf_le (mt:Nat→Int):∀n,vfF mt n≤n
 | 0=>Nat.le_refl _
 | n+1=>by
   rw[vfF];by_cases h:vfF mt n<n
   ·rw[if_pos h];omega
   rw[if_neg h];by_cases h2:mt n=0
   ·rw[if_pos h2];omega
   rw[if_neg h2];omega
theorem vf_ok {mt:Nat→Int}{n:Nat}(h:vfF mt n=n)(h0:mt n=0):vfF mt (n+1)=n+1:=by rw[vfF,if_neg (by omega),if_pos h0]
theorem vf_no {mt:Nat→Int}{k:Nat}(h:vfF mt k=k)(h0:mt k≠0):∀n,k<n→vfF mt n=k
 | 0,hn=>by omega
 | n+1,hn=>by
   by_cases e:k=n
   ·subst e;rw[vfF,if_neg (by omega),if_neg h0]
   have ih:=vf_no h h0 n (by omega);rw[vfF,if_pos (by omega),ih]
section
variable (S:Int)(Ls:List LkT)(Hs:List HoT)(Ts:List (List Ru))(S':Int)(Ls':List LkT)(Hs':List HoT)(Ts':List (List Ru))(ws:List Wi)(l:List (List Op8))
def vmN (k:Nat):Int:=mfN S Ls Hs (vtT Ts l k) (l.getD k []) ws
def vkN:Nat:=vfF (vmN S Ls Hs Ts ws l) l.length
def veE:Int:=if vkN S Ls Hs Ts ws l<l.length then vmN S Ls Hs Ts ws l (vkN S Ls Hs Ts ws l) else if (cdL (vtT Ts l l.length) Ts' Ts.length).length=0 then 0 else 6
def vrN:Int:=if pdN S Ls Hs Ts S' Ls' Hs' Ts' ws=0 then (if l.length≤20 then (if wiN S Ls Hs Ts ws=0 then veE S Ls Hs Ts Ts' ws l else wiN S Ls Hs Ts ws) else 4) else pdN S Ls Hs Ts S' Ls' Hs' Ts' ws
def vrK:Nat:=if pdN S Ls Hs Ts S' Ls' Hs' Ts' ws=0∧l.length≤20∧wiN S Ls Hs Ts ws=0 then vkN S Ls Hs Ts ws l else 0
end
section
variable {S:Int}{Ls:List LkT}{Hs:List HoT}{Ts:List (List Ru)}{S':Int}{Ls':List LkT}{Hs':List HoT}{Ts':List (List Ru)}{ws:List Wi}{l:List (List Op8)}
theorem vt_right (h:ntN S Ls Hs Ts=0):∀k,k≤l.length→vfF (vmN S Ls Hs Ts ws l) k=k→ntN S Ls Hs (vtT Ts l k)=0∧(vtT Ts l k).length=Ts.length
 | 0,_,_=>⟨h,rfl⟩
 | k+1,hk,hv=>by
   have h1:vfF (vmN S Ls Hs Ts ws l) k=k∧vmN S Ls Hs Ts ws l k=0:=by
    rw[vfF] at hv;by_cases c:vfF (vmN S Ls Hs Ts ws l) k<k
    ·rw[if_pos c] at hv;omega
    rw[if_neg c] at hv;have:=vf_le (vmN S Ls Hs Ts ws l) k;by_cases c2:vmN S Ls Hs Ts ws l k=0
    ·exact⟨by omega,c2⟩
    rw[if_neg c2] at hv;omega
   obtain⟨i1,i2⟩:=vt_right h k (by omega) h1.1;have hl:l[k]?=some l[k]:=List.getElem?_eq_getElem (by omega);have h2:=h1.2;unfold vmN at h2;have e:l.getD k []=l[k]:=by simp[List.getD,hl]
   rw[e] at h2;have hc:=mf_cg h2;rw[vt_next hl];exact⟨nt_ca i1 (cg_nt hc).2,by rw[ca_len];exact i2⟩
theorem vt_same (hP:pdN S Ls Hs Ts S' Ls' Hs' Ts' ws=0){Us:List (List Ru)}(hU:ntN S Ls Hs Us=0)(hl:Us.length=Ts.length):nwN S Ls Hs Us S' Ls' Hs' Ts'=0∧nsB S Ls Hs Us S' Ls' Hs' Ts'=decide ((cdL Us Ts' Ts.length).length=0):=by
 obtain⟨_,h1,h2,h3⟩:=pd_ok hP;have hb:=(nw_two h1).2;have hn:nwN S Ls Hs Us S' Ls' Hs' Ts'=0:=by unfold nwN;rw[if_pos hU];exact hb
 refine⟨hn,?_⟩;rw[nsB,hn,h2,etB,decide_eq_true (show Us.length=Ts'.length by omega),cs_cd (fun j hj=>nw_tw hn j hj (by omega)),hl];simp
end
section
variable {sf:Nat→Nat→Bool}{all:Nat}
def dnF (done:Nat)(cs:List Nat):Nat:=cs.foldl (fun d s=>d ||| s) done
theorem cr_at:∀{cs:List Nat} {done:Nat},CrO sf all done cs→dnF done cs=all∧∀k (h:k<cs.length),cs[k]∈ysL sf all (dnF done (cs.take k))
 | [],done,h=>⟨h,fun k hk=>absurd hk (by simp)⟩
 | s :: cs,done,h=>by
   obtain⟨h1,h2⟩:=h;obtain⟨i1,i2⟩:=cr_at h2;refine⟨i1,fun k hk=>?_⟩;cases k with
   | zero=>exact h1
   | succ k=>exact i2 k (by simpa using hk)
theorem dn_next {done:Nat}{cs:List Nat}{k:Nat}(h:k<cs.length):dnF done (cs.take (k+1))=dnF done (cs.take k) ||| cs[k]:=by
 rw[List.take_succ_eq_append_getElem h,dnF,dnF,List.foldl_append];rfl
theorem ys_off {done s:Nat}(h:s∈ysL sf all done):∀a,1≤a→a≤6→inS s a=true→inS done a=false:=fun a h1 h2 h3=>by
 have:=(ys_mem.1 h).2.2.1 a h1 h2 h3;rw[in_mn h1 h2] at this;simp only[Bool.and_eq_true,Bool.not_eq_true'] at this;exact this.2
end
theorem vf_all {mt:Nat→Int}:∀n,(∀k,k<n→mt k=0)→vfF mt n=n
 | 0,_=>rfl
 | n+1,h=>vf_ok (vf_all n fun k hk=>h k (by omega)) (h n (by omega))
section
variable {S:Int}{Ls:List LkT}{Hs:List HoT}{As Bs:List (List Ru)}{S':Int}{Ls':List LkT}{Hs':List HoT}{ws:List Wi}{D:List Op8}
theorem PlOK.mf0 (h:PlOK S Ls Hs As Bs ws D){done t:Nat}(hd:∀a,1≤a→a≤6→inS t a=true→inS done a=false)(hs:sfB Ls Hs As Bs ws done t=true):mfN S Ls Hs (nwT As Bs done) (rnL D t) ws=0:=by
 unfold sfB at hs;rw[mfN,if_pos (h.cg hd),(h.ca hd).2,if_pos hs]
theorem cr_vt (h:PlOK S Ls Hs As Bs ws D){cs:List Nat}(hc:CrO (sfB Ls Hs As Bs ws) (alS D) 0 cs):∀k,k≤cs.length→vtT As (cs.map (rnL D)) k=nwT As Bs (dnF 0 (cs.take k))
 | 0,_=>by rw[vt_0];exact (nw_0 As Bs).symm
 | k+1,hk=>by
   have hk':k<cs.length:=by omega
   have hm:=(cr_at hc).2 k hk';rw[vt_next (r:=rnL D cs[k]) (by rw[List.getElem?_map,List.getElem?_eq_getElem hk'];rfl),cr_vt h hc k (by omega),(h.ca (ys_off hm)).2,dn_next hk']
theorem cr_vm (h:PlOK S Ls Hs As Bs ws D){cs:List Nat}(hc:CrO (sfB Ls Hs As Bs ws) (alS D) 0 cs)(k:Nat)(hk:k<cs.length):vmN S Ls Hs As ws (cs.map (rnL D)) k=0:=by
 have hm:=(cr_at hc).2 k hk;have e:(cs.map (rnL D)).getD k []=rnL D cs[k]:=by simp[List.getD,hk]
 rw[vmN,e,cr_vt h hc k (by omega)];exact h.mf0 (ys_off hm) (ys_mem.1 hm).2.2.2
theorem al_same (h:PlOK S Ls Hs As Bs ws D):(cdL (nwT As Bs (alS D)) Bs As.length).length=0:=by
 have hj:∀j,j<As.length→twN ((nwT As Bs (alS D)).getD j []) (Bs.getD j [])=0∧smB ((nwT As Bs (alS D)).getD j []) (Bs.getD j [])=true:=by
  intro j hj;have h6:=h.len.2;rw[nw_get hj];by_cases e:inS (alS D) (j+1)=true
  ·rw[if_pos e];have:=al_diff (h.tw j);exact⟨this.2.2,this.2.1⟩
  rw[if_neg e];refine⟨h.tw j,?_⟩;rw[sm_df (h.tw j),decide_eq_true_eq];have hop:opA D ((j+1:Nat):Int)=[]:=by
   refine List.filter_eq_nil_iff.2 fun o ho hw=>e ?_
   exact (al_mem h.w (by omega) (by omega)).2 ⟨o,ho,eq_of_beq hw⟩
  rw[h.d,opA_cd,if_pos hj] at hop;unfold bkL ofS at hop;exact List.length_eq_zero_iff.2 (List.map_eq_nil_iff.1 hop)
 have h1:=cs_cd (As:=nwT As Bs (alS D)) (Bs:=Bs) (k:=As.length) fun j k=>(hj j k).1
 rw[cs_iff.2 fun j k=>(hj j k).2] at h1;exact of_decide_eq_true h1.symm
theorem ver_course (hp:pdN S Ls Hs As S' Ls' Hs' Bs ws=0)(hw:wiN S Ls Hs As ws=0)(hD:D=pdL S Ls Hs As S' Ls' Hs' Bs ws){cs:List Nat}(hc:CrO (sfB Ls Hs As Bs ws) (alS D) 0 cs):
 vrN S Ls Hs As S' Ls' Hs' Bs ws (cs.map (rnL D))=0∧vrK S Ls Hs As S' Ls' Hs' Bs ws (cs.map (rnL D))=cs.length:=by
 have h:PlOK S Ls Hs As Bs ws D:=by rw[hD];exact (pd_ok hp).1
 have hl:(cs.map (rnL D)).length=cs.length:=List.length_map ..;have h6:cs.length≤6:=Nat.le_trans (cr_len hc) (lf_le _ _);have hk:vkN S Ls Hs As ws (cs.map (rnL D))=cs.length:=by
  rw[vkN,hl];exact vf_all _ fun k hk=>cr_vm h hc k hk
 have he:veE S Ls Hs As Bs ws (cs.map (rnL D))=0:=by
  have h2:=cr_vt h hc cs.length (Nat.le_refl _);rw[List.take_length,(cr_at hc).1] at h2;rw[veE,hk,hl,if_neg (Nat.lt_irrefl _),h2,if_pos (al_same h)]
 constructor
 ·rw[vrN,if_pos hp,if_pos (by omega),if_pos hw,he]
 rw[vrK,if_pos ⟨hp,by omega,hw⟩,hk]
def leO (Ls:List LkT)(Hs:List HoT)(As Bs:List (List Ru))(ws:List Wi)(D:List Op8):Option (List Nat):=roA (alS D) (fun done=>(shC (sfB Ls Hs As Bs ws) (alS D) done).2) 0
def leN (S:Int)(Ls:List LkT)(Hs:List HoT)(Ts:List (List Ru))(S':Int)(Ls':List LkT)(Hs':List HoT)(Ts':List (List Ru))(ws:List Wi):Int:=if pbN S Ls Hs Ts S' Ls' Hs' Ts' ws=0 then rsN (leO Ls Hs Ts Ts' ws (pdL S Ls Hs Ts S' Ls' Hs' Ts' ws)) else pbN S Ls Hs Ts S' Ls' Hs' Ts' ws
def leL (S:Int)(Ls:List LkT)(Hs:List HoT)(Ts:List (List Ru))(S':Int)(Ls':List LkT)(Hs':List HoT)(Ts':List (List Ru))(ws:List Wi):List (List Op8):=if pbN S Ls Hs Ts S' Ls' Hs' Ts' ws=0 then rsL (pdL S Ls Hs Ts S' Ls' Hs' Ts' ws) (leO Ls Hs Ts Ts' ws (pdL S Ls Hs Ts S' Ls' Hs' Ts' ws)) else []
theorem rs_some {o:Option (List Nat)}(h:rsN o=0):∃cs,o=some cs:=by
 cases o with
 | none=>exact absurd h (by decide)
 | some cs=>exact⟨cs,rfl⟩
theorem pl_0 (h:plN S Ls Hs As S' Ls' Hs' Bs ws=0):pbN S Ls Hs As S' Ls' Hs' Bs ws=0∧∃cs,CrO (sfB Ls Hs As Bs ws) (alS (pdL S Ls Hs As S' Ls' Hs' Bs ws)) 0 cs∧plL S Ls Hs As S' Ls' Hs' Bs ws=cs.map (rnL (pdL S Ls Hs As S' Ls' Hs' Bs ws)):=by
 unfold plN at h;by_cases hb:pbN S Ls Hs As S' Ls' Hs' Bs ws=0
 ·rw[if_pos hb] at h;obtain⟨cs,hcs⟩:=rs_some h;refine⟨hb,cs,fi_course _ hcs,?_⟩;rw[plL,if_pos hb,hcs];rfl
 rw[if_neg hb] at h;exact absurd h hb
theorem pl_right (h:plN S Ls Hs As S' Ls' Hs' Bs ws=0):vrN S Ls Hs As S' Ls' Hs' Bs ws (plL S Ls Hs As S' Ls' Hs' Bs ws)=0∧vrK S Ls Hs As S' Ls' Hs' Bs ws (plL S Ls Hs As S' Ls' Hs' Bs ws)=(plL S Ls Hs As S' Ls' Hs' Bs ws).length:=by
 obtain⟨hb,cs,hc,e⟩:=pl_0 h;obtain⟨h1,h2⟩:=pb_pd hb;rw[e,List.length_map];exact ver_course h1 h2 rfl hc
theorem le_0 (hb:pbN S Ls Hs As S' Ls' Hs' Bs ws=0):let D:=pdL S Ls Hs As S' Ls' Hs' Bs ws
 (leN S Ls Hs As S' Ls' Hs' Bs ws=0∧(shC (sfB Ls Hs As Bs ws) (alS D) 0).1<7∧∃cs,CrO (sfB Ls Hs As Bs ws) (alS D) 0 cs∧cs.length=(shC (sfB Ls Hs As Bs ws) (alS D) 0).1∧leL S Ls Hs As S' Ls' Hs' Bs ws=cs.map (rnL D)) ∨
 (leN S Ls Hs As S' Ls' Hs' Bs ws=9∧7≤(shC (sfB Ls Hs As Bs ws) (alS D) 0).1∧leL S Ls Hs As S' Ls' Hs' Bs ws=[]):=by
 intro D;have ha:alS D<64:=al_lt pd_few.1;by_cases h7:(shC (sfB Ls Hs As Bs ws) (alS D) 0).1<7
 ·obtain⟨cs,h1,h2,h3⟩:=sh_course ha _ dn_0 rfl h7;have hO:leO Ls Hs As Bs ws D=some cs:=h1;refine .inl ⟨?_,h7,cs,h2,h3,?_⟩
  ·rw[leN,if_pos hb,hO];rfl
  rw[leL,if_pos hb,hO];rfl
 have h1:=sh_none (sf:=sfB Ls Hs As Bs ws) ha dn_0 (by omega);have hO:leO Ls Hs As Bs ws D=none:=h1;refine .inr ⟨?_,by omega,?_⟩
 ·rw[leN,if_pos hb,hO];rfl
 rw[leL,if_pos hb,hO];rfl
theorem le_right (h:leN S Ls Hs As S' Ls' Hs' Bs ws=0):vrN S Ls Hs As S' Ls' Hs' Bs ws (leL S Ls Hs As S' Ls' Hs' Bs ws)=0∧vrK S Ls Hs As S' Ls' Hs' Bs ws (leL S Ls Hs As S' Ls' Hs' Bs ws)=(leL S Ls Hs As S' Ls' Hs' Bs ws).length:=by
 have hb:pbN S Ls Hs As S' Ls' Hs' Bs ws=0:=by
  by_cases hb:pbN S Ls Hs As S' Ls' Hs' Bs ws=0
  ·exact hb
  unfold leN at h;rw[if_neg hb] at h;exact absurd h hb
 rcases le_0 hb with ⟨_,_,cs,h2,_,e⟩ | ⟨h2,_⟩
 ·obtain⟨h3,h4⟩:=pb_pd hb;rw[e,List.length_map];exact ver_course h3 h4 rfl h2
 rw[h2] at h;cases h
theorem le_few (h:plN S Ls Hs As S' Ls' Hs' Bs ws=0):leN S Ls Hs As S' Ls' Hs' Bs ws=0∧(leL S Ls Hs As S' Ls' Hs' Bs ws).length≤(plL S Ls Hs As S' Ls' Hs' Bs ws).length:=by
 obtain⟨hb,cs,hc,e⟩:=pl_0 h;have ha:alS (pdL S Ls Hs As S' Ls' Hs' Bs ws)<64:=al_lt pd_few.1;have hle:=sh_le ha dn_0 hc;have h6:cs.length≤6:=Nat.le_trans (cr_len hc) (lf_le _ _)
 rcases le_0 hb with ⟨h1,_,ds,_,h3,e2⟩ | ⟨_,h2,_⟩
 ·refine⟨h1,?_⟩;rw[e,e2,List.length_map,List.length_map,h3];exact hle
 omega
end
end
section
open Go.RowKit Go.Shelf
theorem kb_grown {bk:Nat}{W W':World}(h:Kb (fun x=>x≠bk) W W'):W.grownBy W' (some bk):=⟨h.os,h.tape,h.output,h.size,fun k hk hne=>h.block k hk (fun e=>hne (by rw[e]))⟩
theorem GS.offm {α:Type}{E:Enc α}{w:World}{x:SlT}{L:List α}(h:GS E w (slV x) L){b:Nat}{es:Array MapEntry}{cl:Nat}(hb:w.heap[b]?=some (.map es cl)):offB x b:=by
 obtain⟨ao,n,cap⟩:=x
 rcases h with ⟨ao',cap',e,rfl⟩ | ⟨g,o,cap',e,h1,h2,h3⟩
 ·simp only[slV,Value.slice.injEq] at e;exact .inl e.2.1
 simp only[slV,Value.slice.injEq] at e;obtain⟨rfl,rfl,rfl⟩:=e;by_cases h0:L.length=0
 ·exact .inl h0
 refine .inr fun a ha=>?_
 cases ha;have hp:=E.pos;have hl:=E.len L[0];have hc:=h3 0 (by omega) 0 _ (List.getElem?_eq_getElem (by rw[hl];exact hp));show g≠b;intro e;subst e;simp[World.cell?,hb] at hc
theorem OR.map {w w':World}{B bk:Nat}{v:Value}{vs:List SlT}{Rs:List (List Op8)}(h:OR w B v vs Rs)(hk:Kb (fun x=>x≠bk) w w')(hbk:bk<B){es:Array MapEntry}{cl:Nat}(hm:w.heap[bk]?=some (.map es cl)):OR w' B v vs Rs:=
 ⟨own_kb h.ov hk (fun g e=>by have:=(h.ov.lt g e).1;show g≠bk;omega),h.lv,fun i x L h1 h2=>⟨(h.rv i x L h1 h2).1.grown (kb_grown hk) (fun b e=>by cases e;exact (h.rv i x L h1 h2).1.offm hm),(h.rv i x L h1 h2).2⟩⟩
section
variable {w0:World}{bk:Nat}{S:Int}{v1 v2 v3 v4:Value}{bm all:Nat}{Ls:List LkT}{Hs:List HoT}{As Bs:List (List Ru)}{ws:List Wi}{D:List Op8}
theorem short_any (hT:TskOK w0 v1 v2 v3 v4 bm Ls Hs As ws D)(hP:PlOK S Ls Hs As Bs ws D)(ha:all<64)(h0:w0.heap.size≤bk):∀(n done:Nat),DnOK all done→lfN all done≤n→∀W,Below w0.heap.size w0 W→KN (sfB Ls Hs As Bs ws) all bk W →
 Calls Tryz.prog 19 #[.agg #[.int .i64 S,v1,v2,v3,v4,.map (some bm),.int .i64 (all:Int)],.int .i64 (done:Int),.map (some bk)] W fun e W'=>e=.returned (crV (shC (sfB Ls Hs As Bs ws) all done))∧KN (sfB Ls Hs As Bs ws) all bk W'∧Kb (fun x=>x≠bk) W W'
 | 0,done,hd,hn,W,hW,hK=>short_step hT hP ha h0 done hd (fun d _ hl=>absurd hl (by omega)) W hW hK
 | n+1,done,hd,hn,W,hW,hK=>short_step hT hP ha h0 done hd (fun d hd' hl W' hW' hK'=>short_any hT hP ha h0 n d hd' (by omega) W' hW' hK') W hW hK
structure LeC (bk gt gk:Nat)(S:Int)(v1 v2 v3 v4 v5:Value)(all:Nat)(W:World):Prop where
 tk:TkB W gt S v1 v2 v3 v4 v5 (all:Int)
 kc:W.cell? ⟨gk,0,none⟩=some (.map (some bk))
 g1:gt≠bk
 g2:gk≠bk
theorem LeC.kb {bk gt gk:Nat}{S:Int}{v1 v2 v3 v4 v5:Value}{all:Nat}{W W':World}(h:LeC bk gt gk S v1 v2 v3 v4 v5 all W)(hk:Kb (fun x=>x≠bk) W W'):LeC bk gt gk S v1 v2 v3 v4 v5 all W':=
 ⟨h.tk.kb hk h.g1,hk.at h.kc h.g2,h.g1,h.g2⟩
theorem least1_any (hT:TskOK w0 v1 v2 v3 v4 bm Ls Hs As ws D)(hP:PlOK S Ls Hs As Bs ws D)(ha:all<64)(h0:w0.heap.size≤bk){gt gk done:Nat}(hd:DnOK all done){W:World}(hL:LeC bk gt gk S v1 v2 v3 v4 (.map (some bm)) all W)(hW:Below w0.heap.size w0 W)(hK:KN (sfB Ls Hs As Bs ws) all bk W):
 Calls Tryz.prog 18 #[.int .i64 (done:Int),.pointer (some ⟨gt,0,none⟩),.pointer (some ⟨gk,0,none⟩)] W fun e W'=>e=.returned (.int .i64 ((shC (sfB Ls Hs As Bs ws) all done).2:Int))∧KN (sfB Ls Hs As Bs ws) all bk W'∧Kb (fun x=>x≠bk) W W':=by
 obtain⟨ao,n,cap,ao2,n2,cap2,ao3,n3,cap3,rfl,rfl,rfl⟩:=hT.n.form;obtain⟨a4,n4,c4,rfl,_⟩:=hT.w.form;have HS:Hid (Calls Tryz.prog 19 #[.agg #[.int .i64 S,.slice ao n cap,.slice ao2 n2 cap2,.slice ao3 n3 cap3,.slice a4 n4 c4,.map (some bm),.int .i64 (all:Int)],.int .i64 (done:Int),.map (some bk)] W fun e W'=>e=.returned (crV (shC (sfB Ls Hs As Bs ws) all done))∧KN (sfB Ls Hs As Bs ws) all bk W'∧Kb (fun x=>x≠bk) W W'):=short_any hT hP ha h0 6 done hd (lf_le _ _) W hW hK;obtain⟨r1,r2,hr⟩:∃r1 r2,shC (sfB Ls Hs As Bs ws) all done=(r1,r2):=⟨_,_,rfl⟩;rw[hr] at HS ⊢;obtain⟨⟨x0,x1,x2,x3,x4,x5,x6,_⟩,x7,_,_⟩:=hL
 generalize sfB Ls Hs As Bs ws=sf at *
 clear hT hP hW hK hr hd
 dsimp only
 go_enter Tryz.func18,Tryz.ntmps18
 go_wp2_with fail
 refine HS.out.mono ?_;rintro e W' ⟨rfl,h1,h2⟩;unfold crV
 dsimp only
 have HK:Hid (KN sf all bk W'∧Kb (fun x=>x≠bk) W W'):=⟨h1,h2⟩;have hfd:∀w,(Instr.field 75 (.agg #[.int .i64 (r1:Int),.int .i64 (r2:Int)]) 1).run Tryz.prog w=.ok (.int .i64 (r2:Int)) w:=fun w=>by kernel_rfl
 clear h1 h2 x0 x1 x2 x3 x4 x5 x6 x7;go_wp2;go_ret;exact⟨rfl,HK.out⟩
theorem rounds_least (hT:TskOK w0 v1 v2 v3 v4 bm Ls Hs As ws D)(hP:PlOK S Ls Hs As Bs ws D)(ha:all<64)(h0:w0.heap.size≤bk){gt gk:Nat}(w:World)(hL:LeC bk gt gk S v1 v2 v3 v4 (.map (some bm)) all w)(hW:Below w0.heap.size w0 w)(hK:KN (sfB Ls Hs As Bs ws) all bk w):
 Calls Tryz.prog 11 #[.agg #[.int .i64 S,v1,v2,v3,v4,.map (some bm),.int .i64 (all:Int)],.func (Fn.func 18) #[] #[.pointer (some ⟨gt,0,none⟩),.pointer (some ⟨gk,0,none⟩)]] w fun e w'=>∃v,e=.returned (.tuple #[v,noV (rsN (roA all (fun done=>(shC (sfB Ls Hs As Bs ws) all done).2) 0))])∧RS w' v (rsL D (roA all (fun done=>(shC (sfB Ls Hs As Bs ws) all done).2) 0))∧Kb (fun x=>x≠bk) w w':=by
 obtain⟨ao,n,cap,ao2,n2,cap2,ao3,n3,cap3,rfl,rfl,rfl⟩:=hT.n.form;obtain⟨a4,n4,c4,rfl,_⟩:=hT.w.form;have hbk:bk<w.heap.size:=hK.lt;obtain⟨w1,hw1⟩:∃W,W=w.alloc (Obj.cells #[.int .i64 S,.slice ao n cap,.slice ao2 n2 cap2,.slice ao3 n3 cap3,.slice a4 n4 c4,.map (some bm),.int .i64 (all:Int)] 57):=⟨_,rfl⟩;have hb1:Below w.heap.size w w1:=by rw[hw1];exact (Below.refl _ _).alloc (Nat.le_refl _) _
 have hk1:Kb (fun x=>x≠bk) w w1:=Kb.of_below hb1 fun _ h _=>h
 have hbx:TkB w1 w.heap.size S (.slice ao n cap) (.slice ao2 n2 cap2) (.slice ao3 n3 cap3) (.slice a4 n4 c4) (.map (some bm)) (all:Int):=by rw[hw1];exact tkb_new w S _ _ _ _ _ _ 57
 have HW1:Hid (w1=w.alloc (Obj.cells #[.int .i64 S,.slice ao n cap,.slice ao2 n2 cap2,.slice ao3 n3 cap3,.slice a4 n4 c4,.map (some bm),.int .i64 (all:Int)] 57)):=hw1;have HK1:Hid (Kb (fun x=>x≠bk) w w1∧bk<w.heap.size∧bk<w1.heap.size):=⟨hk1,hbk,Nat.lt_of_lt_of_le hbk hk1.size⟩;have HB0:Hid (∀W,Kb (fun x=>x≠bk) w1 W→Below w0.heap.size w0 W):=fun W h=>hW.trans ((hk1.trans h).below hW.size fun b hb=>by show b≠bk;omega)
 have HTK:Hid (∀W,Kb (fun x=>x≠bk) w1 W→TskOK W (.slice ao n cap) (.slice ao2 n2 cap2) (.slice ao3 n3 cap3) (.slice a4 n4 c4) bm Ls Hs As ws D):=fun W h=>hT.later (HB0.out W h)
 have HBX:Hid (∀W,Kb (fun x=>x≠bk) w1 W→TkB W w.heap.size S (.slice ao n cap) (.slice ao2 n2 cap2) (.slice ao3 n3 cap3) (.slice a4 n4 c4) (.map (some bm)) (all:Int)):=fun W h=>hbx.kb h (show _≠_ by omega)
 have HKN1:Hid (KN (sfB Ls Hs As Bs ws) all bk w1):=hK.kb (p:=fun _=>True) (Kb.of_below hb1 fun _ h _=>h) trivial;have HFEW:Hid (D.length≤144):=hP.few;obtain⟨nx,hnx⟩:∃f:Nat→Nat,f=fun done=>(shC (sfB Ls Hs As Bs ws) all done).2:=⟨_,rfl⟩
 have HOK:Hid (NxOK all nx):=by show NxOK all nx;rw[hnx];exact nx_sh
 have HFC:Hid (∀W (done:Nat),done<64→(∀a,1≤a→a≤6→inS done a=true→inS all a=true)→Kb (fun x=>x≠bk) w1 W→KN (sfB Ls Hs As Bs ws) all bk W→Calls Tryz.prog 18 #[.int .i64 (done:Int),.pointer (some ⟨gt,0,none⟩),.pointer (some ⟨gk,0,none⟩)] W fun e w'=>e=.returned (.int .i64 (nx done:Int))∧KN (sfB Ls Hs As Bs ws) all bk w'∧Kb (fun x=>x≠bk) W w'):=fun W done hd hs hW' hK'=>by
  rw[hnx];exact least1_any hT hP ha h0 ⟨hd,hs⟩ (hL.kb (hk1.trans hW')) (HB0.out W hW') hK'
 generalize sfB Ls Hs As Bs ws=sf at *
 rw[←hnx];obtain⟨RO,hRO⟩:∃R,R=roA all nx 0:=⟨_,rfl⟩;have HRO:Hid (roA all nx 0=RO):=hRO.symm;rw[←hRO];have HA:Hid (all<64):=ha;obtain⟨i0,hi,hz0,hz1,hz2⟩:=info_parts rd_info;have HI:Hid (Tryz.prog.info? 46=some i0∧i0.zero=some (.slice none 0 0)∧i0.size=slE.n∧i0.bytes=24):=⟨hi,hz0,hz1,hz2⟩;clear hT hb1 hbx hw1 hP ha hnx hRO hi hz0 hz1 hz2 hk1 hbk hL hW hK h0;go_enter Tryz.func11,Tryz.ntmps11;go_wp2;rw[←HW1.out]
 go_loopw [6,7] (fun v i wr=>∃(done:Nat) (L:List Nat) (vs:List SlT),done<64∧(∀a,1≤a→a≤6→inS done a=true→inS all a=true)∧L.length+lfN all done≤6∧RO=(roA all nx done).map (L++·)∧i=.int .i64 (done:Int)∧OR wr w1.heap.size v vs (L.map (rnL D))∧Kb (fun x=>x≠bk) w1 wr∧KN sf all bk wr) (fun _ i _=>lfN all (intOf i).toNat)
 case atStart=>exact⟨0,[],[],by omega,(fun a _ _ h=>absurd h (by rw[in_0];decide)),(by have:=lf_le all 0;simpa using this),by rw[←HRO.out];simp,rfl,or_nil _ _,Kb.refl _ _,HKN1.out⟩
 case round =>
  obtain⟨done,L,vs,hd,hsub,hlen,hro,rfl,hOR,hB,hKN⟩:=hrel;obtain⟨wi,hwi⟩:∃X,X=wr:=⟨_,rfl⟩;subst hwi;have HB:Hid (Kb (fun x=>x≠bk) w1 wi):=hB;have HKN:Hid (KN sf all bk wi):=hKN;have HOR:Hid (OR wi w1.heap.size u6 vs (L.map (rnL D))):=hOR;have HSUB:Hid (∀a,1≤a→a≤6→inS done a=true→inS all a=true):=hsub;have HLEN:Hid (L.length+lfN all done≤6):=hlen;have HRL:Hid (RO=(roA all nx done).map (L++·)):=hro;have HD:Hid (done<64):=hd;have c6:=(HBX.out wi hB).c6;clear hB hOR hsub hlen hro hd hKN;by_cases hda:done=all
  ·have hq:((done:Int)==(all:Int))=true:=by rw[hda];simp
   have HBW:Hid (Kb (fun x=>x≠bk) w wi):=HK1.out.1.trans HB.out;have HRE:Hid (RO=some L):=by
    have h:=HRL.out;rw[hda,ro_end] at h;show RO=some L;simpa using h
   clear hda;go_wp2;refine bodyPost_ret (v:=.tuple #[u6,.nilIface]) (by simp[results,Tryz.results11,go_sem, *]) rfl ⟨u6,by rw[HRE.out];rfl,by rw[HRE.out];exact HOR.out.rs,HBW.out⟩
  have hq:((done:Int)==(all:Int))=false:=by rw[beq_eq_false_iff_ne];omega
  have HNE:Hid (done≠all):=hda;clear hda
  go_wp2_with fail
  refine (HFC.out wi done HD.out HSUB.out HB.out HKN.out).mono ?_;rintro e w2 ⟨rfl,hkn2,hk2⟩;obtain⟨s,hs⟩:∃s,s=nx done:=⟨_,rfl⟩;rw[←hs];have HS:Hid (nx done=s):=hs.symm;have HS64:Hid (s<64):=by show _<_;rw[hs];exact (HOK.out done).1
  have HB12:Hid (Kb (fun x=>x≠bk) w1 w2):=HB.out.trans hk2;have HKN2:Hid (KN sf all bk w2):=hkn2;have HOR2:Hid (OR w2 w1.heap.size u6 vs (L.map (rnL D))):=by
   obtain⟨M,⟨es,cl,h1,_⟩,_⟩:=HKN.out;exact HOR.out.map hk2 HK1.out.2.2 h1
  clear hk2 hkn2 hs c6;by_cases h0:s=0
  ·have HRE:Hid (RO=none):=by
    have h:=HRL.out;rw[ro_none HNE.out (HS.out.trans h0)] at h;exact h
   have HBW:Hid (Kb (fun x=>x≠bk) w w2):=HK1.out.1.trans HB12.out;subst h0;go_wp2;refine bodyPost_ret (v:=.tuple #[.slice none 0 0,.iface 63 (.int .i64 9)]) (by simp[results,Tryz.results11,go_sem, *]) rfl ⟨.slice none 0 0,by rw[HRE.out];rfl,by rw[HRE.out];exact RS.nil _,HBW.out⟩
  have hq0:((s:Int)==0)=false:=by rw[beq_eq_false_iff_ne];omega
  have HN0:Hid (s≠0):=h0;have HRD:Hid (Calls Tryz.prog 24 #[.agg #[.int .i64 S,.slice ao n cap,.slice ao2 n2 cap2,.slice ao3 n3 cap3,.slice a4 n4 c4,.map (some bm),.int .i64 (all:Int)],.int .i64 (s:Int)] w2 fun e w'=>∃v,e=.returned v∧NO w' w2.heap.size v (rnL D s)∧Below w2.heap.size w2 w'):=pround_any S _ _ _ _ bm (all:Int) s Ls Hs As ws D w2 (HTK.out w2 HB12.out) HS64.out (by have:=HFEW.out;omega);obtain⟨x0,x1,x2,x3,x4,x5,x6,_⟩:=HBX.out w2 HB12.out;clear h0
  go_wp2_with fail
  refine HRD.out.mono ?_;rintro e w3 ⟨v,rfl,hNO,hb3⟩;obtain⟨⟨a5,n5,c5⟩,hv,hoff⟩:=hNO.sl2
  replace hv:v=.slice a5 n5 c5:=hv
  subst hv;have hal:Below w3.heap.size w3 (w3.alloc (Obj.cells #[.slice a5 n5 c5] 46)):=(Below.refl _ _).alloc (Nat.le_refl _) _;have h2a:Below w2.heap.size w2 (w3.alloc (Obj.cells #[.slice a5 n5 c5] 46)):=hb3.trans (hal.mono hb3.size);have HB4:Hid (Kb (fun x=>x≠bk) w1 (w3.alloc (Obj.cells #[.slice a5 n5 c5] 46))):=HB12.out.trans (Kb.of_below h2a fun _ h _=>h);have HKN4:Hid (KN sf all bk (w3.alloc (Obj.cells #[.slice a5 n5 c5] 46))):=HKN2.out.kb (p:=fun _=>True) (Kb.of_below h2a fun _ h _=>h) trivial;have HOR4:Hid (OR (w3.alloc (Obj.cells #[.slice a5 n5 c5] 46)) w1.heap.size u6 vs (L.map (rnL D))):=HOR2.out.later h2a;have HGX:Hid (GS opE (w3.alloc (Obj.cells #[.slice a5 n5 c5] 46)) (slV (a5,n5,c5)) (rnL D s)):=(hNO.later hal).gs;have HOX:Hid (∀b,u6.ownBlock=some b→offB (a5,n5,c5) b):=fun b hb=>hoff b (HOR2.out.ov.lt b hb).2
  have HVA:Hid (VAt (w3.alloc (Obj.cells #[.slice a5 n5 c5] 46)) w3.heap.size 0 (slE.c (a5,n5,c5))):=vat_new w3 [.slice a5 n5 c5] 46;have HV6:Hid (vs.length≤6):=by
   have h1:=HOR.out.lv;have h2:=HLEN.out;rw[List.length_map] at h1;show _≤_;omega
  have HL1:Hid (vs.length+1≤maxLen):=by have:=HV6.out;show _≤_;unfold maxLen;omega
  have HL2:Hid ((vs.length+1)*24≤140737488355328):=by have:=HV6.out;show _≤_;omega
  clear hNO hb3 hoff hal h2a x0 x1 x2 x3 x4 x5 x6
  go_wp2_with (at_builtin;refine wpList_append_blk (E:=slE) _ rfl _ _ 40 46 rfl Tryz.underlying40 i0 (.slice none 0 0) 24 HI.out.1 HI.out.2.1 HI.out.2.2.1 HI.out.2.2.2 rfl w1.heap.size u6 rfl vs HOR4.out.ov w3.heap.size 0 1 rfl (a5,n5,c5) HVA.out HL1.out HL2.out HB4.out.size ?_)
  intro v5 w5 ho5 hg5 hl5;have HOR5:Hid (OR w5 w1.heap.size v5 (vs++[(a5,n5,c5)]) ((L++[s]).map (rnL D))):=by
   rw[List.map_append];exact HOR4.out.push HGX.out HOX.out hg5 (by rw[List.length_append];exact ho5) (by simpa using hl5)
  have HKG:Hid (∀p:Nat→Prop,(∀b,u6.ownBlock=some b→¬p b)→Kb p (w3.alloc (Obj.cells #[.slice a5 n5 c5] 46)) w5):=fun p hp=>(Kb.refl _ _).grown hg5 fun r e _=>hp r e
  have hrow:∀b,u6.ownBlock=some b→w1.heap.size≤b:=fun b hb=>(HOR2.out.ov.lt b hb).1
  have HB5:Hid (Kb (fun x=>x≠bk) w1 w5):=by
   have h2:=HKG.out (fun x=>x<w1.heap.size) fun b e hx=>by have:=hrow b e;omega
   have h4:=HB4.out;exact⟨h2.os.trans h4.os,h2.tape.trans h4.tape,h2.output.trans h4.output,Nat.le_trans h4.size h2.size,fun k hk hx=>(h2.block k (Nat.lt_of_lt_of_le hk h4.size) hk).trans (h4.block k hk hx)⟩
  have HKN5:Hid (KN sf all bk w5):=HKN4.out.kb (HKG.out (fun x=>x=bk) fun b e hx=>by have:=hrow b e;have:=HK1.out.2.2;omega) rfl;obtain⟨X,hX⟩:∃X,X=done ||| s:=⟨_,rfl⟩
  have hor:bits .or .i64 (done:Int) (s:Int)=(X:Int):=by rw[hX];exact bits_or HD.out HS64.out
  have HX:Hid (X=done ||| s):=hX;clear ho5 hg5 hl5 hX hrow;go_wp2;go_roundw
  case rel =>
   have hin:∀a,1≤a→a≤6→inS s a=true→inS (mnS all done) a=true:=fun a h1 h2 h3=>(HOK.out done).2 a h1 h2 (by rw[HS.out];exact h3)
   have hless:=lf_less (all:=all) (done:=done) HS64.out HN0.out hin;refine⟨X,L++[s],vs++[(a5,n5,c5)],by rw[HX.out];exact or_lt HD.out HS64.out,fun a h1 h2 h3=>?_,?_,?_,rfl,HOR5.out,HB5.out,HKN5.out⟩
   ·rw[HX.out,in_or,Bool.or_eq_true] at h3
    rcases h3 with h3 | h3
    ·exact HSUB.out a h1 h2 h3
    have h4:=hin a h1 h2 h3;rw[in_mn h1 h2] at h4;simp only[Bool.and_eq_true] at h4;exact h4.1
   ·have:=HLEN.out;rw[List.length_append,HX.out];simp only[List.length_cons,List.length_nil];omega
   rw[HRL.out,ro_step HOK.out HA.out HD.out HSUB.out HNE.out (by rw[HS.out];exact HN0.out),HS.out,HX.out,Option.map_map]
   congr 1
   funext l
   simp
  case measure =>
   have hin:∀a,1≤a→a≤6→inS s a=true→inS (mnS all done) a=true:=fun a h1 h2 h3=>(HOK.out done).2 a h1 h2 (by rw[HS.out];exact h3)
   have hless:=lf_less (all:=all) (done:=done) HS64.out HN0.out hin;simp only[intOf,Int.toNat_natCast];rw[HX.out];exact hless
end
theorem kn_new (sf:Nat→Nat→Bool)(all:Nat)(W:World):KN sf all W.heap.size (W.alloc (.map #[] 0)):=⟨[],mat_new setKey crV W,fun d _ c hc=>by cases hc⟩
theorem least_any (S:Int)(v1 v2 v3:Value)(S':Int)(u1 u2 u3 v4:Value)(Ls:List LkT)(Hs:List HoT)(Ts:List (List Ru))(Ls':List LkT)(Hs':List HoT)(Ts':List (List Ru))(ws:List Wi)(w:World)
 (hN:NI w v1 v2 v3 Ls Hs Ts) (hM:NI w u1 u2 u3 Ls' Hs' Ts') (hw:GS wisE w v4 ws):
 Calls Tryz.prog 7 #[.agg #[.int .i64 S,v1,v2,v3],.agg #[.int .i64 S',u1,u2,u3],v4] w fun e w'=>∃v,e=.returned (.tuple #[v,noV (leN S Ls Hs Ts S' Ls' Hs' Ts' ws)])∧RS w' v (leL S Ls Hs Ts S' Ls' Hs' Ts' ws)∧Below w.heap.size w w':=by
 obtain⟨ao,n,cap,ao2,n2,cap2,ao3,n3,cap3,rfl,rfl,rfl⟩:=hN.form;obtain⟨bo,m,dap,bo2,m2,dap2,bo3,m3,dap3,rfl,rfl,rfl⟩:=hM.form;obtain⟨a4,n4,c4,rfl,_⟩:=hw.form;obtain⟨w1,hw1⟩:∃W,W=(w.alloc (Obj.cells #[.int .i64 S,.slice ao n cap,.slice ao2 n2 cap2,.slice ao3 n3 cap3] 28)).alloc (Obj.cells #[.int .i64 S',.slice bo m dap,.slice bo2 m2 dap2,.slice bo3 m3 dap3] 28):=⟨_,rfl⟩;have hb1:Below w.heap.size w w1:=by rw[hw1];exact ((Below.refl _ _).alloc (Nat.le_refl _) _).alloc (by simp) _
 have hnn:NN w1 w.heap.size S (.slice ao n cap) (.slice ao2 n2 cap2) (.slice ao3 n3 cap3) S' (.slice bo m dap) (.slice bo2 m2 dap2) (.slice bo3 m3 dap3):=by rw[hw1];exact nn_new w S _ _ _ S' _ _ _ 28
 have HNW:Hid (NI w1 (.slice ao n cap) (.slice ao2 n2 cap2) (.slice ao3 n3 cap3) Ls Hs Ts∧NI w1 (.slice bo m dap) (.slice bo2 m2 dap2) (.slice bo3 m3 dap3) Ls' Hs' Ts'∧GS wisE w1 (.slice a4 n4 c4) ws):=⟨hN.later hb1,hM.later hb1,hw.later hb1⟩;have HB1:Hid (Below w.heap.size w w1):=hb1;have HW1:Hid ((w.alloc (Obj.cells #[.int .i64 S,.slice ao n cap,.slice ao2 n2 cap2,.slice ao3 n3 cap3] 28)).alloc (Obj.cells #[.int .i64 S',.slice bo m dap,.slice bo2 m2 dap2,.slice bo3 m3 dap3] 28)=w1):=hw1.symm;obtain⟨D,hD⟩:∃D,D=pdL S Ls Hs Ts S' Ls' Hs' Ts' ws:=⟨_,rfl⟩;obtain⟨X,hX⟩:∃q,q=pbN S Ls Hs Ts S' Ls' Hs' Ts' ws:=⟨_,rfl⟩;have HPK:Hid (X=0→PlOK S Ls Hs Ts Ts' ws D):=fun h=>by
  rw[hD];exact (pd_ok (pb_pd (hX.symm.trans h)).1).1
 obtain⟨N,hNN⟩:∃q,q=leN S Ls Hs Ts S' Ls' Hs' Ts' ws:=⟨_,rfl⟩;have HN:Hid (N=if X=0 then rsN (leO Ls Hs Ts Ts' ws D) else X):=by rw[hNN,hX,hD];exact rfl
 obtain⟨L,hL⟩:∃q,q=leL S Ls Hs Ts S' Ls' Hs' Ts' ws:=⟨_,rfl⟩;have HL:Hid (L=if X=0 then rsL D (leO Ls Hs Ts Ts' ws D) else []):=by rw[hL,hX,hD];exact rfl
 rw[←hNN,←hL];have HD:Hid (pdL S Ls Hs Ts S' Ls' Hs' Ts' ws=D):=hD.symm;have HX:Hid (pbN S Ls Hs Ts S' Ls' Hs' Ts' ws=X):=hX.symm;have HAL:Hid (alS D<64):=by show _<_;rw[hD];exact al_lt pd_few.1
 obtain⟨⟨q0,q1,q2,q3⟩,r0,r1,r2,r3⟩:=hnn;clear hN hM hw hb1 hw1 hD hX hNN hL;go_enter Tryz.func7,Tryz.ntmps7;go_upto_region 1 with fail;rw[HW1.out]
 go_wp2_with fail
 refine (begin_any S (.slice ao n cap) (.slice ao2 n2 cap2) (.slice ao3 n3 cap3) S' (.slice bo m dap) (.slice bo2 m2 dap2) (.slice bo3 m3 dap3) (.slice a4 n4 c4) Ls Hs Ts Ls' Hs' Ts' ws w1 HNW.out.1 HNW.out.2.1 HNW.out.2.2 pd_few.1 pd_few.2).mono ?_;rintro e w2 ⟨t0,t1,t2,t3,t4,t5,t6,rfl,hOK,hNO,hb2⟩;rw[HX.out];rw[HX.out,HD.out] at hOK;rw[HX.out] at hNO;have HB2:Hid (Below w.heap.size w w2):=HB1.out.trans (hb2.mono HB1.out.size);by_cases hX0:X=0
 ·obtain⟨bm,rfl,rfl,rfl,rfl,rfl,rfl,rfl,hT⟩:=hOK hX0;rw[no_ok hX0];have HN2:Hid (N=rsN (leO Ls Hs Ts Ts' ws D)):=HN.out.trans (if_pos hX0);have HL2:Hid (L=rsL D (leO Ls Hs Ts Ts' ws D)):=HL.out.trans (if_pos hX0);have HP:Hid (PlOK S Ls Hs Ts Ts' ws D):=HPK.out hX0;have HT2:Hid (TskOK w2 (.slice ao n cap) (.slice ao2 n2 cap2) (.slice ao3 n3 cap3) (.slice a4 n4 c4) bm Ls Hs Ts ws D):=hT;obtain⟨w3,hw3⟩:∃W,w2.alloc (Obj.cells #[.int .i64 S,.slice ao n cap,.slice ao2 n2 cap2,.slice ao3 n3 cap3,.slice a4 n4 c4,.map (some bm),.int .i64 (alS D:Int)] 57)=W:=⟨_,rfl⟩;have hb3:Below w2.heap.size w2 w3:=by rw[←hw3];exact (Below.refl _ _).alloc (Nat.le_refl _) _
  have hs3:w3.heap.size=w2.heap.size+1:=by rw[←hw3];simp
  have htb:TkB w3 w2.heap.size S (.slice ao n cap) (.slice ao2 n2 cap2) (.slice ao3 n3 cap3) (.slice a4 n4 c4) (.map (some bm)) (alS D:Int):=by rw[←hw3];exact tkb_new w2 S _ _ _ _ _ _ 57
  have HW3:Hid (w2.alloc (Obj.cells #[.int .i64 S,.slice ao n cap,.slice ao2 n2 cap2,.slice ao3 n3 cap3,.slice a4 n4 c4,.map (some bm),.int .i64 (alS D:Int)] 57)=w3):=hw3;obtain⟨bk,hbk⟩:∃q,w3.heap.size=q:=⟨_,rfl⟩;obtain⟨w4,hw4⟩:∃W,(w3.alloc (.map #[] 0)).alloc (Obj.cells #[.map (some bk)] 73)=W:=⟨_,rfl⟩;have hbm:Below w3.heap.size w3 (w3.alloc (.map #[] 0)):=(Below.refl _ _).alloc (Nat.le_refl _) _;have hsm:(w3.alloc (.map #[] 0)).heap.size=bk+1:=by rw[←hbk];simp
  have hbc:Below (w3.alloc (.map #[] 0)).heap.size (w3.alloc (.map #[] 0)) w4:=by rw[←hw4];exact (Below.refl _ _).alloc (Nat.le_refl _) _
  have hb34:Below w3.heap.size w3 w4:=hbm.trans (hbc.mono (by simp));have HBK:Hid (w3.heap.size=bk):=hbk;have HW4:Hid ((w3.alloc (.map #[] 0)).alloc (Obj.cells #[.map (some bk)] 73)=w4):=hw4;have HLC:Hid (LeC bk w2.heap.size (bk+1) S (.slice ao n cap) (.slice ao2 n2 cap2) (.slice ao3 n3 cap3) (.slice a4 n4 c4) (.map (some bm)) (alS D) w4):=by
   refine⟨htb.later hb34,?_,by omega,by omega⟩;rw[←hw4,←hsm];simp
  have HB24:Hid (Below w2.heap.size w2 w4):=hb3.trans (hb34.mono hb3.size);have HK4:Hid (KN (sfB Ls Hs Ts Ts' ws) (alS D) bk w4):=by
   have h:=kn_new (sfB Ls Hs Ts Ts' ws) (alS D) w3;rw[hbk] at h;exact h.kb (p:=fun _=>True) (Kb.of_below hbc fun _ h _=>h) trivial
  have HBL:Hid (w2.heap.size≤bk∧w.heap.size≤bk):=⟨by omega,by have:=HB2.out.size;omega⟩;obtain⟨x0,x1,x2,x3,x4,x5,x6,_⟩:=HLC.out.tk;have hmk:=run_makeMap (P:=Tryz.prog) 73 w3;clear hOK hNO hb2 hX0 hT hw3 hb3 q0 q1 q2 q3 r0 r1 r2 r3 hs3 htb hbk hw4 hbm hsm hbc hb34;go_upto_region 4 with fail;rw[HW3.out];go_upto_region 5 with fail;rw[HBK.out,HW4.out]
  go_wp2_with fail
  refine (rounds_least HT2.out HP.out HAL.out HBL.out.1 w4 HLC.out HB24.out HK4.out).mono ?_;rintro e w5 ⟨v,rfl,hR,hk5⟩;have HR:Hid (RS w5 v L):=by rw[HL2.out];exact hR
  have HB5:Hid (Below w.heap.size w w5):=(HB2.out.trans (HB24.out.mono HB2.out.size)).trans (hk5.below (Nat.le_trans HB2.out.size HB24.out.size) fun b hb=>by show b≠bk;have:=HBL.out.2;omega);obtain⟨er,her⟩:∃er,er=noV (rsN (roA (alS D) (fun done=>(shC (sfB Ls Hs Ts Ts' ws) (alS D) done).2) 0)):=⟨_,rfl⟩;rw[←her];have HER:Hid (er=noV N):=by rw[her,HN2.out];exact rfl
  clear hR hk5 her x0 x1 x2 x3 x4 x5 x6 hmk;go_wp2;refine bodyPost_ret (v:=.tuple #[v,er]) (by simp[results,Tryz.results7,go_sem, *]) rfl ⟨v,by rw[HER.out],HR.out,HB5.out⟩
 obtain⟨rfl,rfl,rfl,rfl,rfl,rfl,rfl⟩:=hNO hX0;rw[no_ne hX0];have HN2:Hid (N=X):=HN.out.trans (if_neg hX0);have HL2:Hid (L=[]):=HL.out.trans (if_neg hX0);have HX0:Hid (X≠0):=hX0;have HB3:Hid (Below w.heap.size w (w2.alloc (Obj.cells #[.int .i64 0,.slice none 0 0,.slice none 0 0,.slice none 0 0,.slice none 0 0,.map none,.int .i64 0] 57))):=HB2.out.alloc HB2.out.size _;clear hX0 hOK hNO hb2 q0 q1 q2 q3 r0 r1 r2 r3;go_wp2;refine bodyPost_ret (v:=.tuple #[.slice none 0 0,.iface 63 (.int .i64 X)]) (by simp[results,Tryz.results7,go_sem, *]) rfl ⟨.slice none 0 0,by rw[HN2.out,no_ne HX0.out],by rw[HL2.out];exact RS.nil _,HB3.out⟩
end
section
open Go.RowKit
structure NBx (W:World)(g:Nat)(S:Int)(v1 v2 v3:Value)(Ls:List LkT)(Hs:List HoT)(Ts:List (List Ru)):Prop where
 b:BN W g S v1 v2 v3 Ls Hs Ts
 f:∀i,W.frozen? ⟨g,i,none⟩=false
theorem NBx.later {W W':World}{g:Nat}{S:Int}{v1 v2 v3:Value}{Ls:List LkT}{Hs:List HoT}{Ts:List (List Ru)}(h:NBx W g S v1 v2 v3 Ls Hs Ts)(hb:Below W.heap.size W W'):NBx W' g S v1 v2 v3 Ls Hs Ts:=⟨h.b.later hb,frozLater h.f h.b.c.1 hb⟩
theorem nbx_new {W:World}{v1 v2 v3:Value}{Ls:List LkT}{Hs:List HoT}{Ts:List (List Ru)}(h:NI W v1 v2 v3 Ls Hs Ts)(S:Int)(t:TypeId):NBx (W.alloc (Obj.cells #[.int .i64 S,v1,v2,v3] t)) W.heap.size S v1 v2 v3 Ls Hs Ts:=⟨ni_bn h S t,fun i=>by simp⟩
theorem nbx_put {W:World}{B g:Nat}{S:Int}{a1 a2 a3:Value}{Ls:List LkT}{Hs:List HoT}{Ts Us:List (List Ru)}{v1 v2 v3:Value}(h:NA W B v1 v2 v3 Ls Hs Ts)(hg:g<B)(k:NBx W g S a1 a2 a3 Ls Hs Us):NBx (put4 W g (.int .i64 S) v1 v2 v3) g S v1 v2 v3 Ls Hs Ts:=by
 have h2:=(h.put (grown_put4 W g (.int .i64 S) v1 v2 v3) hg).gs;exact⟨⟨put4_cells k.b.c,h2.1,h2.2.1,h2.2.2⟩,fun i=>by unfold put4;rw[frozSet,frozSet,frozSet,frozSet];exact k.f i⟩
theorem verify_any (S:Int)(v1 v2 v3:Value)(S':Int)(u1 u2 u3 v4 v5:Value)(Ls:List LkT)(Hs:List HoT)(Ts:List (List Ru))(Ls':List LkT)(Hs':List HoT)(Ts':List (List Ru))(ws:List Wi)(l:List (List Op8))(w:World)
 (hN:NI w v1 v2 v3 Ls Hs Ts) (hM:NI w u1 u2 u3 Ls' Hs' Ts') (hw:GS wisE w v4 ws) (hl:RS w v5 l):
 Calls Tryz.prog 6 #[.agg #[.int .i64 S,v1,v2,v3],.agg #[.int .i64 S',u1,u2,u3],v4,v5] w fun e w'=>e=.returned (.tuple #[.int .i64 (vrK S Ls Hs Ts S' Ls' Hs' Ts' ws l:Int),noV (vrN S Ls Hs Ts S' Ls' Hs' Ts' ws l)])∧Below w.heap.size w w':=by
 obtain⟨ao,n,cap,ao2,n2,cap2,ao3,n3,cap3,rfl,rfl,rfl⟩:=hN.form;obtain⟨bo,m,dap,bo2,m2,dap2,bo3,m3,dap3,rfl,rfl,rfl⟩:=hM.form;obtain⟨a4,n4,c4,rfl,_⟩:=hw.form;obtain⟨a5,n5,c5,rfl,hl5,hm5,hc5⟩:=hl.form;have n63:n5≤9223372036854775807:=by unfold maxLen at hm5;omega
 obtain⟨w1,hw1⟩:∃W,W=(w.alloc (Obj.cells #[.int .i64 S,.slice ao n cap,.slice ao2 n2 cap2,.slice ao3 n3 cap3] 28)).alloc (Obj.cells #[.int .i64 S',.slice bo m dap,.slice bo2 m2 dap2,.slice bo3 m3 dap3] 28):=⟨_,rfl⟩;have hb1:Below w.heap.size w w1:=by rw[hw1];exact ((Below.refl _ _).alloc (Nat.le_refl _) _).alloc (by simp) _
 have hnn:NN w1 w.heap.size S (.slice ao n cap) (.slice ao2 n2 cap2) (.slice ao3 n3 cap3) S' (.slice bo m dap) (.slice bo2 m2 dap2) (.slice bo3 m3 dap3):=by rw[hw1];exact nn_new w S _ _ _ S' _ _ _ 28
 have HNW:Hid (∀W,Below w1.heap.size w1 W→NI W (.slice ao n cap) (.slice ao2 n2 cap2) (.slice ao3 n3 cap3) Ls Hs Ts∧NI W (.slice bo m dap) (.slice bo2 m2 dap2) (.slice bo3 m3 dap3) Ls' Hs' Ts'∧GS wisE W (.slice a4 n4 c4) ws∧RS W (.slice a5 n5 c5) l):=fun W h=>⟨(hN.later hb1).later h,(hM.later hb1).later h,(hw.later hb1).later h,(hl.later hb1).later h⟩
 have HNB:Hid (∀W,Below w1.heap.size w1 W→NeBox W w.heap.size S (.slice ao n cap) (.slice ao2 n2 cap2) (.slice ao3 n3 cap3)∧NeBox W (w.heap.size+1) S' (.slice bo m dap) (.slice bo2 m2 dap2) (.slice bo3 m3 dap3)):=fun W h=>⟨hnn.1.later h,hnn.2.later h⟩
 have HB1:Hid (Below w.heap.size w w1):=hb1;have HW1:Hid ((w.alloc (Obj.cells #[.int .i64 S,.slice ao n cap,.slice ao2 n2 cap2,.slice ao3 n3 cap3] 28)).alloc (Obj.cells #[.int .i64 S',.slice bo m dap,.slice bo2 m2 dap2,.slice bo3 m3 dap3] 28)=w1):=hw1.symm;have HLN:Hid (l.length=n5):=hl5;obtain⟨X,hX⟩:∃q,q=pdN S Ls Hs Ts S' Ls' Hs' Ts' ws:=⟨_,rfl⟩;have HX:Hid (pdN S Ls Hs Ts S' Ls' Hs' Ts' ws=X):=hX.symm;obtain⟨U,hU⟩:∃q,q=wiN S Ls Hs Ts ws:=⟨_,rfl⟩;have HU:Hid (wiN S Ls Hs Ts ws=U):=hU.symm;obtain⟨N,hNN⟩:∃q,q=vrN S Ls Hs Ts S' Ls' Hs' Ts' ws l:=⟨_,rfl⟩;have HN:Hid (N=if X=0 then (if n5≤20 then (if U=0 then veE S Ls Hs Ts Ts' ws l else U) else 4) else X):=by rw[hNN,vrN,hX,hU,hl5];exact rfl
 obtain⟨K,hKK⟩:∃q,q=vrK S Ls Hs Ts S' Ls' Hs' Ts' ws l:=⟨_,rfl⟩;have HK:Hid (K=if X=0∧n5≤20∧U=0 then vkN S Ls Hs Ts ws l else 0):=by rw[hKK,vrK,hX,hU,hl5];exact rfl
 rw[←hNN,←hKK];obtain⟨P1,hP1⟩:∃q,q=(wiV S Ls Hs Ts ws).1:=⟨_,rfl⟩;obtain⟨P2,hP2⟩:∃q,q=(wiV S Ls Hs Ts ws).2.1:=⟨_,rfl⟩;obtain⟨P3,hP3⟩:∃q,q=(wiV S Ls Hs Ts ws).2.2:=⟨_,rfl⟩;have HPV:Hid ((wiV S Ls Hs Ts ws).1=P1∧(wiV S Ls Hs Ts ws).2.1=P2∧(wiV S Ls Hs Ts ws).2.2=P3):=⟨hP1.symm,hP2.symm,hP3.symm⟩;clear hN hM hw hl hb1 hnn hw1 hX hU hNN hKK hP1 hP2 hP3 hl5 hm5 hc5;go_enter Tryz.func6,Tryz.ntmps6;go_upto_region 1 with fail;rw[HW1.out];clear HW1;obtain⟨⟨q0,q1,q2,q3⟩,r0,r1,r2,r3⟩:=HNB.out w1 (Below.refl _ _)
 go_wp2_with fail
 refine (pdiff_any S _ _ _ S' _ _ _ _ Ls Hs Ts Ls' Hs' Ts' ws w1 (HNW.out _ (Below.refl _ _)).1 (HNW.out _ (Below.refl _ _)).2.1 (HNW.out _ (Below.refl _ _)).2.2.1).mono ?_;rintro e w2 ⟨v,rfl,hNO,hb2⟩;rw[HX.out];have HB2:Hid (Below w1.heap.size w1 w2):=hb2;clear hNO hb2 q0 q1 q2 q3 r0 r1 r2 r3;by_cases hX0:X=0
 ·have HX0:Hid (pdN S Ls Hs Ts S' Ls' Hs' Ts' ws=0):=HX.out.trans hX0;have HNA:Hid (N=if n5≤20 then (if U=0 then veE S Ls Hs Ts Ts' ws l else U) else 4):=HN.out.trans (if_pos hX0);have HKA:Hid ((n5≤20→U=0→K=vkN S Ls Hs Ts ws l)∧(¬(n5≤20∧U=0)→K=0)):=⟨fun h1 h2=>HK.out.trans (if_pos ⟨hX0,h1,h2⟩),fun h=>HK.out.trans (if_neg (fun x=>h x.2))⟩;clear HN HK;subst hX0;rw[no_ok rfl];by_cases h20:n5≤20
  ·have e20:decide ((20:Int)<(n5:Int))=false:=by simp;omega
   obtain⟨⟨q0,q1,q2,q3⟩,_⟩:=HNB.out w2 HB2.out
   go_wp2_with fail
   refine (holds_any S ao n cap ao2 n2 cap2 ao3 n3 cap3 a4 n4 c4 Ls Hs Ts ws w2 (HNW.out _ HB2.out).1.l (HNW.out _ HB2.out).1.h (HNW.out _ HB2.out).1.t (HNW.out _ HB2.out).2.2.1).mono ?_;rintro e w3 ⟨rfl,hb3⟩;rw[HU.out,HPV.out.1,HPV.out.2.1,HPV.out.2.2];obtain⟨w4,hw4⟩:∃W,w3.alloc (Obj.cells #[.int .i64 P1,.string P2,.int .i64 P3] 65)=W:=⟨_,rfl⟩;have hb4:Below w3.heap.size w3 w4:=by rw[←hw4];exact (Below.refl _ _).alloc (Nat.le_refl _) _
   have h24:Below w2.heap.size w2 w4:=hb3.trans (hb4.mono hb3.size);have HB4:Hid (Below w1.heap.size w1 w4):=HB2.out.trans (h24.mono HB2.out.size);have HW4:Hid (w3.alloc (Obj.cells #[.int .i64 P1,.string P2,.int .i64 P3] 65)=w4):=hw4;have HBW4:Hid (Below w.heap.size w w4):=HB1.out.trans (HB4.out.mono HB1.out.size);clear hb3 hb4 h24 hw4 q0 q1 q2 q3;go_upto_region 7 with fail;rw[HW4.out];clear HW4;by_cases hU0:U=0
   ·have HNV:Hid (N=veE S Ls Hs Ts Ts' ws l):=by
     exact (HNA.out.trans (if_pos h20)).trans (if_pos hU0)
    have HKV:Hid (K=vkN S Ls Hs Ts ws l):=HKA.out.1 h20 hU0;rw[no_ok hU0];obtain⟨⟨q0,q1,q2,q3⟩,_⟩:=HNB.out w4 HB4.out;obtain⟨gn,hgn⟩:∃g,g=w4.heap.size:=⟨_,rfl⟩;obtain⟨w5,hw5⟩:∃W,w4.alloc (Obj.cells #[.int .i64 S,.slice ao n cap,.slice ao2 n2 cap2,.slice ao3 n3 cap3] 28)=W:=⟨_,rfl⟩;have HW5:Hid (w4.alloc (Obj.cells #[.int .i64 S,.slice ao n cap,.slice ao2 n2 cap2,.slice ao3 n3 cap3] 28)=w5):=hw5;have HGN:Hid (w4.heap.size=gn):=hgn.symm;have HNX5:Hid (NBx w5 gn S (.slice ao n cap) (.slice ao2 n2 cap2) (.slice ao3 n3 cap3) Ls Hs Ts):=by rw[←hw5,hgn];exact nbx_new (HNW.out _ HB4.out).1 S 28
    have HB5:Hid (Below gn w4 w5):=by rw[←hw5,hgn];exact (Below.refl _ _).alloc (Nat.le_refl _) _
    have HW4K:Hid (∀W,Below gn w4 W→NI W (.slice bo m dap) (.slice bo2 m2 dap2) (.slice bo3 m3 dap3) Ls' Hs' Ts'∧GS wisE W (.slice a4 n4 c4) ws∧RS W (.slice a5 n5 c5) l∧NeBox W (w.heap.size+1) S' (.slice bo m dap) (.slice bo2 m2 dap2) (.slice bo3 m3 dap3)∧Below w.heap.size w W):=fun W h=>by
     rw[hgn] at h;have h1:=HB4.out.trans (h.mono HB4.out.size);obtain⟨_,k2,k3,k4⟩:=HNW.out W h1;exact⟨k2,k3,k4,(HNB.out W h1).2,HBW4.out.trans (h.mono HBW4.out.size)⟩
    have HPK:Hid (PlOK S Ls Hs Ts Ts' ws (pdL S Ls Hs Ts S' Ls' Hs' Ts' ws)):=(pd_ok HX0.out).1;clear hgn hw5 hU0;go_upto_region 10 with fail;rw[HW5.out,HGN.out];clear HW5 q0 q1 q2 q3;go_wp2
    go_loopw [47] (fun i wr=>∃(k:Nat) (b1:Option Addr) (k1 d1:Nat) (b2:Option Addr) (k2 d2:Nat) (b3:Option Addr) (k3 d3:Nat),k≤n5∧i=.int .i64 (k:Int)∧vfF (vmN S Ls Hs Ts ws l) k=k∧NBx wr gn S (.slice b1 k1 d1) (.slice b2 k2 d2) (.slice b3 k3 d3) Ls Hs (vtT Ts l k)∧Below gn w4 wr) (fun i _=>n5-(intOf i).toNat)
    case atStart=>exact⟨0,_,_,_,_,_,_,_,_,_,by omega,rfl,rfl,HNX5.out,HB5.out⟩
    case round =>
     obtain⟨k,b1,k1,d1,b2,k2,d2,b3,k3,d3,hk,rfl,hvf,hNX,hB⟩:=hrel;obtain⟨wi,hwi⟩:∃X,X=wr:=⟨_,rfl⟩;subst hwi;have HNXi:Hid (NBx wi gn S (.slice b1 k1 d1) (.slice b2 k2 d2) (.slice b3 k3 d3) Ls Hs (vtT Ts l k)):=hNX;have HB:Hid (Below gn w4 wi):=hB;have HVF:Hid (vfF (vmN S Ls Hs Ts ws l) k=k):=hvf;clear hNX hB hvf HNX5 HB5;by_cases hlt:k<n5
     ·obtain⟨g5,o5,r,ar,nr,cr,ha5,hr,hcr,hGr⟩:=(HW4K.out wi HB.out).2.2.1.at hlt;subst ha5;have HR:Hid (l[k]?=some r):=hr;have HGR:Hid (∀W,Below wi.heap.size wi W→GS opE W (.slice ar nr cr) r):=fun W h=>hGr.later h
      obtain⟨F,hF⟩:∃F,F=vmN S Ls Hs Ts ws l k:=⟨_,rfl⟩;have HF:Hid (vmN S Ls Hs Ts ws l k=F):=hF.symm;have HMF:Hid (mfN S Ls Hs (vtT Ts l k) r ws=F):=show _=_ by
       rw[hF,vmN,List.getD,hr];rfl
      obtain⟨⟨x0,x1,x2,x3⟩,_,_,_⟩:=HNXi.out.b;have kb0:(0:Int)≤(k:Int):=by omega
      have kb1:(k:Int)<(n5:Int):=by omega
      clear hr hGr hF
      go_wp2_with fail
      refine (safe_any S b1 k1 d1 b2 k2 d2 b3 k3 d3 ar nr cr a4 n4 c4 Ls Hs (vtT Ts l k) r ws wi HNXi.out.b.l HNXi.out.b.h HNXi.out.b.t (HGR.out _ (Below.refl _ _)) (HW4K.out wi HB.out).2.1).mono ?_;rintro e w6 ⟨F',p,rfl,hSR,hb6⟩;have hFF:F'=F:=(sf_mf hSR HPK.out.ws).trans HMF.out;subst hFF;obtain⟨w7,hw7⟩:∃W,w6.alloc (Obj.cells #[.int .i64 p.1,.string p.2.1,.int .i64 p.2.2] 65)=W:=⟨_,rfl⟩;have hb7:Below wi.heap.size wi w7:=by rw[←hw7];exact hb6.alloc hb6.size _
      have HW7:Hid (w6.alloc (Obj.cells #[.int .i64 p.1,.string p.2.1,.int .i64 p.2.2] 65)=w7):=hw7;have HBI7:Hid (Below wi.heap.size wi w7):=hb7;have HB7:Hid (Below gn w4 w7):=HB.out.trans (hb7.mono (Nat.le_of_lt HNXi.out.b.lt));have HNX7:Hid (NBx w7 gn S (.slice b1 k1 d1) (.slice b2 k2 d2) (.slice b3 k3 d3) Ls Hs (vtT Ts l k)):=HNXi.out.later hb7;clear hSR hb6 hw7 hb7 x0 x1 x2 x3 hcr;go_upto_region 14 with fail;rw[HW7.out];clear HW7;by_cases hF0:F'=0
      ·rw[no_ok hF0];have HVN:Hid (vfF (vmN S Ls Hs Ts ws l) (k+1)=k+1):=vf_ok HVF.out (HF.out.trans hF0);have HCG:Hid (cgN S Ls Hs (vtT Ts l k) r=0):=mf_cg (HMF.out.trans hF0);obtain⟨⟨x0,x1,x2,x3⟩,_,_,_⟩:=HNX7.out.b;have xf0:=HNX7.out.f 0;clear hF0
       go_wp2_with fail
       refine (chApply_own S b1 k1 d1 b2 k2 d2 b3 k3 d3 ar nr cr Ls Hs (vtT Ts l k) r w7 HNX7.out.b.l HNX7.out.b.h HNX7.out.b.t (HGR.out _ HBI7.out)).mono ?_;rintro e w8 ⟨f1,l1,e1,f2,l2,e2,f3,l3,e3,rfl,hNA,hb8⟩;rw[HCG.out] at hNA ⊢;simp only[nvS,nvL,if_true] at hNA ⊢;have HNX8:Hid (NBx w8 gn S (.slice b1 k1 d1) (.slice b2 k2 d2) (.slice b3 k3 d3) Ls Hs (vtT Ts l k)):=HNX7.out.later hb8;have HNXN:Hid (NBx (put4 w8 gn (.int .i64 S) (.slice f1 l1 e1) (.slice f2 l2 e2) (.slice f3 l3 e3)) gn S (.slice f1 l1 e1) (.slice f2 l2 e2) (.slice f3 l3 e3) Ls Hs (vtT Ts l (k+1))):=by
        rw[vt_next HR.out];exact nbx_put hNA HNX7.out.b.lt HNX8.out
       have HB8:Hid (Below gn w4 (put4 w8 gn (.int .i64 S) (.slice f1 l1 e1) (.slice f2 l2 e2) (.slice f3 l3 e3))):=below_pn4 (HB7.out.trans (hb8.mono (Nat.le_of_lt HNX7.out.b.lt))) gn (Nat.le_refl _) _ _ _ _;obtain⟨⟨y0,y1,y2,y3⟩,_,_,_⟩:=HNX8.out.b;have yf0:=HNX8.out.f 0;have yf1:=HNX8.out.f 1;have yf2:=HNX8.out.f 2;have yf3:=HNX8.out.f 3;clear hNA hb8 x0 x1 x2 x3 xf0;go_wp2;go_roundw
       case rel=>exact⟨k+1,_,_,_,_,_,_,_,_,_,by omega,by go_num,HVN.out,HNXN.out,HB8.out⟩
       case measure=>simp[intOf];omega
      rw[no_ne hF0];have HVN:Hid (vkN S Ls Hs Ts ws l=k):=vf_no HVF.out (by rw[HF.out];exact hF0) l.length (by rw[HLN.out];exact hlt);have HKE:Hid (K=k):=HKV.out.trans HVN.out;have HNE:Hid (N=F'):=by
       have h:=HNV.out;unfold veE at h;rw[HVN.out,if_pos (by rw[HLN.out];exact hlt),HF.out] at h;exact h
      have HF0:Hid (F'≠0):=hF0;have HBE:Hid (Below w.heap.size w w7):=(HW4K.out w7 HB7.out).2.2.2.2;clear hF0;go_wp2;refine bodyPost_ret (v:=.tuple #[.int .i64 (k:Int),.iface 63 (.int .i64 F')]) (by simp[results,Tryz.results6,go_sem, *]) rfl ⟨by rw[HKE.out,HNE.out,no_ne HF0.out],HBE.out⟩
     obtain rfl:k=n5:=by omega
     have HVN:Hid (vkN S Ls Hs Ts ws l=k):=by have h:=HVF.out;rw[←HLN.out] at h;show vkN S Ls Hs Ts ws l=_;rw[←HLN.out];exact h
     have HKE:Hid (K=k):=HKV.out.trans HVN.out;obtain⟨hnt,hlen⟩:=vt_right (ws:=ws) (l:=l) HPK.out.nt l.length (Nat.le_refl _) (by have h:=HVF.out;rw[←HLN.out] at h;exact h);obtain⟨s1,s2⟩:=vt_same HX0.out hnt hlen;rw[HLN.out] at s1 s2;obtain⟨B,hBB⟩:∃B,B=decide ((cdL (vtT Ts l k) Ts' Ts.length).length=0):=⟨_,rfl⟩;rw[←hBB] at s2;have HS1:Hid (nwN S Ls Hs (vtT Ts l k) S' Ls' Hs' Ts'=0):=s1;have HS2:Hid (nsB S Ls Hs (vtT Ts l k) S' Ls' Hs' Ts'=B):=s2;have HNE:Hid (N=if B=true then 0 else 6):=by
      show N=if B=true then 0 else 6
      have h:=HNV.out;unfold veE at h;rw[HVN.out,HLN.out,if_neg (by omega)] at h;rw[h,hBB];by_cases c:(cdL (vtT Ts l k) Ts' Ts.length).length=0
      ·simp[c]
      simp[c]
     obtain⟨⟨x0,x1,x2,x3⟩,_,_,_⟩:=HNXi.out.b;obtain⟨y0,y1,y2,y3⟩:=(HW4K.out wi HB.out).2.2.2.1;clear hnt hlen s1 s2 hBB
     go_wp2_with fail
     refine (chSame_any S b1 k1 d1 b2 k2 d2 b3 k3 d3 S' bo m dap bo2 m2 dap2 bo3 m3 dap3 Ls Hs (vtT Ts l k) Ls' Hs' Ts' wi HNXi.out.b.l HNXi.out.b.h HNXi.out.b.t (HW4K.out wi HB.out).1.l (HW4K.out wi HB.out).1.h (HW4K.out wi HB.out).1.t).mono ?_;rintro e w6 ⟨rfl,hb6⟩;rw[HS1.out,HS2.out,no_ok rfl];have HBE:Hid (Below w.heap.size w w6):=(HW4K.out w6 (HB.out.trans (hb6.mono (Nat.le_of_lt HNXi.out.b.lt)))).2.2.2.2;clear hb6 x0 x1 x2 x3 y0 y1 y2 y3;cases B with
     | true =>
       have HNE2:Hid (N=0):=HNE.out.trans (by simp);go_wp2;refine bodyPost_ret (v:=.tuple #[.int .i64 (k:Int),.nilIface]) (by simp[results,Tryz.results6,go_sem, *]) rfl ⟨by rw[HKE.out,HNE2.out,no_ok rfl],HBE.out⟩
     | false =>
       have HNE2:Hid (N=6):=HNE.out.trans (by simp);go_wp2;refine bodyPost_ret (v:=.tuple #[.int .i64 (k:Int),.iface 63 (.int .i64 6)]) (by simp[results,Tryz.results6,go_sem, *]) rfl ⟨by rw[HKE.out,HNE2.out,no_ne (by decide)],HBE.out⟩
   rw[no_ne hU0];have HNE:Hid (N=U):=by
    exact (HNA.out.trans (if_pos h20)).trans (if_neg hU0)
   have HKE:Hid (K=0):=HKA.out.2 (fun x=>hU0 x.2);have HU0:Hid (U≠0):=hU0;clear hU0;go_wp2;refine bodyPost_ret (v:=.tuple #[.int .i64 0,.iface 63 (.int .i64 U)]) (by simp[results,Tryz.results6,go_sem, *]) rfl ⟨by rw[HKE.out,HNE.out,no_ne HU0.out];rfl,HBW4.out⟩
  have e20:decide ((20:Int)<(n5:Int))=true:=by simp;omega
  have HNE:Hid (N=4):=by
   exact HNA.out.trans (if_neg h20)
  have HKE:Hid (K=0):=HKA.out.2 (fun x=>h20 x.1);have HBW:Hid (Below w.heap.size w w2):=HB1.out.trans (HB2.out.mono HB1.out.size);go_wp2;refine bodyPost_ret (v:=.tuple #[.int .i64 0,.iface 63 (.int .i64 4)]) (by simp[results,Tryz.results6,go_sem, *]) rfl ⟨by rw[HKE.out,HNE.out,no_ne (by decide)];rfl,HBW.out⟩
 rw[no_ne hX0];have HNE:Hid (N=X):=HN.out.trans (if_neg hX0);have HKE:Hid (K=0):=HK.out.trans (if_neg (fun x=>hX0 x.1));have HX0:Hid (X≠0):=hX0;have HBW:Hid (Below w.heap.size w w2):=HB1.out.trans (HB2.out.mono HB1.out.size);clear hX0;go_wp2;refine bodyPost_ret (v:=.tuple #[.int .i64 0,.iface 63 (.int .i64 X)]) (by simp[results,Tryz.results6,go_sem, *]) rfl ⟨by rw[HKE.out,HNE.out,no_ne HX0.out];rfl,HBW.out⟩
end
section
open Go.ChangeShapes Go.WideShapes Go.ChangeAt Go.RowKit Go.Joins
section
variable {P:Program}{α:Type}{E:Enc α}
theorem gs_open {H:Type}{enc:TypeId×Value→H}{W:World}{fuel:Nat}{cs:List Value}{x:DataW H×List MemPlace}(ts te:TypeId)(hu:P.underlying ts=some (.slice te))(hC:P.cellsOf te=E.n)(x0:α)
 (hel:∀(n:Nat) (cs:List Value) (x:DataW H×List MemPlace),DataW.trod enc P W 0 (fun _=>true) true n te cs=some x→∃y,cs=E.c y)
 (hf2:DataW.trod enc P W 0 (fun _=>true) true fuel ts cs=some x):∃ao n cap L,cs=[.slice ao n cap]∧GS E W (.slice ao n cap) L:=by
 obtain⟨d,p⟩:=x
 rcases Go.Deep.open_slice hu hf2 with ⟨hc,hx⟩ | ⟨a,len0,cap,m,k,D,Pl,hc,_,hl,hm,hmm,hx,hall⟩
 ·exact⟨_,_,_,[],hc,.inl ⟨none,0,rfl,rfl⟩⟩
 simp only[if_true] at hmm;subst hmm
 rcases Nat.eq_zero_or_pos len0 with h0 | h0
 ·subst h0;exact⟨_,_,_,[],hc,.inl ⟨_,_,rfl,rfl⟩⟩
 have each:∀i,i<m→∃y:α,∀j,j<E.n→W.cell? (a.add (i*E.n+j))=(E.c y)[j]?:=by
  intro i hi;obtain⟨cs,h1,h2⟩:=hall i hi;rw[hC] at h1;obtain⟨_,hlen,hcell⟩:=World.cells?_some h1;obtain⟨y,rfl⟩:=hel _ _ _ h2;refine⟨y,fun j hj=>?_⟩;have:=hcell j (by omega);rw[Go.Deep.add_add] at this;exact this
 have iR:Inhabited α:=⟨x0⟩;obtain⟨R,hR⟩:=Go.Deep.choose_lt each;obtain⟨sb,so,spot⟩:=a;have hspot:spot=none:=by
  have h1:=hR 0 (by omega) 0 E.pos;have h2:(E.c (R 0))[0]?.isSome=true:=by
   rw[List.getElem?_eq_getElem (by rw[E.len];exact E.pos)];rfl
  obtain⟨u,hu2⟩:=Option.isSome_iff_exists.1 h2;rw[hu2] at h1;simpa[Addr.add] using World.cell?_spot h1
 subst hspot;have hadd:∀j,(⟨sb,so,none⟩:Addr).add j=⟨sb,so+j,none⟩:=by
  intro j;simp only[Addr.add]
  first
   | rfl
   | (split
      ·next h0=>rw[h0];rfl
      rfl)
 refine⟨_,_,_,(List.range len0).map R,hc,.inr ⟨sb,so,_,by simp,by simpa using hl,hm,fun i hi j u hu2=>?_⟩⟩;have hi2:i<len0:=by simpa using hi
 have e:((List.range len0).map R)[i]=R i:=by simp
 rw[e] at hu2;have hj:j<E.n:=by
  have:=(List.getElem?_eq_some_iff.1 hu2).1;rw[E.len] at this;exact this
 have hc:=hR i (by omega) j hj;rw[hadd,hu2,←Nat.add_assoc] at hc;exact hc
end
theorem topo_open {H:Type}{enc:TypeId×Value→H}{W:World}{n:Nat}{cs:List Value}{x:DataW H×List MemPlace}
 (h:DataW.trod enc Tryz.prog W 0 (fun _=>true) true n 25 cs=some x):∃S ao n cap ao2 n2 cap2 Ls Hs,cs=[.int .i64 S,.slice ao n cap,.slice ao2 n2 cap2]∧GS lnkE W (.slice ao n cap) Ls∧GS hstE W (.slice ao2 n2 cap2) Hs:=by
 obtain⟨xs,k,_,_,hl,hlen,hf⟩:=DataW.trod_struct Tryz.underlying25 h;have hC:Tryz.prog.cellsOf 25=3:=by kernel_rfl
 have hT0:Tryz.prog.cellsOf 3=1:=by kernel_rfl
 have hT1:Tryz.prog.cellsOf 22=1:=by kernel_rfl
 have hT2:Tryz.prog.cellsOf 23=1:=by kernel_rfl
 rw[hC] at hl
 match cs,hl with
 | [c0,c1,c2],_ =>
   match xs,hlen with
   | [z0,z1,z2],_ =>
     have g0:=hf 0 _ rfl;have g1:=hf 1 _ rfl;have g2:=hf 2 _ rfl;simp[hT0,hT1,hT2] at g0 g1 g2;obtain⟨v0,e0,_,_⟩:=DataW.trod_int Tryz.underlying3 g0;obtain⟨ao,n,cap,Ls,e1,hL⟩:=gs_open (E:=lnkE) 22 78 Tryz.underlying22 (by kernel_rfl) ((0,0),(0,0)) (fun _ _ _ h=>lnk_open h) g1;obtain⟨ao2,n2,cap2,Hs,e2,hH⟩:=gs_open (E:=hstE) 23 33 Tryz.underlying23 (by kernel_rfl) (ByteArray.empty,(0,0)) (fun _ _ _ h=>hst_open h) g2;simp at e0 e1 e2;exact⟨v0,ao,n,cap,ao2,n2,cap2,Ls,Hs,by simp[e0,e1,e2],hL,hH⟩
theorem gs_SR {w:World}{v:Value}{L:List Ru}(h:GS rlE w v L):SR w v L:=by
 rcases h with h | ⟨g,o,cap,h1,h2,h3,h4⟩
 ·exact .inl h
 refine .inr ⟨g,o,cap,h1,h2,h3,fun i hi=>?_⟩;have hv:=h4 i hi
 generalize L[i]=r at hv
 obtain⟨p,m,b,q,s,x⟩:=r;obtain⟨q0,q1,q2,q3,q4,q5⟩:=rl_cells hv;exact⟨q0,q1,q2,q3,q4,q5⟩
theorem table_open {H:Type}{enc:TypeId×Value→H}{W:World}{fuel:Nat}{cs:List Value}{x:DataW H×List MemPlace}
 (h:DataW.trod enc Tryz.prog W 0 (fun _=>true) true fuel 39 cs=some x):∃ao n cap L,cs=[.slice ao n cap]∧SR W (.slice ao n cap) L:=by
 obtain⟨ao,n,cap,L,e,hL⟩:=gs_open (E:=rlE) 39 37 Tryz.underlying39 (by kernel_rfl) zeR (fun _ _ _ h=>rl_open h) h;exact⟨ao,n,cap,L,e,gs_SR hL⟩
theorem tables_open {H:Type}{enc:TypeId×Value→H}{W:World}{fuel:Nat}{cs:List Value}{x:DataW H×List MemPlace}
 (hf2:DataW.trod enc Tryz.prog W 0 (fun _=>true) true fuel 26 cs=some x):∃ao n cap Ts,cs=[.slice ao n cap]∧TS W (.slice ao n cap) Ts:=by
 obtain⟨d,p⟩:=x;have hC:Tryz.prog.cellsOf 39=1:=by kernel_rfl
 rcases Go.Deep.open_slice Tryz.underlying26 hf2 with ⟨hc,hx⟩ | ⟨a,len0,cap,m,k,D,Pl,hc,_,hl,hm,hmm,hx,hall⟩
 ·exact⟨_,_,_,[],hc,.inl ⟨none,0,rfl,rfl⟩⟩
 simp only[if_true] at hmm;subst hmm
 rcases Nat.eq_zero_or_pos len0 with h0 | h0
 ·subst h0;exact⟨_,_,_,[],hc,.inl ⟨_,_,rfl,rfl⟩⟩
 have each:∀i,i<m→∃L:List Ru,∃ao n cap,W.cell? (a.add i)=some (.slice ao n cap)∧SR W (.slice ao n cap) L:=by
  intro i hi;obtain⟨cs,h1,h2⟩:=hall i hi;rw[hC] at h1;obtain⟨_,hlen,hcell⟩:=World.cells?_some h1;obtain⟨ao,n,cap,L,rfl,hL⟩:=table_open h2;refine⟨L,ao,n,cap,?_,hL⟩;have:=hcell 0 (by simp);rw[Go.Deep.add_add] at this;simpa using this
 obtain⟨R,hR⟩:=Go.Deep.choose_lt each;obtain⟨sb,so,spot⟩:=a;have hspot:spot=none:=by
  obtain⟨ao,n,cap,h1,_⟩:=hR 0 (by omega);simpa[Addr.add] using World.cell?_spot h1
 subst hspot;have hadd:∀j,(⟨sb,so,none⟩:Addr).add j=⟨sb,so+j,none⟩:=by
  intro j;simp only[Addr.add]
  first
   | rfl
   | (split
      ·next h0=>rw[h0];rfl
      rfl)
 refine⟨_,_,_,(List.range len0).map R,hc,.inr ⟨sb,so,_,by simp,by simpa using hl,hm,fun i hi=>?_⟩⟩;have hi2:i<len0:=by simpa using hi
 have e:((List.range len0).map R)[i]=R i:=by simp
 rw[e];obtain⟨ao,n,cap,h1,h2⟩:=hR i (by omega);rw[hadd] at h1;exact⟨ao,n,cap,h1,h2⟩
theorem net_open {H:Type}{enc:TypeId×Value→H}{W:World}{n:Nat}{cs:List Value}{x:DataW H×List MemPlace}
 (h:DataW.trod enc Tryz.prog W 0 (fun _=>true) true n 28 cs=some x):∃S ao n cap ao2 n2 cap2 ao3 n3 cap3 Ls Hs Ts,cs=[.int .i64 S,.slice ao n cap,.slice ao2 n2 cap2,.slice ao3 n3 cap3]∧GS lnkE W (.slice ao n cap) Ls∧GS hstE W (.slice ao2 n2 cap2) Hs∧TS W (.slice ao3 n3 cap3) Ts:=by
 obtain⟨xs,k,_,_,hl,hlen,hf⟩:=DataW.trod_struct Tryz.underlying28 h;have hC:Tryz.prog.cellsOf 28=4:=by kernel_rfl
 have hT0:Tryz.prog.cellsOf 25=3:=by kernel_rfl
 have hT1:Tryz.prog.cellsOf 26=1:=by kernel_rfl
 rw[hC] at hl
 match cs,hl with
 | [c0,c1,c2,c3],_ =>
   match xs,hlen with
   | [z0,z1],_ =>
     have g0:=hf 0 _ rfl;have g1:=hf 1 _ rfl;simp[hT0,hT1] at g0 g1;obtain⟨S,ao,n,cap,ao2,n2,cap2,Ls,Hs,e0,hL,hH⟩:=topo_open g0;obtain⟨ao3,n3,cap3,Ts,e1,hT⟩:=tables_open g1;simp at e0 e1;exact⟨S,ao,n,cap,ao2,n2,cap2,ao3,n3,cap3,Ls,Hs,Ts,by simp[e0,e1],hL,hH,hT⟩
theorem net_of {H:Type}{enc:TypeId×Value→H}{W:World}{base:Nat}{v:Value}{d:DataW H}{p:List MemPlace}
 (hv:Value.okWide Tryz.prog W .any base 28 v) (h:DataW.Trod enc Tryz.prog W 0 (fun _=>true) true 28 v d p):∃S ao n cap ao2 n2 cap2 ao3 n3 cap3 Ls Hs Ts,v=.agg #[.int .i64 S,.slice ao n cap,.slice ao2 n2 cap2,.slice ao3 n3 cap3]∧GS lnkE W (.slice ao n cap) Ls∧GS hstE W (.slice ao2 n2 cap2) Hs∧TS W (.slice ao3 n3 cap3) Ts:=by
 obtain⟨cs,rfl,hsz⟩:=okWide_struct Tryz.underlying28 hv;obtain⟨n,hn⟩:=h;obtain⟨S,ao,n,cap,ao2,n2,cap2,ao3,n3,cap3,Ls,Hs,Ts,e,h1,h2,h3⟩:=net_open hn;refine⟨S,ao,n,cap,ao2,n2,cap2,ao3,n3,cap3,Ls,Hs,Ts,?_,h1,h2,h3⟩;simp only[Value.cells] at e;rw[←Array.toArray_toList (xs:=cs),e]
end
namespace planHolds
open Go.RowKit
theorem one_ok:plN 1 [] [(⟨#[97]⟩,(1,2))] [[]] 1 [] [(⟨#[97]⟩,(1,2))] [[⟨1,0,0,2,0,0⟩]] []=0:=by decide +kernel
theorem one_len:(plL 1 [] [(⟨#[97]⟩,(1,2))] [[]] 1 [] [(⟨#[97]⟩,(1,2))] [[⟨1,0,0,2,0,0⟩]] []).map List.length=[1]:=by decide +kernel
theorem ts_one {w:World}(t:TypeId):TS (w.alloc (Obj.cells #[.slice none 0 0] t)) (.slice (some ⟨w.heap.size,0,none⟩) 1 1) [[]]:=by
 refine .inr ⟨w.heap.size,0,1,rfl,by simp,by unfold maxLen;omega,fun i hi=>?_⟩;obtain rfl:i=0:=by simp at hi;omega
 exact⟨none,0,0,by simp,.inl ⟨_,_,rfl,rfl⟩⟩
theorem ts_rule (w:World):TS ((w.alloc (Obj.cells #[.int .i64 1,.int .i64 0,.int .i64 0,.int .i64 2,.int .i64 0,.int .i64 0] 37)).alloc (Obj.cells #[.slice (some ⟨w.heap.size,0,none⟩) 1 1] 39)) (.slice (some ⟨w.heap.size+1,0,none⟩) 1 1) [[⟨1,0,0,2,0,0⟩]]:=by
 refine .inr ⟨w.heap.size+1,0,1,rfl,by simp,by unfold maxLen;omega,fun i hi=>?_⟩;obtain rfl:i=0:=by simp at hi;omega
 refine⟨some ⟨w.heap.size,0,none⟩,1,1,?_,?_⟩
 ·have h:=vat_new (w.alloc (Obj.cells #[.int .i64 1,.int .i64 0,.int .i64 0,.int .i64 2,.int .i64 0,.int .i64 0] 37)) [.slice (some ⟨w.heap.size,0,none⟩) 1 1] 39;rw[World.size_alloc] at h;exact h 0 _ rfl
 exact gs_SR ((gs_one (E:=rlE) w ⟨1,0,0,2,0,0⟩ 37 (vs:=[.int .i64 1,.int .i64 0,.int .i64 0,.int .i64 2,.int .i64 0,.int .i64 0]) rfl).later ((Below.refl _ _).alloc (Nat.le_refl _) _))
def twoW (w:World):World:=(((((w.alloc (Obj.cells #[.string ⟨#[97]⟩,.int .i64 1,.int .i64 2] 33)).alloc (Obj.cells #[.slice none 0 0] 39)).alloc (Obj.cells #[.int .i64 1,.slice none 0 0,.slice (some ⟨w.heap.size,0,none⟩) 1 1,.slice (some ⟨w.heap.size+1,0,none⟩) 1 1] 28)).alloc (Obj.cells #[.int .i64 1,.slice none 0 0,.slice (some ⟨w.heap.size,0,none⟩) 1 1,.slice (some ⟨w.heap.size+1+1+1+1+1,0,none⟩) 1 1] 28)).alloc (Obj.cells #[.int .i64 1,.int .i64 0,.int .i64 0,.int .i64 2,.int .i64 0,.int .i64 0] 37)).alloc (Obj.cells #[.slice (some ⟨w.heap.size+1+1+1+1,0,none⟩) 1 1] 39)
theorem two_new (w:World):Below w.heap.size w (twoW w)∧NI (twoW w) (.slice none 0 0) (.slice (some ⟨w.heap.size,0,none⟩) 1 1) (.slice (some ⟨w.heap.size+1,0,none⟩) 1 1) [] [(⟨#[97]⟩,(1,2))] [[]]∧NI (twoW w) (.slice none 0 0) (.slice (some ⟨w.heap.size,0,none⟩) 1 1) (.slice (some ⟨w.heap.size+1+1+1+1+1,0,none⟩) 1 1) [] [(⟨#[97]⟩,(1,2))] [[⟨1,0,0,2,0,0⟩]]:=by
 have hal:∀(W:World) (o:Obj),Below W.heap.size W (W.alloc o):=fun W o=>(Below.refl _ _).alloc (Nat.le_refl _) _
 have hh:=(((((gs_one (E:=hstE) w (⟨#[97]⟩,(1,2)) 33 (vs:=[.string ⟨#[97]⟩,.int .i64 1,.int .i64 2]) rfl).later (hal _ (Obj.cells #[.slice none 0 0] 39))).later (hal _ (Obj.cells #[.int .i64 1,.slice none 0 0,.slice (some ⟨w.heap.size,0,none⟩) 1 1,.slice (some ⟨w.heap.size+1,0,none⟩) 1 1] 28))).later (hal _ (Obj.cells #[.int .i64 1,.slice none 0 0,.slice (some ⟨w.heap.size,0,none⟩) 1 1,.slice (some ⟨w.heap.size+1+1+1+1+1,0,none⟩) 1 1] 28))).later (hal _ (Obj.cells #[.int .i64 1,.int .i64 0,.int .i64 0,.int .i64 2,.int .i64 0,.int .i64 0] 37))).later (hal _ (Obj.cells #[.slice (some ⟨w.heap.size+1+1+1+1,0,none⟩) 1 1] 39));have ht:=((((ts_one (w:=w.alloc (Obj.cells #[.string ⟨#[97]⟩,.int .i64 1,.int .i64 2] 33)) 39).later (hal _ (Obj.cells #[.int .i64 1,.slice none 0 0,.slice (some ⟨w.heap.size,0,none⟩) 1 1,.slice (some ⟨w.heap.size+1,0,none⟩) 1 1] 28))).later (hal _ (Obj.cells #[.int .i64 1,.slice none 0 0,.slice (some ⟨w.heap.size,0,none⟩) 1 1,.slice (some ⟨w.heap.size+1+1+1+1+1,0,none⟩) 1 1] 28))).later (hal _ (Obj.cells #[.int .i64 1,.int .i64 0,.int .i64 0,.int .i64 2,.int .i64 0,.int .i64 0] 37))).later (hal _ (Obj.cells #[.slice (some ⟨w.heap.size+1+1+1+1,0,none⟩) 1 1] 39));have hr:=ts_rule ((((w.alloc (Obj.cells #[.string ⟨#[97]⟩,.int .i64 1,.int .i64 2] 33)).alloc (Obj.cells #[.slice none 0 0] 39)).alloc (Obj.cells #[.int .i64 1,.slice none 0 0,.slice (some ⟨w.heap.size,0,none⟩) 1 1,.slice (some ⟨w.heap.size+1,0,none⟩) 1 1] 28)).alloc (Obj.cells #[.int .i64 1,.slice none 0 0,.slice (some ⟨w.heap.size,0,none⟩) 1 1,.slice (some ⟨w.heap.size+1+1+1+1+1,0,none⟩) 1 1] 28));rw[World.size_alloc] at ht;simp only[World.size_alloc] at hr;refine⟨?_,⟨GS.nil _,hh,ht⟩,⟨GS.nil _,hh,hr⟩⟩;unfold twoW;exact ((((((Below.refl _ w).alloc (Nat.le_refl _) _).alloc (by simp) _).alloc (by simp;omega) _).alloc (by simp;omega) _).alloc (by simp;omega) _).alloc (by simp;omega) _
theorem two_len:∀{L:List (List Op8)},L.map List.length=[1]→∃x,L=[x]∧x.length=1
 | [],h=>by simp at h
 | [x],h=>⟨x,rfl,by simpa using h⟩
 | _ :: _ :: _,h=>by simp at h
theorem wish_no (w:World):GS wisE w (.slice none 0 0) []:=GS.nil _
theorem walk (S:Int)(ao:Option Addr)(n cap:Nat)(ao2:Option Addr)(n2 cap2:Nat)(ao3:Option Addr)(n3 cap3:Nat)(S':Int)(bo:Option Addr)(m dap:Nat)(bo2:Option Addr)(m2 dap2:Nat)(bo3:Option Addr)(m3 dap3:Nat)(a4:Option Addr)(n4 c4:Nat)(Ls:List LkT)(Hs:List HoT)(Ts:List (List Ru))(Ls':List LkT)(Hs':List HoT)(Ts':List (List Ru))(ws:List Wi)(w:World)
 (hL:GS lnkE w (.slice ao n cap) Ls) (hH:GS hstE w (.slice ao2 n2 cap2) Hs) (hT:TS w (.slice ao3 n3 cap3) Ts) (hL':GS lnkE w (.slice bo m dap) Ls') (hH':GS hstE w (.slice bo2 m2 dap2) Hs') (hT':TS w (.slice bo3 m3 dap3) Ts') (hw:GS wisE w (.slice a4 n4 c4) ws):
 Calls Tryz.prog 3 #[.agg #[.int .i64 S,.slice ao n cap,.slice ao2 n2 cap2,.slice ao3 n3 cap3],.agg #[.int .i64 S',.slice bo m dap,.slice bo2 m2 dap2,.slice bo3 m3 dap3],.slice a4 n4 c4] w fun e w'=>e=.returned (.bool true)∧Below w.heap.size w w':=by
 have hal:∀(W:World) (o:Obj),Below W.heap.size W (W.alloc o):=fun W o=>(Below.refl _ _).alloc (Nat.le_refl _) _
 obtain⟨w1,hw1⟩:∃W,W=(w.alloc (Obj.cells #[.int .i64 S,.slice ao n cap,.slice ao2 n2 cap2,.slice ao3 n3 cap3] 28)).alloc (Obj.cells #[.int .i64 S',.slice bo m dap,.slice bo2 m2 dap2,.slice bo3 m3 dap3] 28):=⟨_,rfl⟩;have hb1:Below w.heap.size w w1:=by rw[hw1];exact ((Below.refl _ _).alloc (Nat.le_refl _) _).alloc (by simp) _
 have hnn:NN w1 w.heap.size S (.slice ao n cap) (.slice ao2 n2 cap2) (.slice ao3 n3 cap3) S' (.slice bo m dap) (.slice bo2 m2 dap2) (.slice bo3 m3 dap3):=by rw[hw1];exact nn_new w S _ _ _ S' _ _ _ 28
 have HNN:Hid (∀W,Below w1.heap.size w1 W→NN W w.heap.size S (.slice ao n cap) (.slice ao2 n2 cap2) (.slice ao3 n3 cap3) S' (.slice bo m dap) (.slice bo2 m2 dap2) (.slice bo3 m3 dap3)):=fun W h=>hnn.later h
 have HNA:Hid (∀W,Below w1.heap.size w1 W→NI W (.slice ao n cap) (.slice ao2 n2 cap2) (.slice ao3 n3 cap3) Ls Hs Ts∧NI W (.slice bo m dap) (.slice bo2 m2 dap2) (.slice bo3 m3 dap3) Ls' Hs' Ts'∧GS wisE W (.slice a4 n4 c4) ws):=fun W h=>⟨NI.later (NI.later ⟨hL,hH,hT⟩ hb1) h,NI.later (NI.later ⟨hL',hH',hT'⟩ hb1) h,(hw.later hb1).later h⟩
 have HB1:Hid (Below w.heap.size w w1):=hb1;have HW1:Hid ((w.alloc (Obj.cells #[.int .i64 S,.slice ao n cap,.slice ao2 n2 cap2,.slice ao3 n3 cap3] 28)).alloc (Obj.cells #[.int .i64 S',.slice bo m dap,.slice bo2 m2 dap2,.slice bo3 m3 dap3] 28)=w1):=hw1.symm;clear hL hH hT hL' hH' hT' hb1 hw1 hnn hw;go_enter Tryz.func3,Tryz.ntmps3;go_upto_region 1 with fail;rw[HW1.out]
 go_wp2_with fail
 refine (plan_any 1 (.slice none 0 0) (.slice (some ⟨w1.heap.size,0,none⟩) 1 1) (.slice (some ⟨w1.heap.size+1,0,none⟩) 1 1) 1 (.slice none 0 0) (.slice (some ⟨w1.heap.size,0,none⟩) 1 1) (.slice (some ⟨w1.heap.size+1+1+1+1+1,0,none⟩) 1 1) (.slice none 0 0) [] [(⟨#[97]⟩,(1,2))] [[]] [] [(⟨#[97]⟩,(1,2))] [[⟨1,0,0,2,0,0⟩]] [] (twoW w1) (two_new w1).2.1 (two_new w1).2.2 (wish_no _)).mono ?_;rintro e w3 ⟨v,rfl,hR,hb3⟩;rw[one_ok,no_ok rfl];obtain⟨x,hx,hxl⟩:=two_len one_len;rw[hx] at hR;obtain⟨a5,n5,c5,rfl,hn5,_,_⟩:=hR.form;simp only[List.length_singleton] at hn5;subst hn5;obtain⟨g,o,L,a6,n6,c6,rfl,hLx,hc,hG⟩:=hR.at (i:=0) (by omega);have hLx2:L=x:=by simpa using hLx.symm
 subst hLx2;obtain⟨_,_,_,e6,hn6,_⟩:=hG.form;cases e6;rw[hxl] at hn6;subst hn6;simp only[Nat.add_zero] at hc;have HB3:Hid (Below w1.heap.size w1 w3):=(two_new w1).1.trans (hb3.mono (two_new w1).1.size);clear hR hb3 hx hxl hLx hG;obtain⟨⟨q0,q1,q2,q3⟩,r0,r1,r2,r3⟩:=HNN.out w3 HB3.out
 go_wp2_with fail
 refine (plan_any S _ _ _ S' _ _ _ _ Ls Hs Ts Ls' Hs' Ts' ws w3 (HNA.out w3 HB3.out).1 (HNA.out w3 HB3.out).2.1 (HNA.out w3 HB3.out).2.2).mono ?_;rintro e w4 ⟨v,rfl,hR,hb4⟩;obtain⟨a7,n7,c7,rfl,hn7,_,_⟩:=hR.form;obtain⟨N1,hN1⟩:∃N,N=plN S Ls Hs Ts S' Ls' Hs' Ts' ws:=⟨_,rfl⟩;rw[←hN1];have HN1:Hid (plN S Ls Hs Ts S' Ls' Hs' Ts' ws=N1):=hN1.symm;have HN7:Hid ((plL S Ls Hs Ts S' Ls' Hs' Ts' ws).length=n7):=hn7;have HR4:Hid (RS w4 (.slice a7 n7 c7) (plL S Ls Hs Ts S' Ls' Hs' Ts' ws)):=hR;have HB4:Hid (Below w1.heap.size w1 w4):=HB3.out.trans (hb4.mono HB3.out.size);clear hR hb4 hN1 hn7 hc q0 q1 q2 q3 r0 r1 r2 r3;by_cases h1:N1=0
 ·rw[no_ok h1];have HP:Hid (plN S Ls Hs Ts S' Ls' Hs' Ts' ws=0):=HN1.out.trans h1;clear h1;obtain⟨⟨q0,q1,q2,q3⟩,r0,r1,r2,r3⟩:=HNN.out w4 HB4.out
  go_wp2_with fail
  refine (verify_any S _ _ _ S' _ _ _ _ _ Ls Hs Ts Ls' Hs' Ts' ws _ w4 (HNA.out w4 HB4.out).1 (HNA.out w4 HB4.out).2.1 (HNA.out w4 HB4.out).2.2 HR4.out).mono ?_;rintro e w5 ⟨rfl,hb5⟩;rw[(pl_right HP.out).1,(pl_right HP.out).2,HN7.out,no_ok rfl];have HB5:Hid (Below w1.heap.size w1 w5):=HB4.out.trans (hb5.mono HB4.out.size);have HBW:Hid (Below w.heap.size w w5):=HB1.out.trans (HB5.out.mono HB1.out.size);clear hb5 q0 q1 q2 q3 r0 r1 r2 r3;obtain⟨⟨q0,q1,q2,q3⟩,r0,r1,r2,r3⟩:=HNN.out w5 HB5.out;have hne:((n7:Int) != (n7:Int))=false:=by simp
  by_cases h4:(n3:Int) > 4
  ·have h5:(4:Int)<(n3:Int):=h4;go_wp2;go_ret;exact⟨rfl,HBW.out⟩
  have h5:¬(4:Int)<(n3:Int):=h4
  go_wp2_with fail
  refine (least_any S _ _ _ S' _ _ _ _ Ls Hs Ts Ls' Hs' Ts' ws w5 (HNA.out w5 HB5.out).1 (HNA.out w5 HB5.out).2.1 (HNA.out w5 HB5.out).2.2).mono ?_;rintro e w6 ⟨v,rfl,hR,hb6⟩;rw[(le_few HP.out).1,no_ok rfl];obtain⟨a8,n8,c8,rfl,hn8,_,_⟩:=hR.form;have hle:(n8:Int)≤(n7:Int):=by
   have:=(le_few HP.out).2;rw[hn8,HN7.out] at this;omega
  have HN8:Hid ((leL S Ls Hs Ts S' Ls' Hs' Ts' ws).length=n8):=hn8;have HR6:Hid (RS w6 (.slice a8 n8 c8) (leL S Ls Hs Ts S' Ls' Hs' Ts' ws)):=hR;have HB6:Hid (Below w1.heap.size w1 w6):=HB5.out.trans (hb6.mono HB5.out.size);clear hR hb6 hn8 hne q0 q1 q2 q3 r0 r1 r2 r3 h4 h5;obtain⟨⟨q0,q1,q2,q3⟩,r0,r1,r2,r3⟩:=HNN.out w6 HB6.out
  go_wp2_with fail
  refine (verify_any S _ _ _ S' _ _ _ _ _ Ls Hs Ts Ls' Hs' Ts' ws _ w6 (HNA.out w6 HB6.out).1 (HNA.out w6 HB6.out).2.1 (HNA.out w6 HB6.out).2.2 HR6.out).mono ?_;rintro e w7 ⟨rfl,hb7⟩;rw[(le_right (le_few HP.out).1).1,(le_right (le_few HP.out).1).2,HN8.out,no_ok rfl];have HBW7:Hid (Below w.heap.size w w7):=HB1.out.trans ((HB6.out.trans (hb7.mono HB6.out.size)).mono HB1.out.size);have heq:((n8:Int)==(n8:Int))=true:=by simp
  clear hb7 q0 q1 q2 q3 r0 r1 r2 r3;go_wp2;go_ret;exact⟨rfl,HBW7.out⟩
 rw[no_ne h1];have HBW:Hid (Below w.heap.size w w4):=HB1.out.trans (HB4.out.mono HB1.out.size);clear h1;obtain⟨⟨q0,q1,q2,q3⟩,r0,r1,r2,r3⟩:=HNN.out w4 HB4.out;by_cases h4:(n3:Int) > 4
 ·have h5:(4:Int)<(n3:Int):=h4;go_wp2;go_ret;exact⟨rfl,HBW.out⟩
 have h5:¬(4:Int)<(n3:Int):=h4
 go_wp2_with fail
 refine (least_any S _ _ _ S' _ _ _ _ Ls Hs Ts Ls' Hs' Ts' ws w4 (HNA.out w4 HB4.out).1 (HNA.out w4 HB4.out).2.1 (HNA.out w4 HB4.out).2.2).mono ?_;rintro e w6 ⟨v,rfl,hR,hb6⟩;obtain⟨a8,n8,c8,rfl,hn8,_,_⟩:=hR.form;have HN8:Hid ((leL S Ls Hs Ts S' Ls' Hs' Ts' ws).length=n8):=hn8;have HR6:Hid (RS w6 (.slice a8 n8 c8) (leL S Ls Hs Ts S' Ls' Hs' Ts' ws)):=hR;have HB6:Hid (Below w1.heap.size w1 w6):=HB4.out.trans (hb6.mono HB4.out.size);have HBW6:Hid (Below w.heap.size w w6):=HB1.out.trans (HB6.out.mono HB1.out.size);obtain⟨N2,hN2⟩:∃N,N=leN S Ls Hs Ts S' Ls' Hs' Ts' ws:=⟨_,rfl⟩;rw[←hN2];have HN2:Hid (leN S Ls Hs Ts S' Ls' Hs' Ts' ws=N2):=hN2.symm;clear hR hb6 hn8 hN2 q0 q1 q2 q3 r0 r1 r2 r3 h4 h5;by_cases h2:N2=0
 ·rw[no_ok h2];have HP:Hid (leN S Ls Hs Ts S' Ls' Hs' Ts' ws=0):=HN2.out.trans h2;clear h2;obtain⟨⟨q0,q1,q2,q3⟩,r0,r1,r2,r3⟩:=HNN.out w6 HB6.out
  go_wp2_with fail
  refine (verify_any S _ _ _ S' _ _ _ _ _ Ls Hs Ts Ls' Hs' Ts' ws _ w6 (HNA.out w6 HB6.out).1 (HNA.out w6 HB6.out).2.1 (HNA.out w6 HB6.out).2.2 HR6.out).mono ?_;rintro e w7 ⟨rfl,hb7⟩;rw[(le_right HP.out).1,(le_right HP.out).2,HN8.out,no_ok rfl];have HBW7:Hid (Below w.heap.size w w7):=HB1.out.trans ((HB6.out.trans (hb7.mono HB6.out.size)).mono HB1.out.size);have heq:((n8:Int)==(n8:Int))=true:=by simp
  clear hb7 q0 q1 q2 q3 r0 r1 r2 r3;go_wp2;go_ret;exact⟨rfl,HBW7.out⟩
 rw[no_ne h2];clear h2;go_wp2;go_ret;exact⟨rfl,HBW6.out⟩
end planHolds
end Go.Proofs.YtiokpmlhmlcojaaGreat
