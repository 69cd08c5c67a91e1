/- Contracts and facts on the way to PlanTells, joined into one text: RefPlan, SmOp, SmRounds, AsErr, AsErr2, SameNo. -/
import Derived.Test.YtiokpmlhmlcojaaGreatDoorPlanTellsP17
namespace Go.Proofs.YtiokpmlhmlcojaaGreatDoor
set_option linter.unusedSimpArgs false
set_option linter.unusedVariables false
set_option maxHeartbeats 16000000
set_option maxRecDepth 100000
section
open Go.RowKit
theorem intInfo:(Tryz.prog.info? 3).map (fun i=>(i.zero,i.size,i.bytes))=some (some (.int .i64 0),1,8):=by kernel_rfl
structure InR (wo W:World)(xi:SlT)(vr:Value)(a b:List Int):Prop where
 i:GS inE W (slV xi) a
 r:W.ownsRow wo.heap.size 3 inE.n vr b.length (cellsG inE b)
 o:∀g,vr.ownBlock=some g→offB xi g
 b:Below wo.heap.size wo W
theorem InR.later {wo W W':World}{xi:SlT}{vr:Value}{a b:List Int}(h:InR wo W xi vr a b)(hb:Below W.heap.size W W'):InR wo W' xi vr a b:=⟨h.i.later hb,h.r.kept (grown_below hb) (none_or _),h.o,h.b.trans (hb.mono h.b.size)⟩
theorem InR.no {wo W W':World}{xi:SlT}{vr vr':Value}{a b:List Int}{x:Int}(h:InR wo W xi vr a b)(hg:W.grownBy W' vr.ownBlock)(ho:W'.ownsRow wo.heap.size 3 inE.n vr' (b++[x]).length (cellsG inE (b++[x])))(hl:vr'.ownBlock=vr.ownBlock∨vr'.ownBlock=some W.heap.size):InR wo W' xi vr' a (b++[x]):=by
 refine⟨h.i.grown hg h.o,ho,fun g e=>?_,h.b.trans (below_grown hg h.b.size (fun k e=>(h.r.lt k e).1))⟩
 rcases hl with hl | hl
 ·rw[hl] at e;exact h.o g e
 rw[hl] at e;cases e;exact h.i.off (Nat.le_refl _)
theorem own_sl {w:World}{B e n k:Nat}{v:Value}{xs:List Value}(h:w.ownsRow B e k v n xs):∃x:SlT,v=slV x∧∀b,b<B→offB x b:=by
 rcases h.2 with ⟨h3,h4⟩ | ⟨g,cap,cur,h3,hb,_⟩
 ·exact⟨(none,0,0),h3,fun b _=>.inl rfl⟩
 refine⟨(some ⟨g,0,none⟩,n,cap),h3,fun b hlt=>.inr fun a ha=>?_⟩;cases ha;show g≠b;omega
def lnV:Value→Nat
 | .slice _ n _=>n
 | _=>0
theorem rplan_any (S:Int)(v1 v2 v3:Value)(S':Int)(u1 u2 u3 v4:Value)(Ls:List LkT)(Hs:List HoT)(Ts:List (List Ru))(Ls':List LkT)(Hs':List HoT)(Ts':List (List Ru))(ws:List Wi)(w:World)
 (hN:NI w v1 v2 v3 Ls Hs Ts) (hM:NI w u1 u2 u3 Ls' Hs' Ts') (hw:GS wisE w v4 ws):
 Calls Tryz.prog 5 #[.agg #[.int .i64 S,v1,v2,v3],.agg #[.int .i64 S',u1,u2,u3],v4] w fun e w'=>∃v,e=.returned (.tuple #[v,.int .i64 (plN S Ls Hs Ts S' Ls' Hs' Ts' ws)])∧RS w' v (plL S Ls Hs Ts S' Ls' Hs' Ts' ws)∧Below w.heap.size w w':=by
 obtain⟨ao,n,cap,ao2,n2,cap2,ao3,n3,cap3,rfl,rfl,rfl⟩:=hN.form;obtain⟨bo,m,dap,bo2,m2,dap2,bo3,m3,dap3,rfl,rfl,rfl⟩:=hM.form;obtain⟨a4,n4,c4,rfl,_⟩:=hw.form;obtain⟨w1,hw1⟩:∃W,W=(w.alloc (Obj.cells #[.int .i64 S,.slice ao n cap,.slice ao2 n2 cap2,.slice ao3 n3 cap3] 28)).alloc (Obj.cells #[.int .i64 S',.slice bo m dap,.slice bo2 m2 dap2,.slice bo3 m3 dap3] 28):=⟨_,rfl⟩;have hb1:Below w.heap.size w w1:=by rw[hw1];exact ((Below.refl _ _).alloc (Nat.le_refl _) _).alloc (by simp) _
 have hnn:NN w1 w.heap.size S (.slice ao n cap) (.slice ao2 n2 cap2) (.slice ao3 n3 cap3) S' (.slice bo m dap) (.slice bo2 m2 dap2) (.slice bo3 m3 dap3):=by rw[hw1];exact nn_new w S _ _ _ S' _ _ _ 28
 have HNW:Hid (∀W,Below w1.heap.size w1 W→NI W (.slice ao n cap) (.slice ao2 n2 cap2) (.slice ao3 n3 cap3) Ls Hs Ts∧NI W (.slice bo m dap) (.slice bo2 m2 dap2) (.slice bo3 m3 dap3) Ls' Hs' Ts'∧GS wisE W (.slice a4 n4 c4) ws):=fun W h=>⟨(hN.later hb1).later h,(hM.later hb1).later h,(hw.later hb1).later h⟩
 have HNB:Hid (∀W,Below w1.heap.size w1 W→NeBox W w.heap.size S (.slice ao n cap) (.slice ao2 n2 cap2) (.slice ao3 n3 cap3)∧NeBox W (w.heap.size+1) S' (.slice bo m dap) (.slice bo2 m2 dap2) (.slice bo3 m3 dap3)):=fun W h=>⟨hnn.1.later h,hnn.2.later h⟩
 have HB1:Hid (Below w.heap.size w w1):=hb1;have HW1:Hid ((w.alloc (Obj.cells #[.int .i64 S,.slice ao n cap,.slice ao2 n2 cap2,.slice ao3 n3 cap3] 28)).alloc (Obj.cells #[.int .i64 S',.slice bo m dap,.slice bo2 m2 dap2,.slice bo3 m3 dap3] 28)=w1):=hw1.symm;obtain⟨X,hX⟩:∃q,q=pdN S Ls Hs Ts S' Ls' Hs' Ts' ws:=⟨_,rfl⟩;have HX:Hid (pdN S Ls Hs Ts S' Ls' Hs' Ts' ws=X):=hX.symm;obtain⟨D,hD⟩:∃q,q=pdL S Ls Hs Ts S' Ls' Hs' Ts' ws:=⟨_,rfl⟩;have HD:Hid (pdL S Ls Hs Ts S' Ls' Hs' Ts' ws=D):=hD.symm;have HPK:Hid (X=0→PlOK S Ls Hs Ts Ts' ws D):=fun h=>by rw[hD];exact (pd_ok (hX.symm.trans h)).1
 obtain⟨U,hU⟩:∃q,q=wiN S Ls Hs Ts ws:=⟨_,rfl⟩;have HU:Hid (wiN S Ls Hs Ts ws=U):=hU.symm;obtain⟨N,hNN⟩:∃q,q=plN S Ls Hs Ts S' Ls' Hs' Ts' ws:=⟨_,rfl⟩;obtain⟨L0,hL0⟩:∃q,q=plL S Ls Hs Ts S' Ls' Hs' Ts' ws:=⟨_,rfl⟩;have HPB:Hid (pbN S Ls Hs Ts S' Ls' Hs' Ts' ws=if X=0 then U else X):=by rw[hX,hU];exact rfl
 have HNL:Hid ((X≠0→N=X∧L0=[])∧(X=0→U≠0→N=U∧L0=[])∧(X=0→U=0→N=rsN (plO Ls Hs Ts Ts' ws D)∧L0=rsL D (plO Ls Hs Ts Ts' ws D))):=by
  have hpb:=HPB.out;refine⟨fun h=>?_,fun h1 h2=>?_,fun h1 h2=>?_⟩
  ·rw[if_neg h] at hpb;rw[hNN,hL0,plN,plL,hpb,if_neg h,if_neg h];exact⟨rfl,rfl⟩
  ·rw[if_pos h1] at hpb;rw[hNN,hL0,plN,plL,hpb,if_neg h2,if_neg h2];exact⟨rfl,rfl⟩
  rw[if_pos h1,h2] at hpb;rw[hNN,hL0,plN,plL,hpb,if_pos rfl,if_pos rfl,hD];exact⟨rfl,rfl⟩
 rw[←hNN,←hL0];clear hN hM hw hb1 hnn hw1 hX hD hU hNN hL0;go_enter Tryz.func5,Tryz.ntmps5;go_upto_region 1 with fail;rw[HW1.out];clear HW1;obtain⟨⟨q0,q1,q2,q3⟩,r0,r1,r2,r3⟩:=HNB.out w1 (Below.refl _ _)
 go_wp2_with fail
 refine (rready_any S _ _ _ S' _ _ _ _ Ls Hs Ts Ls' Hs' Ts' ws w1 (HNW.out _ (Below.refl _ _)).1 (HNW.out _ (Below.refl _ _)).2.1 (HNW.out _ (Below.refl _ _)).2.2).mono ?_;rintro e w2 ⟨v,rfl,hNO,hb2⟩;rw[HX.out];rw[HD.out] at hNO;obtain⟨ad,nd,cd,hv,_⟩:=hNO.gs.form;subst hv;have HOD:Hid (∀W,Below w2.heap.size w2 W→GS opE W (.slice ad nd cd) D):=fun W h=>(hNO.later h).gs
 have HB2:Hid (Below w1.heap.size w1 w2):=hb2;clear hNO hb2 q0 q1 q2 q3 r0 r1 r2 r3;by_cases hX0:X=0
 ·have HP:Hid (PlOK S Ls Hs Ts Ts' ws D):=HPK.out hX0;have HNLA:Hid ((U≠0→N=U∧L0=[])∧(U=0→N=rsN (plO Ls Hs Ts Ts' ws D)∧L0=rsL D (plO Ls Hs Ts Ts' ws D))):=⟨HNL.out.2.1 hX0,HNL.out.2.2 hX0⟩;clear HNL HPK HPB;subst hX0;obtain⟨⟨q0,q1,q2,q3⟩,_⟩:=HNB.out w2 HB2.out
  go_wp2_with fail
  refine (rholds_any S ao n cap ao2 n2 cap2 ao3 n3 cap3 a4 n4 c4 Ls Hs Ts ws w2 (HNW.out _ HB2.out).1.l (HNW.out _ HB2.out).1.h (HNW.out _ HB2.out).1.t (HNW.out _ HB2.out).2.2 HP.out.nt).mono ?_;rintro e w3 ⟨rfl,hb3⟩;obtain⟨BR,hBR⟩:∃q,q=(brW Ls Hs Ts ws Hs ws.length).isNone:=⟨_,rfl⟩;have HUB:Hid (U=if BR then 0 else 9):=by
   show U=_;rw[←HU.out,wiN,if_pos HP.out.nt,if_pos HP.out.ws,hBR];cases brW Ls Hs Ts ws Hs ws.length <;> rfl
  rw[←hBR];obtain⟨P1,P2,P3,hP⟩:∃a b c,prV Hs (brW Ls Hs Ts ws Hs ws.length)=(a,b,c):=⟨_,_,_,rfl⟩;rw[hP];obtain⟨w4,hw4⟩:∃W,w3.alloc (Obj.cells #[.int .i64 P1,.string P2,.int .i64 P3] 43)=W:=⟨_,rfl⟩;have hb4:Below w3.heap.size w3 w4:=by rw[←hw4];exact (Below.refl _ _).alloc (Nat.le_refl _) _
  have h24:Below w2.heap.size w2 w4:=hb3.trans (hb4.mono hb3.size);have HB24:Hid (Below w2.heap.size w2 w4):=h24;have HB4:Hid (Below w1.heap.size w1 w4):=HB2.out.trans (h24.mono HB2.out.size);have HW4:Hid (w3.alloc (Obj.cells #[.int .i64 P1,.string P2,.int .i64 P3] 43)=w4):=hw4;have HBW4:Hid (Below w.heap.size w w4):=HB1.out.trans (HB4.out.mono HB1.out.size);clear hb3 hb4 h24 hw4 hBR hP q0 q1 q2 q3;go_upto_region 5 with fail;rw[HW4.out];clear HW4;cases BR with
  | false =>
    have hU9:U=9:=HUB.out.trans (by simp);have HNE:Hid (N=9∧L0=[]):=by
     have h:=HNLA.out.1 (by rw[hU9];decide);rw[hU9] at h;exact h
    clear hU9;go_wp2;refine bodyPost_ret (v:=.tuple #[.slice none 0 0,.int .i64 9]) (by simp[results,Tryz.results5,go_sem, *]) rfl ⟨.slice none 0 0,by rw[HNE.out.1],by rw[HNE.out.2];exact RS.nil _,HBW4.out⟩
  | true =>
    have hU0:U=0:=HUB.out.trans (by simp);obtain⟨all,hall⟩:∃a,a=alS D:=⟨_,rfl⟩;obtain⟨sf,hsf⟩:∃f,f=sfB Ls Hs Ts Ts' ws:=⟨_,rfl⟩;obtain⟨nx,hnx⟩:∃f,f=fun done=>fiS sf all done 6:=⟨_,rfl⟩
    obtain⟨RO,hRO⟩:∃R,R=roA all nx 0:=⟨_,rfl⟩;have HSF:Hid (sfB Ls Hs Ts Ts' ws=sf):=hsf.symm;have HNX:Hid (∀done,fiS sf all done 6=nx done):=fun done=>by rw[hnx]
    have HOK:Hid (NxOK all nx):=by show NxOK all nx;rw[hnx];exact nx_fi _ _
    have HRO:Hid (roA all nx 0=RO):=hRO.symm;have HA:Hid (all<64):=by show all<64;rw[hall];exact al_lt HP.out.w
    have HNE:Hid (N=rsN RO∧L0=rsL D RO):=by
     have h:=HNLA.out.2 hU0;have e:plO Ls Hs Ts Ts' ws D=RO:=by rw[hRO,hnx,hsf,hall];rfl
     rw[e] at h;exact h
    have HTL:Hid (tcL D=lsS (mnS all 0)):=by
     show tcL D=_;rw[tc_ls HP.out.w,hall]
     congr 1
     refine set_ext (al_lt HP.out.w) (mn_lt (al_lt HP.out.w)) fun a h1 h2=>?_
     rw[in_mn h1 h2,in_0];simp
    obtain⟨i0,hi,hz0,hz1,hz2⟩:=info_parts rd_info;obtain⟨j0,hj,hy0,hy1,hy2⟩:=info_parts intInfo;have HDF:Hid (D.length≤144):=HP.out.few;have HNDL:Hid (D.length=nd):=by
     obtain⟨_,_,_,e,hn,_⟩:=(HOD.out w2 (Below.refl _ _)).form;cases e;exact hn
    clear hall hsf hnx hRO hU0 HNLA
    go_wp2_with fail
    refine (rtouched_any ad nd cd D w4 (HOD.out _ HB24.out) (by have:=HDF.out;have:=HNDL.out;omega)).mono ?_;rintro e w5 ⟨al0,nl0,cl0,rfl,hI5,hb5⟩;rw[HTL.out] at hI5;have HB5:Hid (Below w1.heap.size w1 w5):=HB4.out.trans (hb5.mono HB4.out.size);have HB25:Hid (Below w2.heap.size w2 w5):=HB24.out.trans (hb5.mono HB24.out.size);obtain⟨gn,hgn⟩:∃g,g=w5.heap.size:=⟨_,rfl⟩;obtain⟨w6,hw6⟩:∃W,w5.alloc (Obj.cells #[.int .i64 S,.slice ao n cap,.slice ao2 n2 cap2,.slice ao3 n3 cap3] 28)=W:=⟨_,rfl⟩;have hb6:Below w5.heap.size w5 w6:=by rw[←hw6];exact (Below.refl _ _).alloc (Nat.le_refl _) _
    have HW6:Hid (w5.alloc (Obj.cells #[.int .i64 S,.slice ao n cap,.slice ao2 n2 cap2,.slice ao3 n3 cap3] 28)=w6):=hw6;have HGN:Hid (w5.heap.size=gn):=hgn.symm;have HNY:Hid (NBy w6 gn S (.slice ao n cap) (.slice ao2 n2 cap2) (.slice ao3 n3 cap3) Ls Hs (nwT Ts Ts' 0)):=by
     rw[nw_0,hgn];refine⟨by rw[←hw6];exact nbx_new (HNW.out _ HB5.out).1 S 28,fun o ho=>?_⟩;rw[←hw6];simp;omega
    have HI6:Hid (GS inE w6 (.slice al0 nl0 cl0) (lsS (mnS all 0))):=hI5.later hb6;have HB56:Hid (Below gn w5 w6):=by rw[hgn];exact hb6
    have HKP:Hid (∀W,Below gn w5 W→GS opE W (.slice ad nd cd) D∧NI W (.slice ao n cap) (.slice ao2 n2 cap2) (.slice ao3 n3 cap3) Ls Hs Ts∧GS wisE W (.slice a4 n4 c4) ws∧Below w.heap.size w W):=fun W h=>by
     rw[hgn] at h;have h2:=HB25.out.trans (h.mono HB25.out.size);have h1:=HB5.out.trans (h.mono HB5.out.size);have h0:=HB1.out.trans (h1.mono HB1.out.size);exact⟨HOD.out W h2,(HNW.out W h1).1,(HNW.out W h1).2.2,h0⟩
    have HIJ:Hid (Tryz.prog.info? 48=some i0∧i0.zero=some (.slice none 0 0)∧i0.size=slE.n∧i0.bytes=24):=⟨hi,hz0,hz1,hz2⟩;have HIN:Hid (Tryz.prog.info? 3=some j0∧j0.zero=some (.int .i64 0)∧j0.size=inE.n∧j0.bytes=8):=⟨hj,hy0,hy1,hy2⟩;obtain⟨⟨q0,q1,q2,q3⟩,_⟩:=HNB.out w5 HB5.out;clear hgn hw6 hb6 hI5 hb5 hi hz0 hz1 hz2 hj hy0 hy1 hy2;go_upto_region 10 with fail;rw[HW6.out,HGN.out];clear HW6 q0 q1 q2 q3
    go_loopw [12,13] (fun v lf wr=>∃done:Nat,done<64∧(∀a,1≤a→a≤6→inS done a=true→inS all a=true)∧(∃L:List Nat,L.length+lfN all done≤6∧RO=(roA all nx done).map (L++·)∧∃vs,OR wr (gn+1) v vs (L.map (rnL D)))∧(∃(al:Option Addr) (nl cl:Nat),lf=.slice al nl cl∧GS inE wr (.slice al nl cl) (lsS (mnS all done)))∧(∃(b3:Option Addr) (k3 d3:Nat),NBy wr gn S (.slice ao n cap) (.slice ao2 n2 cap2) (.slice b3 k3 d3) Ls Hs (nwT Ts Ts' done)∧TOff wr v (.slice b3 k3 d3))∧Below gn w5 wr) (fun _ lf _=>lnV lf)
    case atStart=>exact⟨0,by omega,(fun a _ _ h=>absurd h (by rw[in_0];decide)),⟨[],(by have:=lf_le all 0;simpa using this),by rw[←HRO.out];simp,[],or_nil _ _⟩,⟨al0,nl0,cl0,rfl,HI6.out⟩,⟨ao3,n3,cap3,HNY.out,fun b h=>by cases h⟩,HB56.out⟩
    case round =>
     obtain⟨done,hd,hsub,⟨L,hlen,hro,vs,hOR⟩,⟨al,nl,cl,rfl,hI⟩,⟨b3,k3,d3,hNY,hTO⟩,hB⟩:=hrel;have HTO:Hid (TOff wr u12 (.slice b3 k3 d3)):=hTO;clear hTO;obtain⟨wo,hwo⟩:∃X,X=wr:=⟨_,rfl⟩;subst hwo;obtain⟨LF,hLF⟩:∃l,l=lsS (mnS all done):=⟨_,rfl⟩;rw[←hLF] at hI;obtain⟨_,_,_,ee,hnl,hnm,_,hat⟩:=hI.form;cases ee;have HLF:Hid (LF=lsS (mnS all done)):=hLF;have HNL:Hid (LF.length=nl):=hnl;have HL6:Hid (nl≤6):=by rw[←hnl,hLF];exact ls_len _ 6
     have n63:nl≤9223372036854775807:=by have:=HL6.out;omega
     have HAT:Hid (0<nl→∃g o,al=some ⟨g,o,none⟩∧GAt inE wo g o LF∧cl≤maxLen):=hat;have HOR:Hid (OR wo (gn+1) u12 vs (L.map (rnL D))):=hOR;have HNYo:Hid (NBy wo gn S (.slice ao n cap) (.slice ao2 n2 cap2) (.slice b3 k3 d3) Ls Hs (nwT Ts Ts' done)):=hNY;have HB:Hid (Below gn w5 wo):=hB;have HSUB:Hid (∀a,1≤a→a≤6→inS done a=true→inS all a=true):=hsub;have HLEN:Hid (L.length+lfN all done≤6):=hlen;have HRL:Hid (RO=(roA all nx done).map (L++·)):=hro;have HDN:Hid (done<64):=hd;have HM64:Hid (mnS all done<64):=mn_lt HA.out;clear hLF hI hnl hnm hat hOR hNY hB hsub hlen hro hd HI6 HNY HB56;by_cases h0:nl=0
     ·have HDA:Hid (done=all):=by
       have h1:mnS all done=0:=(ls_0 HM64.out).1 (by rw[←HLF.out,HNL.out];exact h0);refine set_ext HDN.out HA.out fun a k1 k2=>?_
       have h2:=in_mn (s:=all) (t:=done) k1 k2;rw[h1,in_0] at h2;cases e1:inS done a with
       | true=>exact (HSUB.out a k1 k2 e1).symm
       | false =>
         rw[e1] at h2;simpa using h2
      have HRE:Hid (RO=some L):=by
       have h:=HRL.out;rw[HDA.out,ro_end] at h;show RO=some L;simpa using h
      have HBE:Hid (Below w.heap.size w wo):=(HKP.out wo HB.out).2.2.2;subst h0;go_wp2;refine bodyPost_ret (v:=.tuple #[u12,.int .i64 0]) (by simp[results,Tryz.results5,go_sem, *]) rfl ⟨u12,by rw[HNE.out.1,HRE.out];rfl,by rw[HNE.out.2,HRE.out];exact HOR.out.rs,HBE.out⟩
     have dpos:(0:Int)<(nl:Int):=by omega
     have HPOS:Hid (0<nl):=by show 0<nl;omega
     have HEL:Hid (∀a∈LF,1≤a∧a≤6):=fun a ha=>by
      rw[HLF.out] at ha;obtain⟨b,k1,k2,k3,_⟩:=(ls_mem _ _ 6).1 ha;omega
     clear h0;go_wp2;rw[show decide (0<nl)=true from decide_eq_true HPOS.out]
     go_loopw [15,16,17] (fun vi vr i W=>∃k:Nat,k≤nl∧i=.int .i64 (k:Int)∧∃(ai:Option Addr) (ni ci:Nat),vi=.slice ai ni ci∧InR wo W (ai,ni,ci) vr (dcL sf done (LF.take k)).2.1 (dcL sf done (LF.take k)).2.2) (fun _ _ i _=>nl-(intOf i).toNat)
     case atStart=>exact⟨0,by omega,rfl,none,0,0,rfl,GS.nil _,World.ownsRow_nil _ _ _ _,(fun g h=>by cases h),Below.refl _ _⟩
     case round =>
      obtain⟨k,hk,rfl,ai,ni,ci,rfl,hIR⟩:=hrel;obtain⟨wi,hwi⟩:∃X,X=wr:=⟨_,rfl⟩;subst hwi;obtain⟨A,hA⟩:∃l,l=(dcL sf done (LF.take k)).2.1:=⟨_,rfl⟩;obtain⟨B,hBB⟩:∃l,l=(dcL sf done (LF.take k)).2.2:=⟨_,rfl⟩;obtain⟨s,hs⟩:∃l,l=(dcL sf done (LF.take k)).1:=⟨_,rfl⟩;rw[←hA,←hBB] at hIR;have HIR:Hid (InR wo wi (ai,ni,ci) u16 A B):=hIR;have HDC:Hid (dcL sf done (LF.take k)=(s,A,B)):=by rw[hA,hBB,hs];exact rfl
      have HBI:Hid (Below wo.heap.size wo wi):=hIR.b;clear hIR hA hBB hs;by_cases hlt:k<nl
      ·obtain⟨gl,ol,hal,hga,_⟩:=HAT.out HPOS.out;subst hal;obtain⟨x,hkl,hLk,_⟩:=in_at hga HNL.out hlt;have HCX:Hid (∀W,Below wo.heap.size wo W→W.cell? ⟨gl,ol+k,none⟩=some (.int .i64 x)):=fun W h=>by
        obtain⟨x',hl',e1,e2⟩:=in_at (hga.later h) HNL.out hlt;rw[hLk] at e1;subst e1;exact e2
       have hx16:1≤x∧x≤6:=by rw[←hLk];exact HEL.out _ (List.getElem_mem hkl)
       obtain⟨xn,hxn⟩:∃q:Nat,x=(q:Int):=⟨x.toNat,by omega⟩;obtain⟨t,ht⟩:∃t,t=s ||| onS xn:=⟨_,rfl⟩
       have hs64:=dc_sub (sf:=sf) (done:=done) (LF.take k) (0,[],[]) (fun a ha=>HEL.out a (List.mem_of_mem_take ha)) (by decide);rw[show (LF.take k).foldl (dcA sf done) (0,[],[])=(s,A,B) from HDC.out] at hs64;have hin:=dc_in (sf:=sf) (done:=done) (LF.take k) (0,[],[]) (fun a ha=>HEL.out a (List.mem_of_mem_take ha)) (fun a _ _=>by rw[in_0];rfl);rw[show (LF.take k).foldl (dcA sf done) (0,[],[])=(s,A,B) from HDC.out] at hin;have hle:=dc_len (sf:=sf) (done:=done) (LF.take k) (0,[],[]);rw[show (LF.take k).foldl (dcA sf done) (0,[],[])=(s,A,B) from HDC.out] at hle;have HAB:Hid (A.length≤6∧B.length≤6):=by
        have h1:(LF.take k).length≤LF.length:=by rw[List.length_take];omega
        have h2:=HNL.out;have h3:=HL6.out;simp only[List.length_nil,Nat.zero_add] at hle;exact⟨by omega,by omega⟩
       have HDIS:Hid (∀a,1≤a→a≤6→inS t a=true→inS done a=false):=fun a k1 k2 k3=>by
        have hm:inS (mnS all done) a=true:=by
         rw[ht,in_or,in_on k2 (by omega),Bool.or_eq_true] at k3;have hmem:(a:Int)∈LF:=by
          rcases k3 with k3 | k3
          ·rcases hs64.2 a k1 k2 k3 with k4 | k4
           ·rw[in_0] at k4;cases k4
           exact List.mem_of_mem_take k4
          have e:a=xn:=of_decide_eq_true k3;rw[e,←hxn,←hLk];exact List.getElem_mem hkl
         rw[HLF.out] at hmem;obtain⟨b,_,_,e,hb⟩:=(ls_mem _ _ 6).1 hmem;rw[show a=b by omega];exact hb
        rw[in_mn k1 k2] at hm;simp only[Bool.and_eq_true,Bool.not_eq_true'] at hm;exact hm.2
       have HOF:Hid ((D.filter fun o=>(A++[x]).any fun y=>y==o.w)=rnL D t):=HP.out.of (fun a k1 k2=>by
        rw[ht,in_or,in_on k2 (by omega),←hin a k1 k2,Bool.eq_iff_iff];simp only[List.contains_iff_mem,List.mem_append,List.mem_singleton,Bool.or_eq_true,decide_eq_true_eq];exact or_congr Iff.rfl ⟨fun e=>by omega,fun e=>by omega⟩)
       obtain⟨T,hT⟩:∃T,T=sf done t:=⟨_,rfl⟩;have HTM:Hid (decide (mfN S Ls Hs (nwT Ts Ts' done) (rnL D t) ws=0)=T):=by rw[hT,←HSF.out];exact HP.out.mf HDIS.out
       have HNXD:Hid (dcL sf done (LF.take (k+1))=if T=true then (t,A++[x],B) else (s,A,B++[x])):=by
        show _=_;rw[dc_next sf done hkl,HDC.out,hLk,dcA,hT,ht,hxn];rfl
       have kb0:(0:Int)≤(k:Int):=by omega
       have kb1:(k:Int)<(nl:Int):=by omega
       have HN1:Hid (([]:List Int).length+A.length≤maxLen∧(([]:List Int).length+A.length)*8≤140737488355328):=by
        have:=HAB.out.1;exact⟨by unfold maxLen;simp;omega,by simp;omega⟩
       clear hga hLk hx16 hxn ht hs64 hin hle hT
       go_wp2_with (at_builtin;refine wpList_append_GS (E:=inE) wi rfl _ _ 54 3 rfl Tryz.underlying54 j0 (.int .i64 0) 8 HIN.out.1 HIN.out.2.1 HIN.out.2.2.1 HIN.out.2.2.2 rfl wi.heap.size (.slice none 0 0) rfl [] (World.ownsRow_nil wi wi.heap.size _ _) _ rfl A HIR.out.i HN1.out.1 HN1.out.2 (Nat.le_refl _) ?_)
       intro v7 w7 ho7 hg7;have hb7:Below wi.heap.size wi w7:=below_grown hg7 (Nat.le_refl _) (fun b hb=>by cases hb);have HB7:Hid (Below wi.heap.size wi w7):=hb7;have c7:=HCX.out w7 (HBI.out.trans (hb7.mono HBI.out.size));have hal8:Below w7.heap.size w7 (w7.alloc (Obj.cells #[.int .i64 x] 3)):=(Below.refl _ _).alloc (Nat.le_refl _) _;have HO8:Hid ((w7.alloc (Obj.cells #[.int .i64 x] 3)).ownsRow wi.heap.size 3 inE.n v7 A.length (cellsG inE A)):=by
        have h:w7.ownsRow wi.heap.size 3 inE.n v7 A.length (cellsG inE A):=by simpa using ho7
        exact h.kept (grown_below hal8) (none_or _)
       have HB8:Hid (Below wi.heap.size wi (w7.alloc (Obj.cells #[.int .i64 x] 3))):=hb7.trans (hal8.mono hb7.size);have HVA:Hid (VAt (w7.alloc (Obj.cells #[.int .i64 x] 3)) w7.heap.size 0 (inE.c x)):=vat_new w7 [.int .i64 x] 3;have HN2:Hid (A.length+1≤maxLen∧(A.length+1)*8≤140737488355328):=by
        have:=HAB.out.1;exact⟨by unfold maxLen;omega,by omega⟩
       clear ho7 hg7 hb7 hal8
       go_wp2_with (at_builtin;refine wpList_append_blk (E:=inE) _ rfl _ _ 54 3 rfl Tryz.underlying54 j0 (.int .i64 0) 8 HIN.out.1 HIN.out.2.1 HIN.out.2.2.1 HIN.out.2.2.2 rfl wi.heap.size v7 rfl A HO8.out w7.heap.size 0 1 rfl x HVA.out HN2.out.1 HN2.out.2 HB8.out.size ?_)
       intro v9 w9 ho9 hg9 hl9;obtain⟨⟨a9,n9,c9⟩,hv9,hoff9⟩:=own_sl ho9
       replace hv9:v9=.slice a9 n9 c9:=hv9
       subst hv9;have hb9:Below wi.heap.size wi w9:=HB8.out.trans (below_grown hg9 HB8.out.size (fun b hb=>(HO8.out.lt b hb).1));have HB9:Hid (Below wi.heap.size wi w9):=hb9;have HBO9:Hid (Below wo.heap.size wo w9):=HBI.out.trans (hb9.mono HBI.out.size);have HBG9:Hid (Below gn w5 w9):=HB.out.trans (HBO9.out.mono (Nat.le_of_lt HNYo.out.x.b.lt));have HI9:Hid (GS inE w9 (.slice a9 n9 c9) (A++[x])):=own_GS (E:=inE) (by simpa using ho9);have HOF9:Hid (∀b,b<wi.heap.size→offB (a9,n9,c9) b):=hoff9;have HCB:Hid (∀W,Below w9.heap.size w9 W→W.cell? ⟨gn,0,none⟩=some (.int .i64 S)∧W.cell? ⟨gn,1,none⟩=some (.slice ao n cap)∧W.cell? ⟨gn,2,none⟩=some (.slice ao2 n2 cap2)∧W.cell? ⟨gn,3,none⟩=some (.slice b3 k3 d3)):=fun W hW=>((HNYo.out.later HBO9.out).later hW).x.b.c
       have HOFC:Hid (∀W,Below w9.heap.size w9 W→Calls Tryz.prog 19 #[.slice ad nd cd,.slice a9 n9 c9] W fun e w'=>∃a7 n7 c7,e=.returned (.slice a7 n7 c7)∧(∀V,Below w'.heap.size w' V→GS opE V (.slice a7 n7 c7) (rnL D t))∧Below W.heap.size W w'):=fun W hW=>by
        refine (rof_any ad nd cd a9 n9 c9 D (A++[x]) W (HKP.out W (HBG9.out.trans (hW.mono (Nat.le_trans (Nat.le_of_lt HNYo.out.x.b.lt) HBO9.out.size)))).1 (HI9.out.later hW) (by have:=HDF.out;omega)).mono ?_;rintro e w' ⟨v,rfl,hNO,hb⟩;rw[HOF.out] at hNO;obtain⟨a7,n7,c7,rfl,_⟩:=hNO.gs.form;exact⟨a7,n7,c7,rfl,fun V hV=>(hNO.later hV).gs,hb⟩
       have HMAY:Hid (∀W a7 n7 c7,GS opE W (.slice a7 n7 c7) (rnL D t)→Below w9.heap.size w9 W→Calls Tryz.prog 18 #[.agg #[.int .i64 S,.slice ao n cap,.slice ao2 n2 cap2,.slice b3 k3 d3],.slice a7 n7 c7,.slice a4 n4 c4] W fun e w'=>∃f3 l3 e3,e=.returned (.tuple #[.agg #[.int .i64 S,.slice ao n cap,.slice ao2 n2 cap2,.slice f3 l3 e3],.bool T])∧Below W.heap.size W w'):=fun W a7 n7 c7 hG hW=>by
        have hny:=(HNYo.out.later HBO9.out).later hW;refine (rmay_any S ao n cap ao2 n2 cap2 b3 k3 d3 a7 n7 c7 a4 n4 c4 Ls Hs (nwT Ts Ts' done) (rnL D t) ws W W hny.x.b.ni (Below.refl _ _) hG (HKP.out W (HBG9.out.trans (hW.mono (Nat.le_trans (Nat.le_of_lt HNYo.out.x.b.lt) HBO9.out.size)))).2.2.1 HP.out.nw).mono ?_;rintro e w' ⟨f3,l3,e3,rfl,_,hb⟩;exact⟨f3,l3,e3,by rw[HTM.out],hb⟩
       clear ho9 hg9 hl9 hoff9 hb9 c7;go_upto_region 18 with fail
       go_cut [19,20] from 46 to 79 (fun _ ok w'=>ok=.bool T∧Below w9.heap.size w9 w')
       case first =>
        go_region_held3 (fun W=>W.cell? ⟨gn,0,none⟩=some (.int .i64 S)∧W.cell? ⟨gn,1,none⟩=some (.slice ao n cap)∧W.cell? ⟨gn,2,none⟩=some (.slice ao2 n2 cap2)∧W.cell? ⟨gn,3,none⟩=some (.slice b3 k3 d3))
         (first | (with_reducible assumption) | (with_reducible exact HCB.out _ (Below.drew (Below.refl _ _))) | (with_reducible exact HCB.out _ (Below.drew ((Below.refl _ _).alloc (Nat.le_refl _) _))) | (with_reducible exact HCB.out _ HBY.out) | (with_reducible exact HCB.out _ (HBY.out.alloc HBY.out.size _)) | (with_reducible exact HCB.out _ HBX.out) | (with_reducible exact HCB.out _ (HBX.out.alloc HBX.out.size _)) | (exact HCB.out _ (below_pn4 HBY.out _ (by first | exact Nat.le_refl _ | exact HBX.out.size) _ _ _ _)))
         (first
          | (go_at_call 19;refine (HOFC.out _ (by first | exact Below.drew (Below.refl _ _) | exact (Below.drew (Below.refl _ _)).alloc (Nat.le_refl _) _)).mono ?_;rintro e w' ⟨a7,n7,c7,rfl,hG,hb⟩;have HBX:Hid (Below w9.heap.size w9 w'):=(by first | exact fdrew hb | exact falloc hb);have HGX:Hid (∀V,Below w'.heap.size w' V→GS opE V (.slice a7 n7 c7) (rnL D t)):=hG;(try (have HZ:Hid (ZB w' w9.heap.size):=zb_d hb));clear hb hG)
          | (go_at_call 18;refine (HMAY.out _ a7 n7 c7 (HGX.out _ (by first | exact Below.refl _ _ | exact (Below.refl _ _).alloc (Nat.le_refl _) _)) (by first | exact HBX.out | exact HBX.out.alloc HBX.out.size _)).mono ?_;rintro e w'' ⟨f3,l3,e3,rfl,hb⟩;have HBY:Hid (Below w9.heap.size w9 w''):=(by first | exact HBX.out.trans (hb.mono HBX.out.size) | exact (HBX.out.alloc HBX.out.size _).trans (hb.mono (HBX.out.alloc HBX.out.size _).size));(try (have hz:=HZ.out.later hb;have hzl:=HZ.out.lt;obtain⟨⟨y0,y1,y2,y3⟩,yf⟩:=hz;have yf0:=yf 0;have yf1:=yf 1;have yf2:=yf 2;have yf3:=yf 3;clear yf));(try (have hz:=zb_a hb;obtain⟨⟨y0,y1,y2,y3⟩,yf⟩:=hz;have yf0:=yf 0;have yf1:=yf 1;have yf2:=yf 2;have yf3:=yf 3;clear yf));clear hb))
        all_goals (go_wp2_with fail;go_meet)
        all_goals first
         | exact⟨rfl,HBY.out.alloc HBY.out.size _⟩
         | exact⟨rfl,below_pn4 HBY.out _ (by first | exact Nat.le_refl _ | exact HBX.out.size) _ _ _ _⟩
       case rest =>
        obtain⟨rfl,hb10⟩:=hcut;obtain⟨wx,hwx⟩:∃X,X=wc:=⟨_,rfl⟩;subst hwx;have HBIx:Hid (Below wi.heap.size wi wx):=HB9.out.trans (hb10.mono HB9.out.size);have HBOx:Hid (Below wo.heap.size wo wx):=HBO9.out.trans (hb10.mono HBO9.out.size);have HIX:Hid (GS inE wx (.slice a9 n9 c9) (A++[x])):=HI9.out.later hb10;clear hb10 HOFC HMAY HCB;cases T with
        | true =>
          have HN3:Hid (dcL sf done (LF.take (k+1))=(t,A++[x],B)):=HNXD.out.trans (by simp);have HIN2:Hid (InR wo wx (a9,n9,c9) u16 (dcL sf done (LF.take (k+1))).2.1 (dcL sf done (LF.take (k+1))).2.2):=by
           rw[HN3.out];exact⟨HIX.out,(HIR.out.later HBIx.out).r,fun g hg=>HOF9.out g (HIR.out.r.lt g hg).2,HBOx.out⟩
          go_wp2;go_roundw
          case rel=>first | exact⟨k+1,by omega,by go_num,a9,n9,c9,rfl,HIN2.out⟩ | exact⟨.slice a9 n9 c9,u16,.int .i64 ((k:Int)+1),⟨k+1,by omega,by go_num,a9,n9,c9,rfl,HIN2.out⟩,rfl,rfl,rfl⟩
          case measure=>simp[intOf];omega
        | false =>
          have HN3:Hid (dcL sf done (LF.take (k+1))=(s,A,B++[x])):=HNXD.out.trans (by simp);have cx:=HCX.out wx HBOx.out;have hal11:Below wx.heap.size wx (wx.alloc (Obj.cells #[.int .i64 x] 3)):=(Below.refl _ _).alloc (Nat.le_refl _) _;have HIR11:Hid (InR wo (wx.alloc (Obj.cells #[.int .i64 x] 3)) (ai,ni,ci) u16 A B):=(HIR.out.later HBIx.out).later hal11;have HVA11:Hid (VAt (wx.alloc (Obj.cells #[.int .i64 x] 3)) wx.heap.size 0 (inE.c x)):=vat_new wx [.int .i64 x] 3;have HN4:Hid (B.length+1≤maxLen∧(B.length+1)*8≤140737488355328):=by
           have:=HAB.out.2;exact⟨by unfold maxLen;omega,by omega⟩
          clear hal11
          go_wp2_with (at_builtin;refine wpList_append_blk (E:=inE) _ rfl _ _ 54 3 rfl Tryz.underlying54 j0 (.int .i64 0) 8 HIN.out.1 HIN.out.2.1 HIN.out.2.2.1 HIN.out.2.2.2 rfl wo.heap.size u16 rfl B HIR11.out.r wx.heap.size 0 1 rfl x HVA11.out HN4.out.1 HN4.out.2 HIR11.out.b.size ?_)
          intro v12 w12 ho12 hg12 hl12;have HIN2:Hid (InR wo w12 (ai,ni,ci) v12 (dcL sf done (LF.take (k+1))).2.1 (dcL sf done (LF.take (k+1))).2.2):=by
           rw[HN3.out];exact HIR11.out.no hg12 (by simpa using ho12) (by simpa using hl12)
          clear ho12 hg12 hl12 cx
          try simp only[Act.put,List.setIfInBounds_toArray,List.set_cons_zero,List.set_cons_succ,List.getElem_toArray,List.getElem_cons_zero,List.getElem_cons_succ]
          go_wp2;go_roundw
          case rel=>first | exact⟨k+1,by omega,by go_num,ai,ni,ci,rfl,HIN2.out⟩ | exact⟨.slice ai ni ci,.int .i64 ((k:Int)+1),⟨k+1,by omega,by go_num,ai,ni,ci,rfl,HIN2.out⟩,rfl,rfl⟩ | exact⟨.slice ai ni ci,v12,.int .i64 ((k:Int)+1),⟨k+1,by omega,by go_num,ai,ni,ci,rfl,HIN2.out⟩,rfl,rfl,rfl⟩
          case measure=>simp[intOf];omega
      obtain rfl:k=nl:=by omega
      have htk:LF.take k=LF:=by rw[←HNL.out];exact List.take_length
      have hdc:=dc_ls sf done all 6 (Nat.le_refl _);rw[show lsTo (mnS all done) 6=LF from HLF.out.symm,HNX.out done] at hdc;have hd2:=HDC.out;rw[htk,hdc] at hd2;simp only[Prod.mk.injEq] at hd2;obtain⟨hs1,hA1,hB1⟩:=hd2;have HSN:Hid (s=nx done):=hs1.symm;have HAE:Hid (A=lsS s):=by rw[←hs1];exact hA1.symm
      have HBE:Hid (B=lsS (mnS all (done ||| s))):=by
       show B=_;rw[←hB1,hs1,←mn_mn HA.out];rfl
      have HS64:Hid (s<64):=by rw[←hs1];exact (HOK.out done).1
      obtain⟨_,_,_,ei,hAn,_⟩:=HIR.out.i.form
      replace ei:Value.slice ai ni ci=_:=ei
      cases ei;have HAN:Hid (A.length=ni):=hAn;clear htk hdc hs1 hA1 hB1 hAn;by_cases hn0:ni=0
      ·have hs0:s=0:=(ls_0 HS64.out).1 (by rw[←HAE.out,HAN.out];exact hn0);have HRE:Hid (RO=none):=by
        have h1:done≠all:=by
         intro e;have hz:mnS all done=0:=by
          rw[e];exact set_0 (mn_lt HA.out) fun a k1 k2=>by rw[in_mn k1 k2];simp
         have:=(ls_0 HM64.out).2 hz;rw[←HLF.out,HNL.out] at this;have:=HPOS.out;omega
        have h:=HRL.out;rw[ro_none h1 (by rw[←HSN.out];exact hs0)] at h;exact h
       have HBW:Hid (Below w.heap.size w wi):=(HKP.out wi (HB.out.trans (HBI.out.mono (Nat.le_of_lt HNYo.out.x.b.lt)))).2.2.2;subst hn0;clear hs0;go_wp2;refine bodyPost_ret (v:=.tuple #[.slice none 0 0,.int .i64 9]) (by simp[results,Tryz.results5,go_sem, *]) rfl ⟨.slice none 0 0,by rw[HNE.out.1,HRE.out];rfl,by rw[HNE.out.2,HRE.out];exact RS.nil _,HBW.out⟩
      have hq0:((ni:Int)==0)=false:=by rw[beq_eq_false_iff_ne];omega
      have HNI0:Hid (ni≠0):=hn0;have HS0:Hid (s≠0):=by
       intro e;have h:=(ls_0 HS64.out).2 e;rw[←HAE.out,HAN.out] at h;exact hn0 h
      have HDIS:Hid (∀a,1≤a→a≤6→inS s a=true→inS done a=false):=fun a k1 k2 k3=>by
       rw[HSN.out] at k3;have h:=(HOK.out done).2 a k1 k2 k3;rw[in_mn k1 k2] at h;simp only[Bool.and_eq_true,Bool.not_eq_true'] at h;exact h.2
      have HOF:Hid ((D.filter fun o=>A.any fun y=>y==o.w)=rnL D s):=HP.out.of (fun a k1 k2=>by rw[HAE.out];exact ls_has k1 k2);have HBGi:Hid (Below gn w5 wi):=HB.out.trans (HBI.out.mono (Nat.le_of_lt HNYo.out.x.b.lt));clear hn0
      go_wp2_with fail
      refine (rof_any ad nd cd ai ni ci D A wi (HKP.out wi HBGi.out).1 HIR.out.i (by have:=HDF.out;omega)).mono ?_;rintro e w13 ⟨v,rfl,hNO,hb13⟩;rw[HOF.out] at hNO;obtain⟨⟨a7,n7,c7⟩,hv,hoff7⟩:=hNO.sl2
      replace hv:v=.slice a7 n7 c7:=hv
      subst hv;have HNY13:Hid (NBy w13 gn S (.slice ao n cap) (.slice ao2 n2 cap2) (.slice b3 k3 d3) Ls Hs (nwT Ts Ts' done)):=(HNYo.out.later HBI.out).later hb13;have HNO13:Hid (NO w13 wi.heap.size (.slice a7 n7 c7) (rnL D s)):=hNO;have HOFF7:Hid (∀b,b<wi.heap.size→offB (a7,n7,c7) b):=hoff7;have HB13:Hid (Below wi.heap.size wi w13):=hb13;have HCG:Hid (cgN S Ls Hs (nwT Ts Ts' done) (rnL D s)=0):=HP.out.cg HDIS.out;have HCT:Hid (caT (nwT Ts Ts' done) (rnL D s)=nwT Ts Ts' (done ||| s)):=(HP.out.ca HDIS.out).2;obtain⟨x0,x1,x2,x3⟩:=HNY13.out.x.b.c;have HQQ:Hid (∀b,u12.ownBlock=some b→b<w13.heap.size∧∀vs0,GS slE w13 (.slice b3 k3 d3) vs0→∀x∈vs0,offB x b):=fun b hb=>by
       obtain⟨us,h1,h2⟩:=(HTO.out.later HBI.out).later hb13 b hb;refine⟨Nat.lt_of_lt_of_le (HOR.out.ov.lt b hb).2 (Nat.le_trans HBI.out.size hb13.size),fun vs0 h3 x hx=>?_⟩;rw[gs_sl_one h3 h1] at hx;exact h2 x hx
      clear hNO hoff7 hb13
      go_wp2_with fail
      refine (refApply_far S ao n cap ao2 n2 cap2 b3 k3 d3 a7 n7 c7 Ls Hs (nwT Ts Ts' done) (rnL D s) w13 w13 HNY13.out.x.b.t (Below.refl _ _) HNO13.out.gs HP.out.nw (fun b=>u12.ownBlock=some b) HQQ.out).mono ?_;rintro e w14 ⟨f3,l3,e3,rfl,⟨vs2,hTR,hOQ⟩,hb14⟩;rw[HCG.out,HCT.out] at hTR;rw[HCG.out];simp only[nvS,nvV,nvL,if_true] at hTR ⊢;have HNY14:Hid (NBy w14 gn S (.slice ao n cap) (.slice ao2 n2 cap2) (.slice b3 k3 d3) Ls Hs (nwT Ts Ts' done)):=HNY13.out.later hb14;have HB14:Hid (Below wi.heap.size wi w14):=HB13.out.trans (hb14.mono HB13.out.size);have HOQ:Hid (∀b,u12.ownBlock=some b→∀x∈vs2,offB x b):=fun b hb x hx=>hOQ x hx b hb
      have HTR15:Hid (TR 93 (put4 w14 gn (.int .i64 S) (.slice ao n cap) (.slice ao2 n2 cap2) (.slice f3 l3 e3)) w13.heap.size w13.heap.size (.slice f3 l3 e3) vs2 (nwT Ts Ts' (done ||| s))):=tr_put4 hTR HNY13.out.x.b.lt HNY14.out _ _ _ _;have hlg:gn<wi.heap.size:=(HNYo.out.later HBI.out).x.b.lt;have hgr:=grown_put4 w14 gn (.int .i64 S) (.slice ao n cap) (.slice ao2 n2 cap2) (.slice f3 l3 e3);have hbg:Below gn w5 (put4 w14 gn (.int .i64 S) (.slice ao n cap) (.slice ao2 n2 cap2) (.slice f3 l3 e3)):=below_pn4 (HBGi.out.trans (HB14.out.mono (Nat.le_of_lt hlg))) gn (Nat.le_refl _) _ _ _ _;obtain⟨w15,hw15⟩:∃W,put4 w14 gn (.int .i64 S) (.slice ao n cap) (.slice ao2 n2 cap2) (.slice f3 l3 e3)=W:=⟨_,rfl⟩;have hny15:NBy w15 gn S (.slice ao n cap) (.slice ao2 n2 cap2) (.slice f3 l3 e3) Ls Hs (nwT Ts Ts' (done ||| s)):=by
       rw[←hw15];exact nby_put hTR (Nat.lt_of_lt_of_le hlg HB13.out.size) HNY14.out (HKP.out _ hbg).2.1.l (HKP.out _ hbg).2.1.h
      rw[hw15] at hgr hbg HTR15;have HW15:Hid (put4 w14 gn (.int .i64 S) (.slice ao n cap) (.slice ao2 n2 cap2) (.slice f3 l3 e3)=w15):=hw15;have HBG15:Hid (Below gn w5 w15):=hbg;have HNY15:Hid (NBy w15 gn S (.slice ao n cap) (.slice ao2 n2 cap2) (.slice f3 l3 e3) Ls Hs (nwT Ts Ts' (done ||| s))):=hny15;have HNO15:Hid (NO w15 wi.heap.size (.slice a7 n7 c7) (rnL D s)):=(HNO13.out.later hb14).kept hgr (.inr fun e=>by have:=(HNO13.out.lt gn e).1;omega);have HR15:Hid (w15.ownsRow wo.heap.size 3 inE.n u16 B.length (cellsG inE B)):=(HIR.out.later HB14.out).r.kept hgr (.inr fun e=>by have:=((HIR.out.later HB14.out).r.lt gn e).1;have:=HNYo.out.x.b.lt;omega);have HOR15:Hid (OR w15 (gn+1) u12 vs (L.map (rnL D))):=by
       have ho:=(HOR.out.later HBI.out).later HB14.out;refine⟨ho.ov.kept hgr (.inr fun e=>by have:=(ho.ov.lt gn e).1;omega),ho.lv,fun i x M c1 c2=>⟨(ho.rv i x M c1 c2).1.grown hgr (fun b hb=>?_),(ho.rv i x M c1 c2).2⟩⟩;cases hb;exact HNY14.out.offO (ho.rv i x M c1 c2).1
      obtain⟨y0,y1,y2,y3⟩:=HNY14.out.x.b.c;have yf0:=HNY14.out.x.f 0;have yf1:=HNY14.out.x.f 1;have yf2:=HNY14.out.x.f 2;have yf3:=HNY14.out.x.f 3;have HSZ:Hid (wi.heap.size≤w15.heap.size∧wo.heap.size≤wi.heap.size∧gn<wo.heap.size):=⟨Nat.le_trans HB14.out.size hgr.size,HBI.out.size,HNYo.out.x.b.lt⟩;have hal:Below w15.heap.size w15 (w15.alloc (Obj.cells #[.slice a7 n7 c7] 48)):=(Below.refl _ _).alloc (Nat.le_refl _) _;have HOR16:Hid (OR (w15.alloc (Obj.cells #[.slice a7 n7 c7] 48)) (gn+1) u12 vs (L.map (rnL D))):=HOR15.out.later hal;have HGX:Hid (GS opE (w15.alloc (Obj.cells #[.slice a7 n7 c7] 48)) (slV (a7,n7,c7)) (rnL D s)):=(HNO15.out.later hal).gs;have HOX:Hid (∀b,u12.ownBlock=some b→offB (a7,n7,c7) b):=fun b hb=>HOFF7.out b (Nat.lt_of_lt_of_le (HOR.out.ov.lt b hb).2 HBI.out.size)
      have HVA:Hid (VAt (w15.alloc (Obj.cells #[.slice a7 n7 c7] 48)) w15.heap.size 0 (slE.c (a7,n7,c7))):=vat_new w15 [.slice a7 n7 c7] 48;have HV6:Hid (vs.length≤6):=by
       have h1:=HOR.out.lv;have h2:=HLEN.out;rw[List.length_map] at h1;show _≤_;omega
      have HL1:Hid (vs.length+1≤maxLen):=by have:=HV6.out;show _≤_;unfold maxLen;omega
      have HL2:Hid ((vs.length+1)*24≤140737488355328):=by have:=HV6.out;show _≤_;omega
      have HBS:Hid (gn+1≤(w15.alloc (Obj.cells #[.slice a7 n7 c7] 48)).heap.size):=by have:=HSZ.out;show _≤_;simp;omega
      have HBL:Hid (Below gn w5 (w15.alloc (Obj.cells #[.slice a7 n7 c7] 48))):=HBG15.out.trans (hal.mono (by have:=HSZ.out;omega));have HNY16:Hid (NBy (w15.alloc (Obj.cells #[.slice a7 n7 c7] 48)) gn S (.slice ao n cap) (.slice ao2 n2 cap2) (.slice f3 l3 e3) Ls Hs (nwT Ts Ts' (done ||| s))):=HNY15.out.later hal;have HR16:Hid ((w15.alloc (Obj.cells #[.slice a7 n7 c7] 48)).ownsRow wo.heap.size 3 inE.n u16 B.length (cellsG inE B)):=HR15.out.kept (grown_below hal) (none_or _);have HTR16:Hid (TR 93 (w15.alloc (Obj.cells #[.slice a7 n7 c7] 48)) w13.heap.size w13.heap.size (.slice f3 l3 e3) vs2 (nwT Ts Ts' (done ||| s))):=HTR15.out.later hal;have HW13:Hid (wo.heap.size≤w13.heap.size):=Nat.le_trans HBI.out.size HB13.out.size;clear hTR hOQ hb14 hlg hgr hbg hw15 hny15 x0 x1 x2 x3 hal;go_upto_region 26 with fail;rw[show (((w14.setCell ⟨gn,0,none⟩ (.int .i64 S)).setCell ⟨gn,1,none⟩ (.slice ao n cap)).setCell ⟨gn,2,none⟩ (.slice ao2 n2 cap2)).setCell ⟨gn,3,none⟩ (.slice f3 l3 e3)=w15 from HW15.out]
      go_wp2_with (at_builtin;refine wpList_append_blk (E:=slE) _ rfl _ _ 30 48 rfl Tryz.underlying30 i0 (.slice none 0 0) 24 HIJ.out.1 HIJ.out.2.1 HIJ.out.2.2.1 HIJ.out.2.2.2 rfl (gn+1) u12 rfl vs HOR16.out.ov w15.heap.size 0 1 rfl (a7,n7,c7) HVA.out HL1.out HL2.out HBS.out ?_)
      intro v17 w17 ho17 hg17 hl17;have hown:∀b,u12.ownBlock=some b→gn+1≤b∧b<wo.heap.size:=fun b hb=>⟨(HOR.out.ov.lt b hb).1,(HOR.out.ov.lt b hb).2⟩
      have HOR17:Hid (OR w17 (gn+1) v17 (vs++[(a7,n7,c7)]) ((L++[s]).map (rnL D))):=by
       rw[List.map_append];exact HOR16.out.push HGX.out HOX.out hg17 (by simpa using ho17) (by simpa using hl17)
      have HB17:Hid (Below gn w5 w17):=HBL.out.trans (below_grown hg17 (by have:=HBS.out;omega) (fun b hb=>by have:=(hown b hb).1;omega));have HR17:Hid (w17.ownsRow wo.heap.size 3 inE.n u16 B.length (cellsG inE B)):=HR16.out.kept hg17 (by
       cases hb:u12.ownBlock with
       | none=>exact none_or _
       | some b=>exact .inr (fun e=>by have h1:=(HR16.out.lt b e).1;have h2:=(hown b hb).2;omega))
      have HTR17:Hid (TR 93 w17 w13.heap.size w13.heap.size (.slice f3 l3 e3) vs2 (nwT Ts Ts' (done ||| s))):=HTR16.out.off hg17 (fun b hb=>⟨by have h1:=(hown b hb).2;have h2:=HW13.out;omega,HOQ.out b hb⟩);have HTO17:Hid (TOff w17 v17 (.slice f3 l3 e3)):=fun b hb=>by
       refine⟨vs2,own_GS HTR17.out.ov,fun x hx=>?_⟩
       rcases hl17 with hl | hl
       ·rw[hl] at hb;exact HOQ.out b hb x hx
       rw[hl] at hb;cases hb;obtain⟨i,hi,e⟩:=List.getElem_of_mem hx;have c1:vs2[i]?=some x:=by rw[List.getElem?_eq_getElem hi,e]
       have hi2:i<(nwT Ts Ts' (done ||| s)).length:=by rw[←HTR16.out.lv];exact hi
       have hsr:=(HTR16.out.rv i x _ c1 (List.getElem?_eq_getElem hi2)).1;exact hsr.off (by simp)
      have HNY17:Hid (NBy w17 gn S (.slice ao n cap) (.slice ao2 n2 cap2) (.slice f3 l3 e3) Ls Hs (nwT Ts Ts' (done ||| s))):=by
       have hlt:gn<(w15.alloc (Obj.cells #[.slice a7 n7 c7] 48)).heap.size:=HNY16.out.x.b.lt;have hne:some gn≠u12.ownBlock:=fun e=>by have:=(hown gn e.symm).1;omega
       obtain⟨c0,c1,c2,c3⟩:=HNY16.out.x.b.c;have ht:TS w17 (.slice f3 l3 e3) (nwT Ts Ts' (done ||| s)):=HTR17.out.ts;exact⟨⟨⟨⟨hg17.cell c0 hne,hg17.cell c1 hne,hg17.cell c2 hne,hg17.cell c3 hne⟩,(HKP.out w17 HB17.out).2.1.l,(HKP.out w17 HB17.out).2.1.h,ht⟩,fun i=>by rw[frz_grown hg17 hlt hne];exact HNY16.out.x.f i⟩,fun o ho=>cell_none hg17 hlt hne (HNY16.out.n o ho)⟩
      obtain⟨⟨ar,nr,cr⟩,hur,_⟩:=own_sl HR17.out
      replace hur:u16=.slice ar nr cr:=hur
      subst hur;have HIR17:Hid (GS inE w17 (.slice ar nr cr) (lsS (mnS all (done ||| s)))):=by
       have h:=own_GS (E:=inE) HR17.out;rw[HBE.out] at h;exact h
      have HLESS:Hid (nr<k):=by
       have hle:=dc_len (sf:=sf) (done:=done) LF (0,[],[]);have e2:LF.foldl (dcA sf done) (0,[],[])=(s,A,B):=by
        have h:=HDC.out;rw[←HNL.out,List.take_length] at h;exact h
       rw[e2] at hle;have h3:=HIR17.out.form;obtain⟨_,_,_,e4,hn4,_⟩:=h3;cases e4;have h5:=HBE.out;have h6:B.length=nr:=by rw[h5];exact hn4
       simp only[List.length_nil,Nat.zero_add] at hle;have h7:=HAN.out;have h8:=HNI0.out;have h9:=HNL.out;show nr<k;omega
      clear ho17 hg17 hl17 hown y0 y1 y2 y3 yf0 yf1 yf2 yf3;go_wp2;go_roundw
      case rel =>
       have hin:∀a,1≤a→a≤6→inS s a=true→inS (mnS all done) a=true:=fun a h1 h2 h3=>(HOK.out done).2 a h1 h2 (by rw[←HSN.out];exact h3)
       have hless:=lf_less (all:=all) (done:=done) HS64.out HS0.out hin;have hda:done≠all:=by
        intro e;rw[e] at hless;have hz:lfN all all=0:=by
         unfold lfN;rw[List.length_eq_zero_iff,List.filter_eq_nil_iff];intro j hj;have:=List.mem_range.1 hj;rw[in_mn (by omega) (by omega)];simp
        omega
       refine⟨done ||| s,or_lt HDN.out HS64.out,fun a h1 h2 h3=>?_,⟨L++[s],?_,?_,vs++[(a7,n7,c7)],HOR17.out⟩,⟨ar,nr,cr,rfl,HIR17.out⟩,⟨f3,l3,e3,HNY17.out,HTO17.out⟩,HB17.out⟩
       ·rw[in_or,Bool.or_eq_true] at h3
        rcases h3 with h3 | h3
        ·exact HSUB.out a h1 h2 h3
        have h4:=hin a h1 h2 h3;rw[in_mn h1 h2] at h4;simp only[Bool.and_eq_true] at h4;exact h4.1
       ·have:=HLEN.out;rw[List.length_append];simp only[List.length_cons,List.length_nil];omega
       rw[HRL.out,ro_step HOK.out HA.out HDN.out HSUB.out hda (by rw[←HSN.out];exact HS0.out),←HSN.out,Option.map_map]
       congr 1
       funext l
       simp
      case measure=>exact HLESS.out
 have HNE:Hid (N=X∧L0=[]):=HNL.out.1 hX0;have hq:(X==0)=false:=by simpa using hX0
 have HBW:Hid (Below w.heap.size w w2):=HB1.out.trans (HB2.out.mono HB1.out.size);clear hX0 HNL;go_wp2;refine bodyPost_ret (v:=.tuple #[.slice none 0 0,.int .i64 X]) (by simp[results,Tryz.results5,go_sem, *]) rfl ⟨.slice none 0 0,by rw[HNE.out.1],by rw[HNE.out.2];exact RS.nil _,HBW.out⟩
def opCD (w:World)(g o:Nat)(x0:Int)(x1:Bool)(x2 x3 x4 x5 x6 x7:Int)(g' o':Nat)(y0:Int)(y1:Bool)(y2 y3 y4 y5 y6 y7:Int)(w':World):Prop:=
 Below w.heap.size w w'∧(w'.cell? ⟨g,o,none⟩=some (.int .i64 x0)∧w'.cell? ⟨g,o+1,none⟩=some (.bool x1)∧w'.cell? ⟨g,o+2,none⟩=some (.int .i64 x2)∧w'.cell? ⟨g,o+3,none⟩=some (.int .i64 x3)∧w'.cell? ⟨g,o+4,none⟩=some (.int .i64 x4)∧w'.cell? ⟨g,o+5,none⟩=some (.int .i64 x5)∧w'.cell? ⟨g,o+6,none⟩=some (.int .i64 x6)∧w'.cell? ⟨g,o+7,none⟩=some (.int .i64 x7)) ∧
 w'.cell? ⟨g',o',none⟩=some (.int .i64 y0)∧w'.cell? ⟨g',o'+1,none⟩=some (.bool y1)∧w'.cell? ⟨g',o'+2,none⟩=some (.int .i64 y2)∧w'.cell? ⟨g',o'+3,none⟩=some (.int .i64 y3)∧w'.cell? ⟨g',o'+4,none⟩=some (.int .i64 y4)∧w'.cell? ⟨g',o'+5,none⟩=some (.int .i64 y5)∧w'.cell? ⟨g',o'+6,none⟩=some (.int .i64 y6)∧w'.cell? ⟨g',o'+7,none⟩=some (.int .i64 y7)
theorem opCD.later {w W W':World}{g o:Nat}{x0:Int}{x1:Bool}{x2 x3 x4 x5 x6 x7:Int}{g' o':Nat}{y0:Int}{y1:Bool}{y2 y3 y4 y5 y6 y7:Int}(hb:Below W.heap.size W W')(h:opCD w g o x0 x1 x2 x3 x4 x5 x6 x7 g' o' y0 y1 y2 y3 y4 y5 y6 y7 W):opCD w g o x0 x1 x2 x3 x4 x5 x6 x7 g' o' y0 y1 y2 y3 y4 y5 y6 y7 W':=by
 obtain⟨h0,⟨h1,h2,h3,h4,h5,h6,h7,h8⟩,k1,k2,k3,k4,k5,k6,k7,k8⟩:=h;exact⟨h0.trans (hb.mono h0.size),⟨cell_later hb h1,cell_later hb h2,cell_later hb h3,cell_later hb h4,cell_later hb h5,cell_later hb h6,cell_later hb h7,cell_later hb h8⟩,cell_later hb k1,cell_later hb k2,cell_later hb k3,cell_later hb k4,cell_later hb k5,cell_later hb k6,cell_later hb k7,cell_later hb k8⟩
theorem op_same (ao:Option Addr)(n cap:Nat)(ao2:Option Addr)(n2 cap2:Nat)(L M:List (Op8))(w:World)(hs:GS opE w (.slice ao n cap) L)(ht:GS opE w (.slice ao2 n2 cap2) M):
 Calls Tryz.prog 24 #[.slice ao n cap,.slice ao2 n2 cap2] w fun e w'=>e=.returned (.bool (smG opB L M))∧Below w.heap.size w w':=by
 obtain⟨ao',n',cap',e,hn,hn2,hn3,ha⟩:=hs.form;cases e;obtain⟨ao',n',cap',e,hm,hm2,hm3,hb⟩:=ht.form;cases e;have HN:Hid (L.length=n):=hn;have HM:Hid (M.length=n2):=hm;have HA:Hid (0<n→∃g o,ao=some ⟨g,o,none⟩∧GAt opE w g o L∧cap≤maxLen):=ha;have HA2:Hid (0<n2→∃g o,ao2=some ⟨g,o,none⟩∧GAt opE w g o M∧cap2≤maxLen):=hb;have hn63:n≤9223372036854775807:=by unfold maxLen at hn2;omega
 clear hs ht hn ha hm hb hn2 hm2;obtain⟨R,hR⟩:∃R,R=smG opB L M:=⟨_,rfl⟩;have HR:Hid (R=smG opB L M):=hR;rw[←hR];clear hR;by_cases hl:n=n2
 ·subst hl;go_enter Tryz.func24,Tryz.ntmps24;go_wp2
  go_loopw [5] (fun i wr=>∃k:Nat,k≤n∧i=.int .i64 k∧(∀j,j<k→∀(h1:j<L.length) (h2:j<M.length),opB L[j] M[j]=true)∧Below w.heap.size w wr) (fun i _=>n-(intOf i).toNat)
  case atStart=>exact⟨0,by omega,rfl,fun j hj=>absurd hj (by omega),Below.refl _ _⟩
  case round =>
   obtain⟨k,hk,rfl,hall,hB⟩:=hrel;have HB:Hid (Below w.heap.size w wr):=hB;have HALL:Hid (∀j,j<k→∀(h1:j<L.length) (h2:j<M.length),opB L[j] M[j]=true):=hall;clear hall;by_cases hlt:k<n
   ·obtain⟨g,og,hao,hc,_⟩:=HA.out (by omega);obtain⟨g2,og2,hao2,hc2,_⟩:=HA2.out (by omega);subst hao hao2;obtain⟨x0,x1,x2,x3,x4,x5,x6,x7,hkl,hLk,q0,q1,q2,q3,q4,q5,q6,q7⟩:=op_at (hc.later hB) HN.out hlt;obtain⟨y0,y1,y2,y3,y4,y5,y6,y7,hkm,hMk,r0,r1,r2,r3,r4,r5,r6,r7⟩:=op_at (hc2.later hB) HM.out hlt;have HCE:Hid (opCD w g (og+k*8) x0 x1 x2 x3 x4 x5 x6 x7 g2 (og2+k*8) y0 y1 y2 y3 y4 y5 y6 y7 wr):=⟨hB,⟨q0,q1,q2,q3,q4,q5,q6,q7⟩,r0,r1,r2,r3,r4,r5,r6,r7⟩;have HLK:Hid (L[k]=⟨x0,x1,⟨x2,x3,x4,x5,x6,x7⟩⟩∧M[k]=⟨y0,y1,⟨y2,y3,y4,y5,y6,y7⟩⟩):=⟨hLk,hMk⟩;clear q0 q1 q2 q3 q4 q5 q6 q7 r0 r1 r2 r3 r4 r5 r6 r7 hB hc hc2 hLk hMk HA HA2;go_upto_region 6 with fail;have kb0:(0:Int)≤(k:Int):=by omega
    have kb1:(k:Int)<(n:Int):=by omega
    go_cut [25] from 11 to 25 (fun c w'=>c=.bool (!opB ⟨x0,x1,⟨x2,x3,x4,x5,x6,x7⟩⟩ ⟨y0,y1,⟨y2,y3,y4,y5,y6,y7⟩⟩)∧Below w.heap.size w w')
    case first =>
     as_aux_lemma =>
      refine wp_region_quiet (C:=opCD w g (og+k*8) x0 x1 x2 x3 x4 x5 x6 x7 g2 (og2+k*8) y0 y1 y2 y3 y4 y5 y6 y7) (by kernel_rfl) (by kernel_rfl) (opCD.later (W:=wr) (Below.drew (Below.refl _ _)) HCE.out) ?_;simp only[List.toList_toArray];go_big_quiet_want;refine qv (.slice (some ⟨g,og,none⟩) n cap) ?_ ?_
      ·rintro w' ⟨z,⟨z0,z1,z2,z3,z4,z5,z6,z7⟩,u0,u1,u2,u3,u4,u5,u6,u7⟩;go_simp
      simp only[Act.put,AP];go_big_quiet_on;go_big_quiet_want;refine qv (.int .i64 (k:Int)) ?_ ?_
      ·rintro w' ⟨z,⟨z0,z1,z2,z3,z4,z5,z6,z7⟩,u0,u1,u2,u3,u4,u5,u6,u7⟩;go_simp
      simp only[Act.put,AP];go_big_quiet_on;go_big_quiet_want;refine qv (.pointer (some ⟨g,og+k*8,none⟩)) ?_ ?_
      ·rintro w' ⟨z,⟨z0,z1,z2,z3,z4,z5,z6,z7⟩,u0,u1,u2,u3,u4,u5,u6,u7⟩;go_simp
      simp only[Act.put,AP];go_big_quiet_on;go_big_quiet_want;refine qv (.agg #[.int .i64 x0,.bool x1,.int .i64 x2,.int .i64 x3,.int .i64 x4,.int .i64 x5,.int .i64 x6,.int .i64 x7]) ?_ ?_
      ·rintro w' ⟨z,⟨z0,z1,z2,z3,z4,z5,z6,z7⟩,u0,u1,u2,u3,u4,u5,u6,u7⟩;go_simp
      simp only[Act.put,AP];go_big_quiet_on;go_big_quiet_want;refine qv (.slice (some ⟨g2,og2,none⟩) n cap2) ?_ ?_
      ·rintro w' ⟨z,⟨z0,z1,z2,z3,z4,z5,z6,z7⟩,u0,u1,u2,u3,u4,u5,u6,u7⟩;go_simp
      simp only[Act.put,AP];go_big_quiet_on;go_big_quiet_want;refine qv (.int .i64 (k:Int)) ?_ ?_
      ·rintro w' ⟨z,⟨z0,z1,z2,z3,z4,z5,z6,z7⟩,u0,u1,u2,u3,u4,u5,u6,u7⟩;go_simp
      simp only[Act.put,AP];go_big_quiet_on;go_big_quiet_want;refine qv (.pointer (some ⟨g2,og2+k*8,none⟩)) ?_ ?_
      ·rintro w' ⟨z,⟨z0,z1,z2,z3,z4,z5,z6,z7⟩,u0,u1,u2,u3,u4,u5,u6,u7⟩;go_simp
      simp only[Act.put,AP];go_big_quiet_on;go_big_quiet_want;refine qv (.agg #[.int .i64 y0,.bool y1,.int .i64 y2,.int .i64 y3,.int .i64 y4,.int .i64 y5,.int .i64 y6,.int .i64 y7]) ?_ ?_
      ·rintro w' ⟨z,⟨z0,z1,z2,z3,z4,z5,z6,z7⟩,u0,u1,u2,u3,u4,u5,u6,u7⟩;go_simp
      simp only[Act.put,AP];go_big_quiet_on;go_big_quiet_want;refine quiet_val (v:=.bool (!opB ⟨x0,x1,⟨x2,x3,x4,x5,x6,x7⟩⟩ ⟨y0,y1,⟨y2,y3,y4,y5,y6,y7⟩⟩)) (fun w' hC=>exec_bin rfl (by go_simp) (run_neq_of (op_eq x0 x1 x2 x3 x4 x5 x6 x7 y0 y1 y2 y3 y4 y5 y6 y7 w'))) ?_;simp only[Act.put,AP];go_big_quiet_on;refine wpQuiet_nil ?_;intro w' hC
      go_wp2_with fail
      go_meet
      case rel=>exact⟨rfl,hC.1⟩
    case rest =>
     obtain⟨rfl,hB2⟩:=hcut;have HB2:Hid (Below w.heap.size w wc):=hB2;clear HCE hB2;cases ho:opB ⟨x0,x1,⟨x2,x3,x4,x5,x6,x7⟩⟩ ⟨y0,y1,⟨y2,y3,y4,y5,y6,y7⟩⟩
     ·have HF:Hid (R=false):=by
       show R=false;rw[HR.out];exact smG_no hkl hkm (by rw[HLK.out.1,HLK.out.2];exact ho)
      go_wp2;go_ret;exact⟨by rw[HF.out];rfl,HB2.out⟩
     have HAL2:Hid (∀j,j<k+1→∀(h1:j<L.length) (h2:j<M.length),opB L[j] M[j]=true):=by
      intro j hj h1 h2;by_cases e:j=k
      ·subst e;rw[HLK.out.1,HLK.out.2];exact ho
      exact HALL.out j (by omega) h1 h2
     clear ho;go_wp2;go_roundw
     case rel=>exact⟨k+1,by omega,by go_num,HAL2.out,HB2.out⟩
     case measure=>simp[intOf];omega
   obtain rfl:k=n:=by omega
   have HF:Hid (R=true):=by
    show R=true;rw[HR.out];refine smG_iff.2 ⟨by rw[HN.out,HM.out],fun i h1 h2=>HALL.out i (by rw[HN.out] at h1;exact h1) h1 h2⟩
   go_wp2;go_ret;exact⟨by rw[HF.out];rfl,HB.out⟩
 have HF:Hid (R=false):=by
  show R=false;rw[HR.out];exact smG_len (by rw[HN.out,HM.out];exact hl)
 have e1:((n:Int)==(n2:Int))=false:=beq_eq_false_iff_ne.2 (by omega);have e2:((n:Int) != (n2:Int))=true:=by simp;omega
 go_enter Tryz.func24,Tryz.ntmps24;go_wp2;go_ret;exact⟨by rw[HF.out];rfl,Below.refl _ _⟩
def RC (w:World)(g o:Nat)(v:Value)(g' o':Nat)(v':Value)(W:World):Prop:=Below w.heap.size w W∧W.cell? ⟨g,o,none⟩=some v∧W.cell? ⟨g',o',none⟩=some v'
theorem RC.later {w W W':World}{g o:Nat}{v:Value}{g' o':Nat}{v':Value}(hb:Below W.heap.size W W')(h:RC w g o v g' o' v' W):RC w g o v g' o' v' W':=⟨h.1.trans (hb.mono h.1.size),cell_later hb h.2.1,cell_later hb h.2.2⟩
theorem smop_same (L:List Op8):smG opB L L=true:=(smG_eq opB_iff).2 rfl
theorem smrounds_any (ao bo:Option Addr)(n m c d:Nat)(L:List (List Op8))(w:World)(h1:RS w (.slice ao n c) L)(h2:RS w (.slice bo m d) L):
 Calls Tryz.prog 8 #[.slice ao n c,.slice bo m d] w fun e w'=>e=.returned (.bool true)∧Below w.heap.size w w':=by
 obtain rfl:n=m:=h1.len.symm.trans h2.len;obtain⟨_,_,_,e,_,hm,_⟩:=h1.form;cases e;have n63:n≤9223372036854775807:=by unfold maxLen at hm;omega
 have H1:Hid (∀W,Below w.heap.size w W→RS W (.slice ao n c) L):=fun W h=>h1.later h
 have H2:Hid (∀W,Below w.heap.size w W→RS W (.slice bo n d) L):=fun W h=>h2.later h
 clear h1 h2 hm;go_enter Tryz.func8,Tryz.ntmps8;go_wp2
 go_loopw [5] (fun i wr=>∃k:Nat,k≤n∧i=.int .i64 (k:Int)∧Below w.heap.size w wr) (fun i _=>n-(intOf i).toNat)
 case atStart=>exact⟨0,by omega,rfl,Below.refl _ _⟩
 case round =>
  obtain⟨k,hk,rfl,hB⟩:=hrel;obtain⟨wi,hwi⟩:∃X,X=wr:=⟨_,rfl⟩;subst hwi;have HB:Hid (Below w.heap.size w wi):=hB;clear hB;by_cases hlt:k<n
  ·obtain⟨g,o,M,a1,n1,c1,hao,hM,hc,hG⟩:=(H1.out wi HB.out).at hlt;obtain⟨g',o',M',a2,n2,c2,hbo,hM',hc',hG'⟩:=(H2.out wi HB.out).at hlt;subst hao hbo;obtain rfl:M=M':=Option.some.inj (hM.symm.trans hM');have HG:Hid (∀W,Below wi.heap.size wi W→GS opE W (.slice a1 n1 c1) M∧GS opE W (.slice a2 n2 c2) M):=fun W h=>⟨hG.later h,hG'.later h⟩
   have HCE:Hid (RC wi g (o+k) (.slice a1 n1 c1) g' (o'+k) (.slice a2 n2 c2) wi):=⟨Below.refl _ _,hc,hc'⟩;have kb0:(0:Int)≤(k:Int):=by omega
   have kb1:(k:Int)<(n:Int):=by omega
   clear hM hM' hG hG' hc hc';go_upto_region 6 with fail
   go_cut [6] from 12 (fun c w'=>c=.bool true∧Below wi.heap.size wi w')
   case first =>
    refine wp_region_quiet (C:=RC wi g (o+k) (.slice a1 n1 c1) g' (o'+k) (.slice a2 n2 c2)) (by kernel_rfl) (by kernel_rfl) (RC.later (W:=wi) (Below.drew (Below.refl _ _)) HCE.out) ?_;simp only[List.toList_toArray];go_big_quiet_want;refine qv (.slice (some ⟨g,o,none⟩) n c) ?_ ?_
    ·rintro w' ⟨zb,z0,z1⟩;go_simp
    simp only[Act.put,AP];go_big_quiet_on;go_big_quiet_want;refine qv (.int .i64 (k:Int)) ?_ ?_
    ·rintro w' ⟨zb,z0,z1⟩;go_simp
    simp only[Act.put,AP];go_big_quiet_on;go_big_quiet_want;refine qv (.pointer (some ⟨g,o+k,none⟩)) ?_ ?_
    ·rintro w' ⟨zb,z0,z1⟩;go_simp
    simp only[Act.put,AP];go_big_quiet_on;go_big_quiet_want;refine qv (.slice a1 n1 c1) ?_ ?_
    ·rintro w' ⟨zb,z0,z1⟩;go_simp
    simp only[Act.put,AP];go_big_quiet_on;go_big_quiet_want;refine qv (.slice (some ⟨g',o',none⟩) n d) ?_ ?_
    ·rintro w' ⟨zb,z0,z1⟩;go_simp
    simp only[Act.put,AP];go_big_quiet_on;go_big_quiet_want;refine qv (.int .i64 (k:Int)) ?_ ?_
    ·rintro w' ⟨zb,z0,z1⟩;go_simp
    simp only[Act.put,AP];go_big_quiet_on;go_big_quiet_want;refine qv (.pointer (some ⟨g',o'+k,none⟩)) ?_ ?_
    ·rintro w' ⟨zb,z0,z1⟩;go_simp
    simp only[Act.put,AP];go_big_quiet_on;go_big_quiet_want;refine qv (.slice a2 n2 c2) ?_ ?_
    ·rintro w' ⟨zb,z0,z1⟩;go_simp
    simp only[Act.put,AP];go_big_quiet_on;go_big_quiet_want;refine quiet_call (f:=24) (args:=#[.slice a1 n1 c1,.slice a2 n2 c2]) (v:=.bool true) (fun w'=>?_) (fun w' hC=>(op_same a1 n1 c1 a2 n2 c2 M M w' (HG.out w' hC.1).1 (HG.out w' hC.1).2).mono (fun e w2 h2=>⟨by rw[h2.1,smop_same],RC.later h2.2 hC⟩)) ?_
    ·go_simp
    simp only[Act.put,AP];go_big_quiet_on;go_big_quiet_want;refine qv (.bool true) ?_ ?_
    ·rintro w' ⟨zb,z0,z1⟩;go_simp
    simp only[Act.put,AP];go_big_quiet_on;refine wpQuiet_nil ?_;intro w' hC;have HBY:Hid (Below wi.heap.size wi w'):=hC.1;clear hC
    go_wp2_with fail
    go_meet
    case rel=>exact⟨rfl,HBY.out⟩
   case rest =>
    obtain⟨rfl,hb2⟩:=hcut;have HB2:Hid (Below w.heap.size w wc):=HB.out.trans (hb2.mono HB.out.size);clear hb2;go_wp2;go_roundw
    case rel=>exact⟨k+1,by omega,by go_num,HB2.out⟩
    case measure=>simp[intOf];omega
  obtain rfl:k=n:=by omega
  go_wp2;go_ret;exact⟨rfl,HB.out⟩
end
section
open Go.RowKit Go.Extern.Stop Go.Stop Go.Extern
def HasErr (w:World):Prop:=w.cell? ⟨0,0,none⟩=some (.iface 215 (.agg #[.pointer (some ⟨1,34,none⟩)]))
theorem HasErr.later {w w':World}(h:HasErr w)(hb:Below w.heap.size w w'):HasErr w':=cell_later hb h
theorem HasErr.alloc {w:World}(h:HasErr w)(o:Obj):HasErr (w.alloc o):=h.later ((Below.refl _ _).alloc (Nat.le_refl _) _)
theorem vOfP (t:Addr)(w:World):(ReflectliteValue.unpack (.iface 120 (.pointer (some t)))).run Tryz.prog w
 = .ok (.agg #[.pointer (some ⟨1,120,none⟩),.pointer (some ⟨w.heap.size,0,none⟩),.int .u64 150]) (w.alloc (.cells #[.pointer (some t)] 120)):=by kernel_rfl
theorem typeP (a : Addr)(w : World): (ReflectliteValue.methodAny (ReflectliteValue.valueError "reflectlite.Value.Type" 0) (fun t _ _ _ => ReflectliteType.toType t) #[.agg #[.pointer (some ⟨1, 120, none⟩), .pointer (some a), .int .u64 150]]).run Tryz.prog w
 = .ok (.iface 215 (.agg #[.pointer (some ⟨1,120,none⟩)])) w:=by kernel_rfl
theorem methKind (h : Value)(w : World): (Go.method 402 215 (.agg #[h]) "Kind").run Tryz.prog w = .ok (185, h) w := by kernel_rfl
theorem kindP (w:World):((ReflectliteType.abiMethod fun t=>Functor.map (fun a:Nat=>Value.int IntKind.u8 (a:Int)) (Rtype.kind t)) #[.pointer (some ⟨1,120,none⟩)]).run Tryz.prog w=.ok (.int .u8 22) w:=by kernel_rfl
theorem kindE (w:World):((ReflectliteType.abiMethod fun t=>Functor.map (fun a:Nat=>Value.int IntKind.u8 (a:Int)) (Rtype.kind t)) #[.pointer (some ⟨1,68,none⟩)]).run Tryz.prog w=.ok (.int .u8 2) w:=by kernel_rfl
theorem partsP (a:Addr)(w:World):(ReflectliteValue.parts (.agg #[.pointer (some ⟨1,120,none⟩),.pointer (some a),.int .u64 150])).run Tryz.prog w=.ok (some (120,a,150)) w:=by kernel_rfl
theorem isNilP (a p:Addr)(W:World)(ha:W.cell? a=some (.pointer (some p))):
 (ReflectliteValue.method (ReflectliteValue.valueError "reflectlite.Value.IsNil" 0) ReflectliteValue.isNil #[.agg #[.pointer (some ⟨1, 120, none⟩), .pointer (some a), .int .u64 150]]).run Tryz.prog W = .ok (.bool false) W := by
 change Sem.run _ (ReflectliteValue.parts (.agg #[.pointer (some ⟨1,120,none⟩),.pointer (some a),.int .u64 150]) >>= _) _=_
 rw[Sem.run_bind,partsP];simp only[Result.andThen];simp[ReflectliteValue.isNil,loadVar,isAgg,underlying,Tryz.underlying120,ha,Result.andThen]
theorem methElem (h : Value)(w : World): (Go.method 402 215 (.agg #[h]) "Elem").run Tryz.prog w = .ok (195, .agg #[h]) w := by kernel_rfl
theorem methImpl (h : Value)(w : World): (Go.method 402 215 (.agg #[h]) "Implements").run Tryz.prog w = .ok (196, .agg #[h]) w := by kernel_rfl
theorem methAssign (h : Value)(w : World): (Go.method 402 215 (.agg #[h]) "AssignableTo").run Tryz.prog w = .ok (193, .agg #[h]) w := by kernel_rfl
theorem elemP (w:World):(ReflectliteType.method ReflectliteType.elem #[.agg #[.pointer (some ⟨1,120,none⟩)]]).run Tryz.prog w=.ok (.iface 215 (.agg #[.pointer (some ⟨1,68,none⟩)])) w:=by kernel_rfl
theorem implE (w : World): (ReflectliteType.relation "Implements" ReflectliteType.implements_ #[.agg #[.pointer (some ⟨1, 68, none⟩)], .iface 215 (.agg #[.pointer (some ⟨1, 34, none⟩)])]).run Tryz.prog w = .ok (.bool true) w := by kernel_rfl
theorem typeOfE (v:Value)(w:World):(ReflectliteType.typeOf #[.iface 68 v]).run Tryz.prog w=.ok (.iface 215 (.agg #[.pointer (some ⟨1,68,none⟩)])) w:=by kernel_rfl
theorem assignE (w : World): (ReflectliteType.relation "AssignableTo" ReflectliteType.assignableTo #[.agg #[.pointer (some ⟨1, 68, none⟩)], .iface 215 (.agg #[.pointer (some ⟨1, 68, none⟩)])]).run Tryz.prog w = .ok (.bool true) w := by kernel_rfl
theorem vOfE (n:Int)(w:World):(ReflectliteValue.unpack (.iface 68 (.int .i64 n))).run Tryz.prog w
 = .ok (.agg #[.pointer (some ⟨1,68,none⟩),.pointer (some ⟨w.heap.size,0,none⟩),.int .u64 130]) (w.alloc (.cells #[.int .i64 n] 68)):=by kernel_rfl
theorem elemOfP (w:World):(Rtype.elem? 120).run Tryz.prog w=.ok (some 68) w:=by kernel_rfl
theorem mkE (p:Addr)(w:World):(ReflectliteValue.mk 68 p ReflectliteValue.flagAddr).run Tryz.prog w=.ok (.agg #[.pointer (some ⟨1,68,none⟩),.pointer (some p),.int .u64 386]) w:=by kernel_rfl
theorem elemVP (a p:Addr)(W:World)(ha:W.cell? a=some (.pointer (some p))):
 (ReflectliteValue.method (ReflectliteValue.valueError "reflectlite.Value.Elem" 0) ReflectliteValue.elem #[.agg #[.pointer (some ⟨1, 120, none⟩), .pointer (some a), .int .u64 150]]).run Tryz.prog W
  = .ok (.agg #[.pointer (some ⟨1,68,none⟩),.pointer (some p),.int .u64 386]) W:=by
 change Sem.run _ (ReflectliteValue.parts (.agg #[.pointer (some ⟨1,120,none⟩),.pointer (some a),.int .u64 150]) >>= _) _=_
 rw[Sem.run_bind,partsP];simp only[Result.andThen];simp[ReflectliteValue.elem,loadVar,isAgg,underlying,Tryz.underlying120,ha,Result.andThen,elemOfP,mkE]
theorem partsEa (a:Addr)(w:World):(ReflectliteValue.parts (.agg #[.pointer (some ⟨1,68,none⟩),.pointer (some a),.int .u64 386])).run Tryz.prog w=.ok (some (68,a,386)) w:=by kernel_rfl
theorem partsE (a:Addr)(w:World):(ReflectliteValue.parts (.agg #[.pointer (some ⟨1,68,none⟩),.pointer (some a),.int .u64 130])).run Tryz.prog w=.ok (some (68,a,130)) w:=by kernel_rfl
theorem directE (w:World):(Rtype.directlyAssignable 68 68).run Tryz.prog w=.ok true w:=by kernel_rfl
theorem setE (ta b:Addr)(n:Int)(old:Value)(W:World)(hb:W.cell? b=some (.int .i64 n))(ht:W.cell? ta=some old)(hf:W.frozen? ta=false):
 (ReflectliteValue.set #[.agg #[.pointer (some ⟨1,68,none⟩),.pointer (some ta),.int .u64 386],.agg #[.pointer (some ⟨1,68,none⟩),.pointer (some b),.int .u64 130]]).run Tryz.prog W
  = .ok (.tuple #[]) (W.setCell ta (.int .i64 n)):=by
 change Sem.run _ (ReflectliteValue.parts (.agg #[.pointer (some ⟨1,68,none⟩),.pointer (some ta),.int .u64 386]) >>= _) _=_
 rw[Sem.run_bind,partsEa];simp only[Result.andThen]
 change Sem.run _ (ReflectliteValue.parts (.agg #[.pointer (some ⟨1,68,none⟩),.pointer (some b),.int .u64 130]) >>= _) _=_
 rw[Sem.run_bind,partsE];simp only[Result.andThen];simp[ReflectliteValue.flagAddr,loadVar,isAgg,underlying,Tryz.underlying68,hb,Result.andThen,directE,storeVar,Value.cells,storeCells,Addr.add];rw[run_store Tryz.prog W ta _ _ (by rfl)];simp[ht,hf]
theorem as_hit (n:Int)(t:Addr)(old:Value)(w:World)(hg:HasErr w)(ht0:w.cell? t=some old)(hf0:w.frozen? t=false):
 Calls Tryz.prog 47 #[.iface 68 (.int .i64 n),.iface 120 (.pointer (some t))] w fun ev w'=>ev=.returned (.bool true)∧w'=((((w.alloc (.cells #[.pointer (some t)] 120)).alloc (.cells #[.pointer (some ⟨1,120,none⟩),.pointer (some ⟨w.heap.size,0,none⟩),.int .u64 150] 166)).alloc (.cells #[.pointer (some ⟨1,120,none⟩),.pointer (some ⟨w.heap.size,0,none⟩),.int .u64 150] 166)).alloc (.cells #[.int .i64 n] 68)).setCell t (.int .i64 n):=by
 unfold HasErr at hg;have h6 := @run_callFunc_extern Tryz.prog 76 _ (fun args=>ReflectliteValue.unpack (args.getD 0 (.tuple #[]))) Tryz.func76 (by kernel_rfl) (by kernel_rfl) (by kernel_rfl) (by kernel_rfl);have h7 := @run_callFunc_extern Tryz.prog 77 _ (ReflectliteValue.methodAny (ReflectliteValue.valueError "reflectlite.Value.Type" 0) (fun t _ _ _ => ReflectliteType.toType t)) Tryz.func77 (by kernel_rfl) (by kernel_rfl) (by kernel_rfl) (by kernel_rfl)
 have h8 := @run_callFunc_extern Tryz.prog 78 _ (ReflectliteValue.method (ReflectliteValue.valueError "reflectlite.Value.IsNil" 0) ReflectliteValue.isNil) Tryz.func78 (by kernel_rfl) (by kernel_rfl) (by kernel_rfl) (by kernel_rfl)
 have h27 := @run_callFunc_extern Tryz.prog 185 _ (ReflectliteType.abiMethod fun t=>do pure (.int .u8 (←Rtype.kind t))) Tryz.func185 (by kernel_rfl) (by kernel_rfl) (by kernel_rfl) (by kernel_rfl);have h37 := @run_callFunc_extern Tryz.prog 195 _ (ReflectliteType.method ReflectliteType.elem) Tryz.func195 (by kernel_rfl) (by kernel_rfl) (by kernel_rfl) (by kernel_rfl);have h38 := @run_callFunc_extern Tryz.prog 196 _ (ReflectliteType.relation "Implements" ReflectliteType.implements_) Tryz.func196 (by kernel_rfl) (by kernel_rfl) (by kernel_rfl) (by kernel_rfl)
 have h10 := @run_callFunc_extern Tryz.prog 114 _ ReflectliteType.typeOf Tryz.func114 (by kernel_rfl) (by kernel_rfl) (by kernel_rfl) (by kernel_rfl);have h35 := @run_callFunc_extern Tryz.prog 193 _ (ReflectliteType.relation "AssignableTo" ReflectliteType.assignableTo) Tryz.func193 (by kernel_rfl) (by kernel_rfl) (by kernel_rfl) (by kernel_rfl)
 have h11 := @run_callFunc_extern Tryz.prog 115 _ (ReflectliteValue.method (ReflectliteValue.valueError "reflectlite.Value.Elem" 0) ReflectliteValue.elem) Tryz.func115 (by kernel_rfl) (by kernel_rfl) (by kernel_rfl) (by kernel_rfl)
 have h12 := @run_callFunc_extern Tryz.prog 116 _ ReflectliteValue.set Tryz.func116 (by kernel_rfl) (by kernel_rfl) (by kernel_rfl) (by kernel_rfl);have tO:=typeOfE;have mA:=methAssign;have a25:=assignE;have v25:=vOfE;have f6:=vOfP;have f7:=typeP;have mK:=methKind;have mE:=methElem;have mI:=methImpl;have k27:=kindP;have k25:=kindE;have e27:=elemP;have i25:=implE;have hlt:0<w.heap.size:=bLQ _ _ hg;have htl:t.block<w.heap.size:=bLQ _ _ ht0;have n8:=isNilP ⟨w.heap.size,0,none⟩ t ((w.alloc (.cells #[.pointer (some t)] 120)).alloc (.cells #[.pointer (some ⟨1,120,none⟩),.pointer (some ⟨w.heap.size,0,none⟩),.int .u64 150] 166)) (by simp);have hg2:((w.alloc (.cells #[.pointer (some t)] 120)).alloc (.cells #[.pointer (some ⟨1,120,none⟩),.pointer (some ⟨w.heap.size,0,none⟩),.int .u64 150] 166)).cell? ⟨0,0,none⟩=some (.iface 215 (.agg #[.pointer (some ⟨1,34,none⟩)])):=by
  rw[World.cell?_alloc_lt _ _ ⟨0,0,none⟩ (by simp <;> omega),World.cell?_alloc_lt _ _ ⟨0,0,none⟩ hlt];exact hg
 have el:=elemVP ⟨w.heap.size,0,none⟩ t (((w.alloc (.cells #[.pointer (some t)] 120)).alloc (.cells #[.pointer (some ⟨1,120,none⟩),.pointer (some ⟨w.heap.size,0,none⟩),.int .u64 150] 166)).alloc (.cells #[.pointer (some ⟨1,120,none⟩),.pointer (some ⟨w.heap.size,0,none⟩),.int .u64 150] 166)) (by rw[World.cell?_alloc_lt _ _ ⟨w.heap.size,0,none⟩ (by simp;omega)];simp);have st:=setE t ⟨w.heap.size+1+1+1,0,none⟩ n old ((((w.alloc (.cells #[.pointer (some t)] 120)).alloc (.cells #[.pointer (some ⟨1,120,none⟩),.pointer (some ⟨w.heap.size,0,none⟩),.int .u64 150] 166)).alloc (.cells #[.pointer (some ⟨1,120,none⟩),.pointer (some ⟨w.heap.size,0,none⟩),.int .u64 150] 166)).alloc (.cells #[.int .i64 n] 68))
  (by rw[World.cell?_alloc_at _ _ _ _ (by simp)];rfl)
  (by rw[World.cell?_alloc_lt _ _ t (by simp;omega),World.cell?_alloc_lt _ _ t (by simp;omega),World.cell?_alloc_lt _ _ t (by simp;omega),World.cell?_alloc_lt _ _ t htl];exact ht0)
  (by rw[World.frozen?_alloc_old _ _ t (by simp;omega),World.frozen?_alloc_old _ _ t (by simp;omega),World.frozen?_alloc_old _ _ t (by simp;omega),World.frozen?_alloc_old _ _ t (Nat.ne_of_lt htl)];exact hf0)
 go_enter Tryz.func47,Tryz.ntmps47;go_wp2;refine wp_loop_rounds 1 ?_;rw[rounds_succ];go_wp2;go_ret;exact⟨rfl,rfl⟩
theorem told_nil (w:World):
 Calls Tryz.prog 23 #[.nilIface] w fun e w'=>e=.returned (.int .i64 0)∧Below w.heap.size w w':=by
 go_enter Tryz.func23,Tryz.ntmps23;go_wp2;go_ret;exact⟨rfl,Below.refl _ _⟩
theorem told_some (n:Int)(w:World)(hg:HasErr w):
 Calls Tryz.prog 23 #[.iface 68 (.int .i64 n)] w fun e w'=>e=.returned (.int .i64 n)∧Below w.heap.size w w':=by
 have HG:Hid (HasErr w):=hg;clear hg;go_enter Tryz.func23,Tryz.ntmps23
 go_wp2_with fail
 refine (as_hit n _ (.int .i64 0) _ (HG.out.alloc _) (by simp) (by simp)).mono ?_;rintro e w' ⟨rfl,rfl⟩;go_wp2;go_ret;refine⟨rfl,?_⟩;exact ((((((Below.refl _ _).alloc (Nat.le_refl _) _).alloc (by simp) _).alloc (by simp;omega) _).alloc (by simp;omega) _).alloc (by simp;omega) _)
theorem same_nil (k:Int)(w:World):
 Calls Tryz.prog 7 #[.nilIface,.int .i64 k] w fun e w'=>e=.returned (.bool (0==k))∧Below w.heap.size w w':=by
 go_enter Tryz.func7,Tryz.ntmps7
 go_wp2_with fail
 refine (told_nil _).mono ?_;rintro e w' ⟨rfl,hb⟩;go_wp2;go_ret;exact⟨rfl,hb⟩
theorem same_some (n k:Int)(w:World)(hg:HasErr w):
 Calls Tryz.prog 7 #[.iface 68 (.int .i64 n),.int .i64 k] w fun e w'=>e=.returned (.bool (n==k))∧Below w.heap.size w w':=by
 have HG:Hid (HasErr w):=hg;clear hg;go_enter Tryz.func7,Tryz.ntmps7
 go_wp2_with fail
 refine (told_some n _ HG.out).mono ?_;rintro e w' ⟨rfl,hb⟩;go_wp2;go_ret;exact⟨rfl,hb⟩
end
section
open Go.RowKit
theorem same_noV (n:Int)(w:World)(hg:HasErr w):
 Calls Tryz.prog 7 #[noV n,.int .i64 n] w fun e w'=>e=.returned (.bool true)∧Below w.heap.size w w':=by
 by_cases h:n=0
 ·subst h;refine (same_nil _ w).mono ?_;rintro e w' ⟨rfl,hb⟩;exact⟨by simp,hb⟩
 rw[no_ne h];refine (same_some _ _ w hg).mono ?_;rintro e w' ⟨rfl,hb⟩;exact⟨by simp,hb⟩
end
end Go.Proofs.YtiokpmlhmlcojaaGreatDoor
