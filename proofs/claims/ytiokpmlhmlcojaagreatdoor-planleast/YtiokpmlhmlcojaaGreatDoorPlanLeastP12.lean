/- Contracts and facts on the way to PlanLeast, joined into one text: RefFewest, RefLeast, SmOp, SmRounds, AsErr, AsErr2, SameNo, PlanLeast, TopoOf, NetOf, PlanLeastRow. -/
import Derived.Test.YtiokpmlhmlcojaaGreatDoorPlanLeastP11
namespace Go.Proofs.YtiokpmlhmlcojaaGreatDoor
set_option linter.unusedSimpArgs false
set_option linter.unusedVariables false
set_option maxHeartbeats 16000000
set_option maxRecDepth 100000
open Go.Proofs.Tryz
open IntKind (i64)
section
open Go.RowKit
theorem mn_none {all done:Nat}(ha:all<64)(hd:DnOK all done)(h:mnS all done=0):done=all:=set_ext hd.1 ha fun a h1 h2=>by
 have e:=in_mn (s:=all) (t:=done) h1 h2;rw[h,in_0] at e;cases hx:inS done a
 ·rw[hx] at e;simpa using e
 exact (hd.2 a h1 h2 hx).symm
theorem mn_same (all:Nat)(ha:all<64):mnS all all=0:=set_0 (mn_lt ha) fun a h1 h2=>by rw[in_mn h1 h2];cases inS all a <;> rfl
theorem st_mem {t s:Nat}(h:s∈stS t):s<64∧s≠0∧∀a,1≤a→a≤6→inS s a=true→inS t a=true:=by
 obtain⟨h1,h2⟩:=seq_mem.1 h;unfold sbB at h2;simp only[Bool.and_eq_true,decide_eq_true_eq] at h2;exact⟨h1,h2.1,(sub_and h1).1 h2.2⟩
def orF (s:Nat)(o r:Option (List Nat)):Option (List Nat):=match o with
 | some cs=>some (s :: cs)
 | none=>r
theorem fw_cons (sf:Nat→Nat→Bool)(done:Nat)(f:Nat→Option (List Nat))(s:Nat)(l:List Nat):fwS sf done f (s :: l)=if sf done s=true then orF s (f (done ||| s)) (fwS sf done f l) else fwS sf done f l:=by
 rw[fwS];cases f (done ||| s) <;> rfl
theorem fw_some {sf:Nat→Nat→Bool}{done:Nat}{f:Nat→Option (List Nat)}:∀{l cs:List Nat},fwS sf done f l=some cs→∃s ds,cs=s :: ds∧f (done ||| s)=some ds
 | [],cs,h=>by cases h
 | s :: l,cs,h=>by
   rw[fwS] at h;by_cases c:sf done s=true
   ·rw[if_pos c] at h;cases e:f (done ||| s) with
    | none=>rw[e] at h;exact fw_some h
    | some ds=>rw[e] at h;cases h;exact⟨s,ds,rfl,e⟩
   rw[if_neg c] at h;exact fw_some h
theorem fw_len {sf:Nat→Nat→Bool}{all:Nat}:∀(m:Nat) {done:Nat} {cs:List Nat},fwO sf all m done=some cs→cs.length≤m
 | 0,done,cs,h=>by
   rw[fwO] at h;by_cases e:done=all
   ·rw[if_pos e] at h;cases h;exact nLQ _
   rw[if_neg e] at h;cases h
 | m+1,done,cs,h=>by
   rw[fwO] at h;by_cases e:done=all
   ·rw[if_pos e] at h;cases h;exact Nat.zero_le _
   rw[if_neg e] at h;obtain⟨s,ds,rfl,h2⟩:=fw_some h;have:=fw_len m h2;rw[List.length_cons];omega
section
variable {S:Int}{ao:AdQ}{n cap:Nat}{ao2:AdQ}{n2 cap2:Nat}{ad:AdQ}{nd cd:Nat}{a4:AdQ}{n4 c4 all:Nat}{Ls:List LkT}{Hs:List HoT}{As Bs:TsQ}{ws:List Wi}{D:List Op8}
def FwC (S:Int)(ao:AdQ)(n cap:Nat)(ao2:AdQ)(n2 cap2:Nat)(ad:AdQ)(nd cd:Nat)(a4:AdQ)(n4 c4 all:Nat)(Ls:List LkT)(Hs:List HoT)(As Bs:TsQ)(ws:List Wi)(D:List Op8)(sf:Nat→Nat→Bool)(m:Nat):Prop:=
 ∀ (done:Nat),DnOK all done→∀(b3:AdQ) (k3 d3:Nat) (al:AdQ) (nl cl:Nat) (w:World),NI w (.slice ao n cap) (.slice ao2 n2 cap2) (.slice b3 k3 d3) Ls Hs (nwT As Bs done)→GS opE w (.slice ad nd cd) D→GS wisE w (.slice a4 n4 c4) ws→GS inE w (.slice al nl cl) (lsS (mnS all done)) →
   Calls prog 39 #[.agg #[.int i64 S,.slice ao n cap,.slice ao2 n2 cap2,.slice b3 k3 d3],.slice ad nd cd,.slice a4 n4 c4,.slice al nl cl,.int i64 (m:Int)] w fun e w'=>∃v,e=.returned (.tuple #[v,.bool (fwO sf all m done).isSome])∧RS w' v (((fwO sf all m done).getD []).map (rnL D))∧Below w.heap.size w w'
theorem rfewest_step (hP:PlOK S Ls Hs As Bs ws D)(ha:all<64)(M:Nat)(hM6:M≤100)(ih:∀m,M=m+1→FwC S ao n cap ao2 n2 cap2 ad nd cd a4 n4 c4 all Ls Hs As Bs ws D (sfB Ls Hs As Bs ws) m):FwC S ao n cap ao2 n2 cap2 ad nd cd a4 n4 c4 all Ls Hs As Bs ws D (sfB Ls Hs As Bs ws) M:=by
 intro done hd b3 k3 d3 al nl cl w hN hD hws hl;obtain⟨sf,hsf⟩:∃f,f=sfB Ls Hs As Bs ws:=⟨_,rfl⟩;rw[←hsf] at ih ⊢;obtain⟨t,ht⟩:∃t,t=mnS all done:=⟨_,rfl⟩;have ht64:t<64:=by rw[ht];exact mn_lt ha
 rw[←ht] at hl;obtain⟨F,hF⟩:∃F,F=fwO sf all M done:=⟨_,rfl⟩;rw[←hF];obtain⟨w1,hw1⟩:∃W,W=w.alloc (.cells #[.int i64 S,.slice ao n cap,.slice ao2 n2 cap2,.slice b3 k3 d3] 28):=⟨_,rfl⟩;have hb1:Below w.heap.size w w1:=by rw[hw1];exact (bRQ _ _).alloc (nLQ _) _
 have hnb:NeBox w1 w.heap.size S (.slice ao n cap) (.slice ao2 n2 cap2) (.slice b3 k3 d3):=by rw[hw1];exact nebox_new w S (.slice ao n cap) (.slice ao2 n2 cap2) (.slice b3 k3 d3) 28
 have HNB:Hid (∀W,Below w1.heap.size w1 W→NeBox W w.heap.size S (.slice ao n cap) (.slice ao2 n2 cap2) (.slice b3 k3 d3)):=fun W h=>hnb.later h
 have HNW:Hid (∀W,Below w1.heap.size w1 W→NI W (.slice ao n cap) (.slice ao2 n2 cap2) (.slice b3 k3 d3) Ls Hs (nwT As Bs done)∧GS opE W (.slice ad nd cd) D∧GS wisE W (.slice a4 n4 c4) ws∧GS inE W (.slice al nl cl) (lsS t)):=fun W h=>⟨(hN.later hb1).later h,(hD.later hb1).later h,(hws.later hb1).later h,(hl.later hb1).later h⟩
 have HB1:Hid (Below w.heap.size w w1):=hb1;have HW1:Hid (w.alloc (.cells #[.int i64 S,.slice ao n cap,.slice ao2 n2 cap2,.slice b3 k3 d3] 28)=w1):=hw1.symm;have hnl:(lsS t).length=nl:=hl.len;have HP:Hid (PlOK S Ls Hs As Bs ws D):=hP;have HD:Hid (DnOK all done):=hd;have HA:Hid (all<64):=ha;have HT:Hid (t<64∧t=mnS all done):=⟨ht64,ht⟩;have HSF:Hid (sf=sfB Ls Hs As Bs ws):=hsf;have h0:done≠all→nl≠0:=fun h e=>h (mn_none ha hd (by rw[←ht];exact (ls_0 ht64).1 (by omega)))
 by_cases hda:done=all
 ·have e0:nl=0:=by rw[←hnl,ht,hda,mn_same all ha];rfl
  have hFe:F=some []:=by
   rw[hF];cases M <;> simp[fwO,hda]
  subst e0;subst hFe;clear hN hD hws hl hb1 hnb hw1 hnl hP hd ha ht ht64 hsf h0 hda ih hF;go_enter func39,ntmps39;go_wp2;rw[HW1.out];refine bodyPost_ret (v:=.tuple #[.slice none 0 0,.bool true]) (by simp[results,results39,go_sem, *]) rfl ⟨.slice none 0 0,rfl,RS.nil _,HB1.out⟩
 have hq:((nl:Int)==0)=false:=by
  have:=h0 hda;rw[beq_eq_false_iff_ne];omega
 cases M with
 | zero =>
   have hFe:F=none:=by rw[hF,fwO,if_neg hda]
   subst hFe;clear hN hD hws hl hb1 hnb hw1 hnl hP hd ha ht ht64 hsf h0 hda ih hF;go_enter func39,ntmps39;go_wp2;rw[HW1.out];refine bodyPost_ret (v:=.tuple #[.slice none 0 0,.bool false]) (by simp[results,results39,go_sem, *]) rfl ⟨.slice none 0 0,rfl,RS.nil _,HB1.out⟩
 | succ m =>
   have HIH:Hid (FwC S ao n cap ao2 n2 cap2 ad nd cd a4 n4 c4 all Ls Hs As Bs ws D sf m):=ih m rfl;have HF:Hid (F=fwS sf done (fwO sf all m) (stS t)):=by
    show F=_;rw[hF,fwO,if_neg hda,ht]
   have HM:Hid (m≤100):=by show _≤_;omega
   obtain⟨Y,hY⟩:∃Y:Int,Y=((m+1:Nat):Int):=⟨_,rfl⟩;have hq1:(Y==0)=false:=by rw[beq_eq_false_iff_ne,hY];omega
   have hy1:IntKind.i64.wrap (Y-1)=(m:Int):=by rw[IntKind.wrap_i64,hY];omega
   have hy2:wrap64 (Y-1)=(m:Int):=by rw[hY];unfold wrap64;omega
   rw[←hY];clear hN hD hws hl hb1 hnb hw1 hnl hP hd ha ht ht64 hsf h0 hda ih hF hY hM6;go_enter func39,ntmps39
   go_wp2_with fail
   rw[HW1.out];refine (rsets_any (lsS t) (ls_len t 6) al nl cl w1 (HNW.out w1 (bRQ _ _)).2.2.2).mono ?_;rintro e w2 ⟨v,rfl,hR,hb2⟩;rw[st_ls HT.out.1] at hR;obtain⟨a8,n8,c8,rfl,hn8,_,_⟩:=hR.form;rw[List.length_map] at hn8;have HN8:Hid ((stS t).length=n8):=hn8;have HR:Hid (∀W,Below w2.heap.size w2 W→RG inE W (.slice a8 n8 c8) ((stS t).map lsS)):=fun W h=>hR.later h
   have HB2:Hid (Below w1.heap.size w1 w2):=hb2;have n63:n8≤9223372036854775807:=by
    have:(stS t).length≤64:=seq_len _ 64;omega
   clear hR hb2 hn8;go_upto_region 7 with fail
   go_loopw [13] (fun i wr=>∃k:Nat,k≤n8∧i=.int i64 (k:Int)∧F=fwS sf done (fwO sf all m) ((stS t).drop k)∧Below w2.heap.size w2 wr) (fun i _=>n8-(intOf i).toNat)
   case atStart=>exact⟨0,by omega,rfl,HF.out,bRQ _ _⟩
   case round =>
    obtain⟨k,hk,rfl,hFk,hB⟩:=hrel;obtain⟨wi,hwi⟩:∃X,X=wr:=⟨_,rfl⟩;subst hwi;have HB:Hid (Below w2.heap.size w2 wi):=hB;have HBI:Hid (Below w1.heap.size w1 wi):=HB2.out.trans (hB.mono HB2.out.size);have HFK:Hid (F=fwS sf done (fwO sf all m) ((stS t).drop k)):=hFk;clear hB hFk;by_cases hlt:k<n8
    ·obtain⟨g1,o1,L1,a1,n1,c1,rfl,hs,hc,hG⟩:=(HR.out wi HB.out).at hlt;have hkl:k<(stS t).length:=by have:=HN8.out;omega
     obtain⟨s,hs0⟩:∃s,s=(stS t)[k]:=⟨_,rfl⟩;have hL1:L1=lsS s:=by
      rw[List.getElem?_map,List.getElem?_eq_getElem hkl] at hs;rw[hs0];simpa using hs.symm
     subst hL1;obtain⟨hs64,hsn,hss⟩:=st_mem (t:=t) (s:=s) (by rw[hs0];exact List.getElem_mem hkl);have hdis:∀a,1≤a→a≤6→inS s a=true→inS done a=false:=fun a h1 h2 h3=>by
      have:=hss a h1 h2 h3;rw[HT.out.2,in_mn h1 h2] at this;simp only[Bool.and_eq_true,Bool.not_eq_true'] at this;exact this.2
     have HDIS:Hid (∀a,1≤a→a≤6→inS s a=true→inS done a=false):=hdis;have HOFE:Hid ((D.filter fun o=>(lsS s).any fun y=>y==o.w)=rnL D s):=HP.out.of fun a h1 h2=>ls_has h1 h2
     have HTM:Hid (decide (mfN S Ls Hs (nwT As Bs done) (rnL D s) ws=0)=sf done s):=by
      show _=_;rw[HSF.out];exact HP.out.mf hdis
     obtain⟨T,hT⟩:∃T,T=sf done s:=⟨_,rfl⟩;obtain⟨FB,hFB⟩:∃FB,FB=fwO sf all m (done ||| s):=⟨_,rfl⟩;have HST:Hid (F=if T=true then orF s FB (fwS sf done (fwO sf all m) ((stS t).drop (k+1))) else fwS sf done (fwO sf all m) ((stS t).drop (k+1))):=by
      show F=_;rw[HFK.out,List.drop_eq_getElem_cons hkl,←hs0,fw_cons,hT,hFB]
     have HDN:Hid (DnOK all (done ||| s)):=by
      refine⟨or_lt HD.out.1 hs64,fun a h1 h2 h3=>?_⟩;rw[in_or] at h3;by_cases e:inS done a=true
      ·exact HD.out.2 a h1 h2 e
      have:=hss a h1 h2 (by simpa[e] using h3);rw[HT.out.2,in_mn h1 h2] at this;simp only[Bool.and_eq_true] at this;exact this.1
     have HWT:Hid (wtI (lsS t) (lsS s)=lsS (mnS all (done ||| s))):=by
      show _=_;rw[wt_ls HT.out.1 hs64,HT.out.2,mn_mn HA.out]
     rw[←hT] at HTM;have HFB:Hid (fwO sf all m (done ||| s)=FB):=hFB.symm;have HFL:Hid (∀cs,FB=some cs→cs.length≤100):=fun cs h=>Nat.le_trans (fw_len m (hFB.symm.trans h)) HM.out
     have HG:Hid (∀W,Below wi.heap.size wi W→GS inE W (.slice a1 n1 c1) (lsS s)∧W.cell? ⟨g1,o1+k,none⟩=some (.slice a1 n1 c1)):=fun W h=>⟨hG.later h,cell_later h hc⟩
     have kb0:(0:Int)≤(k:Int):=by omega
     have kb1:(k:Int)<(n8:Int):=by omega
     clear hs hG hs0 hs64 hsn hss hdis hT hFB hkl
     go_wp2_with fail
     refine (rof_any ad nd cd a1 n1 c1 D (lsS s) wi (HNW.out wi HBI.out).2.1 (HG.out wi (bRQ _ _)).1 (by have:=HP.out.few;omega)).mono ?_;rintro e w3 ⟨v,rfl,hNO,hb3⟩;rw[HOFE.out] at hNO;obtain⟨a5,n5,c5,rfl,_⟩:=hNO.gs.form;have HO5:Hid (∀W,Below w3.heap.size w3 W→GS opE W (.slice a5 n5 c5) (rnL D s)):=fun W h=>(hNO.later h).gs
     have HB3:Hid (Below wi.heap.size wi w3):=hb3;have HB13:Hid (Below w1.heap.size w1 w3):=HBI.out.trans (hb3.mono HBI.out.size);clear hNO hb3 hc;obtain⟨q0,q1,q2,q3⟩:=HNB.out w3 HB13.out
     go_wp2_with fail
     refine (rmay_any S ao n cap ao2 n2 cap2 b3 k3 d3 a5 n5 c5 a4 n4 c4 Ls Hs (nwT As Bs done) (rnL D s) ws w3 w3 (HNW.out w3 HB13.out).1 (bRQ _ _) (HO5.out w3 (bRQ _ _)) (HNW.out w3 HB13.out).2.2.1 HP.out.nw).mono ?_;rintro e w4 ⟨f3,l3,e3,rfl,hTR,hb4⟩;rw[HTM.out];have HB34:Hid (Below w3.heap.size w3 w4):=hb4;have HTR:Hid (T=true→TS w4 (.slice f3 l3 e3) (nwT As Bs (done ||| s))):=fun h=>by
      have h1:=HTM.out;rw[h] at h1;obtain⟨vs,h2⟩:=hTR (of_decide_eq_true h1);rw[(HP.out.ca HDIS.out).2] at h2;exact h2.ts
     clear hTR hb4 q0 q1 q2 q3;obtain⟨w5,hw5⟩:∃W,w4.alloc (.cells #[.int i64 S,.slice ao n cap,.slice ao2 n2 cap2,.slice f3 l3 e3] 28)=W:=⟨_,rfl⟩;have hb45:Below w4.heap.size w4 w5:=by rw[←hw5];exact (bRQ _ _).alloc (nLQ _) _
     have HW5:Hid (w4.alloc (.cells #[.int i64 S,.slice ao n cap,.slice ao2 n2 cap2,.slice f3 l3 e3] 28)=w5):=hw5;have HB35:Hid (Below w3.heap.size w3 w5):=HB34.out.trans (hb45.mono HB34.out.size);have HBI5:Hid (Below wi.heap.size wi w5):=HB3.out.trans (HB35.out.mono HB3.out.size);have HB25:Hid (Below w2.heap.size w2 w5):=HB.out.trans (HBI5.out.mono HB.out.size);have HB15:Hid (Below w1.heap.size w1 w5):=HB13.out.trans (HB35.out.mono HB13.out.size);have hnb5:NeBox w5 w4.heap.size S (.slice ao n cap) (.slice ao2 n2 cap2) (.slice f3 l3 e3):=by rw[←hw5];exact nebox_new w4 S (.slice ao n cap) (.slice ao2 n2 cap2) (.slice f3 l3 e3) 28
     have HNB5:Hid (NeBox w5 w4.heap.size S (.slice ao n cap) (.slice ao2 n2 cap2) (.slice f3 l3 e3)):=hnb5;have HTS:Hid (T=true→TS w5 (.slice f3 l3 e3) (nwT As Bs (done ||| s))):=fun h=>(HTR.out h).later hb45
     clear hw5 hb45 hnb5;cases T with
     | false =>
       have HF2:Hid (F=fwS sf done (fwO sf all m) ((stS t).drop (k+1))):=HST.out;go_upto_region 11 with fail;rw[HW5.out];go_wp2;go_roundw
       case rel=>exact⟨k+1,by omega,by go_num,HF2.out,HB25.out⟩
       case measure=>simp[intOf];omega
     | true =>
       have HF2:Hid (F=orF s FB (fwS sf done (fwO sf all m) ((stS t).drop (k+1)))):=HST.out;have HCB:Hid (∀W,Below w5.heap.size w5 W→W.cell? ⟨w4.heap.size,0,none⟩=some (.int i64 S)∧W.cell? ⟨w4.heap.size,1,none⟩=some (.slice ao n cap)∧W.cell? ⟨w4.heap.size,2,none⟩=some (.slice ao2 n2 cap2)∧W.cell? ⟨w4.heap.size,3,none⟩=some (.slice f3 l3 e3)∧W.cell? ⟨g1,o1+k,none⟩=some (.slice a1 n1 c1)):=fun W h=>by
        obtain⟨x0,x1,x2,x3⟩:=HNB5.out.later h;exact⟨x0,x1,x2,x3,(HG.out W (HBI5.out.trans (h.mono HBI5.out.size))).2⟩
       have HWC:Hid (∀W,Below w5.heap.size w5 W→Calls prog 74 #[.slice al nl cl,.slice a1 n1 c1] W fun e w'=>∃a7 n7 c7,e=.returned (.slice a7 n7 c7)∧(∀V,Below w'.heap.size w' V→GS inE V (.slice a7 n7 c7) (lsS (mnS all (done ||| s))))∧Below W.heap.size W w'):=fun W h=>by
        refine (rwithout_any al nl cl a1 n1 c1 (lsS t) (lsS s) W (HNW.out W (HB15.out.trans (h.mono HB15.out.size))).2.2.2 (HG.out W (HBI5.out.trans (h.mono HBI5.out.size))).1 (by have:=ls_len t 6;show (lsTo t 6).length≤1000;omega)).mono ?_;rintro e w' ⟨a7,n7,c7,rfl,hG,hb⟩;rw[HWT.out] at hG;exact⟨a7,n7,c7,rfl,fun V hV=>hG.later hV,hb⟩
       have HFC:Hid (∀W a7 n7 c7,GS inE W (.slice a7 n7 c7) (lsS (mnS all (done ||| s)))→Below w5.heap.size w5 W→Calls prog 39 #[.agg #[.int i64 S,.slice ao n cap,.slice ao2 n2 cap2,.slice f3 l3 e3],.slice ad nd cd,.slice a4 n4 c4,.slice a7 n7 c7,.int i64 (m:Int)] W fun e w'=>∃a6 n6 c6,e=.returned (.tuple #[.slice a6 n6 c6,.bool FB.isSome])∧RS w' (.slice a6 n6 c6) ((FB.getD []).map (rnL D))∧Below W.heap.size W w'):=fun W a7 n7 c7 hG h=>by
        have hb:=HB15.out.trans (h.mono HB15.out.size);refine (HIH.out (done ||| s) HDN.out f3 l3 e3 a7 n7 c7 W ⟨(HNW.out W hb).1.l,(HNW.out W hb).1.h,(HTS.out rfl).later h⟩ (HNW.out W hb).2.1 (HNW.out W hb).2.2.1 hG).mono ?_;rintro e w' ⟨v,rfl,hR,hb'⟩;rw[HFB.out] at hR ⊢;obtain⟨a6,n6,c6,rfl,_⟩:=hR.form;exact⟨a6,n6,c6,rfl,hR,hb'⟩
       clear HTS HTR HNB5;go_upto_region 12 with fail;rw[HW5.out]
       go_cut [17,16] from 26 to 67 (fun more ok w'=>∃a6 n6 c6,more=.slice a6 n6 c6∧ok=.bool FB.isSome∧RS w' (.slice a6 n6 c6) ((FB.getD []).map (rnL D))∧Below w5.heap.size w5 w')
       case first =>
        go_region_held3 (fun W=>W.cell? ⟨w4.heap.size,0,none⟩=some (.int i64 S)∧W.cell? ⟨w4.heap.size,1,none⟩=some (.slice ao n cap)∧W.cell? ⟨w4.heap.size,2,none⟩=some (.slice ao2 n2 cap2)∧W.cell? ⟨w4.heap.size,3,none⟩=some (.slice f3 l3 e3)∧W.cell? ⟨g1,o1+k,none⟩=some (.slice a1 n1 c1))
         (first | (with_reducible assumption) | (with_reducible exact HCB.out _ (Below.drew (bRQ _ _))) | (with_reducible exact HCB.out _ HBY.out) | (with_reducible exact HCB.out _ HBX.out))
         (first
          | (go_at_call 74;refine (HWC.out _ (Below.drew (bRQ _ _))).mono ?_;rintro e w' ⟨a7,n7,c7,rfl,hG,hb⟩;have HBX:Hid (Below w5.heap.size w5 w'):=fdrew hb;have HGX:Hid (∀V,Below w'.heap.size w' V→GS inE V (.slice a7 n7 c7) (lsS (mnS all (done ||| s)))):=hG;clear hb hG)
          | (go_at_call 39;refine (HFC.out _ a7 n7 c7 (HGX.out _ (bRQ _ _)) HBX.out).mono ?_;rintro e w'' ⟨a6,n6,c6,rfl,hR,hb⟩;have HBY:Hid (Below w5.heap.size w5 w''):=HBX.out.trans (hb.mono HBX.out.size);have HRY:Hid (RS w'' (.slice a6 n6 c6) ((FB.getD []).map (rnL D))):=hR;clear hb hR))
        all_goals (go_wp2_with fail;go_meet)
        all_goals exact⟨_,_,_,rfl,rfl,HRY.out,HBY.out⟩
       case rest =>
        obtain⟨a6,n6,c6,rfl,rfl,hR6,hb6⟩:=hcut;obtain⟨w6,hw6⟩:∃X,X=wc:=⟨_,rfl⟩;subst hw6;have HB26:Hid (Below w2.heap.size w2 w6):=HB25.out.trans (hb6.mono HB25.out.size);have HB36:Hid (Below w3.heap.size w3 w6):=HB35.out.trans (hb6.mono HB35.out.size);have HR6:Hid (RS w6 (.slice a6 n6 c6) ((FB.getD []).map (rnL D))):=hR6;clear hR6 hb6 HCB HWC HFC HIH;cases FB with
        | none =>
          have HF3:Hid (F=fwS sf done (fwO sf all m) ((stS t).drop (k+1))):=HF2.out;simp only[Option.isSome_none];go_wp2;go_roundw
          case rel=>exact⟨k+1,by omega,by go_num,HF3.out,HB26.out⟩
          case measure=>simp[intOf];omega
        | some cs =>
          have HF3:Hid (F=some (s :: cs)):=HF2.out;simp only[Option.isSome_some];obtain⟨us,hu1,hu2,hu3⟩:=HR6.out;have hlen:us.length≤1000:=by
           rw[hu2,List.length_map];have:=HFL.out cs rfl;show cs.length≤1000;omega
          have HOG:Hid (OG opE 48 (w6.alloc (.cells #[.slice a5 n5 c5] 48)) w6.heap.size (.slice (some ⟨w6.heap.size,0,none⟩) 1 1) [(a5,n5,c5)] [rnL D s]):=og_one (x:=(a5,n5,c5)) (HO5.out w6 HB36.out) (nLQ _) 48;have hal:Below w6.heap.size w6 (w6.alloc (.cells #[.slice a5 n5 c5] 48)):=(bRQ _ _).alloc (nLQ _) _;have HAL:Hid (Below w6.heap.size w6 (w6.alloc (.cells #[.slice a5 n5 c5] 48))):=hal;have HU:Hid (GS slE (w6.alloc (.cells #[.slice a5 n5 c5] 48)) (.slice a6 n6 c6) us∧us.length=(cs.map (rnL D)).length∧∀(i:Nat) (x:SlT) (L:List Op8),us[i]?=some x→(cs.map (rnL D))[i]?=some L→GS opE (w6.alloc (.cells #[.slice a5 n5 c5] 48)) (slV x) L∧∀b,(Value.slice (some ⟨w6.heap.size,0,none⟩) 1 1).ownBlock=some b→offB x b):=
           ⟨hu1.later hal,hu2,fun i x L h1 h2=>⟨(hu3 i x L h1 h2).later hal,fun b e=>by cases e;exact (hu3 i x L h1 h2).off (nLQ _)⟩⟩
          have HN:Hid ([((a5,n5,c5):SlT)].length+us.length≤maxLen∧([((a5,n5,c5):SlT)].length+us.length)*24≤140737488355328):=⟨by unfold maxLen;simp;omega,by simp;omega⟩;obtain⟨j0,gi,gz0,gz1,gz2⟩:=info_parts rd_info;have HIJ:Hid (Tryz.prog.info? 48=some j0∧j0.zero=some (.slice none 0 0)∧j0.size=slE.n∧j0.bytes=24):=⟨gi,gz0,gz1,gz2⟩;clear hu1 hu2 hu3 hlen hal gi gz0 gz1 gz2
          go_wp2_with (at_builtin;refine wpList_append_GS (E:=slE) _ rfl _ _ 30 48 rfl underlying30 j0 (.slice none 0 0) 24 HIJ.out.1 HIJ.out.2.1 HIJ.out.2.2.1 HIJ.out.2.2.2 rfl w6.heap.size _ rfl _ HOG.out.ov _ rfl us HU.out.1 HN.out.1 HN.out.2 HAL.out.size ?_)
          intro v9 w9 ho9 hg9;have HRG:Hid (RS w9 v9 ((F.getD []).map (rnL D))):=by
           show RS _ _ _;rw[HF3.out];exact HOG.out.app HU.out.2.1 HU.out.2.2 hg9 ho9
          have HB9:Hid (Below w.heap.size w w9):=by
           have h1:=HB1.out.trans ((HB2.out.trans (HB26.out.mono HB2.out.size)).mono HB1.out.size);have h2:=HAL.out.trans (below_grown hg9 HAL.out.size (fun b hb=>(HOG.out.ov.lt b hb).1));exact h1.trans (h2.mono h1.size)
          have HFS:Hid (F.isSome=true):=by rw[HF3.out];rfl
          clear ho9 hg9;go_wp2;refine bodyPost_ret (v:=.tuple #[v9,.bool true]) (by simp[results,results39,go_sem, *]) rfl ⟨v9,by rw[HFS.out],HRG.out,HB9.out⟩
    obtain rfl:k=n8:=by omega
    have hFe:F=none:=by
     rw[HFK.out,←HN8.out,List.drop_length];rfl
    have HBE:Hid (Below w.heap.size w wi):=HB1.out.trans (HBI.out.mono HB1.out.size);subst hFe;go_wp2;refine bodyPost_ret (v:=.tuple #[.slice none 0 0,.bool false]) (by simp[results,results39,go_sem, *]) rfl ⟨.slice none 0 0,rfl,RS.nil _,HBE.out⟩
theorem rfewest_any (hP:PlOK S Ls Hs As Bs ws D)(ha:all<64):∀(m:Nat),m≤100→FwC S ao n cap ao2 n2 cap2 ad nd cd a4 n4 c4 all Ls Hs As Bs ws D (sfB Ls Hs As Bs ws) m
 | 0,h=>rfewest_step hP ha 0 h fun m e=>by omega
 | m+1,h=>rfewest_step hP ha (m+1) h fun k e=>by
   obtain rfl:k=m:=by omega
   exact rfewest_any hP ha k (by omega)
end
theorem rleast_any (S:Int)(v1 v2 v3:Value)(S':Int)(u1 u2 u3 v4:Value)(Ls:List LkT)(Hs:List HoT)(Ts:TsQ)(Ls':List LkT)(Hs':List HoT)(Ts':TsQ)(ws:List Wi)(w:World)
 (hN:NI w v1 v2 v3 Ls Hs Ts) (hM:NI w u1 u2 u3 Ls' Hs' Ts') (hw:GS wisE w v4 ws):
 Calls prog 16 #[.agg #[.int i64 S,v1,v2,v3],.agg #[.int i64 S',u1,u2,u3],v4] w fun e w'=>∃v,e=.returned (.tuple #[v,.int i64 (leN S Ls Hs Ts S' Ls' Hs' Ts' ws)])∧RS w' v (leL S Ls Hs Ts S' Ls' Hs' Ts' ws)∧Below w.heap.size w w':=by
 obtain⟨ao,n,cap,ao2,n2,cap2,ao3,n3,cap3,rfl,rfl,rfl⟩:=hN.form;obtain⟨bo,m,dap,bo2,m2,dap2,bo3,m3,dap3,rfl,rfl,rfl⟩:=hM.form;obtain⟨a4,n4,c4,rfl,_⟩:=hw.form;obtain⟨w1,hw1⟩:∃W,W=(w.alloc (.cells #[.int i64 S,.slice ao n cap,.slice ao2 n2 cap2,.slice ao3 n3 cap3] 28)).alloc (.cells #[.int i64 S',.slice bo m dap,.slice bo2 m2 dap2,.slice bo3 m3 dap3] 28):=⟨_,rfl⟩;have hb1:Below w.heap.size w w1:=by rw[hw1];exact ((bRQ _ _).alloc (nLQ _) _).alloc (by simp) _
 have hnn:NN w1 w.heap.size S (.slice ao n cap) (.slice ao2 n2 cap2) (.slice ao3 n3 cap3) S' (.slice bo m dap) (.slice bo2 m2 dap2) (.slice bo3 m3 dap3):=by rw[hw1];exact nn_new w S _ _ _ S' _ _ _ 28
 have HNW:Hid (∀W,Below w1.heap.size w1 W→NI W (.slice ao n cap) (.slice ao2 n2 cap2) (.slice ao3 n3 cap3) Ls Hs Ts∧NI W (.slice bo m dap) (.slice bo2 m2 dap2) (.slice bo3 m3 dap3) Ls' Hs' Ts'∧GS wisE W (.slice a4 n4 c4) ws):=fun W h=>⟨(hN.later hb1).later h,(hM.later hb1).later h,(hw.later hb1).later h⟩
 have HNB:Hid (∀W,Below w1.heap.size w1 W→NeBox W w.heap.size S (.slice ao n cap) (.slice ao2 n2 cap2) (.slice ao3 n3 cap3)∧NeBox W (w.heap.size+1) S' (.slice bo m dap) (.slice bo2 m2 dap2) (.slice bo3 m3 dap3)):=fun W h=>⟨hnn.1.later h,hnn.2.later h⟩
 have HB1:Hid (Below w.heap.size w w1):=hb1;have HW1:Hid ((w.alloc (.cells #[.int i64 S,.slice ao n cap,.slice ao2 n2 cap2,.slice ao3 n3 cap3] 28)).alloc (.cells #[.int i64 S',.slice bo m dap,.slice bo2 m2 dap2,.slice bo3 m3 dap3] 28)=w1):=hw1.symm;obtain⟨X,hX⟩:∃q,q=pdN S Ls Hs Ts S' Ls' Hs' Ts' ws:=⟨_,rfl⟩;have HX:Hid (pdN S Ls Hs Ts S' Ls' Hs' Ts' ws=X):=hX.symm;obtain⟨D,hD⟩:∃q,q=pdL S Ls Hs Ts S' Ls' Hs' Ts' ws:=⟨_,rfl⟩;have HD:Hid (pdL S Ls Hs Ts S' Ls' Hs' Ts' ws=D):=hD.symm;have HPK:Hid (X=0→PlOK S Ls Hs Ts Ts' ws D):=fun h=>by rw[hD];exact (pd_ok (hX.symm.trans h)).1
 obtain⟨U,hU⟩:∃q,q=wiN S Ls Hs Ts ws:=⟨_,rfl⟩;have HU:Hid (wiN S Ls Hs Ts ws=U):=hU.symm;obtain⟨N,hNN⟩:∃q,q=leN S Ls Hs Ts S' Ls' Hs' Ts' ws:=⟨_,rfl⟩;obtain⟨L0,hL0⟩:∃q,q=leL S Ls Hs Ts S' Ls' Hs' Ts' ws:=⟨_,rfl⟩;have HPB:Hid (pbN S Ls Hs Ts S' Ls' Hs' Ts' ws=if X=0 then U else X):=by rw[hX,hU];exact rfl
 have HNL:Hid ((X≠0→N=X∧L0=[])∧(X=0→U≠0→N=U∧L0=[])∧(X=0→U=0→N=rsN (leO Ls Hs Ts Ts' ws D)∧L0=rsL D (leO Ls Hs Ts Ts' ws D))):=by
  have hpb:=HPB.out;refine⟨fun h=>?_,fun h1 h2=>?_,fun h1 h2=>?_⟩
  ·rw[if_neg h] at hpb;rw[hNN,hL0,leN,leL,hpb,if_neg h,if_neg h];exact⟨rfl,rfl⟩
  ·rw[if_pos h1] at hpb;rw[hNN,hL0,leN,leL,hpb,if_neg h2,if_neg h2];exact⟨rfl,rfl⟩
  rw[if_pos h1,h2] at hpb;rw[hNN,hL0,leN,leL,hpb,if_pos rfl,if_pos rfl,hD];exact⟨rfl,rfl⟩
 rw[←hNN,←hL0];clear hN hM hw hb1 hnn hw1 hX hD hU hNN hL0;go_enter func16,ntmps16;go_upto_region 1 with fail;rw[HW1.out];clear HW1;obtain⟨⟨q0,q1,q2,q3⟩,r0,r1,r2,r3⟩:=HNB.out w1 (bRQ _ _)
 go_wp2_with fail
 refine (rready_any S _ _ _ S' _ _ _ _ Ls Hs Ts Ls' Hs' Ts' ws w1 (HNW.out _ (bRQ _ _)).1 (HNW.out _ (bRQ _ _)).2.1 (HNW.out _ (bRQ _ _)).2.2).mono ?_;rintro e w2 ⟨v,rfl,hNO,hb2⟩;rw[HX.out];rw[HD.out] at hNO;obtain⟨ad,nd,cd,hv,_⟩:=hNO.gs.form;subst hv;have HOD:Hid (∀W,Below w2.heap.size w2 W→GS opE W (.slice ad nd cd) D):=fun W h=>(hNO.later h).gs
 have HB2:Hid (Below w1.heap.size w1 w2):=hb2;clear hNO hb2 q0 q1 q2 q3 r0 r1 r2 r3;by_cases hX0:X=0
 ·have HP:Hid (PlOK S Ls Hs Ts Ts' ws D):=HPK.out hX0;have HNLA:Hid ((U≠0→N=U∧L0=[])∧(U=0→N=rsN (leO Ls Hs Ts Ts' ws D)∧L0=rsL D (leO Ls Hs Ts Ts' ws D))):=⟨HNL.out.2.1 hX0,HNL.out.2.2 hX0⟩;clear HNL HPK HPB;subst hX0;obtain⟨⟨q0,q1,q2,q3⟩,_⟩:=HNB.out w2 HB2.out
  go_wp2_with fail
  refine (rholds_any S ao n cap ao2 n2 cap2 ao3 n3 cap3 a4 n4 c4 Ls Hs Ts ws w2 (HNW.out _ HB2.out).1.l (HNW.out _ HB2.out).1.h (HNW.out _ HB2.out).1.t (HNW.out _ HB2.out).2.2 HP.out.nt).mono ?_;rintro e w3 ⟨rfl,hb3⟩;obtain⟨BR,hBR⟩:∃q,q=(brW Ls Hs Ts ws Hs ws.length).isNone:=⟨_,rfl⟩;have HUB:Hid (U=if BR then 0 else 9):=by
   show U=_;rw[←HU.out,wiN,if_pos HP.out.nt,if_pos HP.out.ws,hBR];cases brW Ls Hs Ts ws Hs ws.length <;> rfl
  rw[←hBR];obtain⟨P1,P2,P3,hP⟩:∃a b c,prV Hs (brW Ls Hs Ts ws Hs ws.length)=(a,b,c):=⟨_,_,_,rfl⟩;rw[hP];obtain⟨w4,hw4⟩:∃W,w3.alloc (.cells #[.int i64 P1,.string P2,.int i64 P3] 43)=W:=⟨_,rfl⟩;have hb4:Below w3.heap.size w3 w4:=by rw[←hw4];exact (bRQ _ _).alloc (nLQ _) _
  have h24:Below w2.heap.size w2 w4:=hb3.trans (hb4.mono hb3.size);have HB24:Hid (Below w2.heap.size w2 w4):=h24;have HB4:Hid (Below w1.heap.size w1 w4):=HB2.out.trans (h24.mono HB2.out.size);have HW4:Hid (w3.alloc (.cells #[.int i64 P1,.string P2,.int i64 P3] 43)=w4):=hw4;have HBW4:Hid (Below w.heap.size w w4):=HB1.out.trans (HB4.out.mono HB1.out.size);clear hb3 hb4 h24 hw4 hBR hP q0 q1 q2 q3;go_upto_region 5 with fail;rw[HW4.out];clear HW4;cases BR with
  | false =>
    have hU9:U=9:=HUB.out.trans (by simp);have HNE:Hid (N=9∧L0=[]):=by
     have h:=HNLA.out.1 (by rw[hU9];decide);rw[hU9] at h;exact h
    clear hU9;go_wp2;refine bodyPost_ret (v:=.tuple #[.slice none 0 0,.int i64 9]) (by simp[results,results16,go_sem, *]) rfl ⟨.slice none 0 0,by rw[HNE.out.1],by rw[HNE.out.2];exact RS.nil _,HBW4.out⟩
  | true =>
    have hU0:U=0:=HUB.out.trans (by simp);obtain⟨all,hall⟩:∃a,a=alS D:=⟨_,rfl⟩;obtain⟨sf,hsf⟩:∃f,f=sfB Ls Hs Ts Ts' ws:=⟨_,rfl⟩;obtain⟨nx,hnx⟩:∃f,f=fun done=>(shC sf all done).2:=⟨_,rfl⟩
    obtain⟨RO,hRO⟩:∃R,R=roA all nx 0:=⟨_,rfl⟩;have HSF:Hid (sfB Ls Hs Ts Ts' ws=sf):=hsf.symm;have HAT:Hid ((∀m,m<(shC sf all 0).1→fwO sf all m 0=none)∧((shC sf all 0).1<7→(shC sf all 0).1≤(lsS all).length∧fwO sf all (shC sf all 0).1 0=RO∧∃cs,RO=some cs)∧(¬(shC sf all 0).1<7→(lsS all).length<(shC sf all 0).1∧RO=none)):=by
     rw[hRO,hnx];exact le_at (by rw[hall];exact al_lt HP.out.w)
    have HRO:Hid (roA all nx 0=RO):=hRO.symm;have HA:Hid (all<64):=by show all<64;rw[hall];exact al_lt HP.out.w
    have HNE:Hid (N=rsN RO∧L0=rsL D RO):=by
     have h:=HNLA.out.2 hU0;have e:leO Ls Hs Ts Ts' ws D=RO:=by rw[hRO,hnx,hsf,hall];rfl
     rw[e] at h;exact h
    have HTL:Hid (tcL D=lsS (mnS all 0)):=by
     show tcL D=_;rw[tc_ls HP.out.w,hall]
     congr 1
     refine set_ext (al_lt HP.out.w) (mn_lt (al_lt HP.out.w)) fun a h1 h2=>?_
     rw[in_mn h1 h2,in_0];simp
    have hmn:mnS all 0=all:=set_ext (mn_lt HA.out) HA.out fun a h1 h2=>by
     rw[in_mn h1 h2,in_0];simp
    obtain⟨K,hK⟩:∃K,K=(shC sf all 0).1:=⟨_,rfl⟩;rw[←hK] at HAT;have HDF:Hid (D.length≤144):=HP.out.few;have HNDL:Hid (D.length=nd):=by
     obtain⟨_,_,_,e,hn,_⟩:=(HOD.out w2 (bRQ _ _)).form;cases e;exact hn
    have HFW:Hid (∀(k:Nat) (al:AdQ) (nl cl:Nat) W,k≤100→Below w2.heap.size w2 W→GS inE W (.slice al nl cl) (lsS (mnS all 0))→Calls prog 39 #[.agg #[.int i64 S,.slice ao n cap,.slice ao2 n2 cap2,.slice ao3 n3 cap3],.slice ad nd cd,.slice a4 n4 c4,.slice al nl cl,.int i64 (k:Int)] W fun e w'=>∃a6 n6 c6,e=.returned (.tuple #[.slice a6 n6 c6,.bool (fwO sf all k 0).isSome])∧RS w' (.slice a6 n6 c6) (((fwO sf all k 0).getD []).map (rnL D))∧Below W.heap.size W w'):=fun k al nl cl W hk hW hG=>by
     have hb:=HB2.out.trans (hW.mono HB2.out.size);have hf:=rfewest_any (S:=S) (ao:=ao) (n:=n) (cap:=cap) (ao2:=ao2) (n2:=n2) (cap2:=cap2) (ad:=ad) (nd:=nd) (cd:=cd) (a4:=a4) (n4:=n4) (c4:=c4) HP.out HA.out k hk;rw[HSF.out] at hf;refine (hf 0 dn_0 ao3 n3 cap3 al nl cl W (by rw[nw_0];exact (HNW.out W hb).1) (HOD.out W hW) (HNW.out W hb).2.2 hG).mono ?_;rintro e w' ⟨v,rfl,hR,hb'⟩;obtain⟨a6,n6,c6,rfl,_⟩:=hR.form;exact⟨a6,n6,c6,rfl,hR,hb'⟩
    have HLL:Hid (lsS (mnS all 0)=lsS all):=by rw[hmn];exact rfl
    clear hall hsf hnx hRO hU0 HNLA hmn hK
    go_wp2_with fail
    refine (rtouched_any ad nd cd D w4 (HOD.out _ HB24.out) (by have:=HDF.out;have:=HNDL.out;omega)).mono ?_;rintro e w5 ⟨al0,nl0,cl0,rfl,hI5,hb5⟩;rw[HTL.out] at hI5;have hnl:(lsS all).length=nl0:=by
     rw[←HLL.out];exact hI5.len
    have HNL:Hid ((lsS all).length=nl0∧nl0≤6):=⟨hnl,by rw[←hnl];exact ls_len all 6⟩;have n63:nl0≤9223372036854775807:=by have:=HNL.out.2;omega
    have HI5:Hid (∀W,Below w5.heap.size w5 W→GS inE W (.slice al0 nl0 cl0) (lsS (mnS all 0))):=fun W h=>hI5.later h
    have HB5:Hid (Below w1.heap.size w1 w5):=HB4.out.trans (hb5.mono HB4.out.size);have HB25:Hid (Below w2.heap.size w2 w5):=HB24.out.trans (hb5.mono HB24.out.size);clear hI5 hb5 hnl;go_upto_region 9 with fail
    go_loopw [13] (fun i wr=>∃k:Nat,k≤nl0+1∧i=.int i64 (k:Int)∧k≤K∧Below w5.heap.size w5 wr) (fun i _=>nl0+1-(intOf i).toNat)
    case atStart=>exact⟨0,by omega,rfl,by omega,bRQ _ _⟩
    case round =>
     obtain⟨k,hk,rfl,hkK,hB⟩:=hrel;obtain⟨wi,hwi⟩:∃X,X=wr:=⟨_,rfl⟩;subst hwi;have HB:Hid (Below w5.heap.size w5 wi):=hB;have HB1i:Hid (Below w1.heap.size w1 wi):=HB5.out.trans (hB.mono HB5.out.size);have HB2i:Hid (Below w2.heap.size w2 wi):=HB25.out.trans (hB.mono HB25.out.size);have HKK:Hid (k≤K∧k≤nl0+1):=⟨hkK,hk⟩;clear hB hkK hk;by_cases hlt:k≤nl0
     ·have hle:(k:Int)≤(nl0:Int):=by omega
      have HLT:Hid (k≤nl0):=hlt;have k100:k≤100:=by have:=HNL.out.2;omega
      obtain⟨⟨q0,q1,q2,q3⟩,_⟩:=HNB.out wi HB1i.out
      go_wp2_with fail
      refine (HFW.out k al0 nl0 cl0 wi k100 HB2i.out (HI5.out wi HB.out)).mono ?_;rintro e w6 ⟨a6,n6,c6,rfl,hR6,hb6⟩;have HB6:Hid (Below w5.heap.size w5 w6):=HB.out.trans (hb6.mono HB.out.size);have HBW6:Hid (Below w.heap.size w w6):=HB1.out.trans ((HB1i.out.trans (hb6.mono HB1i.out.size)).mono HB1.out.size);by_cases hkK:k<K
      ·have e0:=HAT.out.1 k hkK;have HK2:Hid (k+1≤K):=hkK;rw[e0];simp only[Option.isSome_none];clear hR6 hb6 q0 q1 q2 q3 e0 hkK;go_wp2;go_roundw
       case rel=>exact⟨k+1,by omega,by go_num,HK2.out,HB6.out⟩
       case measure=>simp[intOf];omega
      obtain rfl:k=K:=by have:=HKK.out.1;omega
      obtain⟨_,e1,cs,e2⟩:=HAT.out.2.1 (by have:=HNL.out.2;omega);have HR6:Hid (RS w6 (.slice a6 n6 c6) L0):=by
       show RS _ _ _;rw[HNE.out.2,rsL,←e1];exact hR6
      have HNN:Hid (N=0):=by
       show N=0;rw[HNE.out.1,e2];rfl
      rw[e1,e2];simp only[Option.isSome_some];clear hR6 hb6 q0 q1 q2 q3 e1 e2 hkK;go_wp2;refine bodyPost_ret (v:=.tuple #[.slice a6 n6 c6,.int i64 0]) (by simp[results,results16,go_sem, *]) rfl ⟨_,by rw[HNN.out],HR6.out,HBW6.out⟩
     have hle:¬(k:Int)≤(nl0:Int):=by omega
     have HNO:Hid (N=9∧L0=[]):=by
      have h7:¬K<7:=fun h=>by
       have h1:=(HAT.out.2.1 h).1;have h2:=HKK.out.1;have h3:=HNL.out.1;omega
      have h4:=(HAT.out.2.2 h7).2;have h5:=HNE.out;rw[h4] at h5;exact h5
     have HBW:Hid (Below w.heap.size w wi):=HB1.out.trans (HB1i.out.mono HB1.out.size);clear hlt;go_wp2;refine bodyPost_ret (v:=.tuple #[.slice none 0 0,.int i64 9]) (by simp[results,results16,go_sem, *]) rfl ⟨.slice none 0 0,by rw[HNO.out.1],by rw[HNO.out.2];exact RS.nil _,HBW.out⟩
 have HNE:Hid (N=X∧L0=[]):=HNL.out.1 hX0;have hq:(X==0)=false:=by simpa using hX0
 have HBW:Hid (Below w.heap.size w w2):=HB1.out.trans (HB2.out.mono HB1.out.size);clear hX0 HNL;go_wp2;refine bodyPost_ret (v:=.tuple #[.slice none 0 0,.int i64 X]) (by simp[results,results16,go_sem, *]) rfl ⟨.slice none 0 0,by rw[HNE.out.1],by rw[HNE.out.2];exact RS.nil _,HBW.out⟩
def opCD (w:World)(g o:Nat)(x0:Int)(x1:Bool)(x2 x3 x4 x5 x6 x7:Int)(g' o':Nat)(y0:Int)(y1:Bool)(y2 y3 y4 y5 y6 y7:Int)(w':World):Prop:=
 Below w.heap.size w w'∧(w'.cell? ⟨g,o,none⟩=some (.int i64 x0)∧w'.cell? ⟨g,o+1,none⟩=some (.bool x1)∧w'.cell? ⟨g,o+2,none⟩=some (.int i64 x2)∧w'.cell? ⟨g,o+3,none⟩=some (.int i64 x3)∧w'.cell? ⟨g,o+4,none⟩=some (.int i64 x4)∧w'.cell? ⟨g,o+5,none⟩=some (.int i64 x5)∧w'.cell? ⟨g,o+6,none⟩=some (.int i64 x6)∧w'.cell? ⟨g,o+7,none⟩=some (.int i64 x7)) ∧
 w'.cell? ⟨g',o',none⟩=some (.int i64 y0)∧w'.cell? ⟨g',o'+1,none⟩=some (.bool y1)∧w'.cell? ⟨g',o'+2,none⟩=some (.int i64 y2)∧w'.cell? ⟨g',o'+3,none⟩=some (.int i64 y3)∧w'.cell? ⟨g',o'+4,none⟩=some (.int i64 y4)∧w'.cell? ⟨g',o'+5,none⟩=some (.int i64 y5)∧w'.cell? ⟨g',o'+6,none⟩=some (.int i64 y6)∧w'.cell? ⟨g',o'+7,none⟩=some (.int i64 y7)
theorem opCD.later {w W W':World}{g o:Nat}{x0:Int}{x1:Bool}{x2 x3 x4 x5 x6 x7:Int}{g' o':Nat}{y0:Int}{y1:Bool}{y2 y3 y4 y5 y6 y7:Int}(hb:Below W.heap.size W W')(h:opCD w g o x0 x1 x2 x3 x4 x5 x6 x7 g' o' y0 y1 y2 y3 y4 y5 y6 y7 W):opCD w g o x0 x1 x2 x3 x4 x5 x6 x7 g' o' y0 y1 y2 y3 y4 y5 y6 y7 W':=by
 obtain⟨h0,⟨h1,h2,h3,h4,h5,h6,h7,h8⟩,k1,k2,k3,k4,k5,k6,k7,k8⟩:=h;exact⟨h0.trans (hb.mono h0.size),⟨cell_later hb h1,cell_later hb h2,cell_later hb h3,cell_later hb h4,cell_later hb h5,cell_later hb h6,cell_later hb h7,cell_later hb h8⟩,cell_later hb k1,cell_later hb k2,cell_later hb k3,cell_later hb k4,cell_later hb k5,cell_later hb k6,cell_later hb k7,cell_later hb k8⟩
theorem op_same (ao:AdQ)(n cap:Nat)(ao2:AdQ)(n2 cap2:Nat)(L M:List (Op8))(w:World)(hs:GS opE w (.slice ao n cap) L)(ht:GS opE w (.slice ao2 n2 cap2) M):
 Calls prog 24 #[.slice ao n cap,.slice ao2 n2 cap2] w fun e w'=>e=.returned (.bool (smG opB L M))∧Below w.heap.size w w':=by
 obtain⟨ao',n',cap',e,hn,hn2,hn3,ha⟩:=hs.form;cases e;obtain⟨ao',n',cap',e,hm,hm2,hm3,hb⟩:=ht.form;cases e;have HN:Hid (L.length=n):=hn;have HM:Hid (M.length=n2):=hm;have HA:Hid (0<n→∃g o,ao=some ⟨g,o,none⟩∧GAt opE w g o L∧cap≤maxLen):=ha;have HA2:Hid (0<n2→∃g o,ao2=some ⟨g,o,none⟩∧GAt opE w g o M∧cap2≤maxLen):=hb;have hn63:n≤9223372036854775807:=by unfold maxLen at hn2;omega
 clear hs ht hn ha hm hb hn2 hm2;obtain⟨R,hR⟩:∃R,R=smG opB L M:=⟨_,rfl⟩;have HR:Hid (R=smG opB L M):=hR;rw[←hR];clear hR;by_cases hl:n=n2
 ·subst hl;go_enter func24,ntmps24;go_wp2
  go_loopw [5] (fun i wr=>∃k:Nat,k≤n∧i=.int i64 k∧(∀j,j<k→∀(h1:j<L.length) (h2:j<M.length),opB L[j] M[j]=true)∧Below w.heap.size w wr) (fun i _=>n-(intOf i).toNat)
  case atStart=>exact⟨0,by omega,rfl,fun j hj=>absurd hj (by omega),bRQ _ _⟩
  case round =>
   obtain⟨k,hk,rfl,hall,hB⟩:=hrel;have HB:Hid (Below w.heap.size w wr):=hB;have HALL:Hid (∀j,j<k→∀(h1:j<L.length) (h2:j<M.length),opB L[j] M[j]=true):=hall;clear hall;by_cases hlt:k<n
   ·obtain⟨g,og,hao,hc,_⟩:=HA.out (by omega);obtain⟨g2,og2,hao2,hc2,_⟩:=HA2.out (by omega);subst hao hao2;obtain⟨x0,x1,x2,x3,x4,x5,x6,x7,hkl,hLk,q0,q1,q2,q3,q4,q5,q6,q7⟩:=op_at (hc.later hB) HN.out hlt;obtain⟨y0,y1,y2,y3,y4,y5,y6,y7,hkm,hMk,r0,r1,r2,r3,r4,r5,r6,r7⟩:=op_at (hc2.later hB) HM.out hlt;have HCE:Hid (opCD w g (og+k*8) x0 x1 x2 x3 x4 x5 x6 x7 g2 (og2+k*8) y0 y1 y2 y3 y4 y5 y6 y7 wr):=⟨hB,⟨q0,q1,q2,q3,q4,q5,q6,q7⟩,r0,r1,r2,r3,r4,r5,r6,r7⟩;have HLK:Hid (L[k]=⟨x0,x1,⟨x2,x3,x4,x5,x6,x7⟩⟩∧M[k]=⟨y0,y1,⟨y2,y3,y4,y5,y6,y7⟩⟩):=⟨hLk,hMk⟩;clear q0 q1 q2 q3 q4 q5 q6 q7 r0 r1 r2 r3 r4 r5 r6 r7 hB hc hc2 hLk hMk HA HA2;go_upto_region 6 with fail;have kb0:(0:Int)≤(k:Int):=by omega
    have kb1:(k:Int)<(n:Int):=by omega
    go_cut [25] from 11 to 25 (fun c w'=>c=.bool (!opB ⟨x0,x1,⟨x2,x3,x4,x5,x6,x7⟩⟩ ⟨y0,y1,⟨y2,y3,y4,y5,y6,y7⟩⟩)∧Below w.heap.size w w')
    case first =>
     as_aux_lemma =>
      refine wp_region_quiet (C:=opCD w g (og+k*8) x0 x1 x2 x3 x4 x5 x6 x7 g2 (og2+k*8) y0 y1 y2 y3 y4 y5 y6 y7) (by kernel_rfl) (by kernel_rfl) (opCD.later (W:=wr) (Below.drew (bRQ _ _)) HCE.out) ?_;simp only[List.toList_toArray];go_big_quiet_want;refine qv (.slice (some ⟨g,og,none⟩) n cap) ?_ ?_
      ·rintro w' ⟨z,⟨z0,z1,z2,z3,z4,z5,z6,z7⟩,u0,u1,u2,u3,u4,u5,u6,u7⟩;go_simp
      simp only[Act.put,AP];go_big_quiet_on;go_big_quiet_want;refine qv (.int i64 (k:Int)) ?_ ?_
      ·rintro w' ⟨z,⟨z0,z1,z2,z3,z4,z5,z6,z7⟩,u0,u1,u2,u3,u4,u5,u6,u7⟩;go_simp
      simp only[Act.put,AP];go_big_quiet_on;go_big_quiet_want;refine qv (.pointer (some ⟨g,og+k*8,none⟩)) ?_ ?_
      ·rintro w' ⟨z,⟨z0,z1,z2,z3,z4,z5,z6,z7⟩,u0,u1,u2,u3,u4,u5,u6,u7⟩;go_simp
      simp only[Act.put,AP];go_big_quiet_on;go_big_quiet_want;refine qv (.agg #[.int i64 x0,.bool x1,.int i64 x2,.int i64 x3,.int i64 x4,.int i64 x5,.int i64 x6,.int i64 x7]) ?_ ?_
      ·rintro w' ⟨z,⟨z0,z1,z2,z3,z4,z5,z6,z7⟩,u0,u1,u2,u3,u4,u5,u6,u7⟩;go_simp
      simp only[Act.put,AP];go_big_quiet_on;go_big_quiet_want;refine qv (.slice (some ⟨g2,og2,none⟩) n cap2) ?_ ?_
      ·rintro w' ⟨z,⟨z0,z1,z2,z3,z4,z5,z6,z7⟩,u0,u1,u2,u3,u4,u5,u6,u7⟩;go_simp
      simp only[Act.put,AP];go_big_quiet_on;go_big_quiet_want;refine qv (.int i64 (k:Int)) ?_ ?_
      ·rintro w' ⟨z,⟨z0,z1,z2,z3,z4,z5,z6,z7⟩,u0,u1,u2,u3,u4,u5,u6,u7⟩;go_simp
      simp only[Act.put,AP];go_big_quiet_on;go_big_quiet_want;refine qv (.pointer (some ⟨g2,og2+k*8,none⟩)) ?_ ?_
      ·rintro w' ⟨z,⟨z0,z1,z2,z3,z4,z5,z6,z7⟩,u0,u1,u2,u3,u4,u5,u6,u7⟩;go_simp
      simp only[Act.put,AP];go_big_quiet_on;go_big_quiet_want;refine qv (.agg #[.int i64 y0,.bool y1,.int i64 y2,.int i64 y3,.int i64 y4,.int i64 y5,.int i64 y6,.int i64 y7]) ?_ ?_
      ·rintro w' ⟨z,⟨z0,z1,z2,z3,z4,z5,z6,z7⟩,u0,u1,u2,u3,u4,u5,u6,u7⟩;go_simp
      simp only[Act.put,AP];go_big_quiet_on;go_big_quiet_want;refine quiet_val (v:=.bool (!opB ⟨x0,x1,⟨x2,x3,x4,x5,x6,x7⟩⟩ ⟨y0,y1,⟨y2,y3,y4,y5,y6,y7⟩⟩)) (fun w' hC=>exec_bin rfl (by go_simp) (run_neq_of (op_eq x0 x1 x2 x3 x4 x5 x6 x7 y0 y1 y2 y3 y4 y5 y6 y7 w'))) ?_;simp only[Act.put,AP];go_big_quiet_on;refine wpQuiet_nil ?_;intro w' hC
      go_wp2_with fail
      go_meet
      case rel=>exact⟨rfl,hC.1⟩
    case rest =>
     obtain⟨rfl,hB2⟩:=hcut;have HB2:Hid (Below w.heap.size w wc):=hB2;clear HCE hB2;cases ho:opB ⟨x0,x1,⟨x2,x3,x4,x5,x6,x7⟩⟩ ⟨y0,y1,⟨y2,y3,y4,y5,y6,y7⟩⟩
     ·have HF:Hid (R=false):=by
       show R=false;rw[HR.out];exact smG_no hkl hkm (by rw[HLK.out.1,HLK.out.2];exact ho)
      go_wp2;go_ret;exact⟨by rw[HF.out];rfl,HB2.out⟩
     have HAL2:Hid (∀j,j<k+1→∀(h1:j<L.length) (h2:j<M.length),opB L[j] M[j]=true):=by
      intro j hj h1 h2;by_cases e:j=k
      ·subst e;rw[HLK.out.1,HLK.out.2];exact ho
      exact HALL.out j (by omega) h1 h2
     clear ho;go_wp2;go_roundw
     case rel=>exact⟨k+1,by omega,by go_num,HAL2.out,HB2.out⟩
     case measure=>simp[intOf];omega
   obtain rfl:k=n:=by omega
   have HF:Hid (R=true):=by
    show R=true;rw[HR.out];refine smG_iff.2 ⟨by rw[HN.out,HM.out],fun i h1 h2=>HALL.out i (by rw[HN.out] at h1;exact h1) h1 h2⟩
   go_wp2;go_ret;exact⟨by rw[HF.out];rfl,HB.out⟩
 have HF:Hid (R=false):=by
  show R=false;rw[HR.out];exact smG_len (by rw[HN.out,HM.out];exact hl)
 have e1:((n:Int)==(n2:Int))=false:=beq_eq_false_iff_ne.2 (by omega);have e2:((n:Int) != (n2:Int))=true:=by simp;omega
 go_enter func24,ntmps24;go_wp2;go_ret;exact⟨by rw[HF.out];rfl,bRQ _ _⟩
def RC (w:World)(g o:Nat)(v:Value)(g' o':Nat)(v':Value)(W:World):Prop:=Below w.heap.size w W∧W.cell? ⟨g,o,none⟩=some v∧W.cell? ⟨g',o',none⟩=some v'
theorem RC.later {w W W':World}{g o:Nat}{v:Value}{g' o':Nat}{v':Value}(hb:Below W.heap.size W W')(h:RC w g o v g' o' v' W):RC w g o v g' o' v' W':=⟨h.1.trans (hb.mono h.1.size),cell_later hb h.2.1,cell_later hb h.2.2⟩
theorem smop_same (L:List Op8):smG opB L L=true:=(smG_eq opB_iff).2 rfl
theorem smrounds_any (ao bo:AdQ)(n m c d:Nat)(L:List (List Op8))(w:World)(h1:RS w (.slice ao n c) L)(h2:RS w (.slice bo m d) L):
 Calls prog 8 #[.slice ao n c,.slice bo m d] w fun e w'=>e=.returned (.bool true)∧Below w.heap.size w w':=by
 obtain rfl:n=m:=h1.len.symm.trans h2.len;obtain⟨_,_,_,e,_,hm,_⟩:=h1.form;cases e;have n63:n≤9223372036854775807:=by unfold maxLen at hm;omega
 have H1:Hid (∀W,Below w.heap.size w W→RS W (.slice ao n c) L):=fun W h=>h1.later h
 have H2:Hid (∀W,Below w.heap.size w W→RS W (.slice bo n d) L):=fun W h=>h2.later h
 clear h1 h2 hm;go_enter func8,ntmps8;go_wp2
 go_loopw [5] (fun i wr=>∃k:Nat,k≤n∧i=.int i64 (k:Int)∧Below w.heap.size w wr) (fun i _=>n-(intOf i).toNat)
 case atStart=>exact⟨0,by omega,rfl,bRQ _ _⟩
 case round =>
  obtain⟨k,hk,rfl,hB⟩:=hrel;obtain⟨wi,hwi⟩:∃X,X=wr:=⟨_,rfl⟩;subst hwi;have HB:Hid (Below w.heap.size w wi):=hB;clear hB;by_cases hlt:k<n
  ·obtain⟨g,o,M,a1,n1,c1,hao,hM,hc,hG⟩:=(H1.out wi HB.out).at hlt;obtain⟨g',o',M',a2,n2,c2,hbo,hM',hc',hG'⟩:=(H2.out wi HB.out).at hlt;subst hao hbo;obtain rfl:M=M':=Option.some.inj (hM.symm.trans hM');have HG:Hid (∀W,Below wi.heap.size wi W→GS opE W (.slice a1 n1 c1) M∧GS opE W (.slice a2 n2 c2) M):=fun W h=>⟨hG.later h,hG'.later h⟩
   have HCE:Hid (RC wi g (o+k) (.slice a1 n1 c1) g' (o'+k) (.slice a2 n2 c2) wi):=⟨bRQ _ _,hc,hc'⟩;have kb0:(0:Int)≤(k:Int):=by omega
   have kb1:(k:Int)<(n:Int):=by omega
   clear hM hM' hG hG' hc hc';go_upto_region 6 with fail
   go_cut [6] from 12 (fun c w'=>c=.bool true∧Below wi.heap.size wi w')
   case first =>
    refine wp_region_quiet (C:=RC wi g (o+k) (.slice a1 n1 c1) g' (o'+k) (.slice a2 n2 c2)) (by kernel_rfl) (by kernel_rfl) (RC.later (W:=wi) (Below.drew (bRQ _ _)) HCE.out) ?_;simp only[List.toList_toArray];go_big_quiet_want;refine qv (.slice (some ⟨g,o,none⟩) n c) ?_ ?_
    ·rintro w' ⟨zb,z0,z1⟩;go_simp
    simp only[Act.put,AP];go_big_quiet_on;go_big_quiet_want;refine qv (.int i64 (k:Int)) ?_ ?_
    ·rintro w' ⟨zb,z0,z1⟩;go_simp
    simp only[Act.put,AP];go_big_quiet_on;go_big_quiet_want;refine qv (.pointer (some ⟨g,o+k,none⟩)) ?_ ?_
    ·rintro w' ⟨zb,z0,z1⟩;go_simp
    simp only[Act.put,AP];go_big_quiet_on;go_big_quiet_want;refine qv (.slice a1 n1 c1) ?_ ?_
    ·rintro w' ⟨zb,z0,z1⟩;go_simp
    simp only[Act.put,AP];go_big_quiet_on;go_big_quiet_want;refine qv (.slice (some ⟨g',o',none⟩) n d) ?_ ?_
    ·rintro w' ⟨zb,z0,z1⟩;go_simp
    simp only[Act.put,AP];go_big_quiet_on;go_big_quiet_want;refine qv (.int i64 (k:Int)) ?_ ?_
    ·rintro w' ⟨zb,z0,z1⟩;go_simp
    simp only[Act.put,AP];go_big_quiet_on;go_big_quiet_want;refine qv (.pointer (some ⟨g',o'+k,none⟩)) ?_ ?_
    ·rintro w' ⟨zb,z0,z1⟩;go_simp
    simp only[Act.put,AP];go_big_quiet_on;go_big_quiet_want;refine qv (.slice a2 n2 c2) ?_ ?_
    ·rintro w' ⟨zb,z0,z1⟩;go_simp
    simp only[Act.put,AP];go_big_quiet_on;go_big_quiet_want;refine quiet_call (f:=24) (args:=#[.slice a1 n1 c1,.slice a2 n2 c2]) (v:=.bool true) (fun w'=>?_) (fun w' hC=>(op_same a1 n1 c1 a2 n2 c2 M M w' (HG.out w' hC.1).1 (HG.out w' hC.1).2).mono (fun e w2 h2=>⟨by rw[h2.1,smop_same],RC.later h2.2 hC⟩)) ?_
    ·go_simp
    simp only[Act.put,AP];go_big_quiet_on;go_big_quiet_want;refine qv (.bool true) ?_ ?_
    ·rintro w' ⟨zb,z0,z1⟩;go_simp
    simp only[Act.put,AP];go_big_quiet_on;refine wpQuiet_nil ?_;intro w' hC;have HBY:Hid (Below wi.heap.size wi w'):=hC.1;clear hC
    go_wp2_with fail
    go_meet
    case rel=>exact⟨rfl,HBY.out⟩
   case rest =>
    obtain⟨rfl,hb2⟩:=hcut;have HB2:Hid (Below w.heap.size w wc):=HB.out.trans (hb2.mono HB.out.size);clear hb2;go_wp2;go_roundw
    case rel=>exact⟨k+1,by omega,by go_num,HB2.out⟩
    case measure=>simp[intOf];omega
  obtain rfl:k=n:=by omega
  go_wp2;go_ret;exact⟨rfl,HB.out⟩
end
section
open Go.RowKit Go.Extern.Stop Go.Stop Go.Extern
def HasErr (w:World):Prop:=w.cell? ⟨0,0,none⟩=some (.iface 215 (.agg #[.pointer (some ⟨1,34,none⟩)]))
theorem HasErr.later {w w':World}(h:HasErr w)(hb:Below w.heap.size w w'):HasErr w':=cell_later hb h
theorem HasErr.alloc {w:World}(h:HasErr w)(o:Obj):HasErr (w.alloc o):=h.later ((bRQ _ _).alloc (nLQ _) _)
theorem vOfP (t:Addr)(w:World):(ReflectliteValue.unpack (.iface 120 (.pointer (some t)))).run prog w
 = .ok (.agg #[.pointer (some ⟨1,120,none⟩),.pointer (some ⟨w.heap.size,0,none⟩),.int .u64 150]) (w.alloc (.cells #[.pointer (some t)] 120)):=by kernel_rfl
theorem typeP (a : Addr)(w : World): (ReflectliteValue.methodAny (ReflectliteValue.valueError "reflectlite.Value.Type" 0) (fun t _ _ _ => ReflectliteType.toType t) #[.agg #[.pointer (some ⟨1, 120, none⟩), .pointer (some a), .int .u64 150]]).run prog w
 = .ok (.iface 215 (.agg #[.pointer (some ⟨1,120,none⟩)])) w:=by kernel_rfl
theorem methKind (h : Value)(w : World): (Go.method 402 215 (.agg #[h]) "Kind").run prog w = .ok (185, h) w := by kernel_rfl
theorem kindP (w:World):((ReflectliteType.abiMethod fun t=>Functor.map (fun a:Nat=>Value.int IntKind.u8 (a:Int)) (Rtype.kind t)) #[.pointer (some ⟨1,120,none⟩)]).run prog w=.ok (.int .u8 22) w:=by kernel_rfl
theorem kindE (w:World):((ReflectliteType.abiMethod fun t=>Functor.map (fun a:Nat=>Value.int IntKind.u8 (a:Int)) (Rtype.kind t)) #[.pointer (some ⟨1,68,none⟩)]).run prog w=.ok (.int .u8 2) w:=by kernel_rfl
theorem partsP (a:Addr)(w:World):(ReflectliteValue.parts (.agg #[.pointer (some ⟨1,120,none⟩),.pointer (some a),.int .u64 150])).run prog w=.ok (some (120,a,150)) w:=by kernel_rfl
theorem isNilP (a p:Addr)(W:World)(ha:W.cell? a=some (.pointer (some p))):
 (ReflectliteValue.method (ReflectliteValue.valueError "reflectlite.Value.IsNil" 0) ReflectliteValue.isNil #[.agg #[.pointer (some ⟨1, 120, none⟩), .pointer (some a), .int .u64 150]]).run prog W = .ok (.bool false) W := by
 change Sem.run _ (ReflectliteValue.parts (.agg #[.pointer (some ⟨1,120,none⟩),.pointer (some a),.int .u64 150]) >>= _) _=_
 rw[Sem.run_bind,partsP];simp only[Result.andThen];simp[ReflectliteValue.isNil,loadVar,isAgg,underlying,underlying120,ha,Result.andThen]
theorem methElem (h : Value)(w : World): (Go.method 402 215 (.agg #[h]) "Elem").run prog w = .ok (195, .agg #[h]) w := by kernel_rfl
theorem methImpl (h : Value)(w : World): (Go.method 402 215 (.agg #[h]) "Implements").run prog w = .ok (196, .agg #[h]) w := by kernel_rfl
theorem methAssign (h : Value)(w : World): (Go.method 402 215 (.agg #[h]) "AssignableTo").run prog w = .ok (193, .agg #[h]) w := by kernel_rfl
theorem elemP (w:World):(ReflectliteType.method ReflectliteType.elem #[.agg #[.pointer (some ⟨1,120,none⟩)]]).run prog w=.ok (.iface 215 (.agg #[.pointer (some ⟨1,68,none⟩)])) w:=by kernel_rfl
theorem implE (w : World): (ReflectliteType.relation "Implements" ReflectliteType.implements_ #[.agg #[.pointer (some ⟨1, 68, none⟩)], .iface 215 (.agg #[.pointer (some ⟨1, 34, none⟩)])]).run prog w = .ok (.bool true) w := by kernel_rfl
theorem typeOfE (v:Value)(w:World):(ReflectliteType.typeOf #[.iface 68 v]).run prog w=.ok (.iface 215 (.agg #[.pointer (some ⟨1,68,none⟩)])) w:=by kernel_rfl
theorem assignE (w : World): (ReflectliteType.relation "AssignableTo" ReflectliteType.assignableTo #[.agg #[.pointer (some ⟨1, 68, none⟩)], .iface 215 (.agg #[.pointer (some ⟨1, 68, none⟩)])]).run prog w = .ok (.bool true) w := by kernel_rfl
theorem vOfE (n:Int)(w:World):(ReflectliteValue.unpack (.iface 68 (.int i64 n))).run prog w
 = .ok (.agg #[.pointer (some ⟨1,68,none⟩),.pointer (some ⟨w.heap.size,0,none⟩),.int .u64 130]) (w.alloc (.cells #[.int i64 n] 68)):=by kernel_rfl
theorem elemOfP (w:World):(Rtype.elem? 120).run prog w=.ok (some 68) w:=by kernel_rfl
theorem mkE (p:Addr)(w:World):(ReflectliteValue.mk 68 p ReflectliteValue.flagAddr).run prog w=.ok (.agg #[.pointer (some ⟨1,68,none⟩),.pointer (some p),.int .u64 386]) w:=by kernel_rfl
theorem elemVP (a p:Addr)(W:World)(ha:W.cell? a=some (.pointer (some p))):
 (ReflectliteValue.method (ReflectliteValue.valueError "reflectlite.Value.Elem" 0) ReflectliteValue.elem #[.agg #[.pointer (some ⟨1, 120, none⟩), .pointer (some a), .int .u64 150]]).run prog W
  = .ok (.agg #[.pointer (some ⟨1,68,none⟩),.pointer (some p),.int .u64 386]) W:=by
 change Sem.run _ (ReflectliteValue.parts (.agg #[.pointer (some ⟨1,120,none⟩),.pointer (some a),.int .u64 150]) >>= _) _=_
 rw[Sem.run_bind,partsP];simp only[Result.andThen];simp[ReflectliteValue.elem,loadVar,isAgg,underlying,underlying120,ha,Result.andThen,elemOfP,mkE]
theorem partsEa (a:Addr)(w:World):(ReflectliteValue.parts (.agg #[.pointer (some ⟨1,68,none⟩),.pointer (some a),.int .u64 386])).run prog w=.ok (some (68,a,386)) w:=by kernel_rfl
theorem partsE (a:Addr)(w:World):(ReflectliteValue.parts (.agg #[.pointer (some ⟨1,68,none⟩),.pointer (some a),.int .u64 130])).run prog w=.ok (some (68,a,130)) w:=by kernel_rfl
theorem directE (w:World):(Rtype.directlyAssignable 68 68).run prog w=.ok true w:=by kernel_rfl
theorem setE (ta b:Addr)(n:Int)(old:Value)(W:World)(hb:W.cell? b=some (.int i64 n))(ht:W.cell? ta=some old)(hf:W.frozen? ta=false):
 (ReflectliteValue.set #[.agg #[.pointer (some ⟨1,68,none⟩),.pointer (some ta),.int .u64 386],.agg #[.pointer (some ⟨1,68,none⟩),.pointer (some b),.int .u64 130]]).run prog W
  = .ok (.tuple #[]) (W.setCell ta (.int i64 n)):=by
 change Sem.run _ (ReflectliteValue.parts (.agg #[.pointer (some ⟨1,68,none⟩),.pointer (some ta),.int .u64 386]) >>= _) _=_
 rw[Sem.run_bind,partsEa];simp only[Result.andThen]
 change Sem.run _ (ReflectliteValue.parts (.agg #[.pointer (some ⟨1,68,none⟩),.pointer (some b),.int .u64 130]) >>= _) _=_
 rw[Sem.run_bind,partsE];simp only[Result.andThen];simp[ReflectliteValue.flagAddr,loadVar,isAgg,underlying,underlying68,hb,Result.andThen,directE,storeVar,Value.cells,storeCells,Addr.add];rw[run_store prog W ta _ _ (by rfl)];simp[ht,hf]
theorem as_hit (n:Int)(t:Addr)(old:Value)(w:World)(hg:HasErr w)(ht0:w.cell? t=some old)(hf0:w.frozen? t=false):
 Calls prog 47 #[.iface 68 (.int i64 n),.iface 120 (.pointer (some t))] w fun ev w'=>ev=.returned (.bool true)∧w'=((((w.alloc (.cells #[.pointer (some t)] 120)).alloc (.cells #[.pointer (some ⟨1,120,none⟩),.pointer (some ⟨w.heap.size,0,none⟩),.int .u64 150] 166)).alloc (.cells #[.pointer (some ⟨1,120,none⟩),.pointer (some ⟨w.heap.size,0,none⟩),.int .u64 150] 166)).alloc (.cells #[.int i64 n] 68)).setCell t (.int i64 n):=by
 unfold HasErr at hg;have h6 := @run_callFunc_extern prog 76 _ (fun args=>ReflectliteValue.unpack (args.getD 0 (.tuple #[]))) func76 (by kernel_rfl) (by kernel_rfl) (by kernel_rfl) (by kernel_rfl);have h7 := @run_callFunc_extern prog 77 _ (ReflectliteValue.methodAny (ReflectliteValue.valueError "reflectlite.Value.Type" 0) (fun t _ _ _ => ReflectliteType.toType t)) func77 (by kernel_rfl) (by kernel_rfl) (by kernel_rfl) (by kernel_rfl)
 have h8 := @run_callFunc_extern prog 78 _ (ReflectliteValue.method (ReflectliteValue.valueError "reflectlite.Value.IsNil" 0) ReflectliteValue.isNil) func78 (by kernel_rfl) (by kernel_rfl) (by kernel_rfl) (by kernel_rfl)
 have h27 := @run_callFunc_extern prog 185 _ (ReflectliteType.abiMethod fun t=>do pure (.int .u8 (←Rtype.kind t))) func185 (by kernel_rfl) (by kernel_rfl) (by kernel_rfl) (by kernel_rfl);have h37 := @run_callFunc_extern prog 195 _ (ReflectliteType.method ReflectliteType.elem) func195 (by kernel_rfl) (by kernel_rfl) (by kernel_rfl) (by kernel_rfl);have h38 := @run_callFunc_extern prog 196 _ (ReflectliteType.relation "Implements" ReflectliteType.implements_) func196 (by kernel_rfl) (by kernel_rfl) (by kernel_rfl) (by kernel_rfl)
 have h10 := @run_callFunc_extern prog 114 _ ReflectliteType.typeOf func114 (by kernel_rfl) (by kernel_rfl) (by kernel_rfl) (by kernel_rfl);have h35 := @run_callFunc_extern prog 193 _ (ReflectliteType.relation "AssignableTo" ReflectliteType.assignableTo) func193 (by kernel_rfl) (by kernel_rfl) (by kernel_rfl) (by kernel_rfl)
 have h11 := @run_callFunc_extern prog 115 _ (ReflectliteValue.method (ReflectliteValue.valueError "reflectlite.Value.Elem" 0) ReflectliteValue.elem) func115 (by kernel_rfl) (by kernel_rfl) (by kernel_rfl) (by kernel_rfl)
 have h12 := @run_callFunc_extern prog 116 _ ReflectliteValue.set func116 (by kernel_rfl) (by kernel_rfl) (by kernel_rfl) (by kernel_rfl);have tO:=typeOfE;have mA:=methAssign;have a25:=assignE;have v25:=vOfE;have f6:=vOfP;have f7:=typeP;have mK:=methKind;have mE:=methElem;have mI:=methImpl;have k27:=kindP;have k25:=kindE;have e27:=elemP;have i25:=implE;have hlt:0<w.heap.size:=bLQ _ _ hg;have htl:t.block<w.heap.size:=bLQ _ _ ht0;have n8:=isNilP ⟨w.heap.size,0,none⟩ t ((w.alloc (.cells #[.pointer (some t)] 120)).alloc (.cells #[.pointer (some ⟨1,120,none⟩),.pointer (some ⟨w.heap.size,0,none⟩),.int .u64 150] 166)) (by simp);have hg2:((w.alloc (.cells #[.pointer (some t)] 120)).alloc (.cells #[.pointer (some ⟨1,120,none⟩),.pointer (some ⟨w.heap.size,0,none⟩),.int .u64 150] 166)).cell? ⟨0,0,none⟩=some (.iface 215 (.agg #[.pointer (some ⟨1,34,none⟩)])):=by
  rw[World.cell?_alloc_lt _ _ ⟨0,0,none⟩ (by simp <;> omega),World.cell?_alloc_lt _ _ ⟨0,0,none⟩ hlt];exact hg
 have el:=elemVP ⟨w.heap.size,0,none⟩ t (((w.alloc (.cells #[.pointer (some t)] 120)).alloc (.cells #[.pointer (some ⟨1,120,none⟩),.pointer (some ⟨w.heap.size,0,none⟩),.int .u64 150] 166)).alloc (.cells #[.pointer (some ⟨1,120,none⟩),.pointer (some ⟨w.heap.size,0,none⟩),.int .u64 150] 166)) (by rw[World.cell?_alloc_lt _ _ ⟨w.heap.size,0,none⟩ (by simp;omega)];simp);have st:=setE t ⟨w.heap.size+1+1+1,0,none⟩ n old ((((w.alloc (.cells #[.pointer (some t)] 120)).alloc (.cells #[.pointer (some ⟨1,120,none⟩),.pointer (some ⟨w.heap.size,0,none⟩),.int .u64 150] 166)).alloc (.cells #[.pointer (some ⟨1,120,none⟩),.pointer (some ⟨w.heap.size,0,none⟩),.int .u64 150] 166)).alloc (.cells #[.int i64 n] 68))
  (by rw[World.cell?_alloc_at _ _ _ _ (by simp)];rfl)
  (by rw[World.cell?_alloc_lt _ _ t (by simp;omega),World.cell?_alloc_lt _ _ t (by simp;omega),World.cell?_alloc_lt _ _ t (by simp;omega),World.cell?_alloc_lt _ _ t htl];exact ht0)
  (by rw[World.frozen?_alloc_old _ _ t (by simp;omega),World.frozen?_alloc_old _ _ t (by simp;omega),World.frozen?_alloc_old _ _ t (by simp;omega),World.frozen?_alloc_old _ _ t (Nat.ne_of_lt htl)];exact hf0)
 go_enter func47,ntmps47;go_wp2;refine wp_loop_rounds 1 ?_;rw[rounds_succ];go_wp2;go_ret;exact⟨rfl,rfl⟩
theorem told_nil (w:World):
 Calls prog 23 #[.nilIface] w fun e w'=>e=.returned (.int i64 0)∧Below w.heap.size w w':=by
 go_enter func23,ntmps23;go_wp2;go_ret;exact⟨rfl,bRQ _ _⟩
theorem told_some (n:Int)(w:World)(hg:HasErr w):
 Calls prog 23 #[.iface 68 (.int i64 n)] w fun e w'=>e=.returned (.int i64 n)∧Below w.heap.size w w':=by
 have HG:Hid (HasErr w):=hg;clear hg;go_enter func23,ntmps23
 go_wp2_with fail
 refine (as_hit n _ (.int i64 0) _ (HG.out.alloc _) (by simp) (by simp)).mono ?_;rintro e w' ⟨rfl,rfl⟩;go_wp2;go_ret;refine⟨rfl,?_⟩;exact ((((((bRQ _ _).alloc (nLQ _) _).alloc (by simp) _).alloc (by simp;omega) _).alloc (by simp;omega) _).alloc (by simp;omega) _)
theorem same_nil (k:Int)(w:World):
 Calls prog 7 #[.nilIface,.int i64 k] w fun e w'=>e=.returned (.bool (0==k))∧Below w.heap.size w w':=by
 go_enter func7,ntmps7
 go_wp2_with fail
 refine (told_nil _).mono ?_;rintro e w' ⟨rfl,hb⟩;go_wp2;go_ret;exact⟨rfl,hb⟩
theorem same_some (n k:Int)(w:World)(hg:HasErr w):
 Calls prog 7 #[.iface 68 (.int i64 n),.int i64 k] w fun e w'=>e=.returned (.bool (n==k))∧Below w.heap.size w w':=by
 have HG:Hid (HasErr w):=hg;clear hg;go_enter func7,ntmps7
 go_wp2_with fail
 refine (told_some n _ HG.out).mono ?_;rintro e w' ⟨rfl,hb⟩;go_wp2;go_ret;exact⟨rfl,hb⟩
end
section
open Go.RowKit
theorem same_noV (n:Int)(w:World)(hg:HasErr w):
 Calls prog 7 #[noV n,.int i64 n] w fun e w'=>e=.returned (.bool true)∧Below w.heap.size w w':=by
 by_cases h:n=0
 ·subst h;refine (same_nil _ w).mono ?_;rintro e w' ⟨rfl,hb⟩;exact⟨by simp,hb⟩
 rw[no_ne h];refine (same_some _ _ w hg).mono ?_;rintro e w' ⟨rfl,hb⟩;exact⟨by simp,hb⟩
end
namespace planLeast
open Go.RowKit
theorem walk (S:Int)(ao:AdQ)(n cap:Nat)(ao2:AdQ)(n2 cap2:Nat)(ao3:AdQ)(n3 cap3:Nat)(S':Int)(bo:AdQ)(m dap:Nat)(bo2:AdQ)(m2 dap2:Nat)(bo3:AdQ)(m3 dap3:Nat)(a4:AdQ)(n4 c4:Nat)(Ls:List LkT)(Hs:List HoT)(Ts:TsQ)(Ls':List LkT)(Hs':List HoT)(Ts':TsQ)(ws:List Wi)(w:World)
 (hL:GS lnkE w (.slice ao n cap) Ls) (hH:GS hstE w (.slice ao2 n2 cap2) Hs) (hT:TS w (.slice ao3 n3 cap3) Ts) (hL':GS lnkE w (.slice bo m dap) Ls') (hH':GS hstE w (.slice bo2 m2 dap2) Hs') (hT':TS w (.slice bo3 m3 dap3) Ts') (hw:GS wisE w (.slice a4 n4 c4) ws) (hg:HasErr w):
 Calls prog 4 #[.agg #[.int i64 S,.slice ao n cap,.slice ao2 n2 cap2,.slice ao3 n3 cap3],.agg #[.int i64 S',.slice bo m dap,.slice bo2 m2 dap2,.slice bo3 m3 dap3],.slice a4 n4 c4] w fun e w'=>e=.returned (.bool true)∧Below w.heap.size w w':=by
 obtain⟨w1,hw1⟩:∃W,W=(w.alloc (.cells #[.int i64 S,.slice ao n cap,.slice ao2 n2 cap2,.slice ao3 n3 cap3] 28)).alloc (.cells #[.int i64 S',.slice bo m dap,.slice bo2 m2 dap2,.slice bo3 m3 dap3] 28):=⟨_,rfl⟩;have hb1:Below w.heap.size w w1:=by rw[hw1];exact ((bRQ _ _).alloc (nLQ _) _).alloc (by simp) _
 have hnn:NN w1 w.heap.size S (.slice ao n cap) (.slice ao2 n2 cap2) (.slice ao3 n3 cap3) S' (.slice bo m dap) (.slice bo2 m2 dap2) (.slice bo3 m3 dap3):=by rw[hw1];exact nn_new w S _ _ _ S' _ _ _ 28
 have HNW:Hid (∀W,Below w1.heap.size w1 W→NI W (.slice ao n cap) (.slice ao2 n2 cap2) (.slice ao3 n3 cap3) Ls Hs Ts∧NI W (.slice bo m dap) (.slice bo2 m2 dap2) (.slice bo3 m3 dap3) Ls' Hs' Ts'∧GS wisE W (.slice a4 n4 c4) ws∧HasErr W):=fun W h=>⟨NI.later (NI.later ⟨hL,hH,hT⟩ hb1) h,NI.later (NI.later ⟨hL',hH',hT'⟩ hb1) h,(hw.later hb1).later h,(hg.later hb1).later h⟩
 have HNB:Hid (∀W,Below w1.heap.size w1 W→NeBox W w.heap.size S (.slice ao n cap) (.slice ao2 n2 cap2) (.slice ao3 n3 cap3)∧NeBox W (w.heap.size+1) S' (.slice bo m dap) (.slice bo2 m2 dap2) (.slice bo3 m3 dap3)):=fun W h=>⟨hnn.1.later h,hnn.2.later h⟩
 have HB1:Hid (Below w.heap.size w w1):=hb1;have HW1:Hid ((w.alloc (.cells #[.int i64 S,.slice ao n cap,.slice ao2 n2 cap2,.slice ao3 n3 cap3] 28)).alloc (.cells #[.int i64 S',.slice bo m dap,.slice bo2 m2 dap2,.slice bo3 m3 dap3] 28)=w1):=hw1.symm;obtain⟨N,hN⟩:∃q,q=leN S Ls Hs Ts S' Ls' Hs' Ts' ws:=⟨_,rfl⟩;have HN:Hid (leN S Ls Hs Ts S' Ls' Hs' Ts' ws=N):=hN.symm;obtain⟨L,hLL⟩:∃q,q=leL S Ls Hs Ts S' Ls' Hs' Ts' ws:=⟨_,rfl⟩;have HLL:Hid (leL S Ls Hs Ts S' Ls' Hs' Ts' ws=L):=hLL.symm;clear hL hH hT hL' hH' hT' hw hg hb1 hnn hw1 hN hLL;go_enter func4,ntmps4;go_upto_region 1 with fail;rw[HW1.out];clear HW1;obtain⟨⟨q0,q1,q2,q3⟩,r0,r1,r2,r3⟩:=HNB.out w1 (bRQ _ _)
 go_wp2_with fail
 refine (rready_any S _ _ _ S' _ _ _ _ Ls Hs Ts Ls' Hs' Ts' ws w1 (HNW.out _ (bRQ _ _)).1 (HNW.out _ (bRQ _ _)).2.1 (HNW.out _ (bRQ _ _)).2.2.1).mono ?_;rintro e w2 ⟨v,rfl,hNO,hb2⟩;obtain⟨X,hX⟩:∃q,q=pdN S Ls Hs Ts S' Ls' Hs' Ts' ws:=⟨_,rfl⟩;rw[←hX];obtain⟨ad,nd,cd,rfl,hnd,_⟩:=hNO.gs.form;have HOD:Hid (GS opE w2 (.slice ad nd cd) (pdL S Ls Hs Ts S' Ls' Hs' Ts' ws)∧nd≤2199023255552):=⟨hNO.gs,by have:=(pd_few (S:=S) (Ls:=Ls) (Hs:=Hs) (Ts:=Ts) (S':=S') (Ls':=Ls') (Hs':=Hs') (Ts':=Ts') (ws:=ws)).2;omega⟩;have HB2:Hid (Below w1.heap.size w1 w2):=hb2;clear hNO hb2 hX hnd q0 q1 q2 q3 r0 r1 r2 r3;go_upto_region 2 with fail
 go_cut [28] from 14 (fun c w'=>∃b,c=.bool b∧Below w2.heap.size w2 w')
 case first =>
  by_cases h0:X=0
  ·subst h0
   go_wp2_with fail
   refine (rtouched_any ad nd cd _ w2 HOD.out.1 HOD.out.2).mono ?_;rintro e w3 ⟨a3,k3,c3,rfl,_,hb3⟩;have HB3:Hid (Below w2.heap.size w2 w3):=hb3;clear hb3;by_cases h4:(4:Int)<(k3:Int)
   ·go_wp2_with fail
    go_meet
    case rel=>exact⟨_,rfl,HB3.out⟩
   go_wp2_with fail
   go_meet
   case rel=>exact⟨_,rfl,HB3.out⟩
  have e1:(X==0)=false:=by simpa using h0
  clear h0
  go_wp2_with fail
  go_meet
  case rel=>exact⟨_,rfl,bRQ _ _⟩
 obtain⟨b,rfl,hb3⟩:=hcut;obtain⟨w3,hw3⟩:∃X,X=wc:=⟨_,rfl⟩;subst hw3;have HB3:Hid (Below w1.heap.size w1 w3):=HB2.out.trans (hb3.mono HB2.out.size);have HBW3:Hid (Below w.heap.size w w3):=HB1.out.trans (HB3.out.mono HB1.out.size);clear hb3 HOD;cases b with
 | true =>
   go_wp2;go_ret;exact⟨rfl,HBW3.out⟩
 | false =>
   obtain⟨⟨q0,q1,q2,q3⟩,r0,r1,r2,r3⟩:=HNB.out w3 HB3.out
   go_wp2_with fail
   refine (rleast_any S _ _ _ S' _ _ _ _ Ls Hs Ts Ls' Hs' Ts' ws w3 (HNW.out _ HB3.out).1 (HNW.out _ HB3.out).2.1 (HNW.out _ HB3.out).2.2.1).mono ?_;rintro e w4 ⟨vw,rfl,hR4,hb4⟩;rw[HN.out];rw[HLL.out] at hR4;obtain⟨aw,nw,cw,rfl,_⟩:=hR4.form;have HR4:Hid (∀W,Below w4.heap.size w4 W→RS W (.slice aw nw cw) L):=fun W h=>hR4.later h
   have HB4:Hid (Below w1.heap.size w1 w4):=HB3.out.trans (hb4.mono HB3.out.size);clear hR4 hb4 q0 q1 q2 q3 r0 r1 r2 r3;obtain⟨⟨q0,q1,q2,q3⟩,r0,r1,r2,r3⟩:=HNB.out w4 HB4.out
   go_wp2_with fail
   refine (least_any S _ _ _ S' _ _ _ _ Ls Hs Ts Ls' Hs' Ts' ws w4 (HNW.out _ HB4.out).1 (HNW.out _ HB4.out).2.1 (HNW.out _ HB4.out).2.2.1).mono ?_;rintro e w5 ⟨vg,rfl,hR5,hb5⟩;rw[HN.out];rw[HLL.out] at hR5;obtain⟨ag,ng,cg,rfl,_⟩:=hR5.form;have HR5:Hid (∀W,Below w5.heap.size w5 W→RS W (.slice ag ng cg) L):=fun W h=>hR5.later h
   have HB45:Hid (Below w4.heap.size w4 w5):=hb5;have HB5:Hid (Below w1.heap.size w1 w5):=HB4.out.trans (hb5.mono HB4.out.size);clear hR5 hb5 q0 q1 q2 q3 r0 r1 r2 r3
   go_wp2_with fail
   refine (same_noV N w5 (HNW.out _ HB5.out).2.2.2).mono ?_;rintro e w6 ⟨rfl,hb6⟩;have HB56:Hid (Below w5.heap.size w5 w6):=hb6;have HB46:Hid (Below w4.heap.size w4 w6):=HB45.out.trans (hb6.mono HB45.out.size);have HB6:Hid (Below w1.heap.size w1 w6):=HB5.out.trans (hb6.mono HB5.out.size);clear hb6
   go_wp2_with fail
   refine (smrounds_any ag aw ng nw cg cw L w6 (HR5.out w6 HB56.out) (HR4.out w6 HB46.out)).mono ?_;rintro e w7 ⟨rfl,hb7⟩;have HBW7:Hid (Below w.heap.size w w7):=HB1.out.trans ((HB6.out.trans (hb7.mono HB6.out.size)).mono HB1.out.size);clear hb7;go_wp2;go_ret;exact⟨rfl,HBW7.out⟩
end planLeast
section
open Go.ChangeShapes Go.WideShapes Go.ChangeAt Go.RowKit Go.Joins
section
variable {P:Program}{α:Type}{E:Enc α}
theorem gs_open {H:Type}{enc:TypeId×Value→H}{W:World}{fuel:Nat}{cs:List Value}{x:DataW H×List MemPlace}(ts te:TypeId)(hu:P.underlying ts=some (.slice te))(hC:P.cellsOf te=E.n)(x0:α)
 (hel:∀(n:Nat) (cs:List Value) (x:DataW H×List MemPlace),DataW.trod enc P W 0 (fun _=>true) true n te cs=some x→∃y,cs=E.c y)
 (hf2:DataW.trod enc P W 0 (fun _=>true) true fuel ts cs=some x):∃ao n cap L,cs=[.slice ao n cap]∧GS E W (.slice ao n cap) L:=by
 obtain⟨d,p⟩:=x
 rcases Go.Deep.open_slice hu hf2 with ⟨hc,hx⟩ | ⟨a,len0,cap,m,k,D,Pl,hc,_,hl,hm,hmm,hx,hall⟩
 ·exact⟨_,_,_,[],hc,.inl ⟨none,0,rfl,rfl⟩⟩
 simp only[if_true] at hmm;subst hmm
 rcases Nat.eq_zero_or_pos len0 with h0 | h0
 ·subst h0;exact⟨_,_,_,[],hc,.inl ⟨_,_,rfl,rfl⟩⟩
 have each:∀i,i<m→∃y:α,∀j,j<E.n→W.cell? (a.add (i*E.n+j))=(E.c y)[j]?:=by
  intro i hi;obtain⟨cs,h1,h2⟩:=hall i hi;rw[hC] at h1;obtain⟨_,hlen,hcell⟩:=World.cells?_some h1;obtain⟨y,rfl⟩:=hel _ _ _ h2;refine⟨y,fun j hj=>?_⟩;have:=hcell j (by omega);rw[Go.Deep.add_add] at this;exact this
 have iR:Inhabited α:=⟨x0⟩;obtain⟨R,hR⟩:=Go.Deep.choose_lt each;obtain⟨sb,so,spot⟩:=a;have hspot:spot=none:=by
  have h1:=hR 0 (by omega) 0 E.pos;have h2:(E.c (R 0))[0]?.isSome=true:=by
   rw[List.getElem?_eq_getElem (by rw[E.len];exact E.pos)];rfl
  obtain⟨u,hu2⟩:=Option.isSome_iff_exists.1 h2;rw[hu2] at h1;simpa[Addr.add] using World.cell?_spot h1
 subst hspot;have hadd:∀j,(⟨sb,so,none⟩:Addr).add j=⟨sb,so+j,none⟩:=by
  intro j;simp only[Addr.add]
  first
   | rfl
   | (split
      ·next h0=>rw[h0];rfl
      rfl)
 refine⟨_,_,_,(List.range len0).map R,hc,.inr ⟨sb,so,_,by simp,by simpa using hl,hm,fun i hi j u hu2=>?_⟩⟩;have hi2:i<len0:=by simpa using hi
 have e:((List.range len0).map R)[i]=R i:=by simp
 rw[e] at hu2;have hj:j<E.n:=by
  have:=(List.getElem?_eq_some_iff.1 hu2).1;rw[E.len] at this;exact this
 have hc:=hR i (by omega) j hj;rw[hadd,hu2,←Nat.add_assoc] at hc;exact hc
end
theorem topo_open {H:Type}{enc:TypeId×Value→H}{W:World}{n:Nat}{cs:List Value}{x:DataW H×List MemPlace}
 (h:DataW.trod enc prog W 0 (fun _=>true) true n 25 cs=some x):∃S ao n cap ao2 n2 cap2 Ls Hs,cs=[.int i64 S,.slice ao n cap,.slice ao2 n2 cap2]∧GS lnkE W (.slice ao n cap) Ls∧GS hstE W (.slice ao2 n2 cap2) Hs:=by
 obtain⟨xs,k,_,_,hl,hlen,hf⟩:=DataW.trod_struct underlying25 h;have hC:Tryz.prog.cellsOf 25=3:=by kernel_rfl
 have hT0:Tryz.prog.cellsOf 3=1:=by kernel_rfl
 have hT1:Tryz.prog.cellsOf 22=1:=by kernel_rfl
 have hT2:Tryz.prog.cellsOf 23=1:=by kernel_rfl
 rw[hC] at hl
 match cs,hl with
 | [c0,c1,c2],_ =>
   match xs,hlen with
   | [z0,z1,z2],_ =>
     have g0:=hf 0 _ rfl;have g1:=hf 1 _ rfl;have g2:=hf 2 _ rfl;simp[hT0,hT1,hT2] at g0 g1 g2;obtain⟨v0,e0,_,_⟩:=DataW.trod_int underlying3 g0;obtain⟨ao,n,cap,Ls,e1,hL⟩:=gs_open (E:=lnkE) 22 124 underlying22 (by kernel_rfl) ((0,0),(0,0)) (fun _ _ _ h=>lnk_open h) g1;obtain⟨ao2,n2,cap2,Hs,e2,hH⟩:=gs_open (E:=hstE) 23 77 underlying23 (by kernel_rfl) (ByteArray.empty,(0,0)) (fun _ _ _ h=>hst_open h) g2;simp at e0 e1 e2;exact⟨v0,ao,n,cap,ao2,n2,cap2,Ls,Hs,by simp[e0,e1,e2],hL,hH⟩
theorem gs_SR {w:World}{v:Value}{L:List Ru}(h:GS rlE w v L):SR w v L:=by
 rcases h with h | ⟨g,o,cap,h1,h2,h3,h4⟩
 ·exact .inl h
 refine .inr ⟨g,o,cap,h1,h2,h3,fun i hi=>?_⟩;have hv:=h4 i hi
 generalize L[i]=r at hv
 obtain⟨p,m,b,q,s,x⟩:=r;obtain⟨q0,q1,q2,q3,q4,q5⟩:=rl_cells hv;exact⟨q0,q1,q2,q3,q4,q5⟩
theorem table_open {H:Type}{enc:TypeId×Value→H}{W:World}{fuel:Nat}{cs:List Value}{x:DataW H×List MemPlace}
 (h:DataW.trod enc prog W 0 (fun _=>true) true fuel 93 cs=some x):∃ao n cap L,cs=[.slice ao n cap]∧SR W (.slice ao n cap) L:=by
 obtain⟨ao,n,cap,L,e,hL⟩:=gs_open (E:=rlE) 93 88 underlying93 (by kernel_rfl) zeR (fun _ _ _ h=>rl_open h) h;exact⟨ao,n,cap,L,e,gs_SR hL⟩
theorem tables_open {H:Type}{enc:TypeId×Value→H}{W:World}{fuel:Nat}{cs:List Value}{x:DataW H×List MemPlace}
 (hf2:DataW.trod enc prog W 0 (fun _=>true) true fuel 26 cs=some x):∃ao n cap Ts,cs=[.slice ao n cap]∧TS W (.slice ao n cap) Ts:=by
 obtain⟨d,p⟩:=x;have hC:Tryz.prog.cellsOf 93=1:=by kernel_rfl
 rcases Go.Deep.open_slice underlying26 hf2 with ⟨hc,hx⟩ | ⟨a,len0,cap,m,k,D,Pl,hc,_,hl,hm,hmm,hx,hall⟩
 ·exact⟨_,_,_,[],hc,.inl ⟨none,0,rfl,rfl⟩⟩
 simp only[if_true] at hmm;subst hmm
 rcases Nat.eq_zero_or_pos len0 with h0 | h0
 ·subst h0;exact⟨_,_,_,[],hc,.inl ⟨_,_,rfl,rfl⟩⟩
 have each:∀i,i<m→∃L:List Ru,∃ao n cap,W.cell? (a.add i)=some (.slice ao n cap)∧SR W (.slice ao n cap) L:=by
  intro i hi;obtain⟨cs,h1,h2⟩:=hall i hi;rw[hC] at h1;obtain⟨_,hlen,hcell⟩:=World.cells?_some h1;obtain⟨ao,n,cap,L,rfl,hL⟩:=table_open h2;refine⟨L,ao,n,cap,?_,hL⟩;have:=hcell 0 (by simp);rw[Go.Deep.add_add] at this;simpa using this
 obtain⟨R,hR⟩:=Go.Deep.choose_lt each;obtain⟨sb,so,spot⟩:=a;have hspot:spot=none:=by
  obtain⟨ao,n,cap,h1,_⟩:=hR 0 (by omega);simpa[Addr.add] using World.cell?_spot h1
 subst hspot;have hadd:∀j,(⟨sb,so,none⟩:Addr).add j=⟨sb,so+j,none⟩:=by
  intro j;simp only[Addr.add]
  first
   | rfl
   | (split
      ·next h0=>rw[h0];rfl
      rfl)
 refine⟨_,_,_,(List.range len0).map R,hc,.inr ⟨sb,so,_,by simp,by simpa using hl,hm,fun i hi=>?_⟩⟩;have hi2:i<len0:=by simpa using hi
 have e:((List.range len0).map R)[i]=R i:=by simp
 rw[e];obtain⟨ao,n,cap,h1,h2⟩:=hR i (by omega);rw[hadd] at h1;exact⟨ao,n,cap,h1,h2⟩
theorem net_open {H:Type}{enc:TypeId×Value→H}{W:World}{n:Nat}{cs:List Value}{x:DataW H×List MemPlace}
 (h:DataW.trod enc prog W 0 (fun _=>true) true n 28 cs=some x):∃S ao n cap ao2 n2 cap2 ao3 n3 cap3 Ls Hs Ts,cs=[.int i64 S,.slice ao n cap,.slice ao2 n2 cap2,.slice ao3 n3 cap3]∧GS lnkE W (.slice ao n cap) Ls∧GS hstE W (.slice ao2 n2 cap2) Hs∧TS W (.slice ao3 n3 cap3) Ts:=by
 obtain⟨xs,k,_,_,hl,hlen,hf⟩:=DataW.trod_struct underlying28 h;have hC:Tryz.prog.cellsOf 28=4:=by kernel_rfl
 have hT0:Tryz.prog.cellsOf 25=3:=by kernel_rfl
 have hT1:Tryz.prog.cellsOf 26=1:=by kernel_rfl
 rw[hC] at hl
 match cs,hl with
 | [c0,c1,c2,c3],_ =>
   match xs,hlen with
   | [z0,z1],_ =>
     have g0:=hf 0 _ rfl;have g1:=hf 1 _ rfl;simp[hT0,hT1] at g0 g1;obtain⟨S,ao,n,cap,ao2,n2,cap2,Ls,Hs,e0,hL,hH⟩:=topo_open g0;obtain⟨ao3,n3,cap3,Ts,e1,hT⟩:=tables_open g1;simp at e0 e1;exact⟨S,ao,n,cap,ao2,n2,cap2,ao3,n3,cap3,Ls,Hs,Ts,by simp[e0,e1],hL,hH,hT⟩
theorem net_of {H:Type}{enc:TypeId×Value→H}{W:World}{base:Nat}{v:Value}{d:DataW H}{p:List MemPlace}
 (hv:Value.okWide prog W .any base 28 v) (h:DataW.Trod enc prog W 0 (fun _=>true) true 28 v d p):∃S ao n cap ao2 n2 cap2 ao3 n3 cap3 Ls Hs Ts,v=.agg #[.int i64 S,.slice ao n cap,.slice ao2 n2 cap2,.slice ao3 n3 cap3]∧GS lnkE W (.slice ao n cap) Ls∧GS hstE W (.slice ao2 n2 cap2) Hs∧TS W (.slice ao3 n3 cap3) Ts:=by
 obtain⟨cs,rfl,hsz⟩:=okWide_struct underlying28 hv;obtain⟨n,hn⟩:=h;obtain⟨S,ao,n,cap,ao2,n2,cap2,ao3,n3,cap3,Ls,Hs,Ts,e,h1,h2,h3⟩:=net_open hn;refine⟨S,ao,n,cap,ao2,n2,cap2,ao3,n3,cap3,Ls,Hs,Ts,?_,h1,h2,h3⟩;simp only[Value.cells] at e;rw[←Array.toArray_toList (xs:=cs),e]
end
namespace planLeast
open Go.ChangeShapes Go.WideShapes Go.ChangeAt Go.RowKit
theorem own:ownKnob Tryz.prog.godebug=none:=by kernel_rfl
theorem laidOut:laidOutB prog=true:=by kernel_rfl
theorem et : Tryz.prog.globalNamed "errors.errorType" = some 0 := by kernel_rfl
theorem oneRow:((List.range 302).filter fun t=>Tryz.prog.rowNamed t [101,114,114,111,114])=[34]:=by kernel_rfl
theorem tsize:Tryz.prog.types.size=302:=by kernel_rfl
theorem handle_of_laid {W:World}(h:laidMetH prog Rows.planLeastRow.laid W):HasErr W:=by
 have h':laidMet prog [] W∧handlesMet prog Rows.planLeastRow.laid W:=h;obtain⟨name,u,ty,e1,e2,e3,e4,e5⟩:=h'.2 _ (List.mem_singleton.2 rfl);have en:name=[101,114,114,111,114]:=(Option.some.inj e1).symm;subst en;have hu:some u=some 215:=e2.symm.trans (by kernel_rfl);obtain rfl:=Option.some.inj hu;have hm:ty∈(List.range 302).filter fun t=>Tryz.prog.rowNamed t [101,114,114,111,114]:=List.mem_filter.2 ⟨List.mem_range.2 (by rw[←tsize];exact e3),e4⟩
 rw[oneRow] at hm;obtain rfl:=List.mem_singleton.1 hm;have hh:typeHandle prog 34=.pointer (some ⟨1,34,none⟩):=by kernel_rfl
 rw[hh] at e5;unfold HasErr;simpa using World.var?_cell et e5 0
theorem lifted (os:Os)(started:os.Started)(H:Type)(enc:TypeId×Value→H):
 ReturnsInHanded {} Tryz.checked os 4 .any (fun w args=>(Rows.planLeastSpec.pre enc prog Tryz.f4 [] false w args∧laidMetH prog Rows.planLeastRow.laid w)∧sizedMet enc prog Tryz.f4 (OpenSpec.ofChange Rows.planLeastSpec) false w args)
  (Rows.planLeastSpec.post enc prog Tryz.f4 false true false false):=by
 refine returnsInHanded_of_change_and (C:=Tryz.checked) (X:=fun w _=>laidMetH prog Rows.planLeastRow.laid w) (fun _ _ _ hh h=>h.of_heap hh) own started (by kernel_rfl) func4
  (ChangeSpec.witness_at (enc:=enc) (C:=Tryz.checked) (os:=os) (X:=fun w _=>laidMetH prog Rows.planLeastRow.laid w) false
   { World.holding prog os ⟨#[],#[],[]⟩ with heap:=(World.holding prog os ⟨#[],#[],[]⟩).heap.modify 0 fun
    | .cells _ t frozen=>.cells #[.iface 215 (.agg #[.pointer (some ⟨1,34,none⟩)])] t frozen
    | o=>o }
   #[.agg #[.int i64 0,.slice none 0 0,.slice none 0 0,.slice none 0 0],.agg #[.int i64 0,.slice none 0 0,.slice none 0 0,.slice none 0 0],.slice none 0 0] 8 rfl (by kernel_rfl) (by kernel_rfl) (by kernel_rfl) (by kernel_rfl) (by kernel_rfl) (laidMetH_of_parts (laidMet_nil _ _) (by kernel_rfl))) ?_
 intro W base args ds gs before hval0 hW _ _ hLaid _;have hval:∀(j:Nat) t v,Tryz.f4.params[j]?=some t→args[j]?=some v→Value.okWide prog W .any base t v:=hval0;have hW':=hW;obtain⟨p,q,hA0,hV0,rfl,hfz,hnd⟩:=hW;have hA:DataW.TrodAll enc prog W 0 (fun _=>true) true Tryz.f4.params.toList args.toList ds p:=hA0;have hV:DataW.TrodVars enc prog W (fun _=>true) [] gs q:=hV0;rw[params4] at hA hval;obtain⟨v0,vs0,d0,ds0,p0,q0,hargs,rfl,rfl,h0,r0⟩:=trodAll_cons hA;obtain⟨v1,vs1,d1,ds1,p1,q1,rfl,rfl,rfl,h1,r1⟩:=trodAll_cons r0;obtain⟨v2,vs2,d2,ds2,p2,q2,rfl,rfl,rfl,h2,r2⟩:=trodAll_cons r1;obtain⟨rfl,rfl,rfl⟩:=trodAll_nil r2;obtain rfl:args=#[v0,v1,v2]:=by cases args;simp_all
 have hg:=handle_of_laid hLaid;obtain⟨rfl,rfl⟩:gs=[]∧q=[]:=by
  cases gs with
  | nil=>exact⟨rfl,hV⟩
  | cons g r=>exact absurd hV (by intro h;cases h)
 have k0:=h0;have lt0:∀x∈p0,x.block<W.heap.size:=by obtain⟨m,hm⟩:=k0;exact DataW.trod_lt m _ _ _ hm
 have k1:=h1;have lt1:∀x∈p1,x.block<W.heap.size:=by obtain⟨m,hm⟩:=k1;exact DataW.trod_lt m _ _ _ hm
 have k2:=h2;have lt2:∀x∈p2,x.block<W.heap.size:=by obtain⟨m,hm⟩:=k2;exact DataW.trod_lt m _ _ _ hm
 obtain⟨S,ao,n,cap,ao2,n2,cap2,ao3,n3,cap3,Ls,Hs,Ts,rfl,hL,hH,hT⟩:=net_of (hval 0 28 v0 rfl rfl) h0;obtain⟨S2,bo,m,dap,bo2,m2,dap2,bo3,m3,dap3,Ls2,Hs2,Ts2,rfl,hL2,hH2,hT2⟩:=net_of (hval 1 28 v1 rfl rfl) h1;obtain⟨ws,hw⟩:=wiss_of (hval 2 29 v2 rfl rfl) h2;obtain⟨a5,n5,c5,rfl⟩:=okWide_slice underlying29 (hval 2 29 v2 rfl rfl);clear hA0 hval0;refine (walk S ao n cap ao2 n2 cap2 ao3 n3 cap3 S2 bo m dap bo2 m2 dap2 bo3 m3 dap3 a5 n5 c5 Ls Hs Ts Ls2 Hs2 Ts2 ws W hL hH hT hL2 hH2 hT2 hw hg).mono fun e W' ⟨he,bel⟩=>?_
 subst he;exact⟨_,rfl,_,_,_,[],_,[],hW',trodAll_mk1 (shut_bool underlying4 _),(trodAll_cons_mk (Below.trod laidOut (by kernel_rfl) (of_decide_eq_true (by kernel_rfl)) k0 bel lt0) (trodAll_cons_mk (Below.trod laidOut (by kernel_rfl) (of_decide_eq_true (by kernel_rfl)) k1 bel lt1) (trodAll_cons_mk (Below.trod laidOut (by kernel_rfl) (of_decide_eq_true (by kernel_rfl)) k2 bel lt2) trodAll_mk0))),rfl,bel.frame _,fun h=>by cases h⟩
theorem over:Rows.PlanLeastSaid:=
 OpenClaim.holds_of_wide 4 Tryz.f4 rfl rfl rfl rfl rfl rfl rfl ⟨rfl,rfl,rfl,rfl,rfl⟩ rfl rfl rfl rfl rfl (by kernel_rfl) func4 (by kernel_rfl)
  (of_decide_eq_true (by kernel_rfl)) (by unfold Func.isWrapper;first | (rw[if_pos (by decide +kernel)];kernel_rfl) | (rw[if_neg (by decide +kernel)];exact⟨rfl,rfl⟩))
  (fun os started H enc _=>lifted os started H enc)
end planLeast
end Go.Proofs.YtiokpmlhmlcojaaGreatDoor
