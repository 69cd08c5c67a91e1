/- Contracts and facts on the way to PlanHolds, joined into one text: WishBroken, WishHolds, PlanBegin, PlanFill, PlanMem, PlanRoundsA. -/
import Derived.Test.YtiokpmlhmlcojaaGreatPlanHoldsP11
namespace Go.Proofs.YtiokpmlhmlcojaaGreat
set_option linter.unusedSimpArgs false
set_option linter.unusedVariables false
set_option maxHeartbeats 16000000
set_option maxRecDepth 100000
section
open Go.RowKit
def FwAsks (w:World)(g:Nat)(Hs:HoQ)(Fs:Nat→Nat→List Ft):Prop:=
 ∀ (z:Nat) (hz:z<Hs.length) (h:Nat),h<16→∀W:World,Below w.heap.size w W→Calls Tryz.prog 30 #[.agg #[.string Hs[z].1,.int .i64 Hs[z].2.1,.int .i64 Hs[z].2.2],.int .i64 h,.pointer (some ⟨g,0,none⟩)] W fun e W' =>
   ∃gi lb,e=.returned (.func (Fn.func gi) #[] lb)∧(∀args w,(callFunc gi args).run Tryz.prog w=.ok (.enter gi args) w)∧ItF Tryz.prog gi lb FtV W'.heap.size (Fs z h) W'∧Below W.heap.size W W'
theorem fwbrk_any (g:Nat)(ao2:Option Addr)(n2 cap2:Nat)(a4:Option Addr)(n4 c4:Nat)(Hs:HoQ)(Fs:Nat→Nat→List Ft)(l:List Wi)(w:World)
 (hH:GS hstE w (.slice ao2 n2 cap2) Hs) (hl:GS wisE w (.slice a4 n4 c4) l) (hnm:∀h∈Hs,h.1.size≤1000000) (hfc:FwAsks w g Hs Fs):
 Calls Tryz.prog 29 #[.slice ao2 n2 cap2,.slice a4 n4 c4,.func (Fn.func 30) #[] #[.pointer (some ⟨g,0,none⟩)]] w fun e w'=>∃held p,e=.returned (.tuple #[.agg #[.int .i64 p.1,.string p.2.1,.int .i64 p.2.2],.bool (decide (held<l.length))])∧Fb l Hs Fs Hs.length 0 held p∧Below w.heap.size w w':=by
 have hX:=rbx_new w;obtain⟨w0,hw0⟩:∃W,(w.alloc (Obj.cells #[.int .i64 0,.string ⟨#[]⟩,.int .i64 0] 65)).alloc (Obj.cells #[.int .i64 0,.string ⟨#[]⟩,.int .i64 0] 65)=W:=⟨_,rfl⟩;rw[hw0] at hX;have HW0:Hid ((w.alloc (Obj.cells #[.int .i64 0,.string ⟨#[]⟩,.int .i64 0] 65)).alloc (Obj.cells #[.int .i64 0,.string ⟨#[]⟩,.int .i64 0] 65)=w0):=hw0;have HX:Hid (Rbx w w0 (0,ByteArray.empty,0)):=hX;have HLW:Hid (∀W,Below w.heap.size w W→GS wisE W (.slice a4 n4 c4) l):=fun W hb=>hl.later hb
 have HFC:Hid (FwAsks w g Hs Fs):=hfc;have HNM:Hid (∀h∈Hs,h.1.size≤1000000):=hnm;obtain⟨_,_,_,e5,hGn,hGm,hGc,hGa⟩:=hl.form;cases e5;obtain⟨_,_,_,e6,hHn,hHm,_,hHa⟩:=hH.form;cases e6;have HGN:Hid (l.length=n4):=hGn;have HCAP:Hid (n4≤c4):=hGc;have HHN:Hid (Hs.length=n2):=hHn;have HHA:Hid (0<n2→∃g o,ao2=some ⟨g,o,none⟩∧GAt hstE w g o Hs∧cap2≤maxLen):=hHa;have hn4:n4≤maxLen:=hGm;have hn2:n2≤maxLen:=hHm;unfold maxLen at hn4 hn2;have HF0:Hid (Fb l Hs Fs 0 0 n4 (0,ByteArray.empty,0)):=by
  have h:=fb_0 (l:=l) (Hs:=Hs) (Fs:=Fs);rw[hGn] at h;exact h
 clear hX hw0 hl hH hfc hnm hGn hGm hGc hGa hHn hHm hHa;go_enter Tryz.func29,Tryz.ntmps29;go_upto_region 2 with fail;rw[HW0.out];clear HW0;go_wp2
 go_loopw [9,18] (fun hv i wr=>∃(z hd:Nat) (p:Int×ByteArray×Int),z≤n2∧hv=.int .i64 hd∧i=.int .i64 z∧Fb l Hs Fs z 0 hd p∧Rbx w wr p) (fun _ i _=>n2-(intOf i).toNat)
 case atStart=>exact⟨0,n4,(0,ByteArray.empty,0),by omega,rfl,rfl,HF0.out,HX.out⟩
 case round =>
  obtain⟨z,hd,p,hz,rfl,rfl,hF,hR⟩:=hrel;have HF:Hid (Fb l Hs Fs z 0 hd p):=hF;have HR:Hid (Rbx w wr p):=hR;have hdle:hd≤n4:=by rw[←HGN.out];exact hF.le
  clear hF hR;by_cases hlt:z<n2
  ·obtain⟨g2,o2,hao2,hc2,_⟩:=HHA.out (by omega);subst hao2;obtain⟨z0,z1,z2,hzl,hZk,p0,p1,p2⟩:=hst_at (hc2.later HR.out.below) HHN.out hlt;have HZK:Hid (Hs[z]=(z0,(z1,z2))):=hZk;have HZD:Hid (Hs.getD z zeO=(z0,(z1,z2))):=by
    show _=_;rw[getO hzl,hZk]
   have HSZ:Hid (z0.size≤1000000):=by
    have:=HNM.out Hs[z] (List.getElem_mem hzl);rw[hZk] at this;exact this
   have hba:Below wr.heap.size wr (wr.alloc (Obj.cells #[Value.string z0,.int .i64 z1,.int .i64 z2] 33)):=(Below.refl _ _).alloc (Nat.le_refl _) _;have hhb:=hsbox_new wr z0 z1 z2 33;have hR2:=HR.out.later hba;obtain⟨w2,hw2⟩:∃W,wr.alloc (Obj.cells #[Value.string z0,.int .i64 z1,.int .i64 z2] 33)=W:=⟨_,rfl⟩;obtain⟨gh,hgh⟩:∃q,q=wr.heap.size:=⟨_,rfl⟩;rw[hw2] at hhb hR2;rw[←hgh] at hhb;have HW2:Hid (wr.alloc (Obj.cells #[Value.string z0,.int .i64 z1,.int .i64 z2] 33)=w2):=hw2;have HGH:Hid (wr.heap.size=gh):=hgh.symm;have HHB:Hid (HsBox w2 gh z0 z1 z2):=hhb;have HR2:Hid (Rbx w w2 p):=hR2;have HLG:Hid (w.heap.size+1<gh):=by
    show _<_;rw[hgh];exact HR.out.p.lt
   clear hc2 hZk hba hhb hR2 hw2 hgh HR;go_upto_region 6 with fail;rw[HW2.out,HGH.out];clear HW2 HGH p0 p1 p2;go_wp2
   go_loopw [9,22] (fun hv i wr=>∃(h hd:Nat) (p:Int×ByteArray×Int),h≤16∧hv=.int .i64 hd∧i=.int .i64 h∧Fb l Hs Fs z h hd p∧Rbx w wr p∧HsBox wr gh z0 z1 z2) (fun _ i _=>16-(intOf i).toNat)
   case atStart=>exact⟨0,hd,p,by omega,rfl,rfl,HF.out,HR2.out,HHB.out⟩
   case round =>
    clear HF HR2 HHB hdle;obtain⟨h,hd,p,hh,rfl,rfl,hF,hR,hS⟩:=hrel;have HF:Hid (Fb l Hs Fs z h hd p):=hF;have HR:Hid (Rbx w wr p):=hR;have HS:Hid (HsBox wr gh z0 z1 z2):=hS;have hdle:hd≤n4:=by rw[←HGN.out];exact hF.le
    clear hF hR hS;by_cases hlt16:h<16
    ·have HGT:Hid (∀W,Below wr.heap.size wr W→GS wisE W (.slice a4 hd c4) (l.take hd)):=fun W hb=>(HLW.out W (HR.out.below.trans (hb.mono HR.out.below.size))).take hdle
     obtain⟨_,_,_,e7,hTn,hTm,_,hTa⟩:=(HGT.out wr (Below.refl _ _)).form;cases e7;have HTN:Hid ((l.take hd).length=hd):=hTn;have HTM:Hid (hd≤maxLen):=hTm;have HTA:Hid (0<hd→∃g o,a4=some ⟨g,o,none⟩∧GAt wisE wr g o (l.take hd)∧c4≤maxLen):=hTa;have HASK:Hid (wisAsks wr 50 (.pointer (some ⟨gh,0,none⟩)) (fun u=>abW u z0)):=fun y0 y1 y2 y3 W hb=>first1_any y0 y1 y2 y3 gh z0 z1 z2 W (HS.out.later hb)
     obtain⟨c,hc⟩:∃c,c=(l.take hd).any (fun u=>abW u z0):=⟨_,rfl⟩;have HC:Hid ((l.take hd).any (fun u=>abW u z0)=c):=hc.symm;obtain⟨s0,s1,s2⟩:=HS.out;have hcap:=HCAP.out;have nb0:(0:Int)≤(hd:Int):=by omega
     have nb1:(hd:Int)≤(c4:Int):=by omega
     have nb2:(hd:Int)≤(n4:Int):=by omega
     clear hc hTn hTm hTa
     go_wp2_with fail
     refine (wis_hasF a4 hd c4 _ _ (fun u=>abW u z0) (l.take hd) _ HTN.out HTM.out HTA.out (enters_of Tryz.func50 (by kernel_rfl) rfl) HASK.out).mono ?_;rintro e w3 ⟨rfl,hb3⟩;rw[HC.out];have HR3:Hid (Rbx w w3 p):=HR.out.later hb3;have HS3:Hid (HsBox w3 gh z0 z1 z2):=HS.out.later hb3;have HGT3:Hid (∀W,Below w3.heap.size w3 W→GS wisE W (.slice a4 hd c4) (l.take hd)):=fun W hb=>HGT.out W (hb3.trans (hb.mono hb3.size))
     clear hb3 s0 s1 s2 HTN HTM HTA HASK HGT HR HS;cases c with
     | false =>
       have HFO:Hid (Fb l Hs Fs (z+1) 0 hd p):=HF.out.off (by rw[HZD.out];exact HC.out);go_wp2;go_roundw
       case rel=>exact⟨z+1,hd,p,by omega,rfl,by go_num,HFO.out,HR3.out⟩
       case measure=>simp[intOf];omega
     | true =>
       obtain⟨N,hN⟩:∃N,N=hwN (l.take hd) z0 (Fs z h):=⟨_,rfl⟩;have HN:Hid (hwN (l.take hd) z0 (Fs z h)=N):=hN.symm;have HFCW:Hid (∀W,Below w3.heap.size w3 W→Calls Tryz.prog 30 #[.agg #[.string z0,.int .i64 z1,.int .i64 z2],.int .i64 h,.pointer (some ⟨g,0,none⟩)] W fun e W' =>
        ∃gi lb,e=.returned (.func (Fn.func gi) #[] lb)∧(∀args w,(callFunc gi args).run Tryz.prog w=.ok (.enter gi args) w)∧ItF Tryz.prog gi lb FtV W'.heap.size (Fs z h) W'∧Below W.heap.size W W'):=fun W hb=>by
        have h:=HFC.out z hzl h hlt16 W (HR3.out.below.trans (hb.mono HR3.out.below.size));rw[HZK.out] at h;exact h
       have HHOL:Hid (∀(gi:Nat) (lb:Array Value) (W:World),(∀args w,(callFunc gi args).run Tryz.prog w=.ok (.enter gi args) w)→ItF Tryz.prog gi lb FtV W.heap.size (Fs z h) W→Below w3.heap.size w3 W→Calls Tryz.prog 52 #[.slice a4 hd c4,.string z0,.func (Fn.func gi) #[] lb] W fun e W'=>e=.returned (.int .i64 N)∧Below W.heap.size W W'):=fun gi lb W eg hit hb=>by
        rw[hN];exact holding_any a4 hd c4 (l.take hd) z0 gi lb (Fs z h) W.heap.size W (HGT3.out W hb) eg hit (Nat.le_refl _)
       have HSW:Hid (∀W,Below w3.heap.size w3 W→W.cell? ⟨gh,0,none⟩=some (.string z0)∧W.cell? ⟨gh,1,none⟩=some (.int .i64 z1)∧W.cell? ⟨gh,2,none⟩=some (.int .i64 z2)):=fun W hb=>HS3.out.later hb
       obtain⟨s0,s1,s2⟩:=HS3.out;clear hN;go_upto_region 10 with fail
       go_cut [13] from 23 to 51 (fun v w'=>v=.int .i64 N∧Below w3.heap.size w3 w')
       case first =>
        go_region_held3 (fun W=>W.cell? ⟨gh,0,none⟩=some (.string z0)∧W.cell? ⟨gh,1,none⟩=some (.int .i64 z1)∧W.cell? ⟨gh,2,none⟩=some (.int .i64 z2))
         (first | (with_reducible assumption) | (with_reducible exact HSW.out _ (Below.drew (Below.refl _ _))) | (with_reducible exact HSW.out _ HBX.out) | (with_reducible exact HSW.out _ HBY.out))
         (first
          | (go_at_call 30;refine (HFCW.out _ (Below.drew (Below.refl _ _))).mono ?_;rintro e w' ⟨gi,lb,rfl,eg,hit,hb⟩;have HBX:Hid (Below w3.heap.size w3 w'):=bdrew hb;have HEG:Hid (∀args w,(callFunc gi args).run Tryz.prog w=.ok (.enter gi args) w):=eg;have HIT:Hid (ItF Tryz.prog gi lb FtV w'.heap.size (Fs z h) w'):=hit;clear hb eg hit)
          | (go_at_call 52;refine (HHOL.out _ _ _ HEG.out HIT.out HBX.out).mono ?_;rintro e w'' ⟨rfl,hb⟩;have HBY:Hid (Below w3.heap.size w3 w''):=HBX.out.trans (hb.mono HBX.out.size);clear hb))
        all_goals (go_wp2_with fail;go_meet)
        all_goals exact⟨rfl,HBY.out⟩
       case rest =>
        obtain⟨rfl,hbw⟩:=hcut;have HR4:Hid (Rbx w wc p):=HR3.out.later hbw;have HS4:Hid (HsBox wc gh z0 z1 z2):=HS3.out.later hbw;clear hbw HR3 HS3 HGT3 HFCW HHOL HSW s0 s1 s2;obtain⟨s0,s1,s2⟩:=HS4.out;by_cases hNl:N<hd
        ·have HFL:Hid (Fb l Hs Fs z (h+1) N ((N:Int),z0,(h:Int))):=by
          have:=HF.out.less hlt16 hzl (by rw[HZD.out];exact HN.out) hNl;rw[HZD.out] at this;exact this
         have dN:decide ((N:Int)<(hd:Int))=true:=by simp;omega
         go_wp2_with fail
         refine (clone_any z0 _ HSZ.out).mono ?_;rintro e w6 ⟨rfl,hb6⟩;have HR6:Hid (Rbx w w6 p):=HR4.out.later hb6;have HS6:Hid (HsBox w6 gh z0 z1 z2):=HS4.out.later hb6;obtain⟨r0,r1,r2,rf⟩:=HR6.out.p;have f0:=rf 0;have f1:=rf 1;have f2:=rf 2;have HSP:Hid (∀a b c,HsBox (put3 w6 (w.heap.size+1) a b c) gh z0 z1 z2):=fun a b c=>by
          have o:∀(W:World) (i j:Nat) (x:Value),(W.setCell ⟨w.heap.size+1,i,none⟩ x).cell? ⟨gh,j,none⟩=W.cell? ⟨gh,j,none⟩:=fun W i j x=>World.cell?_setCell_other _ _ _ _ (by intro e;injection e with e1;have:=HLG.out;omega)
          unfold put3;obtain⟨x0,x1,x2⟩:=HS6.out;exact⟨by rw[o,o,o];exact x0,by rw[o,o,o];exact x1,by rw[o,o,o];exact x2⟩
         clear hb6 rf s0 s1 s2 hNl;go_wp2;go_roundw
         case rel=>exact⟨h+1,N,((N:Int),z0,(h:Int)),by omega,rfl,by go_num,HFL.out,HR6.out.put ((N:Int),z0,(h:Int)),HSP.out _ _ _⟩
         case measure=>simp[intOf];omega
        have HFS:Hid (Fb l Hs Fs z (h+1) hd p):=HF.out.same (by rw[HZD.out,HN.out];exact hNl);have dN:decide ((N:Int)<(hd:Int))=false:=by simp;omega
        have hNl2:hd≤N:=by omega
        go_wp2;go_roundw
        case rel=>exact⟨h+1,hd,p,by omega,rfl,by go_num,HFS.out,HR4.out,HS4.out⟩
        case measure=>simp[intOf];omega
    obtain rfl:h=16:=by omega
    have HFO:Hid (Fb l Hs Fs (z+1) 0 hd p):=HF.out.host;go_wp2;go_roundw
    case rel=>exact⟨z+1,hd,p,by omega,rfl,by go_num,HFO.out,HR.out⟩
    case measure=>simp[intOf];omega
  obtain rfl:z=n2:=by omega
  obtain⟨P1,P2,P3⟩:=p;obtain⟨q0,q1,q2,_⟩:=HR.out.p;obtain⟨r0,r1,r2,rf⟩:=HR.out.r;have f0:=rf 0;have f1:=rf 1;have f2:=rf 2;have HB:Hid (Below w.heap.size w wr):=HR.out.below;have HFE:Hid (Fb l Hs Fs Hs.length 0 hd (P1,P2,P3)):=by
   have h:=HF.out;rw[←HHN.out] at h;exact h
  dsimp only at q0 q1 q2
  clear rf;go_wp2;refine bodyPost_ret (v:=.tuple #[.agg #[.int .i64 P1,.string P2,.int .i64 P3],.bool (decide ((hd:Int)<(n4:Int)))]) (by simp[results,Tryz.results29,go_sem, *]) rfl ⟨hd,(P1,P2,P3),?_,HFE.out,below_put3 HB.out _ (Nat.le_refl _) _ _ _⟩;rw[show decide (hd<l.length)=decide ((hd:Int)<(n4:Int)) by rw[HGN.out];simp]
end
section
open Go.RowKit Go.Shelf
attribute [local go_sem] Oper.semAt_some
theorem nm_small {a:ByteArray}(h:nmB a=true):a.size≤6:=by
 simp only[nmB,Bool.and_eq_true,decide_eq_true_eq] at h;exact h.2.1
structure NIn (w:World)(g:Nat)(S:Int)(v1 v2 v3:Value)(Ls:LkQ)(Hs:HoQ)(Ts:List (List Ru)):Prop where
 box:NeBox w g S v1 v2 v3
 l:GS lnkE w v1 Ls
 h:GS hstE w v2 Hs
 t:TS w v3 Ts
theorem NIn.later {w w':World}{g:Nat}{S:Int}{v1 v2 v3:Value}{Ls:LkQ}{Hs:HoQ}{Ts:List (List Ru)}(k:NIn w g S v1 v2 v3 Ls Hs Ts)(hb:Below w.heap.size w w'):NIn w' g S v1 v2 v3 Ls Hs Ts:=
 ⟨k.box.later hb,k.l.later hb,k.h.later hb,k.t.later hb⟩
theorem values1_in (n:Nat)(h3:3≤n)(l n₀:Nat)(F:Ft)(b Bs:Nat)(ao4:Option Addr)(n4 cap4:Nat)(J:Nat→(Nat→Prop)→World→Prop)(Jx:World→Prop)(W:World)(hB:Boxed W Bs 95 (.slice (some ⟨b,0,none⟩) 1 1))(hf:FaBox W b F.1 F.2.1 (.slice ao4 n4 cap4))(hG:GS hopE W (.slice ao4 n4 cap4) F.2.2)
 (h0:J 0 (fun _=>False) W) (hab:∀k X A A',J k X A→Kb (fun b=>b<W.heap.size∨X b) A A'→J k X A')
 (hY:∀k X A args x (Y:Nat→Prop),J k X A→[F][k]?=some x→FtV A args x→W.heap.size≤A.heap.size→(∀b,Y b→W.heap.size≤b∧¬X b)→YieldAt Fence.wide 0 Tryz.prog l args A fun e A' =>
  (e=.returned (.bool true)∧(∃X',J (k+1) X' A'∧∀b,X' b→X b∨A.heap.size≤b)∧Kb (fun b=>b<n₀∨Y b) A A')∨(e=.returned (.bool false)∧Jx A'∧Kb (fun b=>b<n₀∨Y b) A A')):
 CallsIn Fence.wide n Tryz.prog 54 #[.func (.yield l) #[] #[],.pointer (some ⟨Bs,0,none⟩)] W fun e W'=>(∃v,e=.returned v)∧((∃X,J 1 X W')∨Jx W'):=by
 have h1:1≤n:=by omega
 obtain⟨F1,F2,F3⟩:=F
 dsimp only at hf hG
 have hBA:Below W.heap.size W (W.alloc (Obj.cells #[.int .i64 F1,.string F2,.slice ao4 n4 cap4] 98)):=(Below.refl _ _).alloc (Nat.le_refl _) _;have hJ0:=hab _ _ _ _ h0 (Kb.of_below hBA (fun b hb _=>hb));have hy0:=yield_any (m':=n-1) (hY 0 _ (W.alloc (Obj.cells #[.int .i64 F1,.string F2,.slice ao4 n4 cap4] 98)) #[.agg #[.int .i64 F1,.string F2,.slice ao4 n4 cap4]] (F1,F2,F3) (fun _=>False) hJ0 rfl ⟨ao4,n4,cap4,rfl,hG.later hBA⟩ hBA.size (fun _ h=>h.elim));obtain⟨fn,tmps,assign,body,hy,hR⟩:=hy0;have HR:Hid (RoundIn Fence.wide (n-1) Tryz.prog l fn tmps assign body (W.alloc (Obj.cells #[.int .i64 F1,.string F2,.slice ao4 n4 cap4] 98)) _):=hR;obtain⟨f0,f1,f2⟩:=hf;have hc0:=hB.cell;refine callsIn_of_wp Tryz.func54 rfl trivial ?_ rfl;simp only[Tryz.ntmps54,List.size_toArray,List.length_cons,List.length_nil,Nat.reduceAdd,Nat.reduceSub,Array.replicate_succ,Array.replicate_zero,List.push_toArray,List.append_toArray,List.nil_append,List.cons_append];clear hY hBA hJ0 hB hG hR h0 hab
 gi_wp2
 gi_loopw [7] (fun i wr=>∃k:Nat,k≤1∧i=.int .i64 k∧(k=0→wr=W)∧(k=1→∃X,J 1 X wr)) (fun i _=>1-(intOf i).toNat)
 case atStart=>exact⟨0,by omega,rfl,fun _=>rfl,fun h=>by omega⟩
 case round =>
  obtain⟨k,hk,rfl,hk0,hk1⟩:=hrel;by_cases hlt:k<1
  ·obtain rfl:k=0:=by omega
   have hw:=hk0 rfl;subst hw;clear hk0 hk1
   gi_wp2
   refine HR.out.mono ?_;rintro e W3 (⟨rfl,⟨X',hJ3,_⟩,hk3⟩ | ⟨rfl,hJx3,_⟩)
   ·have HJ3:Hid (∃X,J 1 X W3):=⟨X',hJ3⟩;clear hJ3 hk3
    gi_wp2
    go_roundw
    case rel=>exact⟨1,by omega,by go_num,fun h=>by omega,fun _=>HJ3.out⟩
    case measure=>simp[intOf]
   gi_wp2
   refine bodyPost_ret (results_none rfl _ _ _) rfl ?_;exact⟨⟨_,rfl⟩,.inr hJx3⟩
  obtain rfl:k=1:=by omega
  have HJ:Hid (∃X,J 1 X wr):=hk1 rfl;clear hk0 hk1
  gi_wp2
  go_end0
  exact⟨⟨_,rfl⟩,.inl HJ.out⟩
theorem values_it (F:Ft)(b Bs:Nat)(ao4:Option Addr)(n4 cap4:Nat)(w:World)(hB:Boxed w Bs 95 (.slice (some ⟨b,0,none⟩) 1 1))(hf:FaBox w b F.1 F.2.1 (.slice ao4 n4 cap4))(hG:GS hopE w (.slice ao4 n4 cap4) F.2.2):
 ItF Tryz.prog 54 #[.pointer (some ⟨Bs,0,none⟩)] FtV w.heap.size [F] w:=by
 intro l J Jx W hW hn h0 hlt hab hax hY;exact (callsIn_wide (n:=3)).1 (values1_in 3 (by omega) l w.heap.size F b Bs ao4 n4 cap4 J Jx W ((Kb.of_below hW (fun b hb _=>hb):Kb (fun _=>True) w W).boxed hB trivial) (hf.later hW) (hG.later hW) h0 hab hY)
theorem values_any (a:Option Addr)(len cap:Nat)(w:World):
 Calls Tryz.prog 31 #[.slice a len cap] w fun e w'=>e=.returned (.func (Fn.func 54) #[] #[.pointer (some ⟨w.heap.size,0,none⟩)])∧w'=w.alloc (.cells #[.slice a len cap] 95):=by
 go_enter Tryz.func31,Tryz.ntmps31;go_wp2;go_ret;exact⟨rfl,rfl⟩
theorem fates_any (m:ByteArray)(x y h:Int)(g:Nat)(S:Int)(ao:Option Addr)(n cap:Nat)(ao2:Option Addr)(n2 cap2:Nat)(ao3:Option Addr)(n3 cap3:Nat)(Ls:LkQ)(Hs:HoQ)(Ts:List (List Ru))(w:World)
 (hI:NIn w g S (.slice ao n cap) (.slice ao2 n2 cap2) (.slice ao3 n3 cap3) Ls Hs Ts) (hN:ntN S Ls Hs Ts=0) (hx:spB S (x,y)=true):
 Calls Tryz.prog 30 #[.agg #[.string m,.int .i64 x,.int .i64 y],.int .i64 h,.pointer (some ⟨g,0,none⟩)] w fun e w'=>∃gi lb,e=.returned (.func (Fn.func gi) #[] lb)∧(∀args w,(callFunc gi args).run Tryz.prog w=.ok (.enter gi args) w)∧ItF Tryz.prog gi lb FtV w'.heap.size [frF Ls Hs Ts (x,y) h] w'∧Below w.heap.size w w':=by
 have hb0:Below w.heap.size w (w.alloc (Obj.cells #[.string m,.int .i64 x,.int .i64 y] 33)):=(Below.refl _ _).alloc (Nat.le_refl _) _;have hI0:=hI.later hb0;have hs:=hsbox_new w m x y 33;obtain⟨w0,hw0⟩:∃W,w.alloc (Obj.cells #[.string m,.int .i64 x,.int .i64 y] 33)=W:=⟨_,rfl⟩;rw[hw0] at hb0 hI0 hs;have HW0:Hid (w.alloc (Obj.cells #[.string m,.int .i64 x,.int .i64 y] 33)=w0):=hw0;have HB0:Hid (Below w.heap.size w w0):=hb0;have HI0:Hid (NIn w0 g S (.slice ao n cap) (.slice ao2 n2 cap2) (.slice ao3 n3 cap3) Ls Hs Ts):=hI0;have HN:Hid (ntN S Ls Hs Ts=0):=hN;have HSP:Hid (spB S (x,y)=true):=hx;obtain⟨F,hF⟩:∃F,F=frF Ls Hs Ts (x,y) h:=⟨_,rfl⟩;have HF:Hid (frF Ls Hs Ts (x,y) h=F):=hF.symm;rw[←hF];obtain⟨b0,b1,b2,b3⟩:=hI0.box;obtain⟨s0,s1,s2⟩:=hs;clear hb0 hI0 hI hN hx hw0 hF;go_enter Tryz.func30,Tryz.ntmps30;go_upto_region 1 with fail;rw[HW0.out];clear HW0
 go_wp2_with fail
 refine (follow_any S ao n cap ao2 n2 cap2 ao3 n3 cap3 Ls Hs Ts x y h _ HI0.out.l HI0.out.h HI0.out.t HN.out HSP.out).mono ?_;rintro e w1 ⟨ao4,n4,cap4,rfl,hown,hb1⟩;rw[HF.out] at hown;rw[HF.out];have hG:GS hopE w1 (.slice ao4 n4 cap4) F.2.2:=own_GS (E:=hopE) hown;have HB1:Hid (Below w.heap.size w w1):=HB0.out.trans (hb1.mono HB0.out.size);have HG:Hid (GS hopE w1 (.slice ao4 n4 cap4) F.2.2):=hG;obtain⟨F1,hF1⟩:∃q,q=F.1:=⟨_,rfl⟩;obtain⟨F2,hF2⟩:∃q,q=F.2.1:=⟨_,rfl⟩;rw[←hF1,←hF2];have HFV:Hid (F.1=F1∧F.2.1=F2):=⟨hF1.symm,hF2.symm⟩;clear hF1 hF2 hown hb1 hG b0 b1 b2 b3 s0 s1 s2
 go_wp2_with fail
 refine (values_any _ _ _ _).mono ?_;rintro e w2 ⟨rfl,hw2⟩;have hal:Below w1.heap.size w1 (w1.alloc (Obj.cells #[.int .i64 F1,.string F2,.slice ao4 n4 cap4] 98)):=(Below.refl _ _).alloc (Nat.le_refl _) _;have hal2:Below (w1.alloc (Obj.cells #[.int .i64 F1,.string F2,.slice ao4 n4 cap4] 98)).heap.size (w1.alloc (Obj.cells #[.int .i64 F1,.string F2,.slice ao4 n4 cap4] 98)) w2:=by rw[hw2];exact (Below.refl _ _).alloc (Nat.le_refl _) _
 have hbx:Boxed w2 (w1.alloc (Obj.cells #[.int .i64 F1,.string F2,.slice ao4 n4 cap4] 98)).heap.size 95 (.slice (some ⟨w1.heap.size,0,none⟩) 1 1):=by rw[hw2];exact Boxed.new _ _ _
 have hfb:FaBox w2 w1.heap.size F.1 F.2.1 (.slice ao4 n4 cap4):=by rw[HFV.out.1,HFV.out.2];exact (fabox_new w1 F1 F2 _ 98).later hal2
 have HIT:Hid (ItF Tryz.prog 54 #[.pointer (some ⟨(w1.alloc (Obj.cells #[.int .i64 F1,.string F2,.slice ao4 n4 cap4] 98)).heap.size,0,none⟩)] FtV w2.heap.size [F] w2):=values_it F _ _ ao4 n4 cap4 w2 hbx hfb ((HG.out.later hal).later hal2);have HB2:Hid (Below w.heap.size w w2):=HB1.out.trans ((hal.trans (hal2.mono hal.size)).mono HB1.out.size);clear hw2 hal hal2 hbx hfb;go_wp2;go_ret;refine⟨_,_,rfl,enters_of Tryz.func54 (by kernel_rfl) rfl,?_,HB2.out⟩;have h:=HIT.out;rw[World.size_alloc] at h;exact h
theorem broken_any (g:Nat)(S:Int)(ao:Option Addr)(n cap:Nat)(ao2:Option Addr)(n2 cap2:Nat)(ao3:Option Addr)(n3 cap3:Nat)(a4:Option Addr)(n4 c4:Nat)(Ls:LkQ)(Hs:HoQ)(Ts:List (List Ru))(l:List Wi)(w:World)
 (hI:NIn w g S (.slice ao n cap) (.slice ao2 n2 cap2) (.slice ao3 n3 cap3) Ls Hs Ts) (hN:ntN S Ls Hs Ts=0) (hl:GS wisE w (.slice a4 n4 c4) l):
 Calls Tryz.prog 29 #[.slice ao2 n2 cap2,.slice a4 n4 c4,.func (Fn.func 30) #[] #[.pointer (some ⟨g,0,none⟩)]] w fun e w'=>e=.returned (.tuple #[.agg #[.int .i64 (prV Hs (brW Ls Hs Ts l Hs l.length)).1,.string (prV Hs (brW Ls Hs Ts l Hs l.length)).2.1,.int .i64 (prV Hs (brW Ls Hs Ts l Hs l.length)).2.2],.bool (brW Ls Hs Ts l Hs l.length).isSome])∧Below w.heap.size w w':=by
 have hHG:=(tp_0 (nt_0 hN).1).2.2.2.2.1;refine (fwbrk_any g ao2 n2 cap2 a4 n4 c4 Hs (fun z h=>[frF Ls Hs Ts (Hs.getD z zeO).2 (h:Int)]) l w hI.h hl (fun h hh=>?_) ?_).mono ?_
 ·have:=nm_small (hHG h hh).1;omega
 ·intro z hz h h16 W hW;have e:Hs.getD z zeO=Hs[z]:=getO hz
  dsimp only
  rw[e];exact fates_any Hs[z].1 Hs[z].2.1 Hs[z].2.2 h g S ao n cap ao2 n2 cap2 ao3 n3 cap3 Ls Hs Ts W (hI.later hW) hN (hHG _ (List.getElem_mem hz)).2
 rintro e w' ⟨held,p,rfl,hF,hb⟩;obtain⟨e1,e2⟩:=fb_br hF;rw[e1,e2];exact⟨rfl,hb⟩
structure HoBox (w W:World)(S:Int)(v1 v2 v3:Value):Prop where
 below:Below w.heap.size w W
 n:NeBox W w.heap.size S v1 v2 v3
 p:PrBox w W (w.heap.size+1) 0 ⟨#[]⟩ 0
theorem hobox_new (w:World)(S:Int)(v1 v2 v3:Value):HoBox w ((w.alloc (Obj.cells #[.int .i64 S,v1,v2,v3] 28)).alloc (Obj.cells #[.int .i64 0,.string ⟨#[]⟩,.int .i64 0] 65)) S v1 v2 v3:=by
 have e1:(w.alloc (Obj.cells #[.int .i64 S,v1,v2,v3] 28)).heap.size=w.heap.size+1:=by simp
 have hb:∀(W:World) (o:Obj),Below W.heap.size W (W.alloc o):=fun W o=>(Below.refl _ _).alloc (Nat.le_refl _) _
 have hn:=(nebox_new w S v1 v2 v3 28).later (hb _ (Obj.cells #[.int .i64 0,.string ⟨#[]⟩,.int .i64 0] 65));have hB:=((Below.refl w.heap.size w).alloc (Nat.le_refl _) (Obj.cells #[.int .i64 S,v1,v2,v3] 28)).alloc (by rw[e1];omega) (Obj.cells #[.int .i64 0,.string ⟨#[]⟩,.int .i64 0] 65)
 generalize w.alloc (Obj.cells #[.int .i64 S,v1,v2,v3] 28)=X at e1 hn hB
 have hr:=prbox_new X w 0 ⟨#[]⟩ 0;rw[e1] at hr;exact⟨hB,hn,hr⟩
theorem HoBox.later {w W W':World}{S:Int}{v1 v2 v3:Value}(k:HoBox w W S v1 v2 v3)(hb:Below W.heap.size W W'):HoBox w W' S v1 v2 v3:=
 ⟨k.below.trans (hb.mono k.below.size),k.n.later hb,k.p.later hb⟩
theorem holds_any (S:Int)(ao:Option Addr)(n cap:Nat)(ao2:Option Addr)(n2 cap2:Nat)(ao3:Option Addr)(n3 cap3:Nat)(a4:Option Addr)(n4 c4:Nat)(Ls:LkQ)(Hs:HoQ)(Ts:List (List Ru))(l:List Wi)(w:World)
 (hL:GS lnkE w (.slice ao n cap) Ls) (hH:GS hstE w (.slice ao2 n2 cap2) Hs) (hT:TS w (.slice ao3 n3 cap3) Ts) (hl:GS wisE w (.slice a4 n4 c4) l):
 Calls Tryz.prog 14 #[.agg #[.int .i64 S,.slice ao n cap,.slice ao2 n2 cap2,.slice ao3 n3 cap3],.slice a4 n4 c4] w fun e w'=>e=.returned (.tuple #[.agg #[.int .i64 (wiV S Ls Hs Ts l).1,.string (wiV S Ls Hs Ts l).2.1,.int .i64 (wiV S Ls Hs Ts l).2.2],noV (wiN S Ls Hs Ts l)])∧Below w.heap.size w w':=by
 obtain⟨R,hR⟩:∃R,R=wiN S Ls Hs Ts l:=⟨_,rfl⟩;obtain⟨V,hV⟩:∃V,V=wiV S Ls Hs Ts l:=⟨_,rfl⟩;have HR:Hid (R=wiN S Ls Hs Ts l):=hR;have HV:Hid (V=wiV S Ls Hs Ts l):=hV;rw[←hR,←hV];have HLW:Hid (∀W,Below w.heap.size w W→GS lnkE W (.slice ao n cap) Ls):=fun W hb=>hL.later hb
 have HHW:Hid (∀W,Below w.heap.size w W→GS hstE W (.slice ao2 n2 cap2) Hs):=fun W hb=>hH.later hb
 have HTW:Hid (∀W,Below w.heap.size w W→TS W (.slice ao3 n3 cap3) Ts):=fun W hb=>hT.later hb
 have HlW:Hid (∀W,Below w.heap.size w W→GS wisE W (.slice a4 n4 c4) l):=fun W hb=>hl.later hb
 have hX:=hobox_new w S (.slice ao n cap) (.slice ao2 n2 cap2) (.slice ao3 n3 cap3);obtain⟨w0,hw0⟩:∃W,(w.alloc (Obj.cells #[.int .i64 S,.slice ao n cap,.slice ao2 n2 cap2,.slice ao3 n3 cap3] 28)).alloc (Obj.cells #[.int .i64 0,.string ⟨#[]⟩,.int .i64 0] 65)=W:=⟨_,rfl⟩;rw[hw0] at hX;have HX:Hid (HoBox w w0 S (.slice ao n cap) (.slice ao2 n2 cap2) (.slice ao3 n3 cap3)):=hX;have HW0:Hid ((w.alloc (Obj.cells #[.int .i64 S,.slice ao n cap,.slice ao2 n2 cap2,.slice ao3 n3 cap3] 28)).alloc (Obj.cells #[.int .i64 0,.string ⟨#[]⟩,.int .i64 0] 65)=w0):=hw0;clear hL hH hT hl hR hV hX hw0;go_enter Tryz.func14,Tryz.ntmps14;go_upto_region 1 with fail;rw[HW0.out];obtain⟨_,⟨b0,b1,b2,b3⟩,_⟩:=HX.out;clear HW0
 go_wp2_with fail
 refine (ncheck_any S ao n cap ao2 n2 cap2 ao3 n3 cap3 Ls Hs Ts _ (HLW.out _ HX.out.below) (HHW.out _ HX.out.below) (HTW.out _ HX.out.below)).mono ?_;rintro e w1 ⟨rfl,hb1⟩;obtain⟨T,hT⟩:∃T,T=ntN S Ls Hs Ts:=⟨_,rfl⟩;have HT:Hid (T=ntN S Ls Hs Ts):=hT;rw[←hT];have HX1:Hid (HoBox w w1 S (.slice ao n cap) (.slice ao2 n2 cap2) (.slice ao3 n3 cap3)):=HX.out.later hb1;clear hT hb1 HX b0 b1 b2 b3;by_cases h0:T=0
 ·have HN0:Hid (ntN S Ls Hs Ts=0):=HT.out.symm.trans h0;subst h0;rw[no_ok rfl];obtain⟨_,⟨b0,b1,b2,b3⟩,_⟩:=HX1.out
  go_wp2_with fail
  refine (wcheck_any S ao n cap ao2 n2 cap2 a4 n4 c4 Ls Hs l _ (HLW.out _ HX1.out.below) (HHW.out _ HX1.out.below) (HlW.out _ HX1.out.below)).mono ?_;rintro e w2 ⟨rfl,hb2⟩;obtain⟨U,hU⟩:∃U,U=wsN S Ls Hs l:=⟨_,rfl⟩;have HU:Hid (U=wsN S Ls Hs l):=hU;rw[←hU];have HX2:Hid (HoBox w w2 S (.slice ao n cap) (.slice ao2 n2 cap2) (.slice ao3 n3 cap3)):=HX1.out.later hb2;clear hU hb2 HX1 b0 b1 b2 b3;by_cases h5:U=0
  ·have HU0:Hid (wsN S Ls Hs l=0):=HU.out.symm.trans h5;subst h5;rw[no_ok rfl];obtain⟨_,⟨b0,b1,b2,b3⟩,_⟩:=HX2.out;have hlw:w.heap.size<w2.heap.size:=bLQ _ _ b0
   go_wp2_with fail
   refine (broken_any w.heap.size S ao n cap ao2 n2 cap2 ao3 n3 cap3 a4 n4 c4 Ls Hs Ts l _ ⟨HX2.out.n,HLW.out _ HX2.out.below,HHW.out _ HX2.out.below,HTW.out _ HX2.out.below⟩ HN0.out (HlW.out _ HX2.out.below)).mono ?_;rintro e w3 ⟨rfl,hb3⟩;obtain⟨O,hO⟩:∃O,O=brW Ls Hs Ts l Hs l.length:=⟨_,rfl⟩;have HRO:Hid (R=if O.isSome then 9 else 0):=by
    show _=_;rw[HR.out,wiN,if_pos HN0.out,if_pos HU0.out,hO]
   have HVO:Hid (V=prV Hs O):=by
    show _=_;rw[HV.out,wiV,if_pos ⟨HN0.out,HU0.out⟩,hO]
   rw[←hO,←HVO.out];have HX3:Hid (HoBox w w3 S (.slice ao n cap) (.slice ao2 n2 cap2) (.slice ao3 n3 cap3)):=HX2.out.later hb3;obtain⟨V1,hV1⟩:∃q,q=V.1:=⟨_,rfl⟩;obtain⟨V2,hV2⟩:∃q,q=V.2.1:=⟨_,rfl⟩;obtain⟨V3,hV3⟩:∃q,q=V.2.2:=⟨_,rfl⟩;have HVV:Hid (V.1=V1∧V.2.1=V2∧V.2.2=V3):=⟨hV1.symm,hV2.symm,hV3.symm⟩;rw[←hV1,←hV2,←hV3];have hal:Below w3.heap.size w3 (w3.alloc (Obj.cells #[.int .i64 V1,.string V2,.int .i64 V3] 65)):=(Below.refl _ _).alloc (Nat.le_refl _) _;have hpr:=prbox_new w3 w V1 V2 V3;have hX4:=HX3.out.later hal;obtain⟨w4,hw4⟩:∃W,w3.alloc (Obj.cells #[.int .i64 V1,.string V2,.int .i64 V3] 65)=W:=⟨_,rfl⟩;obtain⟨gp,hgp⟩:∃q,q=w3.heap.size:=⟨_,rfl⟩;rw[hw4] at hal hpr hX4;rw[←hgp] at hpr;have HW4:Hid (w3.alloc (Obj.cells #[.int .i64 V1,.string V2,.int .i64 V3] 65)=w4):=hw4;have HGP:Hid (w3.heap.size=gp):=hgp.symm;have HLP:Hid (w.heap.size+1<gp):=by
    show _<_;rw[hgp];have h1:=bLQ _ _ HX3.out.p.c0;simpa using h1
   have HPR:Hid (PrBox w w4 gp V1 V2 V3):=hpr;have HX4:Hid (HoBox w w4 S (.slice ao n cap) (.slice ao2 n2 cap2) (.slice ao3 n3 cap3)):=hX4;clear hb3 hO hV1 hV2 hV3 hal hpr hX4 hw4 hgp b0 b1 b2 b3 HX2;obtain⟨B,hB⟩:∃B,B=O.isSome:=⟨_,rfl⟩;have HBO:Hid (O.isSome=B):=hB.symm;rw[←hB];clear hB;go_upto_region 8 with fail;rw[HW4.out,HGP.out];clear HW4 HGP;obtain⟨hB4,_,⟨r0,r1,r2,rf⟩⟩:=HX4.out;have f0:=rf 0;have f1:=rf 1;have f2:=rf 2;have HB4:Hid (Below w.heap.size w w4):=hB4;obtain⟨p0,p1,p2,_⟩:=HPR.out;clear hB4 rf;cases B with
   | true =>
     have HR9:Hid (R=9):=by
      show _=_;rw[HRO.out,HBO.out,if_pos rfl]
     go_wp2;refine bodyPost_ret (v:=.tuple #[.agg #[.int .i64 V1,.string V2,.int .i64 V3],.iface 63 (.int .i64 9)]) (by simp[results,Tryz.results14,go_sem, *]) rfl ⟨by rw[HR9.out,HVV.out.1,HVV.out.2.1,HVV.out.2.2];rfl,below_put3 HB4.out _ (by omega) _ _ _⟩
   | false =>
     have HR9:Hid (R=0):=by
      show _=_;rw[HRO.out,HBO.out,if_neg (by decide)]
     have HVZ:Hid (V=(0,ByteArray.empty,0)):=by
      show _=_;rw[HVO.out];cases O with
      | none=>rfl
      | some p=>have:=HBO.out;simp at this
     go_wp2;refine bodyPost_ret (v:=.tuple #[.agg #[.int .i64 0,.string ⟨#[]⟩,.int .i64 0],.nilIface]) (by simp[results,Tryz.results14,go_sem, *]) rfl ⟨by rw[HR9.out,HVZ.out];rfl,below_put3 HB4.out _ (by omega) _ _ _⟩
  rw[no_ne h5];have HNE:Hid (U≠0):=h5;have HR1:Hid (R=U):=by
   show _=_;rw[HR.out,wiN,if_pos HN0.out,if_neg (by rw[←HU.out];exact h5),HU.out]
  have HV1:Hid (V=(0,ByteArray.empty,0)):=by
   show _=_;rw[HV.out,wiV,if_neg (fun h=>h5 (HU.out.trans h.2))]
  obtain⟨hB2,_,⟨r0,r1,r2,rf⟩⟩:=HX2.out;have f0:=rf 0;have f1:=rf 1;have f2:=rf 2;have HB2:Hid (Below w.heap.size w w2):=hB2;clear h5 hB2 rf;go_wp2;refine bodyPost_ret (v:=.tuple #[.agg #[.int .i64 0,.string ⟨#[]⟩,.int .i64 0],.iface 63 (.int .i64 U)]) (by simp[results,Tryz.results14,go_sem, *]) rfl ⟨by rw[HR1.out,HV1.out,no_ne HNE.out];rfl,below_put3 HB2.out _ (by omega) _ _ _⟩
 rw[no_ne h0];have HNE:Hid (T≠0):=h0;have HR1:Hid (R=T):=by
  show _=_;rw[HR.out,wiN,if_neg (by rw[←HT.out];exact h0),HT.out]
 have HV1:Hid (V=(0,ByteArray.empty,0)):=by
  show _=_;rw[HV.out,wiV,if_neg (fun h=>h0 (HT.out.trans h.1))]
 obtain⟨hB2,_,⟨r0,r1,r2,rf⟩⟩:=HX1.out;have f0:=rf 0;have f1:=rf 1;have f2:=rf 2;have HB2:Hid (Below w.heap.size w w1):=hB2;clear h0 hB2 rf;go_wp2;refine bodyPost_ret (v:=.tuple #[.agg #[.int .i64 0,.string ⟨#[]⟩,.int .i64 0],.iface 63 (.int .i64 T)]) (by simp[results,Tryz.results14,go_sem, *]) rfl ⟨by rw[HR1.out,HV1.out,no_ne HNE.out];rfl,below_put3 HB2.out _ (by omega) _ _ _⟩
end
section
open Go.RowKit
def pbN (S:Int)(Ls:List LkT)(Hs:List HoT)(Ts:List (List Ru))(S':Int)(Ls':List LkT)(Hs':List HoT)(Ts':List (List Ru))(ws:List Wi):Int:=if pdN S Ls Hs Ts S' Ls' Hs' Ts' ws=0 then wiN S Ls Hs Ts ws else pdN S Ls Hs Ts S' Ls' Hs' Ts' ws
theorem run_map_later {W W':World}{bm:Nat}{M:List (Int×SlT)}(h:MAt intKey slV W bm M)(hb:Below W.heap.size W W')(a:Int):(Instr.lookup 54 (.map (some bm)) (.int .i64 a) false).run Tryz.prog W'=.ok (slV (mgD M a)) W':=by
 have hlk:=run_lookup_M (h.later hb) 54 46 Tryz.underlying54 (.slice none 0 0) (fun w=>by kernel_rfl) a false;rw[getV_sl] at hlk;exact hlk
structure BeL (w5:World)(bm:Nat)(wr:World)(S:Int)(v1 v2 v3 v4:Value)(M:List (Int×SlT))(D:List Op8):Prop where
 b:Below bm w5 wr
 t:TkB wr (bm+1) S v1 v2 v3 v4 (.map (some bm)) (alS D:Int)
 g:GM wr bm (bm+1+1) M D
theorem cells_later {W W':World}{g:Nat}{x0:Int}{x1:Bool}{x2 x3 x4 x5 x6 x7:Int}(h:W.cell? ⟨g,0,none⟩=some (.int .i64 x0)∧W.cell? ⟨g,1,none⟩=some (.bool x1)∧W.cell? ⟨g,2,none⟩=some (.int .i64 x2)∧W.cell? ⟨g,3,none⟩=some (.int .i64 x3)∧W.cell? ⟨g,4,none⟩=some (.int .i64 x4)∧W.cell? ⟨g,5,none⟩=some (.int .i64 x5)∧W.cell? ⟨g,6,none⟩=some (.int .i64 x6)∧W.cell? ⟨g,7,none⟩=some (.int .i64 x7)){row:Option Nat}(hg:W.grownBy W' row)(hne:some g≠row):W'.cell? ⟨g,0,none⟩=some (.int .i64 x0)∧W'.cell? ⟨g,1,none⟩=some (.bool x1)∧W'.cell? ⟨g,2,none⟩=some (.int .i64 x2)∧W'.cell? ⟨g,3,none⟩=some (.int .i64 x3)∧W'.cell? ⟨g,4,none⟩=some (.int .i64 x4)∧W'.cell? ⟨g,5,none⟩=some (.int .i64 x5)∧W'.cell? ⟨g,6,none⟩=some (.int .i64 x6)∧W'.cell? ⟨g,7,none⟩=some (.int .i64 x7):=by
 obtain⟨h0,h1,h2,h3,h4,h5,h6,h7⟩:=h;exact⟨hg.cell h0 hne,hg.cell h1 hne,hg.cell h2 hne,hg.cell h3 hne,hg.cell h4 hne,hg.cell h5 hne,hg.cell h6 hne,hg.cell h7 hne⟩
def put7 (W:World)(g:Nat)(a0 a1 a2 a3 a4 a5 a6:Value):World:=((((((W.setCell ⟨g,0,none⟩ a0).setCell ⟨g,1,none⟩ a1).setCell ⟨g,2,none⟩ a2).setCell ⟨g,3,none⟩ a3).setCell ⟨g,4,none⟩ a4).setCell ⟨g,5,none⟩ a5).setCell ⟨g,6,none⟩ a6
theorem below_put7 {B:Nat}{a W:World}(h:Below B a W)(g:Nat)(hg:B≤g)(a0 a1 a2 a3 a4 a5 a6:Value):Below B a (put7 W g a0 a1 a2 a3 a4 a5 a6):=((((((h.setCell (p:=⟨g,0,none⟩) hg _).setCell (p:=⟨g,1,none⟩) hg _).setCell (p:=⟨g,2,none⟩) hg _).setCell (p:=⟨g,3,none⟩) hg _).setCell (p:=⟨g,4,none⟩) hg _).setCell (p:=⟨g,5,none⟩) hg _).setCell (p:=⟨g,6,none⟩) hg _
theorem grown_again {A B C:World}{g:Nat}(h1:A.grownBy B (some g))(h2:B.grownBy C (some g)):A.grownBy C (some g):=
 ⟨h2.os.trans h1.os,h2.tape.trans h1.tape,h2.output.trans h1.output,Nat.le_trans h1.size h2.size,fun j hj hne=>by rw[h2.block j (Nat.lt_of_lt_of_le hj h1.size) hne,h1.block j hj hne]⟩
theorem grown_put7 (W:World)(g:Nat)(a0 a1 a2 a3 a4 a5 a6:Value):W.grownBy (put7 W g a0 a1 a2 a3 a4 a5 a6) (some g):=
 grown_again (grown_again (grown_again (grown_again (grown_again (grown_again (grown_set W g 0 a0) (grown_set _ g 1 a1)) (grown_set _ g 2 a2)) (grown_set _ g 3 a3)) (grown_set _ g 4 a4)) (grown_set _ g 5 a5)) (grown_set _ g 6 a6)
theorem begin_any (S:Int)(v1 v2 v3:Value)(S':Int)(u1 u2 u3 v4:Value)(Ls:List LkT)(Hs:List HoT)(Ts:List (List Ru))(Ls':List LkT)(Hs':List HoT)(Ts':List (List Ru))(ws:List Wi)(w:World)
 (hN:NI w v1 v2 v3 Ls Hs Ts) (hM:NI w u1 u2 u3 Ls' Hs' Ts') (hw:GS wisE w v4 ws) (h6:∀o∈pdL S Ls Hs Ts S' Ls' Hs' Ts' ws,1≤o.w∧o.w≤6) (h144:(pdL S Ls Hs Ts S' Ls' Hs' Ts' ws).length≤1000):
 Calls Tryz.prog 10 #[.agg #[.int .i64 S,v1,v2,v3],.agg #[.int .i64 S',u1,u2,u3],v4] w fun e w'=>∃t0 t1 t2 t3 t4 t5 t6,e=.returned (.tuple #[.agg #[t0,t1,t2,t3,t4,t5,t6],noV (pbN S Ls Hs Ts S' Ls' Hs' Ts' ws)])∧(pbN S Ls Hs Ts S' Ls' Hs' Ts' ws=0→∃bm,t0=.int .i64 S∧t1=v1∧t2=v2∧t3=v3∧t4=v4∧t5=.map (some bm)∧t6=.int .i64 (alS (pdL S Ls Hs Ts S' Ls' Hs' Ts' ws):Int)∧TskOK w' v1 v2 v3 v4 bm Ls Hs Ts ws (pdL S Ls Hs Ts S' Ls' Hs' Ts' ws))∧(pbN S Ls Hs Ts S' Ls' Hs' Ts' ws≠0→t0=.int .i64 0∧t1=.slice none 0 0∧t2=.slice none 0 0∧t3=.slice none 0 0∧t4=.slice none 0 0∧t5=.map none∧t6=.int .i64 0)∧Below w.heap.size w w':=by
 obtain⟨ao,n,cap,ao2,n2,cap2,ao3,n3,cap3,rfl,rfl,rfl⟩:=hN.form;obtain⟨bo,m,dap,bo2,m2,dap2,bo3,m3,dap3,rfl,rfl,rfl⟩:=hM.form;obtain⟨a4,n4,c4,rfl,_⟩:=hw.form;obtain⟨wp,hwp⟩:∃W,W=(w.alloc (Obj.cells #[.int .i64 S,.slice ao n cap,.slice ao2 n2 cap2,.slice ao3 n3 cap3] 28)).alloc (Obj.cells #[.int .i64 S',.slice bo m dap,.slice bo2 m2 dap2,.slice bo3 m3 dap3] 28):=⟨_,rfl⟩;obtain⟨w1,hw1⟩:∃W,W=wp.alloc (Obj.cells #[.int .i64 0,.slice none 0 0,.slice none 0 0,.slice none 0 0,.slice none 0 0,.map none,.int .i64 0] 57):=⟨_,rfl⟩;have hbp:Below w.heap.size w wp:=by rw[hwp];exact ((Below.refl _ _).alloc (Nat.le_refl _) _).alloc (by simp) _
 have hsp:wp.heap.size=w.heap.size+1+1:=by rw[hwp];simp
 have hp1:Below wp.heap.size wp w1:=by rw[hw1];exact (Below.refl _ _).alloc (Nat.le_refl _) _
 have hb1:Below w.heap.size w w1:=hbp.trans (hp1.mono hbp.size);have hnn:NN w1 w.heap.size S (.slice ao n cap) (.slice ao2 n2 cap2) (.slice ao3 n3 cap3) S' (.slice bo m dap) (.slice bo2 m2 dap2) (.slice bo3 m3 dap3):=by
  have h:=nn_new w S (.slice ao n cap) (.slice ao2 n2 cap2) (.slice ao3 n3 cap3) S' (.slice bo m dap) (.slice bo2 m2 dap2) (.slice bo3 m3 dap3) 28;rw[←hwp] at h;exact⟨h.1.later hp1,h.2.later hp1⟩
 have htb:TkB w1 (w.heap.size+1+1) 0 (.slice none 0 0) (.slice none 0 0) (.slice none 0 0) (.slice none 0 0) (.map none) 0:=by
  have h:=tkb_new wp 0 (.slice none 0 0) (.slice none 0 0) (.slice none 0 0) (.slice none 0 0) (.map none) 0 57;rw[←hw1,hsp] at h;exact h
 have HNW:Hid (∀W,Below w1.heap.size w1 W→NI W (.slice ao n cap) (.slice ao2 n2 cap2) (.slice ao3 n3 cap3) Ls Hs Ts∧NI W (.slice bo m dap) (.slice bo2 m2 dap2) (.slice bo3 m3 dap3) Ls' Hs' Ts'∧GS wisE W (.slice a4 n4 c4) ws):=fun W h=>⟨(hN.later hb1).later h,(hM.later hb1).later h,(hw.later hb1).later h⟩
 have HN0:Hid (∀W,Below w.heap.size w W→NI W (.slice ao n cap) (.slice ao2 n2 cap2) (.slice ao3 n3 cap3) Ls Hs Ts∧GS wisE W (.slice a4 n4 c4) ws):=fun W h=>⟨hN.later h,hw.later h⟩
 have HNB:Hid (∀W,Below w1.heap.size w1 W→NeBox W w.heap.size S (.slice ao n cap) (.slice ao2 n2 cap2) (.slice ao3 n3 cap3)∧NeBox W (w.heap.size+1) S' (.slice bo m dap) (.slice bo2 m2 dap2) (.slice bo3 m3 dap3)):=fun W h=>⟨hnn.1.later h,hnn.2.later h⟩
 have HTB:Hid (∀W,Below w1.heap.size w1 W→TkB W (w.heap.size+1+1) 0 (.slice none 0 0) (.slice none 0 0) (.slice none 0 0) (.slice none 0 0) (.map none) 0):=fun W h=>htb.later h
 have HB1:Hid (Below w.heap.size w w1):=hb1;have HW1:Hid (((w.alloc (Obj.cells #[.int .i64 S,.slice ao n cap,.slice ao2 n2 cap2,.slice ao3 n3 cap3] 28)).alloc (Obj.cells #[.int .i64 S',.slice bo m dap,.slice bo2 m2 dap2,.slice bo3 m3 dap3] 28)).alloc (Obj.cells #[.int .i64 0,.slice none 0 0,.slice none 0 0,.slice none 0 0,.slice none 0 0,.map none,.int .i64 0] 57)=w1):=by rw[hw1,hwp];exact rfl
 obtain⟨D,hD⟩:∃D,D=pdL S Ls Hs Ts S' Ls' Hs' Ts' ws:=⟨_,rfl⟩;rw[←hD] at h6 h144 ⊢;have HD:Hid (pdL S Ls Hs Ts S' Ls' Hs' Ts' ws=D):=hD.symm;have H6:Hid (∀o∈D,1≤o.w∧o.w≤6):=h6;have H144:Hid (D.length≤1000):=h144;obtain⟨X,hX⟩:∃q,q=pdN S Ls Hs Ts S' Ls' Hs' Ts' ws:=⟨_,rfl⟩;have HX:Hid (pdN S Ls Hs Ts S' Ls' Hs' Ts' ws=X):=hX.symm;obtain⟨U,hU⟩:∃q,q=wiN S Ls Hs Ts ws:=⟨_,rfl⟩;have HU:Hid (wiN S Ls Hs Ts ws=U):=hU.symm;obtain⟨E,hE⟩:∃q,q=pbN S Ls Hs Ts S' Ls' Hs' Ts' ws:=⟨_,rfl⟩;have HE:Hid (E=if X=0 then U else X):=by rw[hE,pbN,hX,hU];exact rfl
 rw[←hE];obtain⟨P1,hP1⟩:∃q,q=(wiV S Ls Hs Ts ws).1:=⟨_,rfl⟩;obtain⟨P2,hP2⟩:∃q,q=(wiV S Ls Hs Ts ws).2.1:=⟨_,rfl⟩;obtain⟨P3,hP3⟩:∃q,q=(wiV S Ls Hs Ts ws).2.2:=⟨_,rfl⟩;have HPV:Hid ((wiV S Ls Hs Ts ws).1=P1∧(wiV S Ls Hs Ts ws).2.1=P2∧(wiV S Ls Hs Ts ws).2.2=P3):=⟨hP1.symm,hP2.symm,hP3.symm⟩;clear hN hM hw hbp hsp hp1 hb1 hnn htb hw1 hwp hD h6 h144 hX hU hE hP1 hP2 hP3;go_enter Tryz.func10,Tryz.ntmps10;go_upto_region 1 with fail;rw[HW1.out];clear HW1;obtain⟨⟨q0,q1,q2,q3⟩,r0,r1,r2,r3⟩:=HNB.out w1 (Below.refl _ _)
 go_wp2_with fail
 refine (pdiff_any S _ _ _ S' _ _ _ _ Ls Hs Ts Ls' Hs' Ts' ws w1 (HNW.out _ (Below.refl _ _)).1 (HNW.out _ (Below.refl _ _)).2.1 (HNW.out _ (Below.refl _ _)).2.2).mono ?_;rintro e w2 ⟨v,rfl,hNO,hb2⟩;rw[HX.out];rw[HD.out] at hNO;obtain⟨ad,nd,cd,hv,_⟩:=hNO.gs.form;subst hv;have HNO:Hid (∀W,Below w2.heap.size w2 W→GS opE W (.slice ad nd cd) D):=fun W h=>(hNO.later h).gs
 have HB2:Hid (Below w1.heap.size w1 w2):=hb2;clear hNO hb2 q0 q1 q2 q3 r0 r1 r2 r3;by_cases hX0:X=0
 ·have hEU:E=U:=HE.out.trans (if_pos hX0);subst hX0;subst hEU;rw[no_ok rfl];obtain⟨⟨q0,q1,q2,q3⟩,_⟩:=HNB.out w2 HB2.out
  go_wp2_with fail
  refine (holds_any S ao n cap ao2 n2 cap2 ao3 n3 cap3 a4 n4 c4 Ls Hs Ts ws w2 (HNW.out _ HB2.out).1.l (HNW.out _ HB2.out).1.h (HNW.out _ HB2.out).1.t (HNW.out _ HB2.out).2.2).mono ?_;rintro e w3 ⟨rfl,hb3⟩;rw[HU.out,HPV.out.1,HPV.out.2.1,HPV.out.2.2];obtain⟨w4,hw4⟩:∃W,w3.alloc (Obj.cells #[.int .i64 P1,.string P2,.int .i64 P3] 65)=W:=⟨_,rfl⟩;have hb4:Below w3.heap.size w3 w4:=by rw[←hw4];exact (Below.refl _ _).alloc (Nat.le_refl _) _
  have h24:Below w2.heap.size w2 w4:=hb3.trans (hb4.mono hb3.size);have HB24:Hid (Below w2.heap.size w2 w4):=h24;have HB4:Hid (Below w1.heap.size w1 w4):=HB2.out.trans (h24.mono HB2.out.size);have HW4:Hid (w3.alloc (Obj.cells #[.int .i64 P1,.string P2,.int .i64 P3] 65)=w4):=hw4;clear hb3 hb4 h24 hw4 q0 q1 q2 q3;go_upto_region 5 with fail;rw[HW4.out];clear HW4;by_cases hE0:E=0
  ·have HE0:Hid (E=0):=hE0;rw[no_ok hE0];clear hE0;obtain⟨bm,hbm⟩:∃q,q=w4.heap.size:=⟨_,rfl⟩;obtain⟨w5,hw5⟩:∃W,(w4.alloc (.map #[] 0)).alloc (Obj.cells #[.int .i64 S,.slice ao n cap,.slice ao2 n2 cap2,.slice ao3 n3 cap3,.slice a4 n4 c4,.map (some bm),.int .i64 0] 57)=W:=⟨_,rfl⟩;have hm0:MAt intKey slV (w4.alloc (.map #[] 0)) bm []:=by rw[hbm];exact mat_new intKey slV w4
   have hsm:(w4.alloc (.map #[] 0)).heap.size=bm+1:=by rw[hbm];simp
   have hb5:Below (w4.alloc (.map #[] 0)).heap.size (w4.alloc (.map #[] 0)) w5:=by rw[←hw5];exact (Below.refl _ _).alloc (Nat.le_refl _) _
   have hb45:Below w4.heap.size w4 w5:=((Below.refl _ _).alloc (Nat.le_refl _) _).trans (hb5.mono (by simp));have ht5:TkB w5 (bm+1) S (.slice ao n cap) (.slice ao2 n2 cap2) (.slice ao3 n3 cap3) (.slice a4 n4 c4) (.map (some bm)) 0:=by
    have h:=tkb_new (w4.alloc (.map #[] 0)) S (.slice ao n cap) (.slice ao2 n2 cap2) (.slice ao3 n3 cap3) (.slice a4 n4 c4) (.map (some bm)) 0 57;rw[hw5,hsm] at h;exact h
   have HBE:Hid (BeL w4 bm w5 S (.slice ao n cap) (.slice ao2 n2 cap2) (.slice ao3 n3 cap3) (.slice a4 n4 c4) [] []):=⟨by rw[hbm];exact hb45,ht5,gm_new _ _ _ (hm0.later hb5)⟩;have HW5:Hid ((w4.alloc (.map #[] 0)).alloc (Obj.cells #[.int .i64 S,.slice ao n cap,.slice ao2 n2 cap2,.slice ao3 n3 cap3,.slice a4 n4 c4,.map (some bm),.int .i64 0] 57)=w5):=hw5;have HBM:Hid (w4.heap.size=bm):=hbm.symm;have HNK:Hid (∀W,Below bm w4 W→GS opE W (.slice ad nd cd) D∧NI W (.slice ao n cap) (.slice ao2 n2 cap2) (.slice ao3 n3 cap3) Ls Hs Ts∧GS wisE W (.slice a4 n4 c4) ws∧TkB W (w.heap.size+1+1) 0 (.slice none 0 0) (.slice none 0 0) (.slice none 0 0) (.slice none 0 0) (.map none) 0):=fun W h=>by
    rw[hbm] at h;have h2:=HB24.out.trans (h.mono HB24.out.size);have h1:=HB4.out.trans (h.mono HB4.out.size);exact⟨HNO.out W h2,(HNW.out W h1).1,(HNW.out W h1).2.2,HTB.out W h1⟩
   have hnd:D.length=nd:=by
    obtain⟨_,_,_,e,hn,_⟩:=(HNO.out w2 (Below.refl _ _)).form;cases e;exact hn
   have HND:Hid (D.length=nd):=hnd;have n63:nd≤9223372036854775807:=by have:=H144.out;omega
   have HLW:Hid (w.heap.size+1+1<bm):=by
    have:=(HTB.out w4 HB4.out).lt;rw[hbm];exact this
   obtain⟨q0,q1,q2,q3⟩:=(HNB.out w4 HB4.out).1;have hmk:=run_makeMap (P:=Tryz.prog) 54 w4;clear hbm hw5 hm0 hsm hb5 hb45 ht5 hnd;go_upto_region 7 with fail;go_wp2;rw[HBM.out,HW5.out];clear HW5 q0 q1 q2 q3 hmk
   go_loopw [42] (fun i wr=>∃(k:Nat) (M:List (Int×SlT)),k≤nd∧i=.int .i64 (k:Int)∧BeL w4 bm wr S (.slice ao n cap) (.slice ao2 n2 cap2) (.slice ao3 n3 cap3) (.slice a4 n4 c4) M (D.take k)) (fun i _=>nd-(intOf i).toNat)
   case atStart=>exact⟨0,[],by omega,rfl,HBE.out⟩
   case round =>
    obtain⟨k,M,hk,rfl,hBE⟩:=hrel;have HBK:Hid (BeL w4 bm wr S (.slice ao n cap) (.slice ao2 n2 cap2) (.slice ao3 n3 cap3) (.slice a4 n4 c4) M (D.take k)):=hBE;clear hBE HBE;by_cases hlt:k<nd
    ·obtain⟨_,_,_,ee,_,_,_,hat⟩:=(HNK.out wr HBK.out.b).1.form;cases ee;obtain⟨gd,od,had,hga,_⟩:=hat (by omega);subst had;obtain⟨x0,x1,x2,x3,x4,x5,x6,x7,hkl,hLk,y0,y1,y2,y3,y4,y5,y6,y7⟩:=op_at hga HND.out hlt;have HOPK:Hid (D.take (k+1)=D.take k++[⟨x0,x1,⟨x2,x3,x4,x5,x6,x7⟩⟩]):=show _=_ by rw[List.take_succ_eq_append_getElem hkl,hLk]
     have hx6:1≤x0∧x0≤6:=by
      have:=H6.out _ (List.getElem_mem hkl);rw[hLk] at this;exact this
     obtain⟨s,hs⟩:∃s:Nat,x0=(s:Int):=⟨x0.toNat,by omega⟩;subst hs;have hs1:1≤s:=by omega
     have hs6:s≤6:=by omega
     clear hx6 hga;obtain⟨g0,hg0⟩:∃q,q=wr.heap.size:=⟨_,rfl⟩;obtain⟨wi,hwi⟩:∃W,wr.alloc (Obj.cells #[.int .i64 (s:Int),.bool x1,.int .i64 x2,.int .i64 x3,.int .i64 x4,.int .i64 x5,.int .i64 x6,.int .i64 x7] 83)=W:=⟨_,rfl⟩;have hbi:Below wr.heap.size wr wi:=by rw[←hwi];exact (Below.refl _ _).alloc (Nat.le_refl _) _
     have hci:wi.cell? ⟨g0,0,none⟩=some (.int .i64 (s:Int))∧wi.cell? ⟨g0,1,none⟩=some (.bool x1)∧wi.cell? ⟨g0,2,none⟩=some (.int .i64 x2)∧wi.cell? ⟨g0,3,none⟩=some (.int .i64 x3)∧wi.cell? ⟨g0,4,none⟩=some (.int .i64 x4)∧wi.cell? ⟨g0,5,none⟩=some (.int .i64 x5)∧wi.cell? ⟨g0,6,none⟩=some (.int .i64 x6)∧wi.cell? ⟨g0,7,none⟩=some (.int .i64 x7):=by
      rw[←hwi,hg0];have h:=op_cells (op_new wr (s:Int) x1 x2 x3 x4 x5 x6 x7 83);simp only[Nat.zero_add] at h;exact h
     have HG0:Hid (wr.heap.size=g0):=hg0.symm;have HWI:Hid (wr.alloc (Obj.cells #[.int .i64 (s:Int),.bool x1,.int .i64 x2,.int .i64 x3,.int .i64 x4,.int .i64 x5,.int .i64 x6,.int .i64 x7] 83)=wi):=hwi;have HCI:Hid (wi.cell? ⟨g0,0,none⟩=some (.int .i64 (s:Int))∧wi.cell? ⟨g0,1,none⟩=some (.bool x1)∧wi.cell? ⟨g0,2,none⟩=some (.int .i64 x2)∧wi.cell? ⟨g0,3,none⟩=some (.int .i64 x3)∧wi.cell? ⟨g0,4,none⟩=some (.int .i64 x4)∧wi.cell? ⟨g0,5,none⟩=some (.int .i64 x5)∧wi.cell? ⟨g0,6,none⟩=some (.int .i64 x6)∧wi.cell? ⟨g0,7,none⟩=some (.int .i64 x7)):=hci;have HBI:Hid (BeL w4 bm wi S (.slice ao n cap) (.slice ao2 n2 cap2) (.slice ao3 n3 cap3) (.slice a4 n4 c4) M (D.take k)):=⟨HBK.out.b.trans (hbi.mono (by have:=HBK.out.t.lt;omega)),HBK.out.t.later hbi,HBK.out.g.grown (grown_below hbi) (fun b hb=>by cases hb)⟩;have HG0L:Hid (bm+1<g0∧g0<wi.heap.size):=by
      have h1:=HBK.out.t.lt;rw[←hg0] at h1;exact⟨h1,bLQ wi ⟨g0,0,none⟩ hci.1⟩
     have HOB:Hid (∀a b,(slV (mgD M a)).ownBlock=some b→b<g0):=fun a b hb=>by rw[hg0];exact ((HBK.out.g.o a).lt b hb).2
     clear hbi hci hwi hg0;have kb0:(0:Int)≤(k:Int):=by omega
     have kb1:(k:Int)<(nd:Int):=by omega
     go_upto_region 11 with fail;rw[HWI.out,HG0.out];clear HWI y0 y1 y2 y3 y4 y5 y6 y7
     go_cut [57] from 46 to 57 (fun c w'=>∃M',TkB w' (bm+1) S (.slice ao n cap) (.slice ao2 n2 cap2) (.slice ao3 n3 cap3) (.slice a4 n4 c4) (.map (some bm)) (alS (D.take k):Int)∧GM w' bm (bm+1+1) M' (D.take (k+1))∧Below bm w4 w'∧w'.cell? ⟨g0,0,none⟩=some (.int .i64 (s:Int)))
     case first =>
      obtain⟨y,hy⟩:∃y,y=mgD M (s:Int):=⟨_,rfl⟩;obtain⟨ay,ny,cy⟩:=y;have hys:slV (mgD M (s:Int))=.slice ay ny cy:=by rw[←hy];rfl
      obtain⟨WA,hWA⟩:∃W,(wi.alloc (Obj.cells #[.int .i64 (s:Int),.bool x1,.int .i64 x2,.int .i64 x3,.int .i64 x4,.int .i64 x5,.int .i64 x6,.int .i64 x7] 83)).drew=W:=⟨_,rfl⟩;have hdr:Below wi.heap.size wi wi.drew:=Below.drew (Below.refl _ _);have hba:Below wi.heap.size wi WA:=by rw[←hWA];exact Below.drew ((Below.refl _ _).alloc (Nat.le_refl _) _)
      have hlk1:(Instr.lookup 54 (.map (some bm)) (.int .i64 (s:Int)) false).run Tryz.prog wi.drew=.ok (.slice ay ny cy) wi.drew:=by rw[←hys];exact run_map_later HBI.out.g.m hdr _
      have hlk2:(Instr.lookup 54 (.map (some bm)) (.int .i64 (s:Int)) false).run Tryz.prog WA=.ok (.slice ay ny cy) WA:=by rw[←hys];exact run_map_later HBI.out.g.m hba _
      have HSW:Hid (∀W row,wi.grownBy W row→(∀b,row=some b→b≠bm+1∧b≠g0)→W.cell? ⟨bm+1,5,none⟩=some (.map (some bm))∧W.cell? ⟨g0,0,none⟩=some (.int .i64 (s:Int))∧W.cell? ⟨g0,1,none⟩=some (.bool x1)∧W.cell? ⟨g0,2,none⟩=some (.int .i64 x2)∧W.cell? ⟨g0,3,none⟩=some (.int .i64 x3)∧W.cell? ⟨g0,4,none⟩=some (.int .i64 x4)∧W.cell? ⟨g0,5,none⟩=some (.int .i64 x5)∧W.cell? ⟨g0,6,none⟩=some (.int .i64 x6)∧W.cell? ⟨g0,7,none⟩=some (.int .i64 x7)):=fun W row hg hr=>⟨hg.cell HBI.out.t.c5 (fun e=>(hr _ e.symm).1 rfl),cells_later HCI.out hg (fun e=>(hr _ e.symm).2 rfl)⟩
      have HOW:Hid (NO WA (bm+1+1) (.slice ay ny cy) (opA (D.take k) (s:Int))):=by
       have h:=(HBI.out.g.o (s:Int)).later hba;rw[hys] at h;exact h
      have HVA:Hid (VAt WA wi.heap.size 0 (opE.c (⟨(s:Int),x1,⟨x2,x3,x4,x5,x6,x7⟩⟩:Op8))):=by
       rw[←hWA];exact (op_new wi (s:Int) x1 x2 x3 x4 x5 x6 x7 83).later (Below.drew (Below.refl _ _))
      have HBA:Hid (Below wi.heap.size wi WA):=hba;have HYS:Hid (slV (mgD M (s:Int))=.slice ay ny cy):=hys;have HLL:Hid ((opA (D.take k) (s:Int)).length≤1000):=by
       have h1:(opA (D.take k) (s:Int)).length≤(D.take k).length:=List.length_filter_le _ _;have h2:(D.take k).length≤D.length:=by rw[List.length_take];omega
       have h3:=H144.out;show _≤_;omega
      have HL1:Hid ((opA (D.take k) (s:Int)).length+1≤maxLen):=by have:=HLL.out;show _≤_;unfold maxLen;omega
      have HL2:Hid (((opA (D.take k) (s:Int)).length+1)*64≤140737488355328):=by have:=HLL.out;show _≤_;omega
      have HBS:Hid (bm+1+1≤WA.heap.size):=by have h1:=HG0L.out;have h2:=hba.size;show _≤_;omega
      have HPUSH:Hid (∀v5 w5,w5.ownsRow (bm+1+1) 83 8 v5 (opA (D.take k) (s:Int)++[(⟨(s:Int),x1,⟨x2,x3,x4,x5,x6,x7⟩⟩:Op8)]).length (cellsG opE (opA (D.take k) (s:Int)++[(⟨(s:Int),x1,⟨x2,x3,x4,x5,x6,x7⟩⟩:Op8)]))→WA.grownBy w5 (Value.slice ay ny cy).ownBlock→(v5.ownBlock=(Value.slice ay ny cy).ownBlock∨v5.ownBlock=some WA.heap.size)→∃a5 n5 c5 w6,v5=.slice a5 n5 c5∧(Instr.mapUpdate 54 (.map (some bm)) (.int .i64 (s:Int)) (.slice a5 n5 c5)).run Tryz.prog w5=.ok () w6∧(w5.cell? ⟨bm+1,5,none⟩=some (.map (some bm))∧w5.cell? ⟨g0,0,none⟩=some (.int .i64 (s:Int))∧w5.cell? ⟨g0,1,none⟩=some (.bool x1)∧w5.cell? ⟨g0,2,none⟩=some (.int .i64 x2)∧w5.cell? ⟨g0,3,none⟩=some (.int .i64 x3)∧w5.cell? ⟨g0,4,none⟩=some (.int .i64 x4)∧w5.cell? ⟨g0,5,none⟩=some (.int .i64 x5)∧w5.cell? ⟨g0,6,none⟩=some (.int .i64 x6)∧w5.cell? ⟨g0,7,none⟩=some (.int .i64 x7))∧(w6.cell? ⟨bm+1,5,none⟩=some (.map (some bm))∧w6.cell? ⟨g0,0,none⟩=some (.int .i64 (s:Int))∧w6.cell? ⟨g0,1,none⟩=some (.bool x1)∧w6.cell? ⟨g0,2,none⟩=some (.int .i64 x2)∧w6.cell? ⟨g0,3,none⟩=some (.int .i64 x3)∧w6.cell? ⟨g0,4,none⟩=some (.int .i64 x4)∧w6.cell? ⟨g0,5,none⟩=some (.int .i64 x5)∧w6.cell? ⟨g0,6,none⟩=some (.int .i64 x6)∧w6.cell? ⟨g0,7,none⟩=some (.int .i64 x7))∧TkB w6 (bm+1) S (.slice ao n cap) (.slice ao2 n2 cap2) (.slice ao3 n3 cap3) (.slice a4 n4 c4) (.map (some bm)) (alS (D.take k):Int)∧GM w6 bm (bm+1+1) (mput intKey.q (s:Int) (a5,n5,c5) M) (D.take (k+1))∧Below bm w4 w6):=by
       intro v5 w5 ho hg hl;obtain⟨⟨a5,n5,c5⟩,hv⟩:=NO.sl (L:=opA (D.take k) (s:Int)++[(⟨(s:Int),x1,⟨x2,x3,x4,x5,x6,x7⟩⟩:Op8)]) ho
       replace hv:v5=.slice a5 n5 c5:=hv
       subst hv;have hrow:∀b,(Value.slice ay ny cy).ownBlock=some b→bm+1<b∧b<g0:=fun b hb=>by
        rw[←hys] at hb;exact⟨((HBI.out.g.o (s:Int)).lt b hb).1,HOB.out _ b hb⟩
       have hg1:wi.grownBy WA none:=grown_below hba;have hg5:wi.grownBy w5 (Value.slice ay ny cy).ownBlock:=by
        refine⟨hg.os.trans hg1.os,hg.tape.trans hg1.tape,hg.output.trans hg1.output,Nat.le_trans hg1.size hg.size,fun j hj hne=>?_⟩;rw[hg.block j (Nat.lt_of_lt_of_le hj hg1.size) hne,hg1.block j hj (by simp)]
       have hM5:MAt intKey slV w5 bm M:=HBI.out.g.m.kept hg5 (fun e=>by have:=(hrow bm e.symm).1;omega);obtain⟨w6,hup,hM6,hg6⟩:=run_update_M hM5 54 46 Tryz.underlying54 (s:Int) (a5,n5,c5);have hS5:=HSW.out w5 _ hg5 (fun b hb=>by have:=hrow b hb;omega);have hgm:GM w6 bm (bm+1+1) (mput intKey.q (s:Int) (a5,n5,c5) M) (D.take k++[(⟨(s:Int),x1,⟨x2,x3,x4,x5,x6,x7⟩⟩:Op8)]):=GM.push HBI.out.g (by omega) (x:=(⟨(s:Int),x1,⟨x2,x3,x4,x5,x6,x7⟩⟩:Op8)) (y:=(a5,n5,c5)) hg1 ho (by show WA.grownBy w5 (slV (mgD M (s:Int))).ownBlock;rw[hys];exact hg) (by show (Value.slice a5 n5 c5).ownBlock=(slV (mgD M (s:Int))).ownBlock∨_;rw[hys];exact hl) hM6 hg6;refine⟨a5,n5,c5,w6,rfl,hup,hS5,⟨hg6.cell hS5.1 (by simp),cells_later hS5.2 hg6 (by have:=HG0L.out;simp;omega)⟩,(HBI.out.t.grown hg5 (fun e=>by have:=(hrow _ e.symm).1;omega)).grown hg6 (by simp),by rw[HOPK.out];exact hgm,?_⟩;have hlt5:bm≤wi.heap.size:=by have:=HG0L.out;omega
       exact HBI.out.b.trans ((below_grown hg5 hlt5 (fun b hb=>by have:=(hrow b hb).1;omega)).trans (below_grown hg6 (Nat.le_trans hlt5 hg5.size) (fun b hb=>by cases hb;exact Nat.le_refl _)))
      obtain⟨i0,hi,hz0,hz1,hz2⟩:=info_parts op_info;have HSD:Hid (wi.drew.cell? ⟨bm+1,5,none⟩=some (.map (some bm))∧wi.drew.cell? ⟨g0,0,none⟩=some (.int .i64 (s:Int))∧wi.drew.cell? ⟨g0,1,none⟩=some (.bool x1)∧wi.drew.cell? ⟨g0,2,none⟩=some (.int .i64 x2)∧wi.drew.cell? ⟨g0,3,none⟩=some (.int .i64 x3)∧wi.drew.cell? ⟨g0,4,none⟩=some (.int .i64 x4)∧wi.drew.cell? ⟨g0,5,none⟩=some (.int .i64 x5)∧wi.drew.cell? ⟨g0,6,none⟩=some (.int .i64 x6)∧wi.drew.cell? ⟨g0,7,none⟩=some (.int .i64 x7)):=HSW.out _ none (grown_below hdr) (fun b hb=>by cases hb);have HSA:Hid (WA.cell? ⟨bm+1,5,none⟩=some (.map (some bm))∧WA.cell? ⟨g0,0,none⟩=some (.int .i64 (s:Int))∧WA.cell? ⟨g0,1,none⟩=some (.bool x1)∧WA.cell? ⟨g0,2,none⟩=some (.int .i64 x2)∧WA.cell? ⟨g0,3,none⟩=some (.int .i64 x3)∧WA.cell? ⟨g0,4,none⟩=some (.int .i64 x4)∧WA.cell? ⟨g0,5,none⟩=some (.int .i64 x5)∧WA.cell? ⟨g0,6,none⟩=some (.int .i64 x6)∧WA.cell? ⟨g0,7,none⟩=some (.int .i64 x7)):=HSW.out _ none (grown_below hba) (fun b hb=>by cases hb);have HWA:Hid ((wi.alloc (Obj.cells #[.int .i64 (s:Int),.bool x1,.int .i64 x2,.int .i64 x3,.int .i64 x4,.int .i64 x5,.int .i64 x6,.int .i64 x7] 83)).drew=WA):=hWA;have HWS:Hid (wi.drew.heap.size=wi.heap.size):=rfl;clear hys hy hdr hba hWA;refine wp_region_held_drew (S:=fun W=>W.cell? ⟨bm+1,5,none⟩=some (.map (some bm))∧W.cell? ⟨g0,0,none⟩=some (.int .i64 (s:Int))∧W.cell? ⟨g0,1,none⟩=some (.bool x1)∧W.cell? ⟨g0,2,none⟩=some (.int .i64 x2)∧W.cell? ⟨g0,3,none⟩=some (.int .i64 x3)∧W.cell? ⟨g0,4,none⟩=some (.int .i64 x4)∧W.cell? ⟨g0,5,none⟩=some (.int .i64 x5)∧W.cell? ⟨g0,6,none⟩=some (.int .i64 x6)∧W.cell? ⟨g0,7,none⟩=some (.int .i64 x7)) (by kernel_rfl) HSD.out (fun hHeld=>?_);refine wpAnyH_take (i:=0) (v:=.pointer (some ⟨bm+1,5,none⟩)) rfl (by kernel_rfl) (by kernel_rfl) (by kernel_rfl) (fun _ _ _ h=>h) (Or.inl ⟨by rfl,?_⟩) hHeld ?_
      ·intro V hV;obtain⟨v0,v1,v2,v3,v4,v5,v6,v7,v8⟩:=hV;go_simp
      try simp only[Act.put,AP]
      refine wpAnyH_take (i:=1) (v:=.map (some bm)) rfl (by kernel_rfl) (by kernel_rfl) (by kernel_rfl) (fun _ _ _ h=>h) (Or.inl ⟨by rfl,?_⟩) hHeld ?_
      ·intro V hV;obtain⟨v0,v1,v2,v3,v4,v5,v6,v7,v8⟩:=hV;go_simp
      try simp only[Act.put,AP]
      refine wpAnyH_take (i:=2) (v:=.pointer (some ⟨g0,0,none⟩)) rfl (by kernel_rfl) (by kernel_rfl) (by kernel_rfl) (fun _ _ _ h=>h) (Or.inl ⟨by rfl,?_⟩) hHeld ?_
      ·intro V hV;obtain⟨v0,v1,v2,v3,v4,v5,v6,v7,v8⟩:=hV;go_simp
      try simp only[Act.put,AP]
      refine wpAnyH_take (i:=3) (v:=.int .i64 (s:Int)) rfl (by kernel_rfl) (by kernel_rfl) (by kernel_rfl) (fun _ _ _ h=>h) (Or.inl ⟨by rfl,?_⟩) hHeld ?_
      ·intro V hV;obtain⟨v0,v1,v2,v3,v4,v5,v6,v7,v8⟩:=hV;go_simp
      try simp only[Act.put,AP]
      refine wpAnyH_take (i:=4) (v:=.pointer (some ⟨bm+1,5,none⟩)) rfl (by kernel_rfl) (by kernel_rfl) (by kernel_rfl) (fun _ _ _ h=>h) (Or.inl ⟨by rfl,?_⟩) hHeld ?_
      ·intro V hV;obtain⟨v0,v1,v2,v3,v4,v5,v6,v7,v8⟩:=hV;go_simp
      try simp only[Act.put,AP]
      refine wpAnyH_take (i:=5) (v:=.map (some bm)) rfl (by kernel_rfl) (by kernel_rfl) (by kernel_rfl) (fun _ _ _ h=>h) (Or.inl ⟨by rfl,?_⟩) hHeld ?_
      ·intro V hV;obtain⟨v0,v1,v2,v3,v4,v5,v6,v7,v8⟩:=hV;go_simp
      try simp only[Act.put,AP]
      refine wpAnyH_take (i:=6) (v:=.pointer (some ⟨g0,0,none⟩)) rfl (by kernel_rfl) (by kernel_rfl) (by kernel_rfl) (fun _ _ _ h=>h) (Or.inl ⟨by rfl,?_⟩) hHeld ?_
      ·intro V hV;obtain⟨v0,v1,v2,v3,v4,v5,v6,v7,v8⟩:=hV;go_simp
      try simp only[Act.put,AP]
      refine wpAnyH_take (i:=7) (v:=.int .i64 (s:Int)) rfl (by kernel_rfl) (by kernel_rfl) (by kernel_rfl) (fun _ _ _ h=>h) (Or.inl ⟨by rfl,?_⟩) hHeld ?_
      ·intro V hV;obtain⟨v0,v1,v2,v3,v4,v5,v6,v7,v8⟩:=hV;go_simp
      try simp only[Act.put,AP]
      refine wpAnyH_take (i:=9) (v:=.agg #[.int .i64 (s:Int),.bool x1,.int .i64 x2,.int .i64 x3,.int .i64 x4,.int .i64 x5,.int .i64 x6,.int .i64 x7]) rfl (by kernel_rfl) (by kernel_rfl) (by kernel_rfl) (fun _ _ _ h=>h) (Or.inl ⟨by rfl,?_⟩) hHeld ?_
      ·intro V hV;obtain⟨v0,v1,v2,v3,v4,v5,v6,v7,v8⟩:=hV;go_simp
      try simp only[Act.put,AP]
      refine wpAnyH_ready (rs:=[8,10]) (by kernel_rfl) (by simp) ?_;refine (AllReadyH.cons rfl (fun K hK=>?_) (AllReadyH.cons rfl (fun K hK=>?_) AllReadyH.nil));go_simp;refine hK.out _ _ hHeld (fun hHeld=>?_);clear hK K;refine wpAnyH_ready (rs:=[10]) (by kernel_rfl) (by simp) ?_;refine (AllReadyH.cons rfl (fun K hK=>?_) AllReadyH.nil);go_simp;rw[HWA.out];refine hK.out _ _ HSA.out (fun hHeld=>?_);clear hK K
      rotate_left
      go_simp;rw[HWA.out];refine hK.out _ _ HSA.out (fun hHeld=>?_);clear hK K;refine wpAnyH_ready (rs:=[8]) (by kernel_rfl) (by simp) ?_;refine (AllReadyH.cons rfl (fun K hK=>?_) AllReadyH.nil);go_simp;refine hK.out _ _ hHeld (fun hHeld=>?_);clear hK K
      all_goals clear hlk1 hlk2
      all_goals
       refine wpAnyH_ready (rs:=[11]) (by kernel_rfl) (by simp) ?_;refine (AllReadyH.cons rfl (fun K hK=>?_) AllReadyH.nil);refine step_append_blk (E:=opE) _ (by rfl) _ _ 46 83 (by rfl) Tryz.underlying46 i0 _ 64 hi hz0 hz1 hz2 op_zero (bm+1+1) (.slice ay ny cy) (by rfl) (opA (D.take k) (s:Int)) HOW.out wi.heap.size 0 1 (by rfl) (⟨(s:Int),x1,⟨x2,x3,x4,x5,x6,x7⟩⟩:Op8) HVA.out HL1.out HL2.out HBS.out ?_;intro v5 w5 ho5 hg5 hl5;obtain⟨a5,n5,c5,w6,hv5,hup,hS5,hS6,hT6,hG6,hB6⟩:=HPUSH.out v5 w5 ho5 hg5 hl5;subst hv5;have HT6:Hid (TkB w6 (bm+1) S (.slice ao n cap) (.slice ao2 n2 cap2) (.slice ao3 n3 cap3) (.slice a4 n4 c4) (.map (some bm)) (alS (D.take k):Int)):=hT6;have HG6:Hid (GM w6 bm (bm+1+1) (mput intKey.q (s:Int) (a5,n5,c5) M) (D.take (k+1))):=hG6;have HB6:Hid (Below bm w4 w6):=hB6;have HS6:Hid (w6.cell? ⟨bm+1,5,none⟩=some (.map (some bm))∧w6.cell? ⟨g0,0,none⟩=some (.int .i64 (s:Int))∧w6.cell? ⟨g0,1,none⟩=some (.bool x1)∧w6.cell? ⟨g0,2,none⟩=some (.int .i64 x2)∧w6.cell? ⟨g0,3,none⟩=some (.int .i64 x3)∧w6.cell? ⟨g0,4,none⟩=some (.int .i64 x4)∧w6.cell? ⟨g0,5,none⟩=some (.int .i64 x5)∧w6.cell? ⟨g0,6,none⟩=some (.int .i64 x6)∧w6.cell? ⟨g0,7,none⟩=some (.int .i64 x7)):=hS6;refine hK.out _ _ hS5 (fun hHeld=>?_);clear hK K ho5 hg5 hl5 hS5 hS6 hT6 hG6 hB6;refine wpAnyH_ready (rs:=[12]) (by kernel_rfl) (by simp) ?_;refine (AllReadyH.cons rfl (fun K hK=>?_) AllReadyH.nil);go_simp;refine hK.out _ _ HS6.out (fun hHeld=>?_);clear hK K hup;refine wpAnyH_done (by kernel_rfl) ?_ _
       go_wp2_with fail
       go_meet
       exact⟨_,HT6.out,HG6.out,HB6.out,HS6.out.2.1⟩
     case rest =>
      obtain⟨M2,hT2,hG2,hB2,hc2⟩:=hcut;obtain⟨wz,hwz⟩:∃X,X=wc:=⟨_,rfl⟩;subst hwz;have HT2:Hid (TkB wz (bm+1) S (.slice ao n cap) (.slice ao2 n2 cap2) (.slice ao3 n3 cap3) (.slice a4 n4 c4) (.map (some bm)) (alS (D.take k):Int)):=hT2;have HG2:Hid (GM wz bm (bm+1+1) M2 (D.take (k+1))):=hG2;have HBZ:Hid (Below bm w4 wz):=hB2;have HAL:Hid (alS (D.take (k+1))=alS (D.take k) ||| onS s):=show _=_ by
       rw[al_next hkl,hLk];rfl
      obtain⟨A0,hA0⟩:∃A,A=alS (D.take k):=⟨_,rfl⟩;obtain⟨O,hO⟩:∃O,O=onS s:=⟨_,rfl⟩;obtain⟨A1,hA1⟩:∃A,A=alS (D.take (k+1)):=⟨_,rfl⟩;have hor:bits .or .i64 (A0:Int) (O:Int)=(A1:Int):=by
       rw[hA1,HAL.out,hA0,hO];exact bits_or (al_lt (fun o ho=>H6.out o (List.mem_of_mem_take ho))) (on_lt hs1)
      have HON:Hid (∀W,Calls Tryz.prog 23 #[.int .i64 (s:Int)] W fun e w'=>e=.returned (.int .i64 (O:Int))∧w'=W):=fun W=>by rw[hO];exact only_any s W hs1 hs6
      have HA1:Hid (A1=alS (D.take (k+1))):=hA1;rw[←hA0] at HT2;have hdr:Below wz.heap.size wz wz.drew:=Below.drew (Below.refl _ _);have hq6:wz.drew.cell? ⟨bm+1,6,none⟩=some (.int .i64 (A0:Int)):=cell_later hdr HT2.out.c6;have hf6:wz.drew.frozen? ⟨bm+1,6,none⟩=false:=by
       have:=frozLater HT2.out.f HT2.out.c0 hdr;exact this 6
      have HSZ:Hid (wz.drew.cell? ⟨g0,0,none⟩=some (.int .i64 (s:Int))):=cell_later hdr hc2;have HNE:Hid (g0≠bm+1):=by have:=HG0L.out;show _≠_;omega
      have HFIN:Hid (BeL w4 bm (wz.drew.setCell ⟨bm+1,6,none⟩ (.int .i64 (A1:Int))) S (.slice ao n cap) (.slice ao2 n2 cap2) (.slice ao3 n3 cap3) (.slice a4 n4 c4) M2 (D.take (k+1))):=by
       have hg:wz.grownBy (wz.drew.setCell ⟨bm+1,6,none⟩ (.int .i64 (A1:Int))) (some (bm+1)):=by
        have h1:=grown_below hdr;have h2:=grown_set wz.drew (bm+1) 6 (.int .i64 (A1:Int));refine⟨h2.os.trans h1.os,h2.tape.trans h1.tape,h2.output.trans h1.output,Nat.le_trans h1.size h2.size,fun j hj hne=>?_⟩;rw[h2.block j (Nat.lt_of_lt_of_le hj h1.size) hne,h1.block j hj (by simp)]
       have hlt:bm≤wz.heap.size:=by have:=HT2.out.lt;omega
       refine⟨HBZ.out.trans (below_grown hg hlt (fun b hb=>by cases hb;omega)),?_,HG2.out.grown hg (fun b hb=>?_)⟩
       ·rw[←hA1];exact (HT2.out.later hdr).put (A1:Int)
       cases hb;refine⟨by omega,fun a e=>?_⟩;have:=((HG2.out.o a).lt _ e).1;omega
      clear hT2 hG2 hB2 hc2 hA0 hO hA1 hdr hLk;go_upto_region 12 with fail;refine wp_region_held_drew (S:=fun W=>W.cell? ⟨g0,0,none⟩=some (.int .i64 (s:Int))) (by kernel_rfl) HSZ.out (fun hHeld=>?_);refine wpAnyH_take (i:=0) (v:=.pointer (some ⟨bm+1,6,none⟩)) rfl (by kernel_rfl) (by kernel_rfl) (by kernel_rfl) (fun _ _ _ h=>h) (Or.inl ⟨by rfl,?_⟩) hHeld ?_
      ·intro V hV;obtain v0:=hV;go_simp
      try simp only[Act.put,AP]
      refine wpAnyH_take (i:=2) (v:=.pointer (some ⟨g0,0,none⟩)) rfl (by kernel_rfl) (by kernel_rfl) (by kernel_rfl) (fun _ _ _ h=>h) (Or.inl ⟨by rfl,?_⟩) hHeld ?_
      ·intro V hV;obtain v0:=hV;go_simp
      try simp only[Act.put,AP]
      refine wpAnyH_take (i:=3) (v:=.int .i64 (s:Int)) rfl (by kernel_rfl) (by kernel_rfl) (by kernel_rfl) (fun _ _ _ h=>h) (Or.inl ⟨by rfl,?_⟩) hHeld ?_
      ·intro V hV;obtain v0:=hV;go_simp
      try simp only[Act.put,AP]
      refine wpAnyH_ready (rs:=[1,4]) (by kernel_rfl) (by simp) ?_;refine (AllReadyH.cons rfl (fun K hK=>?_) (AllReadyH.cons rfl (fun K hK=>?_) AllReadyH.nil));go_simp;refine hK.out _ _ hHeld (fun hHeld=>?_);clear hK K;refine wpAnyH_ready (rs:=[4]) (by kernel_rfl) (by simp) ?_;refine (AllReadyH.cons rfl (fun K hK=>?_) AllReadyH.nil);go_simp;refine (HON.out _).mono ?_;rintro e w' ⟨rfl,hw'⟩;subst hw';refine hK.out _ _ hHeld (fun hHeld=>?_);clear hK K
      rotate_left
      go_simp;refine (HON.out _).mono ?_;rintro e w' ⟨rfl,hw'⟩;subst hw';refine hK.out _ _ hHeld (fun hHeld=>?_);clear hK K;refine wpAnyH_ready (rs:=[1]) (by kernel_rfl) (by simp) ?_;refine (AllReadyH.cons rfl (fun K hK=>?_) AllReadyH.nil);go_simp;refine hK.out _ _ hHeld (fun hHeld=>?_);clear hK K
      all_goals
       refine wpAnyH_take (i:=5) (v:=.int .i64 (A1:Int)) rfl (by kernel_rfl) (by kernel_rfl) (by kernel_rfl) (fun _ _ _ h=>h) (Or.inl ⟨by rfl,?_⟩) hHeld ?_
       ·intro V hV;obtain v0:=hV;go_simp
       try simp only[Act.put,AP]
       refine wpAnyH_take (i:=6) (v:=.pointer (some ⟨bm+1,6,none⟩)) rfl (by kernel_rfl) (by kernel_rfl) (by kernel_rfl) (fun _ _ _ h=>h) (Or.inl ⟨by rfl,?_⟩) hHeld ?_
       ·intro V hV;obtain v0:=hV;go_simp
       try simp only[Act.put,AP]
       refine wpAnyH_ready (rs:=[7]) (by kernel_rfl) (by simp) ?_;refine (AllReadyH.cons rfl (fun K hK=>?_) AllReadyH.nil);go_simp;refine hK.out _ _ ?_ (fun hHeld=>?_);exact (World.cell?_setCell_other _ _ _ _ (by have:=HNE.out;simp[this])).trans HSZ.out;clear hK K;refine wpAnyH_done (by kernel_rfl) ?_ _
       try simp only[Act.put,List.setIfInBounds_toArray,List.set_cons_zero,List.set_cons_succ,List.getElem_toArray,List.getElem_cons_zero,List.getElem_cons_succ]
       clear hq6 hf6 HSZ hHeld;go_wp2;go_roundw
       case rel=>exact⟨k+1,M2,by omega,by go_num,HFIN.out⟩
       case measure=>simp[intOf];omega
    obtain rfl:k=nd:=by omega
    have hall:D.take k=D:=by rw[←HND.out];exact List.take_length
    rw[hall] at HBK;obtain⟨t0,t1,t2,t3,t4,t5,t6,tf⟩:=HBK.out.t;obtain⟨z0,z1,z2,z3,z4,z5,z6,zf⟩:=(HNK.out wr HBK.out.b).2.2.2;have zf0:=zf 0;have zf1:=zf 1;have zf2:=zf 2;have zf3:=zf 3;have zf4:=zf 4;have zf5:=zf 5;have zf6:=zf 6;obtain⟨AL,hAL⟩:∃A,A=alS D:=⟨_,rfl⟩;rw[←hAL] at t6;have HAL:Hid (AL=alS D):=hAL;have HNE:Hid (w.heap.size+1+1≠bm+1):=by have:=HLW.out;show _≠_;omega
    have HBW:Hid (Below w.heap.size w wr):=by
     have h1:=HB1.out.trans (HB4.out.mono HB1.out.size);have h2:=HBM.out;exact h1.trans (HBK.out.b.mono (by have:=h1.size;omega))
    have HTK:Hid (TskOK (put7 wr (w.heap.size+1+1) (.int .i64 S) (.slice ao n cap) (.slice ao2 n2 cap2) (.slice ao3 n3 cap3) (.slice a4 n4 c4) (.map (some bm)) (.int .i64 (AL:Int))) (.slice ao n cap) (.slice ao2 n2 cap2) (.slice ao3 n3 cap3) (.slice a4 n4 c4) bm Ls Hs Ts ws D):=by
     have hb:=below_put7 HBW.out (w.heap.size+1+1) (by omega) (.int .i64 S) (.slice ao n cap) (.slice ao2 n2 cap2) (.slice ao3 n3 cap3) (.slice a4 n4 c4) (.map (some bm)) (.int .i64 (AL:Int));have hg:=HBK.out.g.grown (grown_put7 wr (w.heap.size+1+1) (.int .i64 S) (.slice ao n cap) (.slice ao2 n2 cap2) (.slice ao3 n3 cap3) (.slice a4 n4 c4) (.map (some bm)) (.int .i64 (AL:Int))) (fun b hb=>by
      cases hb;have h1:=HLW.out;refine⟨by omega,fun a e=>?_⟩;have:=((HBK.out.g.o a).lt _ e).1;omega)
     exact⟨(HN0.out _ hb).1,(HN0.out _ hb).2,M,hg.m,fun a=>(hg.o a).gs⟩
    clear hall tf zf hAL;go_wp2;refine bodyPost_ret (v:=.tuple #[.agg #[.int .i64 S,.slice ao n cap,.slice ao2 n2 cap2,.slice ao3 n3 cap3,.slice a4 n4 c4,.map (some bm),.int .i64 (AL:Int)],.nilIface]) (by simp[results,Tryz.results10,go_sem, *]) rfl ⟨_,_,_,_,_,_,_,by rw[HE0.out,no_ok rfl],fun _=>⟨bm,rfl,rfl,rfl,rfl,rfl,rfl,by rw[HAL.out],HTK.out⟩,fun h=>absurd HE0.out h,below_put7 HBW.out (w.heap.size+1+1) (by omega) _ _ _ _ _ _ _⟩
  obtain⟨z0,z1,z2,z3,z4,z5,z6,zf⟩:=HTB.out w4 HB4.out;have zf0:=zf 0;have zf1:=zf 1;have zf2:=zf 2;have zf3:=zf 3;have zf4:=zf 4;have zf5:=zf 5;have zf6:=zf 6;have HE0:Hid (E≠0):=hE0;rw[no_ne hE0];have HBW:Hid (∀a0 a1 a2 a3 a4 a5 a6,Below w.heap.size w (put7 w4 (w.heap.size+1+1) a0 a1 a2 a3 a4 a5 a6)):=fun a0 a1 a2 a3 a4 a5 a6=>below_put7 (HB1.out.trans (HB4.out.mono HB1.out.size)) (w.heap.size+1+1) (by omega) _ _ _ _ _ _ _
  clear zf hE0;go_wp2;refine bodyPost_ret (v:=.tuple #[.agg #[.int .i64 0,.slice none 0 0,.slice none 0 0,.slice none 0 0,.slice none 0 0,.map none,.int .i64 0],.iface 63 (.int .i64 E)]) (by simp[results,Tryz.results10,go_sem, *]) rfl ⟨_,_,_,_,_,_,_,by rw[no_ne HE0.out],fun h=>absurd h HE0.out,fun _=>⟨rfl,rfl,rfl,rfl,rfl,rfl,rfl⟩,HBW.out _ _ _ _ _ _ _⟩
 have hEX:E=X:=HE.out.trans (if_neg hX0);obtain⟨z0,z1,z2,z3,z4,z5,z6,zf⟩:=HTB.out w2 HB2.out;have zf0:=zf 0;have zf1:=zf 1;have zf2:=zf 2;have zf3:=zf 3;have zf4:=zf 4;have zf5:=zf 5;have zf6:=zf 6;have HE0:Hid (E≠0):=by rw[hEX];exact hX0
 subst hEX;rw[no_ne hX0];have HBW:Hid (∀a0 a1 a2 a3 a4 a5 a6,Below w.heap.size w (put7 w2 (w.heap.size+1+1) a0 a1 a2 a3 a4 a5 a6)):=fun a0 a1 a2 a3 a4 a5 a6=>below_put7 (HB1.out.trans (HB2.out.mono HB1.out.size)) (w.heap.size+1+1) (by omega) _ _ _ _ _ _ _
 clear zf hX0;go_wp2;refine bodyPost_ret (v:=.tuple #[.agg #[.int .i64 0,.slice none 0 0,.slice none 0 0,.slice none 0 0,.slice none 0 0,.map none,.int .i64 0],.iface 63 (.int .i64 E)]) (by simp[results,Tryz.results10,go_sem, *]) rfl ⟨_,_,_,_,_,_,_,by rw[no_ne HE0.out],fun h=>absurd h HE0.out,fun _=>⟨rfl,rfl,rfl,rfl,rfl,rfl,rfl⟩,HBW.out _ _ _ _ _ _ _⟩
def TC7 (w0:World)(g:Nat)(S:Int)(v1 v2 v3 v4 v5:Value)(all:Int)(W:World):Prop:=
 Below w0.heap.size w0 W∧W.cell? ⟨g,0,none⟩=some (.int .i64 S)∧W.cell? ⟨g,1,none⟩=some v1∧W.cell? ⟨g,2,none⟩=some v2∧W.cell? ⟨g,3,none⟩=some v3∧W.cell? ⟨g,4,none⟩=some v4∧W.cell? ⟨g,5,none⟩=some v5∧W.cell? ⟨g,6,none⟩=some (.int .i64 all)
theorem TC7.later {w0 W W':World}{g:Nat}{S:Int}{v1 v2 v3 v4 v5:Value}{all:Int}(hb:Below W.heap.size W W')(h:TC7 w0 g S v1 v2 v3 v4 v5 all W):TC7 w0 g S v1 v2 v3 v4 v5 all W':=
 ⟨h.1.trans (hb.mono h.1.size),cell_later hb h.2.1,cell_later hb h.2.2.1,cell_later hb h.2.2.2.1,cell_later hb h.2.2.2.2.1,cell_later hb h.2.2.2.2.2.1,cell_later hb h.2.2.2.2.2.2.1,cell_later hb h.2.2.2.2.2.2.2⟩
theorem TkB.c7 {W:World}{g:Nat}{S:Int}{v1 v2 v3 v4 v5:Value}{all:Int}(h:TkB W g S v1 v2 v3 v4 v5 all):TC7 W g S v1 v2 v3 v4 v5 all W:=⟨Below.refl _ _,h.c0,h.c1,h.c2,h.c3,h.c4,h.c5,h.c6⟩
theorem fill_any (S:Int)(v1 v2 v3 v4:Value)(bm all done:Nat)(Ls:List LkT)(Hs:List HoT)(As Bs:List (List Ru))(ws:List Wi)(D:List Op8)(w:World)
 (hT:TskOK w v1 v2 v3 v4 bm Ls Hs As ws D) (hP:PlOK S Ls Hs As Bs ws D) (ha:all<64) (hd:done<64):
 Calls Tryz.prog 12 #[.agg #[.int .i64 S,v1,v2,v3,v4,.map (some bm),.int .i64 (all:Int)],.int .i64 (done:Int)] w fun e w'=>e=.returned (.int .i64 (fiS (sfB Ls Hs As Bs ws) all done 6:Int))∧Below w.heap.size w w':=by
 obtain⟨ao,n,cap,ao2,n2,cap2,ao3,n3,cap3,rfl,rfl,rfl⟩:=hT.n.form;obtain⟨a4,n4,c4,rfl,_⟩:=hT.w.form;obtain⟨w1,hw1⟩:∃W,W=w.alloc (Obj.cells #[.int .i64 S,.slice ao n cap,.slice ao2 n2 cap2,.slice ao3 n3 cap3,.slice a4 n4 c4,.map (some bm),.int .i64 (all:Int)] 57):=⟨_,rfl⟩;have hb1:Below w.heap.size w w1:=by rw[hw1];exact (Below.refl _ _).alloc (Nat.le_refl _) _
 have hbx:TkB w1 w.heap.size S (.slice ao n cap) (.slice ao2 n2 cap2) (.slice ao3 n3 cap3) (.slice a4 n4 c4) (.map (some bm)) (all:Int):=by rw[hw1];exact tkb_new w S _ _ _ _ _ _ 57
 have HW1:Hid (w1=w.alloc (Obj.cells #[.int .i64 S,.slice ao n cap,.slice ao2 n2 cap2,.slice ao3 n3 cap3,.slice a4 n4 c4,.map (some bm),.int .i64 (all:Int)] 57)):=hw1;have HB1:Hid (Below w.heap.size w w1):=hb1;have HTK:Hid (∀W,Below w1.heap.size w1 W→TskOK W (.slice ao n cap) (.slice ao2 n2 cap2) (.slice ao3 n3 cap3) (.slice a4 n4 c4) bm Ls Hs As ws D):=fun W h=>(hT.later hb1).later h
 have HBX:Hid (∀W,Below w1.heap.size w1 W→TkB W w.heap.size S (.slice ao n cap) (.slice ao2 n2 cap2) (.slice ao3 n3 cap3) (.slice a4 n4 c4) (.map (some bm)) (all:Int)):=fun W h=>hbx.later h
 have HP:Hid (PlOK S Ls Hs As Bs ws D):=hP;obtain⟨sf,hsf⟩:∃f,f=sfB Ls Hs As Bs ws:=⟨_,rfl⟩;have HSF:Hid (sfB Ls Hs As Bs ws=sf):=hsf.symm;rw[←hsf];obtain⟨R,hR⟩:∃R,R=fiS sf all done 6:=⟨_,rfl⟩;have HR:Hid (R=fiS sf all done 6):=hR;rw[←hR];have HD:Hid (done<64):=hd;obtain⟨Lf,hLf⟩:∃L,L=mnS all done:=⟨_,rfl⟩;have HLf:Hid (Lf=mnS all done):=hLf;have hm:bits .andNot .i64 (all:Int) (done:Int)=(Lf:Int):=by rw[hLf];exact bits_mn ha hd
 have HL64:Hid (Lf<64):=by show _<_;rw[hLf];exact mn_lt ha
 have c6:=hbx.c6;clear hT hb1 hbx hw1 hP ha hd hsf hR hLf;go_enter Tryz.func12,Tryz.ntmps12;go_upto_region 2 with fail;rw[←HW1.out];go_wp2;clear c6 hm
 go_loopw [5,7] (fun v i wr=>∃a:Nat,1≤a∧a≤7∧i=.int .i64 (a:Int)∧v=.int .i64 (fiS sf all done (a-1):Int)∧Below w1.heap.size w1 wr) (fun _ i _=>7-(intOf i).toNat)
 case atStart=>exact⟨1,by omega,by omega,rfl,rfl,Below.refl _ _⟩
 case round =>
  obtain⟨a,ha1,ha7,rfl,rfl,hB⟩:=hrel;obtain⟨wi,hwi⟩:∃X,X=wr:=⟨_,rfl⟩;subst hwi;have HB:Hid (Below w1.heap.size w1 wi):=hB;clear hB;by_cases hlt:a≤6
  ·have d1:(a:Int)≤6:=by omega
   obtain⟨s,hs⟩:∃s,s=fiS sf all done (a-1):=⟨_,rfl⟩;rw[←hs];have HS64:Hid (s<64):=by show _<_;rw[hs];exact fi_lt sf all done (a-1)
   have HNX:Hid (fiS sf all done a=if (inS Lf a&&sf done (s ||| onS a))=true then s ||| onS a else s):=show _=_ by
    obtain⟨k,rfl⟩:∃k,a=k+1:=⟨a-1,by omega⟩;rw[HLf.out,hs];rfl
   have HIN:Hid (∀b,1≤b→b≤6→inS s b=true→inS Lf b=true):=fun b h1 h2 h3=>by
    rw[HLf.out];rw[hs] at h3;exact (fi_in sf all done (a-1) (by omega) b h1 h2 h3).1
   obtain⟨O,hO⟩:∃O,O=onS a:=⟨_,rfl⟩;have HO:Hid (onS a=O):=hO.symm;have HO64:Hid (O<64):=by show _<_;rw[hO];exact on_lt ha1
   obtain⟨X,hX⟩:∃X,X=s ||| O:=⟨_,rfl⟩
   have HX:Hid (X=s ||| O):=hX;have hor:bits .or .i64 (s:Int) (O:Int)=(X:Int):=by rw[hX];exact bits_or HS64.out HO64.out
   rw[←hO,←hX] at HNX;have HON:Hid (∀W,Calls Tryz.prog 23 #[.int .i64 (a:Int)] W fun e w'=>e=.returned (.int .i64 (O:Int))∧w'=W):=fun W=>by rw[hO];exact only_any a W ha1 hlt
   have HHS:Hid (∀W,Calls Tryz.prog 25 #[.int .i64 (Lf:Int),.int .i64 (O:Int)] W fun e w'=>e=.returned (.bool (inS Lf a))∧w'=W):=fun W=>by rw[hO];exact setHas_on Lf a W HL64.out ha1 hlt
   have HCE:Hid (TC7 wi w.heap.size S (.slice ao n cap) (.slice ao2 n2 cap2) (.slice ao3 n3 cap3) (.slice a4 n4 c4) (.map (some bm)) (all:Int) wi):=(HBX.out wi HB.out).c7;have HX64:Hid (X<64):=by show _<_;rw[hX];exact or_lt HS64.out HO64.out
   clear hs hO hX;obtain⟨I,hI⟩:∃I,I=inS Lf a:=⟨_,rfl⟩;have HI:Hid (inS Lf a=I):=hI.symm;rw[←hI] at HNX HHS;clear hI;obtain⟨T,hT⟩:∃T,T=(I&&sf done X):=⟨_,rfl⟩;have HT:Hid ((I&&sf done X)=T):=hT.symm;rw[←hT] at HNX;clear hT;go_upto_region 6 with fail
   go_cut [28] from 16 to 28 (fun c w'=>c=.bool T∧Below wi.heap.size wi w')
   case first =>
    cases I with
    | true =>
      have HDJ:Hid (∀b,1≤b→b≤6→inS X b=true→inS done b=false):=fun b h1 h2 h3=>by
       have hl:inS Lf b=true:=by
        rw[HX.out,in_or,Bool.or_eq_true] at h3
        rcases h3 with h3 | h3
        ·exact HIN.out b h1 h2 h3
        rw[←HO.out,in_on h2 hlt] at h3;rw[of_decide_eq_true h3];exact HI.out
       rw[HLf.out,in_mn h1 h2] at hl;simp only[Bool.and_eq_true,Bool.not_eq_true'] at hl;exact hl.2
      have HT2:Hid (sf done X=T):=by have h:=HT.out;rw[Bool.true_and] at h;exact h
      refine wp_region_quiet (C:=TC7 wi w.heap.size S (.slice ao n cap) (.slice ao2 n2 cap2) (.slice ao3 n3 cap3) (.slice a4 n4 c4) (.map (some bm)) (all:Int)) (by kernel_rfl) (by kernel_rfl) (TC7.later (W:=wi) (Below.drew (Below.refl _ _)) HCE.out) ?_;simp only[List.toList_toArray];go_big_quiet_want;refine qv (.int .i64 (Lf:Int)) ?_ ?_
      ·rintro w' ⟨zb,z0,z1,z2,z3,z4,z5,z6⟩;go_simp
      simp only[Act.put,AP];go_big_quiet_on;go_big_quiet_want;refine qv (.int .i64 (a:Int)) ?_ ?_
      ·rintro w' ⟨zb,z0,z1,z2,z3,z4,z5,z6⟩;go_simp
      simp only[Act.put,AP];go_big_quiet_on;go_big_quiet_want;refine quiet_call (f:=23) (args:=#[.int .i64 (a:Int)]) (v:=.int .i64 (O:Int)) (fun w'=>?_) (fun w' hC=>(HON.out w').mono (fun e w2 h2=>⟨h2.1,by rw[h2.2];exact hC⟩)) ?_
      ·go_simp
      simp only[Act.put,AP];go_big_quiet_on;go_big_quiet_want;refine quiet_call (f:=25) (args:=#[.int .i64 (Lf:Int),.int .i64 (O:Int)]) (v:=.bool true) (fun w'=>?_) (fun w' hC=>(HHS.out w').mono (fun e w2 h2=>⟨h2.1,by rw[h2.2];exact hC⟩)) ?_
      ·go_simp
      simp only[Act.put,AP];go_big_quiet_on;go_big_quiet_want;refine qv (.bool true) ?_ ?_
      ·rintro w' ⟨zb,z0,z1,z2,z3,z4,z5,z6⟩;go_simp
      simp only[Act.put,AP];go_big_quiet_on;go_big_quiet_want;refine qv (.agg #[.int .i64 S,.slice ao n cap,.slice ao2 n2 cap2,.slice ao3 n3 cap3,.slice a4 n4 c4,.map (some bm),.int .i64 (all:Int)]) ?_ ?_
      ·rintro w' ⟨zb,z0,z1,z2,z3,z4,z5,z6⟩;go_simp
      simp only[Act.put,AP];go_big_quiet_on;go_big_quiet_want;refine qv (.int .i64 (done:Int)) ?_ ?_
      ·rintro w' ⟨zb,z0,z1,z2,z3,z4,z5,z6⟩;go_simp
      simp only[Act.put,AP];go_big_quiet_on;go_big_quiet_want;refine qv (.int .i64 (s:Int)) ?_ ?_
      ·rintro w' ⟨zb,z0,z1,z2,z3,z4,z5,z6⟩;go_simp
      simp only[Act.put,AP];go_big_quiet_on;go_big_quiet_want;refine qv (.int .i64 (a:Int)) ?_ ?_
      ·rintro w' ⟨zb,z0,z1,z2,z3,z4,z5,z6⟩;go_simp
      simp only[Act.put,AP];go_big_quiet_on;go_big_quiet_want;refine quiet_call (f:=23) (args:=#[.int .i64 (a:Int)]) (v:=.int .i64 (O:Int)) (fun w'=>?_) (fun w' hC=>(HON.out w').mono (fun e w2 h2=>⟨h2.1,by rw[h2.2];exact hC⟩)) ?_
      ·go_simp
      simp only[Act.put,AP];go_big_quiet_on;go_big_quiet_want;refine qv (.int .i64 (X:Int)) ?_ ?_
      ·rintro w' ⟨zb,z0,z1,z2,z3,z4,z5,z6⟩;go_simp
      simp only[Act.put,AP];go_big_quiet_on;go_big_quiet_want;refine quiet_call (f:=26) (args:=#[.agg #[.int .i64 S,.slice ao n cap,.slice ao2 n2 cap2,.slice ao3 n3 cap3,.slice a4 n4 c4,.map (some bm),.int .i64 (all:Int)],.int .i64 (done:Int),.int .i64 (X:Int)]) (v:=.bool T) (fun w'=>?_) (fun w' hC=>(isSafe_any S _ _ _ _ bm (all:Int) done X Ls Hs As Bs ws D w' (HTK.out w' (HB.out.trans (hC.1.mono HB.out.size))) HP.out HD.out HX64.out HDJ.out).mono (fun e w2 h2=>⟨by rw[h2.1,HSF.out,HT2.out],TC7.later h2.2 hC⟩)) ?_
      ·go_simp
      simp only[Act.put,AP];go_big_quiet_on;go_big_quiet_want;refine qv (.bool T) ?_ ?_
      ·rintro w' ⟨zb,z0,z1,z2,z3,z4,z5,z6⟩;go_simp
      simp only[Act.put,AP];go_big_quiet_on;refine wpQuiet_nil ?_;intro w' hC;have HBY:Hid (Below wi.heap.size wi w'):=hC.1;clear hC
      go_wp2_with fail
      go_meet
      case rel=>exact⟨rfl,HBY.out⟩
    | false =>
      have hT:false=T:=HT.out;subst hT;refine wp_region_quiet (C:=TC7 wi w.heap.size S (.slice ao n cap) (.slice ao2 n2 cap2) (.slice ao3 n3 cap3) (.slice a4 n4 c4) (.map (some bm)) (all:Int)) (by kernel_rfl) (by kernel_rfl) (TC7.later (W:=wi) (Below.drew (Below.refl _ _)) HCE.out) ?_;simp only[List.toList_toArray];go_big_quiet_want;refine qv (.int .i64 (Lf:Int)) ?_ ?_
      ·rintro w' ⟨zb,z0,z1,z2,z3,z4,z5,z6⟩;go_simp
      simp only[Act.put,AP];go_big_quiet_on;go_big_quiet_want;refine qv (.int .i64 (a:Int)) ?_ ?_
      ·rintro w' ⟨zb,z0,z1,z2,z3,z4,z5,z6⟩;go_simp
      simp only[Act.put,AP];go_big_quiet_on;go_big_quiet_want;refine quiet_call (f:=23) (args:=#[.int .i64 (a:Int)]) (v:=.int .i64 (O:Int)) (fun w'=>?_) (fun w' hC=>(HON.out w').mono (fun e w2 h2=>⟨h2.1,by rw[h2.2];exact hC⟩)) ?_
      ·go_simp
      simp only[Act.put,AP];go_big_quiet_on;go_big_quiet_want;refine quiet_call (f:=25) (args:=#[.int .i64 (Lf:Int),.int .i64 (O:Int)]) (v:=.bool false) (fun w'=>?_) (fun w' hC=>(HHS.out w').mono (fun e w2 h2=>⟨h2.1,by rw[h2.2];exact hC⟩)) ?_
      ·go_simp
      simp only[Act.put,AP];go_big_quiet_on;go_big_quiet_want;refine qv (.bool false) ?_ ?_
      ·rintro w' ⟨zb,z0,z1,z2,z3,z4,z5,z6⟩;go_simp
      simp only[Act.put,AP];go_big_quiet_on;go_big_quiet_skip;go_big_quiet_skip;go_big_quiet_skip;go_big_quiet_skip;go_big_quiet_skip;go_big_quiet_skip;go_big_quiet_skip;go_big_quiet_want;refine qv (.bool false) ?_ ?_
      ·rintro w' ⟨zb,z0,z1,z2,z3,z4,z5,z6⟩;go_simp
      simp only[Act.put,AP];go_big_quiet_on;refine wpQuiet_nil ?_;intro w' hC;have HBY:Hid (Below wi.heap.size wi w'):=hC.1;clear hC
      go_wp2_with fail
      go_meet
      case rel=>exact⟨rfl,HBY.out⟩
   case rest =>
    obtain⟨rfl,hb2⟩:=hcut;obtain⟨w2,hw2⟩:∃X,X=wc:=⟨_,rfl⟩;subst hw2;have HB2:Hid (Below w1.heap.size w1 w2):=HB.out.trans (hb2.mono HB.out.size);clear hb2;cases T with
    | true =>
      have HN2:Hid (fiS sf all done a=X):=HNX.out.trans (by simp)
      go_wp2_with fail
      refine (HON.out w2).mono ?_;rintro e w3 ⟨rfl,hw3⟩;have hw3:=hw3.symm;subst hw3;go_wp2;go_roundw
      case rel=>exact⟨a+1,by omega,by omega,by go_num,by rw[show a+1-1=a from rfl,HN2.out],HB2.out⟩
      case measure=>simp[intOf];omega
    | false =>
      have HN2:Hid (fiS sf all done a=s):=HNX.out.trans (by simp);go_wp2;go_roundw
      case rel=>exact⟨a+1,by omega,by omega,by go_num,by rw[show a+1-1=a from rfl,HN2.out],HB2.out⟩
      case measure=>simp[intOf];omega
  obtain rfl:a=7:=by omega
  have HBW:Hid (Below w.heap.size w wi):=HB1.out.trans (HB.out.mono HB1.out.size);go_wp2;go_ret;exact⟨by rw[HR.out];rfl,HBW.out⟩
theorem GS.off {α:Type}{E:Enc α}{w:World}{x:SlT}{L:List α}(h:GS E w (slV x) L){b:Nat}(hb:w.heap.size≤b):offB x b:=by
 obtain⟨ao,n,cap⟩:=x
 rcases h with ⟨ao',cap',e,rfl⟩ | ⟨g,o,cap',e,h1,h2,h3⟩
 ·simp only[slV,Value.slice.injEq] at e;exact .inl e.2.1
 simp only[slV,Value.slice.injEq] at e;obtain⟨rfl,rfl,rfl⟩:=e;by_cases h0:L.length=0
 ·exact .inl h0
 refine .inr fun a ha=>?_
 cases ha;have hp:=E.pos;have hl:=E.len L[0];have hc:=h3 0 (by omega) 0 _ (List.getElem?_eq_getElem (by rw[hl];exact hp));have:=bLQ _ _ hc;show g≠b;have:g<w.heap.size:=this;omega
theorem GS.grown {α:Type}{E:Enc α}{w w':World}{x:SlT}{L:List α}{row:Option Nat}(h:GS E w (slV x) L)(hg:w.grownBy w' row)(ho:∀b,row=some b→offB x b):GS E w' (slV x) L:=by
 obtain⟨ao,n,cap⟩:=x
 rcases h with ⟨ao',cap',e,rfl⟩ | ⟨g,o,cap',e,h1,h2,h3⟩
 ·exact .inl ⟨ao',cap',e,rfl⟩
 simp only[slV,Value.slice.injEq] at e;obtain⟨rfl,rfl,rfl⟩:=e;by_cases h0:L.length=0
 ·exact .inl ⟨_,_,by rw[slV,h0],List.length_eq_zero_iff.1 h0⟩
 have hne:some g≠row:=by
  intro e
  rcases ho g e.symm with h4 | h4
  ·exact h0 h4
  exact h4 _ rfl rfl
 exact .inr ⟨g,o,cap,rfl,h1,h2,fun i hi j u hu=>hg.cell (h3 i hi j u hu) hne⟩
def RS (w:World)(v:Value)(Rs:List (List Op8)):Prop:=∃vs:List SlT,GS slE w v vs∧vs.length=Rs.length∧∀(i:Nat) (x:SlT) (L:List Op8),vs[i]?=some x→Rs[i]?=some L→GS opE w (slV x) L
theorem RS.later {w w':World}{v:Value}{Rs:List (List Op8)}(h:RS w v Rs)(hb:Below w.heap.size w w'):RS w' v Rs:=by
 obtain⟨vs,h1,h2,h3⟩:=h;exact⟨vs,h1.later hb,h2,fun i x L a b=>(h3 i x L a b).later hb⟩
theorem RS.nil (w:World):RS w (.slice none 0 0) []:=⟨[],GS.nil _,rfl,fun i x L h=>by simp at h⟩
theorem RS.at {w:World}{ao:Option Addr}{n cap:Nat}{Rs:List (List Op8)}(h:RS w (.slice ao n cap) Rs){i:Nat}(hi:i<n):∃(g o:Nat) (L:List Op8) (a1:Option Addr) (n1 c1:Nat),ao=some ⟨g,o,none⟩∧Rs[i]?=some L∧w.cell? ⟨g,o+i,none⟩=some (.slice a1 n1 c1)∧GS opE w (.slice a1 n1 c1) L:=by
 obtain⟨vs,h1,h2,h3⟩:=h;obtain⟨_,_,_,e,hn,_,_,ha⟩:=h1.form;cases e;obtain⟨g,o,rfl,hat,_⟩:=ha (by omega);have hv:i<vs.length:=by omega
 have hr:i<Rs.length:=by omega
 have hc:=hat i hv 0 _ rfl;have e2:o+i*slE.n+0=o+i:=by show o+i*1+0=o+i;omega
 rw[e2] at hc;exact⟨g,o,Rs[i],vs[i].1,vs[i].2.1,vs[i].2.2,rfl,List.getElem?_eq_getElem hr,hc,h3 i vs[i] Rs[i] (List.getElem?_eq_getElem hv) (List.getElem?_eq_getElem hr)⟩
theorem RS.len {w:World}{ao:Option Addr}{n cap:Nat}{Rs:List (List Op8)}(h:RS w (.slice ao n cap) Rs):Rs.length=n:=by
 obtain⟨vs,h1,h2,_⟩:=h;obtain⟨_,_,_,e,hn,_⟩:=h1.form;cases e;omega
theorem RS.form {w:World}{v:Value}{Rs:List (List Op8)}(h:RS w v Rs):∃ao n cap,v=.slice ao n cap∧Rs.length=n∧n≤maxLen∧n≤cap:=by
 obtain⟨vs,h1,h2,_⟩:=h;obtain⟨ao,n,cap,e,hn,h3,h4,_⟩:=h1.form;exact⟨ao,n,cap,e,by omega,h3,h4⟩
structure OR (w:World)(B:Nat)(v:Value)(vs:List SlT)(Rs:List (List Op8)):Prop where
 ov:w.ownsRow B 46 slE.n v vs.length (cellsG slE vs)
 lv:vs.length=Rs.length
 rv:∀(i:Nat) (x:SlT) (L:List Op8),vs[i]?=some x→Rs[i]?=some L→GS opE w (slV x) L∧∀b,v.ownBlock=some b→offB x b
section
variable {w w':World}{B:Nat}{v:Value}{vs:List SlT}{Rs:List (List Op8)}
theorem or_nil (w:World)(B:Nat):OR w B (.slice none 0 0) [] []:=⟨World.ownsRow_nil w B _ slE.n,rfl,fun i x L h=>by simp at h⟩
theorem OR.later (h:OR w B v vs Rs)(hb:Below w.heap.size w w'):OR w' B v vs Rs:=
 ⟨h.ov.kept (grown_below hb) (none_or _),h.lv,fun i x L h1 h2=>⟨(h.rv i x L h1 h2).1.later hb,(h.rv i x L h1 h2).2⟩⟩
theorem OR.rs (h:OR w B v vs Rs):RS w v Rs:=⟨vs,own_GS h.ov,h.lv,fun i x L a b=>(h.rv i x L a b).1⟩
theorem OR.push (h:OR w B v vs Rs){x:SlT}{L:List Op8}(hx:GS opE w (slV x) L){v':Value}(hox:∀b,v.ownBlock=some b→offB x b)
 (hg:w.grownBy w' v.ownBlock) (ho:w'.ownsRow B 46 slE.n v' (vs++[x]).length (cellsG slE (vs++[x]))) (hb:v'.ownBlock=v.ownBlock∨v'.ownBlock=some w.heap.size):OR w' B v' (vs++[x]) (Rs++[L]):=by
 have one:∀{y:SlT} {M:List Op8},GS opE w (slV y) M→(∀b,v.ownBlock=some b→offB y b)→GS opE w' (slV y) M∧∀b,v'.ownBlock=some b→offB y b:=by
  intro y M h1 h2;refine⟨h1.grown hg h2,fun b hv=>?_⟩
  rcases hb with hb | hb
  ·exact h2 b (by rw[←hb];exact hv)
  rw[hb] at hv;cases hv;exact h1.off (Nat.le_refl _)
 refine⟨ho,by simp[h.lv],fun i y M h1 h2=>?_⟩;by_cases hi:i<vs.length
 ·rw[List.getElem?_append_left hi] at h1;rw[List.getElem?_append_left (by rw[←h.lv];exact hi)] at h2;obtain⟨a1,a2⟩:=h.rv i y M h1 h2;exact one a1 a2
 have hi2:i=vs.length:=by
  have:=(List.getElem?_eq_some_iff.1 h1).1;simp at this;omega
 subst hi2;simp at h1;rw[h.lv] at h2;simp at h2;subst h1 h2;exact one hx hox
theorem NO.sl2 {w:World}{B:Nat}{v:Value}{L:List Op8}(h:NO w B v L):∃x:SlT,v=slV x∧∀b,b<B→offB x b:=by
 rcases h.2 with ⟨h3,_⟩ | ⟨g,cap,cur,h3,hb,_⟩
 ·exact⟨(none,0,0),h3,fun b _=>.inl rfl⟩
 refine⟨(some ⟨g,0,none⟩,L.length,cap),h3,fun b hlt=>.inr fun a ha=>?_⟩;cases ha;show g≠b;omega
end
theorem rd_info:(Tryz.prog.info? 46).map (fun i=>(i.zero,i.size,i.bytes))=some (some (.slice none 0 0),1,24):=by kernel_rfl
def rsN (o:Option (List Nat)):Int:=if o.isNone then 9 else 0
def rsL (D:List Op8)(o:Option (List Nat)):List (List Op8):=(o.getD []).map (rnL D)
theorem rounds_fill (S:Int)(v1 v2 v3 v4:Value)(bm all:Nat)(Ls:List LkT)(Hs:List HoT)(As Bs:List (List Ru))(ws:List Wi)(D:List Op8)(w:World)
 (hT:TskOK w v1 v2 v3 v4 bm Ls Hs As ws D) (hP:PlOK S Ls Hs As Bs ws D) (ha:all<64):
 Calls Tryz.prog 11 #[.agg #[.int .i64 S,v1,v2,v3,v4,.map (some bm),.int .i64 (all:Int)],.func (Fn.func 12) #[.agg #[.int .i64 S,v1,v2,v3,v4,.map (some bm),.int .i64 (all:Int)]] #[]] w fun e w'=>∃v,e=.returned (.tuple #[v,noV (rsN (roA all (fun done=>fiS (sfB Ls Hs As Bs ws) all done 6) 0))])∧RS w' v (rsL D (roA all (fun done=>fiS (sfB Ls Hs As Bs ws) all done 6) 0))∧Below w.heap.size w w':=by
 obtain⟨ao,n,cap,ao2,n2,cap2,ao3,n3,cap3,rfl,rfl,rfl⟩:=hT.n.form;obtain⟨a4,n4,c4,rfl,_⟩:=hT.w.form;obtain⟨w1,hw1⟩:∃W,W=w.alloc (Obj.cells #[.int .i64 S,.slice ao n cap,.slice ao2 n2 cap2,.slice ao3 n3 cap3,.slice a4 n4 c4,.map (some bm),.int .i64 (all:Int)] 57):=⟨_,rfl⟩;have hb1:Below w.heap.size w w1:=by rw[hw1];exact (Below.refl _ _).alloc (Nat.le_refl _) _
 have hbx:TkB w1 w.heap.size S (.slice ao n cap) (.slice ao2 n2 cap2) (.slice ao3 n3 cap3) (.slice a4 n4 c4) (.map (some bm)) (all:Int):=by rw[hw1];exact tkb_new w S _ _ _ _ _ _ 57
 have HW1:Hid (w1=w.alloc (Obj.cells #[.int .i64 S,.slice ao n cap,.slice ao2 n2 cap2,.slice ao3 n3 cap3,.slice a4 n4 c4,.map (some bm),.int .i64 (all:Int)] 57)):=hw1;have HB1:Hid (Below w.heap.size w w1):=hb1;have HTK:Hid (∀W,Below w1.heap.size w1 W→TskOK W (.slice ao n cap) (.slice ao2 n2 cap2) (.slice ao3 n3 cap3) (.slice a4 n4 c4) bm Ls Hs As ws D):=fun W h=>(hT.later hb1).later h
 have HBX:Hid (∀W,Below w1.heap.size w1 W→TkB W w.heap.size S (.slice ao n cap) (.slice ao2 n2 cap2) (.slice ao3 n3 cap3) (.slice a4 n4 c4) (.map (some bm)) (all:Int)):=fun W h=>hbx.later h
 have HP:Hid (PlOK S Ls Hs As Bs ws D):=hP;obtain⟨nx,hnx⟩:∃f,f=fun done=>fiS (sfB Ls Hs As Bs ws) all done 6:=⟨_,rfl⟩
 have HNX:Hid (∀done,fiS (sfB Ls Hs As Bs ws) all done 6=nx done):=fun done=>by rw[hnx]
 have HOK:Hid (NxOK all nx):=by show NxOK all nx;rw[hnx];exact nx_fi _ _
 rw[←hnx];obtain⟨RO,hRO⟩:∃R,R=roA all nx 0:=⟨_,rfl⟩;have HRO:Hid (roA all nx 0=RO):=hRO.symm;rw[←hRO];have HA:Hid (all<64):=ha;have HFC:Hid (∀W (done:Nat),done<64→Below w1.heap.size w1 W→Calls Tryz.prog 12 #[.agg #[.int .i64 S,.slice ao n cap,.slice ao2 n2 cap2,.slice ao3 n3 cap3,.slice a4 n4 c4,.map (some bm),.int .i64 (all:Int)],.int .i64 (done:Int)] W fun e w'=>e=.returned (.int .i64 (nx done:Int))∧Below W.heap.size W w'):=fun W done hd hW=>by
  refine (fill_any S _ _ _ _ bm all done Ls Hs As Bs ws D W (HTK.out W hW) hP ha hd).mono ?_;rintro e w' ⟨rfl,hb⟩;exact⟨by rw[HNX.out],hb⟩
 obtain⟨i0,hi,hz0,hz1,hz2⟩:=info_parts rd_info;have HI:Hid (Tryz.prog.info? 46=some i0∧i0.zero=some (.slice none 0 0)∧i0.size=slE.n∧i0.bytes=24):=⟨hi,hz0,hz1,hz2⟩;clear hT hb1 hbx hw1 hP ha hnx hRO hi hz0 hz1 hz2;go_enter Tryz.func11,Tryz.ntmps11;go_wp2;rw[←HW1.out]
 go_loopw [6,7] (fun v i wr=>∃(done:Nat) (L:List Nat) (vs:List SlT),done<64∧(∀a,1≤a→a≤6→inS done a=true→inS all a=true)∧L.length+lfN all done≤6∧RO=(roA all nx done).map (L++·)∧i=.int .i64 (done:Int)∧OR wr w1.heap.size v vs (L.map (rnL D))∧Below w1.heap.size w1 wr) (fun _ i _=>lfN all (intOf i).toNat)
 case atStart=>exact⟨0,[],[],by omega,(fun a _ _ h=>absurd h (by rw[in_0];decide)),(by have:=lf_le all 0;simpa using this),by rw[←HRO.out];simp,rfl,or_nil _ _,Below.refl _ _⟩
 case round =>
  obtain⟨done,L,vs,hd,hsub,hlen,hro,rfl,hOR,hB⟩:=hrel;obtain⟨wi,hwi⟩:∃X,X=wr:=⟨_,rfl⟩;subst hwi;have HB:Hid (Below w1.heap.size w1 wi):=hB;have HOR:Hid (OR wi w1.heap.size u6 vs (L.map (rnL D))):=hOR;have HSUB:Hid (∀a,1≤a→a≤6→inS done a=true→inS all a=true):=hsub;have HLEN:Hid (L.length+lfN all done≤6):=hlen;have HRL:Hid (RO=(roA all nx done).map (L++·)):=hro;have HD:Hid (done<64):=hd;have c6:=(HBX.out wi hB).c6;have HCC:Hid (∀W,Below wi.heap.size wi W→TkB W w.heap.size S (.slice ao n cap) (.slice ao2 n2 cap2) (.slice ao3 n3 cap3) (.slice a4 n4 c4) (.map (some bm)) (all:Int)):=fun W h=>(HBX.out wi hB).later h
  clear hB hOR hsub hlen hro hd;by_cases hda:done=all
  ·have hq:((done:Int)==(all:Int))=true:=by rw[hda];simp
   have HBW:Hid (Below w.heap.size w wi):=HB1.out.trans (HB.out.mono HB1.out.size);have HRE:Hid (RO=some L):=by
    have h:=HRL.out;rw[hda,ro_end] at h;show RO=some L;simpa using h
   clear hda;go_wp2;refine bodyPost_ret (v:=.tuple #[u6,.nilIface]) (by simp[results,Tryz.results11,go_sem, *]) rfl ⟨u6,by rw[HRE.out];rfl,by rw[HRE.out];exact HOR.out.rs,HBW.out⟩
  have hq:((done:Int)==(all:Int))=false:=by rw[beq_eq_false_iff_ne];omega
  have HNE:Hid (done≠all):=hda;clear hda
  go_wp2_with fail
  refine (HFC.out wi done HD.out HB.out).mono ?_;rintro e w2 ⟨rfl,hb2⟩;obtain⟨s,hs⟩:∃s,s=nx done:=⟨_,rfl⟩;rw[←hs];have HS:Hid (nx done=s):=hs.symm;have HS64:Hid (s<64):=by show _<_;rw[hs];exact (HOK.out done).1
  have HB2:Hid (Below wi.heap.size wi w2):=hb2;have HB12:Hid (Below w1.heap.size w1 w2):=HB.out.trans (hb2.mono HB.out.size);clear hb2 hs c6;by_cases h0:s=0
  ·have HRE:Hid (RO=none):=by
    have h:=HRL.out;rw[ro_none HNE.out (HS.out.trans h0)] at h;exact h
   have HBW:Hid (Below w.heap.size w w2):=HB1.out.trans (HB12.out.mono HB1.out.size);subst h0;go_wp2;refine bodyPost_ret (v:=.tuple #[.slice none 0 0,.iface 63 (.int .i64 9)]) (by simp[results,Tryz.results11,go_sem, *]) rfl ⟨.slice none 0 0,by rw[HRE.out];rfl,by rw[HRE.out];exact RS.nil _,HBW.out⟩
  have hq0:((s:Int)==0)=false:=by rw[beq_eq_false_iff_ne];omega
  have HN0:Hid (s≠0):=h0;have HRD:Hid (Calls Tryz.prog 24 #[.agg #[.int .i64 S,.slice ao n cap,.slice ao2 n2 cap2,.slice ao3 n3 cap3,.slice a4 n4 c4,.map (some bm),.int .i64 (all:Int)],.int .i64 (s:Int)] w2 fun e w'=>∃v,e=.returned v∧NO w' w2.heap.size v (rnL D s)∧Below w2.heap.size w2 w'):=pround_any S _ _ _ _ bm (all:Int) s Ls Hs As ws D w2 (HTK.out w2 HB12.out) HS64.out (by have:=HP.out.few;omega);obtain⟨x0,x1,x2,x3,x4,x5,x6,_⟩:=HCC.out w2 HB2.out;clear h0
  go_wp2_with fail
  refine HRD.out.mono ?_;rintro e w3 ⟨v,rfl,hNO,hb3⟩;obtain⟨⟨a5,n5,c5⟩,hv,hoff⟩:=hNO.sl2
  replace hv:v=.slice a5 n5 c5:=hv
  subst hv;have hal:Below w3.heap.size w3 (w3.alloc (Obj.cells #[.slice a5 n5 c5] 46)):=(Below.refl _ _).alloc (Nat.le_refl _) _;have h2a:Below w2.heap.size w2 (w3.alloc (Obj.cells #[.slice a5 n5 c5] 46)):=hb3.trans (hal.mono hb3.size);have HB4:Hid (Below w1.heap.size w1 (w3.alloc (Obj.cells #[.slice a5 n5 c5] 46))):=HB12.out.trans (h2a.mono HB12.out.size);have HOR4:Hid (OR (w3.alloc (Obj.cells #[.slice a5 n5 c5] 46)) w1.heap.size u6 vs (L.map (rnL D))):=(HOR.out.later HB2.out).later h2a;have HGX:Hid (GS opE (w3.alloc (Obj.cells #[.slice a5 n5 c5] 46)) (slV (a5,n5,c5)) (rnL D s)):=(hNO.later hal).gs;have HOX:Hid (∀b,u6.ownBlock=some b→offB (a5,n5,c5) b):=fun b hb=>hoff b (Nat.lt_of_lt_of_le (HOR.out.ov.lt b hb).2 HB2.out.size)
  have HVA:Hid (VAt (w3.alloc (Obj.cells #[.slice a5 n5 c5] 46)) w3.heap.size 0 (slE.c (a5,n5,c5))):=vat_new w3 [.slice a5 n5 c5] 46;have HV6:Hid (vs.length≤6):=by
   have h1:=HOR.out.lv;have h2:=HLEN.out;rw[List.length_map] at h1;show _≤_;omega
  have HL1:Hid (vs.length+1≤maxLen):=by have:=HV6.out;show _≤_;unfold maxLen;omega
  have HL2:Hid ((vs.length+1)*24≤140737488355328):=by have:=HV6.out;show _≤_;omega
  clear hNO hb3 hoff hal h2a x0 x1 x2 x3 x4 x5 x6
  go_wp2_with (at_builtin;refine wpList_append_blk (E:=slE) _ rfl _ _ 40 46 rfl Tryz.underlying40 i0 (.slice none 0 0) 24 HI.out.1 HI.out.2.1 HI.out.2.2.1 HI.out.2.2.2 rfl w1.heap.size u6 rfl vs HOR4.out.ov w3.heap.size 0 1 rfl (a5,n5,c5) HVA.out HL1.out HL2.out HB4.out.size ?_)
  intro v5 w5 ho5 hg5 hl5;have HOR5:Hid (OR w5 w1.heap.size v5 (vs++[(a5,n5,c5)]) ((L++[s]).map (rnL D))):=by
   rw[List.map_append];exact HOR4.out.push HGX.out HOX.out hg5 (by rw[List.length_append];exact ho5) (by simpa using hl5)
  have HB5:Hid (Below w1.heap.size w1 w5):=HB4.out.trans (below_grown hg5 HB4.out.size (fun b hb=>(HOR.out.ov.lt b hb).1));obtain⟨X,hX⟩:∃X,X=done ||| s:=⟨_,rfl⟩
  have hor:bits .or .i64 (done:Int) (s:Int)=(X:Int):=by rw[hX];exact bits_or HD.out HS64.out
  have HX:Hid (X=done ||| s):=hX;clear ho5 hg5 hl5 hX;go_wp2;go_roundw
  case rel =>
   have hin:∀a,1≤a→a≤6→inS s a=true→inS (mnS all done) a=true:=fun a h1 h2 h3=>(HOK.out done).2 a h1 h2 (by rw[HS.out];exact h3)
   have hless:=lf_less (all:=all) (done:=done) HS64.out HN0.out hin;refine⟨X,L++[s],vs++[(a5,n5,c5)],by rw[HX.out];exact or_lt HD.out HS64.out,fun a h1 h2 h3=>?_,?_,?_,rfl,HOR5.out,HB5.out⟩
   ·rw[HX.out,in_or,Bool.or_eq_true] at h3
    rcases h3 with h3 | h3
    ·exact HSUB.out a h1 h2 h3
    have h4:=hin a h1 h2 h3;rw[in_mn h1 h2] at h4;simp only[Bool.and_eq_true] at h4;exact h4.1
   ·have:=HLEN.out;rw[List.length_append,HX.out];simp only[List.length_cons,List.length_nil];omega
   rw[HRL.out,ro_step HOK.out HA.out HD.out HSUB.out HNE.out (by rw[HS.out];exact HN0.out),HS.out,HX.out,Option.map_map]
   congr 1
   funext l
   simp
  case measure =>
   have hin:∀a,1≤a→a≤6→inS s a=true→inS (mnS all done) a=true:=fun a h1 h2 h3=>(HOK.out done).2 a h1 h2 (by rw[HS.out];exact h3)
   have hless:=lf_less (all:=all) (done:=done) HS64.out HN0.out hin;simp only[intOf,Int.toNat_natCast];rw[HX.out];exact hless
end
end Go.Proofs.YtiokpmlhmlcojaaGreat
