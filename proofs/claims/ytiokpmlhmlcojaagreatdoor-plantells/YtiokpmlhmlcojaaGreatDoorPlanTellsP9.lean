/- Contracts and facts on the way to PlanTells, joined into one text: RefGo, RefFrom, StLeg, MixLegs, MixWalkMath, SlHopF, WishFits. -/
import Derived.Test.YtiokpmlhmlcojaaGreatDoorPlanTellsP8
namespace Go.Proofs.YtiokpmlhmlcojaaGreatDoor
set_option linter.unusedSimpArgs false
set_option linter.unusedVariables false
set_option maxHeartbeats 16000000
set_option maxRecDepth 100000
section
open Go.RowKit
theorem go_drewN (w:World)(n:Nat):Below w.heap.size w (w.drewN n):=⟨rfl,rfl,rfl,Nat.le_refl _,fun _ _=>rfl⟩
def gnF (Ls:LkQ)(Hs:HoQ)(t:List Ru)(l:HpQ):(Int×ByteArray×HpQ)×Bool:=
 match goE Ls Hs t l (laH l) with
 | .inl e=>((e.1,e.2,l),false)
 | .inr q=>((0,ByteArray.empty,l++[q]),true)
section
variable {Ls:LkQ}{Hs:HoQ}{t:List Ru}{l:HpQ}{q:(Int×Int)×Int}
theorem gn_2 (h:stT t (laH l)=none):gnF Ls Hs t l=((2,ByteArray.empty,l),false):=by
 have e:goE Ls Hs t l (laH l)=.inl (2,ByteArray.empty):=by
  unfold goE;rw[h]
 unfold gnF;rw[e]
theorem gn_1 (h:stT t (laH l)=some q){m:ByteArray}(ha:atO Hs q.1=some m):gnF Ls Hs t l=((1,m,l),false):=by
 have e:goE Ls Hs t l (laH l)=.inl (1,m):=by
  unfold goE;rw[h];simp only[ha]
 unfold gnF;rw[e]
theorem gn_3 (h:stT t (laH l)=some q)(ha:atO Hs q.1=none)(hp:peerO Ls q.1=none):gnF Ls Hs t l=((3,ByteArray.empty,l),false):=by
 have e:goE Ls Hs t l (laH l)=.inl (3,ByteArray.empty):=by
  unfold goE;rw[h];simp only[ha,hp]
 unfold gnF;rw[e]
theorem gn_4 (h:stT t (laH l)=some q)(ha:atO Hs q.1=none){s:Int×Int}(hp:peerO Ls q.1=some s)(h4:l.length=24∨(l.any fun x=>heB (s,q.2) x)=true):gnF Ls Hs t l=((4,ByteArray.empty,l),false):=by
 have e:goE Ls Hs t l (laH l)=.inl (4,ByteArray.empty):=by
  unfold goE;rw[h];simp only[ha,hp];rw[if_pos h4]
 unfold gnF;rw[e]
theorem gn_n (h:stT t (laH l)=some q)(ha:atO Hs q.1=none){s:Int×Int}(hp:peerO Ls q.1=some s)(h4:l.length≠24)(h5:(l.any fun x=>heB (s,q.2) x)=false):gnF Ls Hs t l=((0,ByteArray.empty,l++[(s,q.2)]),true):=by
 have e:goE Ls Hs t l (laH l)=.inr (s,q.2):=by
  unfold goE;rw[h];simp only[ha,hp];rw[if_neg];rw[not_or,h5];exact⟨h4,by simp⟩
 unfold gnF;rw[e]
end
theorem he_sy (a b:(Int×Int)×Int):heB a b=hopB b a:=by
 rw[Bool.eq_iff_iff,heB_iff,hopB_iff];exact eq_comm
structure GB (w W:World)(S:Int)(v1 v2 u:Value):Prop where
 below:Below w.heap.size w W
 t:TBox W w.heap.size S v1 v2
 f0:W.cell? ⟨w.heap.size+1,0,none⟩=some (.int .i64 0)
 f1:W.cell? ⟨w.heap.size+1,1,none⟩=some (.string ⟨#[]⟩)
 f2:W.cell? ⟨w.heap.size+1,2,none⟩=some u
 ff:∀i,W.frozen? ⟨w.heap.size+1,i,none⟩=false
 r0:W.cell? ⟨w.heap.size+1+1,0,none⟩=some (.int .i64 0)
 r1:W.cell? ⟨w.heap.size+1+1,1,none⟩=some (.string ⟨#[]⟩)
 r2:W.cell? ⟨w.heap.size+1+1,2,none⟩=some (.slice none 0 0)
 rf:∀i,W.frozen? ⟨w.heap.size+1+1,i,none⟩=false
theorem GB.lt {w W:World}{S:Int}{v1 v2 u:Value}(k:GB w W S v1 v2 u):w.heap.size+3≤W.heap.size:=bLQ W ⟨w.heap.size+1+1,0,none⟩ k.r0
theorem GB.later {w W W':World}{S:Int}{v1 v2 u:Value}(k:GB w W S v1 v2 u){B:Nat}(hB:w.heap.size+3≤B)(hb:Below B W W'):GB w W' S v1 v2 u:=
 have hc:∀(g i:Nat) (x:Value),g<w.heap.size+3→W.cell? ⟨g,i,none⟩=some x→W'.cell? ⟨g,i,none⟩=some x:=fun g i x hg e=>(hb.cell (p:=⟨g,i,none⟩) (show g<B by omega)).trans e
 ⟨k.below.trans (hb.mono (by omega)),⟨hc _ _ _ (by omega) k.t.1,hc _ _ _ (by omega) k.t.2.1,hc _ _ _ (by omega) k.t.2.2⟩,hc _ _ _ (by omega) k.f0,hc _ _ _ (by omega) k.f1,hc _ _ _ (by omega) k.f2,fun i=>(hb.frozen (p:=⟨w.heap.size+1,i,none⟩) (show w.heap.size+1<B by omega)).trans (k.ff i),hc _ _ _ (by omega) k.r0,hc _ _ _ (by omega) k.r1,hc _ _ _ (by omega) k.r2,fun i=>(hb.frozen (p:=⟨w.heap.size+1+1,i,none⟩) (show w.heap.size+1+1<B by omega)).trans (k.rf i)⟩
theorem gb_new (w:World)(S:Int)(v1 v2 u:Value):GB w (((w.alloc (Obj.cells #[.int .i64 S,v1,v2] 25)).alloc (Obj.cells #[.int .i64 0,.string ⟨#[]⟩,u] 83)).alloc (Obj.cells #[.int .i64 0,.string ⟨#[]⟩,.slice none 0 0] 83)) S v1 v2 u:=by
 have hb:∀(W:World) (o:Obj),Below W.heap.size W (W.alloc o):=fun W o=>(Below.refl _ _).alloc (Nat.le_refl _) _
 have ht:=tbox_new w S v1 v2 25;have e1:(w.alloc (Obj.cells #[.int .i64 S,v1,v2] 25)).heap.size=w.heap.size+1:=by simp
 have b1:=hb w (Obj.cells #[.int .i64 S,v1,v2] 25)
 generalize w.alloc (Obj.cells #[.int .i64 S,v1,v2] 25)=A at ht e1 b1
 have hf:=vat_new A [.int .i64 0,.string ⟨#[]⟩,u] 83;have zf:=froz_new2 A #[.int .i64 0,.string ⟨#[]⟩,u] 83;have e2:(A.alloc (Obj.cells #[.int .i64 0,.string ⟨#[]⟩,u] 83)).heap.size=w.heap.size+1+1:=by simp[e1]
 have b2:=hb A (Obj.cells #[.int .i64 0,.string ⟨#[]⟩,u] 83);rw[e1] at hf zf
 generalize A.alloc (Obj.cells #[.int .i64 0,.string ⟨#[]⟩,u] 83)=C at hf zf e2 b2
 have hr:=vat_new C [.int .i64 0,.string ⟨#[]⟩,.slice none 0 0] 83;have zr:=froz_new2 C #[.int .i64 0,.string ⟨#[]⟩,.slice none 0 0] 83;have b3:=hb C (Obj.cells #[.int .i64 0,.string ⟨#[]⟩,.slice none 0 0] 83);rw[e2] at hr zr;have hf':=hf.later b3;exact⟨(b1.trans (b2.mono (by omega))).trans (b3.mono (by omega)),(ht.later b2).later b3,hf' 0 _ rfl,hf' 1 _ rfl,hf' 2 _ rfl,fun i=>(b3.frozen (p:=⟨w.heap.size+1,i,none⟩) (show w.heap.size+1<C.heap.size by omega)).trans (zf i),hr 0 _ rfl,hr 1 _ rfl,hr 2 _ rfl,zr⟩
theorem rgo_any (S:Int)(ao:Option Addr)(n cap:Nat)(ao2:Option Addr)(n2 cap2:Nat)(a4:Option Addr)(n4 c4:Nat)(ao5:Option Addr)(m cap5:Nat)(Ls:LkQ)(Hs:HoQ)(t:List Ru)(l:HpQ)(w:World)
 (hL:GS lnkE w (.slice ao n cap) Ls) (hH:GS hstE w (.slice ao2 n2 cap2) Hs) (hS:SR w (.slice a4 n4 c4) t) (hG:GS hopE w (.slice ao5 m cap5) l) (ht:tbN t=0) (hh:hdrB (laH l).2=true) (hl0:0<m) (hl24:m≤24):
 Calls Tryz.prog 51 #[.agg #[.int .i64 S,.slice ao n cap,.slice ao2 n2 cap2],.slice a4 n4 c4,.agg #[.int .i64 0,.string ⟨#[]⟩,.slice ao5 m cap5]] w fun e w'=>∃ao6 n6 cap6,e=.returned (.tuple #[.agg #[.int .i64 (gnF Ls Hs t l).1.1,.string (gnF Ls Hs t l).1.2.1,.slice ao6 n6 cap6],.bool (gnF Ls Hs t l).2])∧GS hopE w' (.slice ao6 n6 cap6) (gnF Ls Hs t l).1.2.2∧Below w.heap.size w w'∧(ao6=ao5∨∀g o,ao6=some ⟨g,o,none⟩→w.heap.size≤g):=by
 have hm:=hG.len;have HML:Hid (l.length=m):=hm;have HLW:Hid (∀W,Below w.heap.size w W→GS lnkE W (.slice ao n cap) Ls):=fun W hb=>hL.later hb
 have HHW:Hid (∀W,Below w.heap.size w W→GS hstE W (.slice ao2 n2 cap2) Hs):=fun W hb=>hH.later hb
 have HSW:Hid (∀W,Below w.heap.size w W→SR W (.slice a4 n4 c4) t):=fun W hb=>hS.later hb
 have HGW:Hid (∀W,Below w.heap.size w W→GS hopE W (.slice ao5 m cap5) l):=fun W hb=>hG.later hb
 have HTB:Hid (tbN t=0):=ht;have HHB:Hid (∀g o,0<n2→ao2=some ⟨g,o,none⟩→g<w.heap.size):=fun g o h1 h2=>by
  obtain⟨_,_,_,e7,h3,_,_,h4⟩:=hH.form;cases e7;obtain⟨g',o',e8,h5,_⟩:=h4 h1;rw[h2] at e8;cases e8;obtain⟨_,_,_,_,_,k0,_,_⟩:=hst_at h5 h3 h1;exact bLQ _ _ k0
 obtain⟨F,hF⟩:∃F,F=gnF Ls Hs t l:=⟨_,rfl⟩;have HF:Hid (F=gnF Ls Hs t l):=hF;rw[←hF];obtain⟨_,_,_,e5,_,_,_,hGa⟩:=hG.form;cases e5;obtain⟨g5,o5,hao5,hc5,_⟩:=hGa hl0;subst hao5;have HC5:Hid (∀W,Below w.heap.size w W→GAt hopE W g5 o5 l):=fun W hb=>hc5.later hb
 have hX:=gb_new w S (.slice ao n cap) (.slice ao2 n2 cap2) (.slice (some ⟨g5,o5,none⟩) m cap5);obtain⟨w0,hw0⟩:∃W,((w.alloc (Obj.cells #[.int .i64 S,.slice ao n cap,.slice ao2 n2 cap2] 25)).alloc (Obj.cells #[.int .i64 0,.string ⟨#[]⟩,.slice (some ⟨g5,o5,none⟩) m cap5] 83)).alloc (Obj.cells #[.int .i64 0,.string ⟨#[]⟩,.slice none 0 0] 83)=W:=⟨_,rfl⟩;rw[hw0] at hX;have HX:Hid (GB w w0 S (.slice ao n cap) (.slice ao2 n2 cap2) (.slice (some ⟨g5,o5,none⟩) m cap5)):=hX;have HW0:Hid (((w.alloc (Obj.cells #[.int .i64 S,.slice ao n cap,.slice ao2 n2 cap2] 25)).alloc (Obj.cells #[.int .i64 0,.string ⟨#[]⟩,.slice (some ⟨g5,o5,none⟩) m cap5] 83)).alloc (Obj.cells #[.int .i64 0,.string ⟨#[]⟩,.slice none 0 0] 83)=w0):=hw0;obtain⟨p0,p1,p2,hkl,hLk,_,_,_⟩:=hop_at hc5 hm (show m-1<m by omega);have hla:laH l=((p0,p1),p2):=by
  have e:laH l=l[m-1]:=by
   unfold laH;rw[hm];simp[List.getD,hkl]
  rw[e,hLk]
 have HLA:Hid (laH l=((p0,p1),p2)):=hla;rw[hla] at hh;have HH:Hid (hdrB p2=true):=hh;have hmi:IntKind.i64.wrap ((m:Int)-1)=((m-1:Nat):Int):=by
  rw[show (m:Int)-1=((m-1:Nat):Int) by omega];exact wrap_small (by omega) (by omega)
 have mb0:(0:Int)≤((m-1:Nat):Int):=by omega
 have mb1:((m-1:Nat):Int)<(m:Int):=by omega
 obtain⟨p0',p1',p2',hkl',hLk',c0,c1,c2⟩:=hop_at (HC5.out _ hX.below) hm (show m-1<m by omega);rw[hLk] at hLk';cases hLk';obtain⟨w1,hw1⟩:∃W,w0.alloc (Obj.cells #[.int .i64 p0,.int .i64 p1,.int .i64 p2] 127)=W:=⟨_,rfl⟩;obtain⟨g1,hg1⟩:∃g,w0.heap.size=g:=⟨_,rfl⟩;have hb1:Below w0.heap.size w0 w1:=by
  rw[←hw1];exact (Below.refl _ _).alloc (Nat.le_refl _) _
 have hv1:=hop_new w0 p0 p1 p2 127;rw[hw1,hg1] at hv1;have HX1:Hid (GB w w1 S (.slice ao n cap) (.slice ao2 n2 cap2) (.slice (some ⟨g5,o5,none⟩) m cap5)):=hX.later hX.lt hb1;have HV1:Hid (VAt w1 g1 0 (hopE.c ((p0,p1),p2))):=hv1;have HW1:Hid (w0.alloc (Obj.cells #[.int .i64 p0,.int .i64 p1,.int .i64 p2] 127)=w1):=hw1;have HG1:Hid (w0.heap.size=g1):=hg1;clear hL hH hS hG ht hF hGa hc5 hw0 hkl hLk hla hh hkl' hw1 hg1 hb1 hv1 hm;obtain⟨_,⟨b0,b1,b2⟩,f0,f1,f2,_,_,_,_,_⟩:=hX;go_enter Tryz.func51,Tryz.ntmps51;go_upto_region 1 with fail;rw[HW0.out];go_upto_region 2 with fail;rw[HW1.out,HG1.out];obtain⟨t0,t1,t2⟩:=hop_cells HV1.out;simp only[Nat.zero_add] at t0 t1 t2;clear HW0 HW1 HG1 b0 b1 b2 f0 f1 f2 c0 c1 c2 HX
 go_wp2_with fail
 refine (find_any (.slice a4 n4 c4) t p2 _ (HSW.out _ HX1.out.below)).mono ?_;rintro e w2 ⟨rfl,hb2⟩;have HX2:Hid (GB w w2 S (.slice ao n cap) (.slice ao2 n2 cap2) (.slice (some ⟨g5,o5,none⟩) m cap5)):=HX1.out.later HX1.out.lt hb2;have HV2:Hid (VAt w2 g1 0 (hopE.c ((p0,p1),p2))):=HV1.out.later hb2;obtain⟨I,hI⟩:∃I,I=beTo t p2 t.length:=⟨_,rfl⟩;have HI:Hid (beTo t p2 t.length=I):=hI.symm;rw[←hI];obtain⟨t0,t1,t2⟩:=hop_cells HV2.out;simp only[Nat.zero_add] at t0 t1 t2;clear hb2 hI HX1 HV1;by_cases hneg:I<0
 ·have e1:decide (I<0)=true:=by simpa using hneg
  have HF2:Hid (F=((2,ByteArray.empty,l),false)):=by
   show _=_;rw[HF.out];refine gn_2 ?_;rw[HLA.out];exact st_no HTB.out HH.out (by rw[HI.out];exact hneg)
  obtain⟨hBw,⟨b0,b1,b2⟩,f0,f1,f2,ff,r0,r1,r2,rf⟩:=HX2.out;have HBw:Hid (Below w.heap.size w w2):=hBw;have ff0:=ff 0;have rf0:=rf 0;have rf1:=rf 1;have rf2:=rf 2;clear ff rf hBw;go_wp2;have HBE:Hid (∀u a b c,Below w.heap.size w (put3 (w2.setCell ⟨w.heap.size+1,0,none⟩ u) (w.heap.size+1+1) a b c)):=fun u a b c=>below_put3 (HBw.out.setCell (p:=⟨w.heap.size+1,0,none⟩) (show w.heap.size≤w.heap.size+1 by omega) u) _ (by omega) _ _ _
  refine bodyPost_ret (v:=.tuple #[.agg #[.int .i64 2,.string ⟨#[]⟩,.slice (some ⟨g5,o5,none⟩) m cap5],.bool false]) (by simp[results,Tryz.results51,go_sem, *]) rfl ⟨_,_,_,by rw[HF2.out];rfl,?_,HBE.out _ _ _ _,.inl rfl⟩;rw[HF2.out];exact HGW.out _ (HBE.out _ _ _ _)
 have e1:decide (I<0)=false:=by simpa using hneg
 have hbd:=be_bd t p2 t.length;rw[HI.out] at hbd;obtain⟨j,rfl⟩:∃j:Nat,I=(j:Int):=⟨I.toNat,by omega⟩;have hjl:j<t.length:=by omega
 obtain⟨_,_,_,e4,hn4,hm4,_,ha4⟩:=(HSW.out _ HX2.out.below).form;cases e4;obtain⟨g4,o4,hao4,hc4,_⟩:=ha4 (by omega);subst hao4;have hjn:j<n4:=by omega
 obtain⟨rp,rm,rb,ro,rs,rv,hl,hLj,q0,q1,q2,q3,q4,q5⟩:=hc4.at hn4 hjn;have hbe:beR t p2=⟨rp,rm,rb,ro,rs,rv⟩:=by
  rw[beR,HI.out,Int.toNat_natCast,getD_at hjl,hLj]
 have HBE:Hid (beR t p2=⟨rp,rm,rb,ro,rs,rv⟩):=hbe;have HLJ:Hid (t[j]=⟨rp,rm,rb,ro,rs,rv⟩):=hLj;have HN4:Hid (t.length=n4):=hn4;have HB0:Hid (0≤beTo t p2 t.length):=by
  show _≤_;rw[HI.out];omega
 have jb0:(0:Int)≤(j:Int):=by omega
 have jb1:(j:Int)<(n4:Int):=by omega
 have hj0:¬(j:Int)<0:=by omega
 clear hneg hbd hn4 hm4 ha4 hc4 hLj hbe;by_cases ho:ro=0
 ·have e2:(ro==0)=true:=by simp[ho]
  have HF2:Hid (F=((2,ByteArray.empty,l),false)):=by
   show _=_;rw[HF.out];refine gn_2 ?_;rw[HLA.out];exact st_drop HTB.out HH.out HB0.out (by rw[HBE.out];exact ho)
  clear ho;obtain⟨hBw,⟨b0,b1,b2⟩,f0,f1,f2,ff,r0,r1,r2,rf⟩:=HX2.out;have HBw:Hid (Below w.heap.size w w2):=hBw;have ff0:=ff 0;have rf0:=rf 0;have rf1:=rf 1;have rf2:=rf 2;clear ff rf hBw;go_wp2;have HBE:Hid (∀u a b c,Below w.heap.size w (put3 (w2.setCell ⟨w.heap.size+1,0,none⟩ u) (w.heap.size+1+1) a b c)):=fun u a b c=>below_put3 (HBw.out.setCell (p:=⟨w.heap.size+1,0,none⟩) (show w.heap.size≤w.heap.size+1 by omega) u) _ (by omega) _ _ _
  refine bodyPost_ret (v:=.tuple #[.agg #[.int .i64 2,.string ⟨#[]⟩,.slice (some ⟨g5,o5,none⟩) m cap5],.bool false]) (by simp[results,Tryz.results51,go_sem, *]) rfl ⟨_,_,_,by rw[HF2.out];rfl,?_,HBE.out _ _ _ _,.inl rfl⟩;rw[HF2.out];exact HGW.out _ (HBE.out _ _ _ _)
 have e2:(ro==0)=false:=by simpa using ho
 obtain⟨k1,k2,k3⟩:=st_yes (p:=((p0,p1),p2)) HTB.out HH.out HB0.out (by rw[HBE.out];exact ho);rw[HBE.out] at k1 k2 k3;simp only at k1 k2 k3;obtain⟨TU,hTU⟩:∃u,u=tuTo rs rv p2 4:=⟨_,rfl⟩;have HTU:Hid (tuTo rs rv p2 4=TU):=hTU.symm;rw[←hTU] at k1;have HST:Hid (stT t (laH l)=some ((p0,ro),TU)):=by
  show _=_;rw[HLA.out];exact k1
 have HRS:Hid (0≤rs∧rs<16):=k2;have HRV:Hid (0≤rv∧rv<16):=k3;have y1:g1<w2.heap.size:=bLQ _ _ t0;have y4:g4<w2.heap.size:=bLQ _ _ q0;clear ho k1 k2 k3 hTU;go_upto_region 6 with fail
 go_cut [10] from 42 to 50 (fun p w'=>∃g,p=.pointer (some ⟨g,0,none⟩)∧(w'.cell? ⟨g,0,none⟩=some (.int .i64 p0)∧w'.cell? ⟨g,1,none⟩=some (.int .i64 ro))∧Below w2.heap.size w2 w')
 case first =>
  as_aux_lemma =>
   go_region
   all_goals (go_wp2_with fail;go_meet)
   all_goals exact⟨_,rfl,⟨by simp,by simp⟩,(Below.drew (Below.refl _ _)).alloc (Nat.le_refl _) _⟩
 case rest =>
  obtain⟨gs,rfl,⟨d0,d1⟩,hb3⟩:=hcut;have HX3:Hid (GB w wc S (.slice ao n cap) (.slice ao2 n2 cap2) (.slice (some ⟨g5,o5,none⟩) m cap5)):=HX2.out.later HX2.out.lt hb3;have HV3:Hid (VAt wc g1 0 (hopE.c ((p0,p1),p2))):=HV2.out.later hb3;have HD3:Hid (VAt wc gs 0 [.int .i64 p0,.int .i64 ro]):=by
   intro j u hu
   match j,hu with
   | 0,hu=>cases hu;exact d0
   | 1,hu=>cases hu;exact d1
  obtain⟨w3,hw3⟩:∃X,X=wc:=⟨_,rfl⟩;subst hw3;obtain⟨_,⟨b0,b1,b2⟩,f0,f1,f2,_,_,_,_,_⟩:=HX3.out;clear hb3 HX2 HV2 t0 t1 t2 q0 q1 q2 q3 q4 q5 y1 y4
  go_wp2_with fail
  refine (rhost_any S ao n cap ao2 n2 cap2 Hs p0 ro _ (HHW.out _ HX3.out.below)).mono ?_;rintro e w5 ⟨rfl,hb5⟩;have HX5:Hid (GB w w5 S (.slice ao n cap) (.slice ao2 n2 cap2) (.slice (some ⟨g5,o5,none⟩) m cap5)):=HX3.out.later HX3.out.lt hb5;have HV5:Hid (VAt w5 g1 0 (hopE.c ((p0,p1),p2))):=HV3.out.later hb5;have HD5:Hid (VAt w5 gs 0 [.int .i64 p0,.int .i64 ro]):=HD3.out.later hb5;clear hb5 HX3 HV3 HD3 b0 b1 b2 f0 f1 f2 d0 d1
  rcases at_ix Hs (p0,ro) with ⟨hi,hat⟩ | ⟨k,hk,hi,hat⟩
  ·rw[show atN Hs (p0,ro) = -1 from hi];have HAT:Hid (atO Hs (p0,ro)=none):=hat;obtain⟨_,⟨b0,b1,b2⟩,f0,f1,f2,_,_,_,_,_⟩:=HX5.out;have d0:w5.cell? ⟨gs,0,none⟩=some (.int .i64 p0):=HD5.out 0 _ rfl;have d1:w5.cell? ⟨gs,1,none⟩=some (.int .i64 ro):=HD5.out 1 _ rfl;clear hi hat
   go_wp2_with fail
   refine (rpeer_any S ao n cap ao2 n2 cap2 Ls p0 ro _ (HLW.out _ HX5.out.below)).mono ?_;rintro e w6 ⟨rfl,hb6⟩;obtain⟨P,hP⟩:∃P,P=peerO Ls (p0,ro):=⟨_,rfl⟩;have HP:Hid (peerO Ls (p0,ro)=P):=hP.symm;rw[←hP];have HX6:Hid (GB w w6 S (.slice ao n cap) (.slice ao2 n2 cap2) (.slice (some ⟨g5,o5,none⟩) m cap5)):=HX5.out.later HX5.out.lt hb6;have HV6:Hid (VAt w6 g1 0 (hopE.c ((p0,p1),p2))):=HV5.out.later hb6;clear hb6 hP HX5 HV5 HD5 b0 b1 b2 f0 f1 f2 d0 d1;cases P with
   | none =>
     have HF2:Hid (F=((3,ByteArray.empty,l),false)):=by
      show _=_;rw[HF.out];exact gn_3 HST.out HAT.out HP.out
     simp only[Option.getD_none,Option.isSome_none];have b7:Below w6.heap.size w6 (w6.alloc (Obj.cells #[.int .i64 0,.int .i64 0] 75)):=(Below.refl _ _).alloc (Nat.le_refl _) _;obtain⟨w7,hw7⟩:∃W,w6.alloc (Obj.cells #[.int .i64 0,.int .i64 0] 75)=W:=⟨_,rfl⟩;rw[hw7] at b7;have HX7:Hid (GB w w7 S (.slice ao n cap) (.slice ao2 n2 cap2) (.slice (some ⟨g5,o5,none⟩) m cap5)):=HX6.out.later HX6.out.lt b7;have HW7:Hid (w6.alloc (Obj.cells #[.int .i64 0,.int .i64 0] 75)=w7):=hw7;clear b7 hw7;go_upto_region 13 with fail;rw[HW7.out];clear HW7;obtain⟨hBw,⟨b0,b1,b2⟩,f0,f1,f2,ff,r0,r1,r2,rf⟩:=HX7.out;have HBw:Hid (Below w.heap.size w w7):=hBw;have ff0:=ff 0;have rf0:=rf 0;have rf1:=rf 1;have rf2:=rf 2;clear ff rf hBw;go_wp2;have HBE:Hid (∀u a b c,Below w.heap.size w (put3 (w7.setCell ⟨w.heap.size+1,0,none⟩ u) (w.heap.size+1+1) a b c)):=fun u a b c=>below_put3 (HBw.out.setCell (p:=⟨w.heap.size+1,0,none⟩) (show w.heap.size≤w.heap.size+1 by omega) u) _ (by omega) _ _ _
     refine bodyPost_ret (v:=.tuple #[.agg #[.int .i64 3,.string ⟨#[]⟩,.slice (some ⟨g5,o5,none⟩) m cap5],.bool false]) (by simp[results,Tryz.results51,go_sem, *]) rfl ⟨_,_,_,by rw[HF2.out];rfl,?_,HBE.out _ _ _ _,.inl rfl⟩;rw[HF2.out];exact HGW.out _ (HBE.out _ _ _ _)
   | some s =>
     obtain⟨s1,s2⟩:=s;simp only[Option.getD_some,Option.isSome_some];have b7:Below w6.heap.size w6 (w6.alloc (Obj.cells #[.int .i64 s1,.int .i64 s2] 75)):=(Below.refl _ _).alloc (Nat.le_refl _) _;have v7:=vat_new w6 [.int .i64 s1,.int .i64 s2] 75;obtain⟨w7,hw7⟩:∃W,w6.alloc (Obj.cells #[.int .i64 s1,.int .i64 s2] 75)=W:=⟨_,rfl⟩;obtain⟨g7,hg7⟩:∃g,w6.heap.size=g:=⟨_,rfl⟩;have v7':VAt w7 g7 0 [.int .i64 s1,.int .i64 s2]:=by
      rw[←hw7,←hg7];exact v7
     rw[hw7] at b7;have HX7:Hid (GB w w7 S (.slice ao n cap) (.slice ao2 n2 cap2) (.slice (some ⟨g5,o5,none⟩) m cap5)):=HX6.out.later HX6.out.lt b7;have HV7:Hid (VAt w7 g1 0 (hopE.c ((p0,p1),p2))):=HV6.out.later b7;have HW7:Hid (w6.alloc (Obj.cells #[.int .i64 s1,.int .i64 s2] 75)=w7):=hw7;have HG7:Hid (w6.heap.size=g7):=hg7;have d0:w7.cell? ⟨g7,0,none⟩=some (.int .i64 s1):=v7' 0 _ rfl;have d1:w7.cell? ⟨g7,1,none⟩=some (.int .i64 s2):=v7' 1 _ rfl;obtain⟨t0,t1,t2⟩:=hop_cells HV7.out;simp only[Nat.zero_add] at t0 t1 t2;obtain⟨_,_,_,e4,_,_,_,ha4⟩:=(HSW.out _ HX7.out.below).form;cases e4;obtain⟨g4',o4',hao4,hc4,_⟩:=ha4 (by omega);cases hao4;obtain⟨rp',rm',rb',ro',rs',rv',hl',hLj',q0,q1,q2,q3,q4,q5⟩:=hc4.at HN4.out hjn;rw[HLJ.out] at hLj';cases hLj';have y1:g1<w7.heap.size:=bLQ _ _ t0;have y4:g4<w7.heap.size:=bLQ _ _ q0;have y7:g7<w7.heap.size:=bLQ _ _ d0;have h16:=hdr_of HH.out;have HH16:Hid (0≤p2∧p2<16):=h16;clear b7 v7 hw7 hg7 v7' ha4 hc4 HX6 HV6 h16;go_upto_region 13 with fail;rw[HW7.out,HG7.out];clear HW7 HG7;go_upto_region 16 with fail
     go_cut [14] from 75 to 83 (fun p w'=>∃g,p=.pointer (some ⟨g,0,none⟩)∧(w'.cell? ⟨g,0,none⟩=some (.int .i64 s1)∧w'.cell? ⟨g,1,none⟩=some (.int .i64 s2)∧w'.cell? ⟨g,2,none⟩=some (.int .i64 TU))∧Below w7.heap.size w7 w')
     case first =>
      as_aux_lemma =>
       have HMK:Hid (∀W,Below w7.heap.size w7 W→(fun w'=>Below w7.heap.size w7 w'∧w'.cell? ⟨g7,0,none⟩=some (.int .i64 s1)∧w'.cell? ⟨g7,1,none⟩=some (.int .i64 s2)∧w'.cell? ⟨g4,o4+j*6,none⟩=some (.int .i64 rp)∧w'.cell? ⟨g4,o4+j*6+1,none⟩=some (.int .i64 rm)∧w'.cell? ⟨g4,o4+j*6+2,none⟩=some (.int .i64 rb)∧w'.cell? ⟨g4,o4+j*6+3,none⟩=some (.int .i64 ro)∧w'.cell? ⟨g4,o4+j*6+4,none⟩=some (.int .i64 rs)∧w'.cell? ⟨g4,o4+j*6+5,none⟩=some (.int .i64 rv)∧w'.cell? ⟨g1,2,none⟩=some (.int .i64 p2)) W):=fun W hb=>⟨hb,cell_later hb d0,cell_later hb d1,cell_later hb q0,cell_later hb q1,cell_later hb q2,cell_later hb q3,cell_later hb q4,cell_later hb q5,cell_later hb t2⟩
       go_region_held3 (fun w'=>Below w7.heap.size w7 w'∧w'.cell? ⟨g7,0,none⟩=some (.int .i64 s1)∧w'.cell? ⟨g7,1,none⟩=some (.int .i64 s2)∧w'.cell? ⟨g4,o4+j*6,none⟩=some (.int .i64 rp)∧w'.cell? ⟨g4,o4+j*6+1,none⟩=some (.int .i64 rm)∧w'.cell? ⟨g4,o4+j*6+2,none⟩=some (.int .i64 rb)∧w'.cell? ⟨g4,o4+j*6+3,none⟩=some (.int .i64 ro)∧w'.cell? ⟨g4,o4+j*6+4,none⟩=some (.int .i64 rs)∧w'.cell? ⟨g4,o4+j*6+5,none⟩=some (.int .i64 rv)∧w'.cell? ⟨g1,2,none⟩=some (.int .i64 p2))
        (first | assumption | exact HMK.out _ (Below.drew (Below.refl _ _)) | exact HMK.out _ ((Below.drew (Below.refl _ _)).alloc (Nat.le_refl _) _) | exact HMK.out _ HBX.out | exact HMK.out _ (HBX.out.alloc HBX.out.size _) | exact HMK.out _ (below_put3 HBX.out _ (Nat.le_refl _) _ _ _) | exact HMK.out _ (below_put3 (HBX.out.alloc HBX.out.size _) _ HBX.out.size _ _ _))
        (first | (go_at_call 85;refine (turned_any rp rm rb ro rs rv p2 _ HRS.out HRV.out HH16.out).mono ?_;rintro e w' ⟨rfl,hb⟩;rw[HTU.out];have HBX:Hid (Below w7.heap.size w7 w'):=(by first | exact bdrew hb | exact balloc hb);try (have hbc:=ballocD hb;obtain⟨kc,kf0,kf1,kf2⟩:=hbc;obtain⟨k0,k1,k2⟩:=kc);clear hb))
       all_goals (go_wp2_with fail;go_meet)
       all_goals first
        | exact⟨_,rfl,⟨by simp,by simp,by simp⟩,HBX.out.alloc HBX.out.size _⟩
        | exact⟨_,rfl,put3_cells ⟨k0,k1,k2⟩,below_put3 HBX.out _ (Nat.le_refl _) _ _ _⟩
     case rest =>
      obtain⟨gn,rfl,⟨x0,x1,x2⟩,hb8⟩:=hcut;have HX8:Hid (GB w wc S (.slice ao n cap) (.slice ao2 n2 cap2) (.slice (some ⟨g5,o5,none⟩) m cap5)):=HX7.out.later HX7.out.lt hb8;have HN8:Hid (VAt wc gn 0 (hopE.c ((s1,s2),TU))):=by
       intro j u hu
       match j,hu with
       | 0,hu=>cases hu;exact x0
       | 1,hu=>cases hu;exact x1
       | 2,hu=>cases hu;exact x2
      obtain⟨w8,hw8⟩:∃X,X=wc:=⟨_,rfl⟩;subst hw8;obtain⟨_,⟨b0,b1,b2⟩,f0,f1,f2,_,_,_,_,_⟩:=HX8.out;clear hb8 HX7 HV7 t0 t1 t2 d0 d1 q0 q1 q2 q3 q4 q5 y1 y4 y7 x0 x1 x2;go_wp2;clear b0 b1 b2 f0 f1 f2
      go_loopw [15,16] (fun a i wr=>∃k:Nat,k≤m∧i=.int .i64 k∧a=.bool (decide ((24:Int)≤(m:Int)) || (l.take k).any (fun x=>hopB x ((s1,s2),TU)))∧Below w8.heap.size w8 wr) (fun _ i _=>m-(intOf i).toNat)
      case atStart=>exact⟨0,by omega,rfl,by simp,Below.refl _ _⟩
      case round =>
       obtain⟨k,hk,rfl,rfl,hBr⟩:=hrel;have HXr:Hid (GB w wr S (.slice ao n cap) (.slice ao2 n2 cap2) (.slice (some ⟨g5,o5,none⟩) m cap5)):=HX8.out.later HX8.out.lt hBr;have HNr:Hid (VAt wr gn 0 (hopE.c ((s1,s2),TU))):=HN8.out.later hBr;have HBr:Hid (Below w8.heap.size w8 wr):=hBr;obtain⟨B,hB⟩:∃B,B=(decide ((24:Int)≤(m:Int)) || (l.take k).any (fun x=>hopB x ((s1,s2),TU))):=⟨_,rfl⟩;have HB:Hid ((decide ((24:Int)≤(m:Int)) || (l.take k).any (fun x=>hopB x ((s1,s2),TU)))=B):=hB.symm;rw[←hB];clear hBr hB;by_cases hlt:k<m
       ·obtain⟨_,⟨b0,b1,b2⟩,f0,f1,f2,_,_,_,_,_⟩:=HXr.out;obtain⟨x0,x1,x2⟩:=hop_cells HNr.out;simp only[Nat.zero_add] at x0 x1 x2;obtain⟨y0,y1,y2,hkl,hLk,c0,c1,c2⟩:=hop_at (HC5.out _ HXr.out.below) HML.out hlt;have HNX:Hid ((decide ((24:Int)≤(m:Int)) || (l.take (k+1)).any (fun x=>hopB x ((s1,s2),TU)))=(B || hopB ((y0,y1),y2) ((s1,s2),TU))):=by
         show _=_;rw[←HB.out,List.take_succ_eq_append_getElem hkl,List.any_append,hLk,Bool.or_assoc];simp
        have z1:g5<wr.heap.size:=bLQ _ _ c0;have z2:gn<wr.heap.size:=bLQ _ _ x0;have z3:w.heap.size+1<wr.heap.size:=bLQ _ _ f0;have kb0:(0:Int)≤(k:Int):=by omega
        have kb1:(k:Int)<(m:Int):=by omega
        clear hLk;cases B with
        | true =>
          go_wp2_with fail
          go_quiet (fail)
          go_wp2;go_roundw
          case rel=>exact⟨k+1,by omega,by go_num,by rw[HNX.out];rfl,HBr.out.trans ((go_drewN _ _).mono HBr.out.size)⟩
          case measure=>simp[intOf];omega
        | false =>
          rcases hop_ways y0 y1 y2 s1 s2 TU with ⟨e0,e⟩ | ⟨e0,e4,e⟩ | ⟨e0,e4,e5,e⟩ | ⟨e0,e4,e5,e⟩
          all_goals
           have HE:=e;clear e;rw[HE] at HNX;clear HE
           go_wp2_with fail
           go_quiet (fail)
           go_wp2;go_roundw
           case rel=>exact⟨k+1,by omega,by go_num,by rw[HNX.out];rfl,HBr.out.trans ((go_drewN _ _).mono HBr.out.size)⟩
           case measure=>simp[intOf];omega
       obtain rfl:k=m:=by omega
       have hany:(l.take k).any (fun x=>hopB x ((s1,s2),TU))=(l.any fun x=>heB ((s1,s2),TU) x):=by
        rw[←HML.out,List.take_length]
        congr 1
        funext x
        exact (he_sy _ _).symm
       have hB2:=HB.out;rw[hany] at hB2;have HB2:Hid ((decide ((24:Int)≤(k:Int)) || (l.any fun x=>heB ((s1,s2),TU) x))=B):=hB2;clear hany hB2;obtain⟨_,⟨b0,b1,b2⟩,f0,f1,f2,_,_,_,_,_⟩:=HXr.out;cases B with
       | true =>
         have HF2:Hid (F=((4,ByteArray.empty,l),false)):=by
          show _=_;rw[HF.out];refine gn_4 HST.out HAT.out HP.out ?_;have h1:=HB2.out;rw[Bool.or_eq_true,decide_eq_true_eq] at h1
          rcases h1 with h1 | h1
          ·left;rw[HML.out];omega
          exact .inr h1
         clear b0 b1 b2 f0 f1 f2;obtain⟨hBw,⟨b0,b1,b2⟩,f0,f1,f2,ff,r0,r1,r2,rf⟩:=HXr.out;have HBw:Hid (Below w.heap.size w wr):=hBw;have ff0:=ff 0;have rf0:=rf 0;have rf1:=rf 1;have rf2:=rf 2;clear ff rf hBw;go_wp2;have HBE:Hid (∀u a b c,Below w.heap.size w (put3 (wr.setCell ⟨w.heap.size+1,0,none⟩ u) (w.heap.size+1+1) a b c)):=fun u a b c=>below_put3 (HBw.out.setCell (p:=⟨w.heap.size+1,0,none⟩) (show w.heap.size≤w.heap.size+1 by omega) u) _ (by omega) _ _ _
         refine bodyPost_ret (v:=.tuple #[.agg #[.int .i64 4,.string ⟨#[]⟩,.slice (some ⟨g5,o5,none⟩) k cap5],.bool false]) (by simp[results,Tryz.results51,go_sem, *]) rfl ⟨_,_,_,by rw[HF2.out];rfl,?_,HBE.out _ _ _ _,.inl rfl⟩;rw[HF2.out];exact HGW.out _ (HBE.out _ _ _ _)
       | false =>
         have h1:=HB2.out;rw[Bool.or_eq_false_iff,decide_eq_false_iff_not] at h1;have hk23:k≤23:=by omega
         have HF2:Hid (F=((0,ByteArray.empty,l++[((s1,s2),TU)]),true)):=by
          show _=_;rw[HF.out];exact gn_n HST.out HAT.out HP.out (by rw[HML.out];omega) h1.2
         obtain⟨j0,hj,hy0,hy1,hy2⟩:=info_parts hop_info;clear h1;go_upto_region 26 with fail
         go_wp2_with (at_builtin;refine wpList_append_GS (E:=hopE) _ rfl _ _ 81 127 rfl Tryz.underlying81 j0 (.agg #[.int .i64 0,.int .i64 0,.int .i64 0]) 24 hj hy0 hy1 hy2 hop_zero wr.heap.size (.slice none 0 0) rfl [] (World.ownsRow_nil _ _ _ _) _ rfl l (HGW.out _ HXr.out.below) ?a1 ?a2 ?a3 ?_)
         case a1=>rw[HML.out];unfold maxLen;simp;omega
         case a2=>rw[HML.out];simp;omega
         case a3=>exact Nat.le_refl _
         intro v6 w6 hown6 hgrow6;obtain⟨ao6,cap6,rfl⟩:=own_form hown6;have hb6:Below wr.heap.size wr w6:=(Below.refl _ wr).grown hgrow6 (Nat.le_refl _) (fun g hg=>by cases hg);have HX6:Hid (GB w w6 S (.slice ao n cap) (.slice ao2 n2 cap2) (.slice (some ⟨g5,o5,none⟩) k cap5)):=HXr.out.later HXr.out.lt hb6;have HN6:Hid (VAt w6 gn 0 (hopE.c ((s1,s2),TU))):=HNr.out.later hb6;have HO6:Hid (w6.ownsRow wr.heap.size 127 3 (.slice ao6 k cap6) k (cellsG hopE l)):=hown6;have HB6:Hid (Below wr.heap.size wr w6):=hb6;have hs6:wr.heap.size≤w6.heap.size:=hb6.size;have hr3:w.heap.size+3≤wr.heap.size:=HXr.out.lt;obtain⟨_,⟨b0,b1,b2⟩,f0,f1,f2,_,_,_,_,_⟩:=HX6.out;obtain⟨x0,x1,x2⟩:=hop_cells HN6.out;simp only[Nat.zero_add] at x0 x1 x2;clear hb6 hgrow6 hown6;go_upto_region 27 with fail
         go_wp2_with (at_builtin;refine wpList_append_own _ rfl _ _ 81 rfl wr.heap.size 127 j0 (.agg #[.int .i64 0,.int .i64 0,.int .i64 0]) 3 24 Tryz.underlying81 hj hy0 hy1 hy2 hop_zero (by decide) _ _ _ rfl (HO6.out.alloc _) ⟨w6.heap.size,0,none⟩ 1 1 [.int .i64 s1,.int .i64 s2,.int .i64 TU] rfl rfl ?m1 ?m2 ?m3 ?m4 ?m5 ?_)
         case m1 =>
          intro j u hj
          match j,hj with
          | 0,hj=>simp at hj;subst hj;simp[Addr.add]
          | 1,hj=>simp at hj;subst hj;simp[Addr.add]
          | 2,hj=>simp at hj;subst hj;simp[Addr.add]
         case m2=>intro u hu;simp at hu;rcases hu with rfl | rfl | rfl <;> rfl
         case m3=>unfold maxLen;omega
         case m4=>omega
         case m5=>simp;omega
         intro v9 w9 hown9 hgrow9 _;obtain⟨ao9,cap9,rfl⟩:=own_form hown9;have hb9:Below wr.heap.size w6 w9:=((Below.refl _ w6).alloc hs6 _).grown hgrow9 (by simp;omega) (fun g hg=>(HO6.out.lt g hg).1);have hB9:Below wr.heap.size wr w9:=HB6.out.trans hb9;have HO9:Hid (w9.ownsRow wr.heap.size 127 3 (.slice ao9 (k+1) cap9) (l++[((s1,s2),TU)]).length (cellsG hopE (l++[((s1,s2),TU)]))):=by
          show World.ownsRow _ _ _ _ _ _ _;rw[List.length_append,HML.out,cellsG_app,cellsG_one];exact hown9
         have HX9:Hid (GB w w9 S (.slice ao n cap) (.slice ao2 n2 cap2) (.slice (some ⟨g5,o5,none⟩) k cap5)):=HXr.out.later HXr.out.lt hB9;obtain⟨hBw,⟨b0,b1,b2⟩,f0,f1,f2,ff,r0,r1,r2,rf⟩:=HX9.out;have HBw:Hid (Below w.heap.size w w9):=hBw;have ff2:=ff 2;have rf0:=rf 0;have rf1:=rf 1;have rf2:=rf 2;clear ff rf hBw hb9 hB9 hgrow9 hown9 x0 x1 x2;go_wp2;have HBE:Hid (∀u a b c,Below w.heap.size w (put3 (w9.setCell ⟨w.heap.size+1,2,none⟩ u) (w.heap.size+1+1) a b c)):=fun u a b c=>below_put3 (HBw.out.setCell (p:=⟨w.heap.size+1,2,none⟩) (show w.heap.size≤w.heap.size+1 by omega) u) _ (by omega) _ _ _
         have HOE:Hid (∀u a b c,(put3 (w9.setCell ⟨w.heap.size+1,2,none⟩ u) (w.heap.size+1+1) a b c).ownsRow wr.heap.size 127 3 (.slice ao9 (k+1) cap9) (l++[((s1,s2),TU)]).length (cellsG hopE (l++[((s1,s2),TU)]))):=fun u a b c=>own_put3 (ownsRow_setCell_below HO9.out (show w.heap.size+1<wr.heap.size by omega) _) _ (by omega) _ _ _
         refine bodyPost_ret (v:=.tuple #[.agg #[.int .i64 0,.string ⟨#[]⟩,.slice ao9 (k+1) cap9],.bool true]) (by simp[results,Tryz.results51,go_sem, *]) rfl ⟨_,_,_,by rw[HF2.out];rfl,?_,HBE.out _ _ _ _,.inr fun g o e=>?_⟩
         ·rw[HF2.out];exact own_GS (HOE.out _ _ _ _)
         subst e;exact Nat.le_trans (by omega) (HO9.out.lt g rfl).1
  rw[show atN Hs (p0,ro)=(k:Int) from hi];have hlt:k<n2:=by
   have:=(HHW.out _ HX5.out.below).len;omega
  obtain⟨_,_,_,e6,hHn,_,_,hHa⟩:=(HHW.out _ HX5.out.below).form;cases e6;obtain⟨gh,oh,hao,hc,_⟩:=hHa (by omega);subst hao;obtain⟨y0,y1,y2,hkl,hHk,c0,c1,c2⟩:=hst_at hc hHn hlt;have HF2:Hid (F=((1,y0,l),false)):=by
   show _=_;rw[HF.out];refine gn_1 HST.out ?_;rw[hat,hHk]
  have kb0:(0:Int)≤(k:Int):=by omega
  have kb1:(k:Int)<(n2:Int):=by omega
  obtain⟨hBw,⟨b0,b1,b2⟩,f0,f1,f2,ff,r0,r1,r2,rf⟩:=HX5.out;have HBw:Hid (Below w.heap.size w w5):=hBw;have ff0:=ff 0;have ff1:=ff 1;have rf0:=rf 0;have rf1:=rf 1;have rf2:=rf 2;have hgl:gh<w5.heap.size:=bLQ _ _ c0;have hgw:gh<w.heap.size:=HHB.out gh oh (by omega) rfl;have hne1:gh≠w.heap.size+1:=by omega
  clear ff rf hBw hi hat hHn hHa hc hHk;go_wp2;have HBE:Hid (∀u v a b c,Below w.heap.size w (put3 ((w5.setCell ⟨w.heap.size+1,0,none⟩ u).setCell ⟨w.heap.size+1,1,none⟩ v) (w.heap.size+1+1) a b c)):=fun u v a b c=>below_put3 ((HBw.out.setCell (p:=⟨w.heap.size+1,0,none⟩) (show w.heap.size≤w.heap.size+1 by omega) u).setCell (p:=⟨w.heap.size+1,1,none⟩) (show w.heap.size≤w.heap.size+1 by omega) v) _ (by omega) _ _ _
  refine bodyPost_ret (v:=.tuple #[.agg #[.int .i64 1,.string y0,.slice (some ⟨g5,o5,none⟩) m cap5],.bool false]) (by simp[results,Tryz.results51,go_sem, *]) rfl ⟨_,_,_,by rw[HF2.out],?_,HBE.out _ _ _ _ _,.inl rfl⟩;rw[HF2.out];exact HGW.out _ (HBE.out _ _ _ _ _)
theorem gn_end {Ls:LkQ}{Hs:HoQ}{Ts:List (List Ru)}{l:HpQ}(h:l.length≤24)(hg:(gnF Ls Hs (taT Ts (laH l).1.1) l).2=false):
 foF Ls Hs Ts (25-l.length) l=(gnF Ls Hs (taT Ts (laH l).1.1) l).1∧(gnF Ls Hs (taT Ts (laH l).1.1) l).1.2.2=l:=by
 rw[fo_r h];have e:enE Ls Hs Ts l (laH l)=goE Ls Hs (taT Ts (laH l).1.1) l (laH l):=rfl;rw[e];unfold gnF at hg ⊢;cases hE:goE Ls Hs (taT Ts (laH l).1.1) l (laH l) with
 | inl p=>exact⟨rfl,rfl⟩
 | inr q=>rw[hE] at hg;cases hg
theorem gn_on {S:Int}{Ls:LkQ}{Hs:HoQ}{Ts:List (List Ru)}{l:HpQ}(ht:tpN S Ls Hs=0)(h:l.length≤24)(hg:(gnF Ls Hs (taT Ts (laH l).1.1) l).2=true):
 ∃q,(gnF Ls Hs (taT Ts (laH l).1.1) l).1=(0,ByteArray.empty,l++[q])∧foF Ls Hs Ts (25-l.length) l=foF Ls Hs Ts (25-(l++[q]).length) (l++[q])∧(l++[q]).length≤24∧spB S q.1=true∧hdrB q.2=true:=by
 rw[fo_r h];unfold gnF at hg ⊢;cases hE:goE Ls Hs (taT Ts (laH l).1.1) l (laH l) with
 | inl p=>rw[hE] at hg;cases hg
 | inr q =>
   have e:enE Ls Hs Ts l (laH l)=.inr q:=hE;obtain⟨h1,h2,_⟩:=en_r e;obtain⟨h3,h4⟩:=nx_good ht h1;refine⟨q,rfl,?_,?_,h3,h4⟩
   ·rw[e];simp only[List.length_append,List.length_cons,List.length_nil];rw[show 24-l.length=25-(l.length+(0+1)) by omega]
   simp only[List.length_append,List.length_cons,List.length_nil];omega
structure RB (w W:World)(gr gf:Nat)(S:Int)(v1 v2 v3:Value)(F0:Int)(F1:ByteArray)(u:Value):Prop where
 below:Below w.heap.size w W
 l1:w.heap.size<gr
 l2:gr<gf
 n:NeBox W w.heap.size S v1 v2 v3
 r0:W.cell? ⟨gr,0,none⟩=some (.int .i64 0)
 r1:W.cell? ⟨gr,1,none⟩=some (.string ⟨#[]⟩)
 r2:W.cell? ⟨gr,2,none⟩=some (.slice none 0 0)
 rf:∀i,W.frozen? ⟨gr,i,none⟩=false
 f0:W.cell? ⟨gf,0,none⟩=some (.int .i64 F0)
 f1:W.cell? ⟨gf,1,none⟩=some (.string F1)
 f2:W.cell? ⟨gf,2,none⟩=some u
 ff:∀i,W.frozen? ⟨gf,i,none⟩=false
section
variable {w W W':World}{gr gf:Nat}{S:Int}{v1 v2 v3:Value}{F0:Int}{F1:ByteArray}{u:Value}
theorem RB.lt (k:RB w W gr gf S v1 v2 v3 F0 F1 u):gf<W.heap.size:=bLQ W ⟨gf,0,none⟩ k.f0
theorem RB.later (k:RB w W gr gf S v1 v2 v3 F0 F1 u)(hb:Below W.heap.size W W'):RB w W' gr gf S v1 v2 v3 F0 F1 u:=
 have hl:=k.lt;have h1:=k.l1;have h2:=k.l2
 ⟨k.below.trans (hb.mono (by omega)),h1,h2,k.n.later hb,cell_later hb k.r0,cell_later hb k.r1,cell_later hb k.r2,fun i=>(hb.frozen (p:=⟨gr,i,none⟩) (show gr<W.heap.size by omega)).trans (k.rf i),cell_later hb k.f0,cell_later hb k.f1,cell_later hb k.f2,fun i=>(hb.frozen (p:=⟨gf,i,none⟩) (show gf<W.heap.size by omega)).trans (k.ff i)⟩
theorem RB.put (k:RB w W gr gf S v1 v2 v3 F0 F1 u)(G0:Int)(G1:ByteArray)(x:Value):RB w (put3 W gf (.int .i64 G0) (.string G1) x) gr gf S v1 v2 v3 G0 G1 x:=by
 have h1:=k.l1;have h2:=k.l2;have hp:=put3_cells (a:=.int .i64 G0) (b:=.string G1) (c:=x) ⟨k.f0,k.f1,k.f2⟩;have hne:∀(g i:Nat) (y:Value),g≠gf→W.cell? ⟨g,i,none⟩=some y→(put3 W gf (.int .i64 G0) (.string G1) x).cell? ⟨g,i,none⟩=some y:=by
  intro g i y hg e;have hb:∀(W:World) (j:Nat) (z:Value),(W.setCell ⟨gf,j,none⟩ z).cell? ⟨g,i,none⟩=W.cell? ⟨g,i,none⟩:=fun W j z=>World.cell?_of_block (Below.heap_setCell _ _ _ _ hg)
  unfold put3;rw[hb,hb,hb];exact e
 have hfz:∀(g i:Nat),W.frozen? ⟨g,i,none⟩=false→(put3 W gf (.int .i64 G0) (.string G1) x).frozen? ⟨g,i,none⟩=false:=by
  intro g i e;unfold put3;simp[e]
 obtain⟨a0,a1,a2,a3⟩:=k.n;exact⟨below_put3 k.below _ (by omega) _ _ _,h1,h2,⟨hne _ _ _ (by omega) a0,hne _ _ _ (by omega) a1,hne _ _ _ (by omega) a2,hne _ _ _ (by omega) a3⟩,hne _ _ _ (by omega) k.r0,hne _ _ _ (by omega) k.r1,hne _ _ _ (by omega) k.r2,fun i=>hfz _ _ (k.rf i),hp.1,hp.2.1,hp.2.2,fun i=>hfz _ _ (k.ff i)⟩
end
theorem gs_put3 {W:World}{b:Nat}{ao:Option Addr}{n cap:Nat}{l:HpQ}(h:GS hopE W (.slice ao n cap) l)(hg:∀g o,ao=some ⟨g,o,none⟩→g≠b)(u v x:Value):GS hopE (put3 W b u v x) (.slice ao n cap) l:=by
 rcases h with h | ⟨g,o,c,h1,h2,h3,h4⟩
 ·exact .inl h
 refine .inr ⟨g,o,c,h1,h2,h3,fun i hi j y hy=>?_⟩;have e:=h4 i hi j y hy;have hne:g≠b:=by
  simp only[Value.slice.injEq] at h1;exact hg g o h1.1
 have hb:∀(W:World) (j2:Nat) (z:Value),(W.setCell ⟨b,j2,none⟩ z).cell? ⟨g,o+i*hopE.n+j,none⟩=W.cell? ⟨g,o+i*hopE.n+j,none⟩:=fun W j2 z=>World.cell?_of_block (Below.heap_setCell _ _ _ _ hne)
 unfold put3;rw[hb,hb,hb];exact e
def RI (S:Int)(Ls:LkQ)(Hs:HoQ)(Ts:List (List Ru))(F:Int×ByteArray×HpQ)(on:Bool)(F0:Int)(F1:ByteArray)(l:HpQ):Prop:=
 (on=true∧F0=0∧F1=⟨#[]⟩∧F=foF Ls Hs Ts (25-l.length) l∧spB S (laH l).1=true∧hdrB (laH l).2=true)∨(on=false∧F=(F0,F1,l))
def rmE (b:Value)(c:Option Value):Nat:=match b,c with
 | .bool true,some (.slice _ n _)=>2*(25-n)+1
 | .bool false,some (.slice _ n _)=>2*(25-n)
 | _,_=>0
theorem rb_new (w:World)(S:Int)(v1 v2 v3:Value)(x y h:Int):RB w (((((w.alloc (Obj.cells #[.int .i64 S,v1,v2,v3] 28)).alloc (Obj.cells #[.int .i64 x,.int .i64 y] 75)).alloc (Obj.cells #[.int .i64 0,.string ⟨#[]⟩,.slice none 0 0] 83)).alloc (Obj.cells #[.int .i64 x,.int .i64 y,.int .i64 h] 127)).alloc (Obj.cells #[.int .i64 0,.string ⟨#[]⟩,.slice (some ⟨w.heap.size+1+1+1,0,none⟩) 1 1] 83)) (w.heap.size+1+1) (w.heap.size+1+1+1+1) S v1 v2 v3 0 ⟨#[]⟩ (.slice (some ⟨w.heap.size+1+1+1,0,none⟩) 1 1)
 ∧ GS hopE (((((w.alloc (Obj.cells #[.int .i64 S,v1,v2,v3] 28)).alloc (Obj.cells #[.int .i64 x,.int .i64 y] 75)).alloc (Obj.cells #[.int .i64 0,.string ⟨#[]⟩,.slice none 0 0] 83)).alloc (Obj.cells #[.int .i64 x,.int .i64 y,.int .i64 h] 127)).alloc (Obj.cells #[.int .i64 0,.string ⟨#[]⟩,.slice (some ⟨w.heap.size+1+1+1,0,none⟩) 1 1] 83)) (.slice (some ⟨w.heap.size+1+1+1,0,none⟩) 1 1) [((x,y),h)]:=by
 have hb:∀(W:World) (o:Obj),Below W.heap.size W (W.alloc o):=fun W o=>(Below.refl _ _).alloc (Nat.le_refl _) _
 have hn:=nebox_new w S v1 v2 v3 28;have e1:(w.alloc (Obj.cells #[.int .i64 S,v1,v2,v3] 28)).heap.size=w.heap.size+1:=by simp
 have b1:=hb w (Obj.cells #[.int .i64 S,v1,v2,v3] 28)
 generalize w.alloc (Obj.cells #[.int .i64 S,v1,v2,v3] 28)=A at hn e1 b1 ⊢
 have e2:(A.alloc (Obj.cells #[.int .i64 x,.int .i64 y] 75)).heap.size=w.heap.size+1+1:=by simp[e1]
 have b2:=hb A (Obj.cells #[.int .i64 x,.int .i64 y] 75)
 generalize A.alloc (Obj.cells #[.int .i64 x,.int .i64 y] 75)=C at e2 b2 ⊢
 have hr:=vat_new C [.int .i64 0,.string ⟨#[]⟩,.slice none 0 0] 83;have zr:=froz_new2 C #[.int .i64 0,.string ⟨#[]⟩,.slice none 0 0] 83;have e3:(C.alloc (Obj.cells #[.int .i64 0,.string ⟨#[]⟩,.slice none 0 0] 83)).heap.size=w.heap.size+1+1+1:=by simp[e2]
 have b3:=hb C (Obj.cells #[.int .i64 0,.string ⟨#[]⟩,.slice none 0 0] 83);rw[e2] at hr zr
 generalize C.alloc (Obj.cells #[.int .i64 0,.string ⟨#[]⟩,.slice none 0 0] 83)=D at hr zr e3 b3 ⊢
 have hh:=gs_one (E:=hopE) D ((x,y),h) 127 (vs:=[.int .i64 x,.int .i64 y,.int .i64 h]) rfl;have e4:(D.alloc (Obj.cells #[.int .i64 x,.int .i64 y,.int .i64 h] 127)).heap.size=w.heap.size+1+1+1+1:=by simp[e3]
 have b4:=hb D (Obj.cells #[.int .i64 x,.int .i64 y,.int .i64 h] 127);rw[e3] at hh
 generalize D.alloc (Obj.cells #[.int .i64 x,.int .i64 y,.int .i64 h] 127)=G at hh e4 b4 ⊢
 have hf:=vat_new G [.int .i64 0,.string ⟨#[]⟩,.slice (some ⟨w.heap.size+1+1+1,0,none⟩) 1 1] 83;have zf:=froz_new2 G #[.int .i64 0,.string ⟨#[]⟩,.slice (some ⟨w.heap.size+1+1+1,0,none⟩) 1 1] 83;have b5:=hb G (Obj.cells #[.int .i64 0,.string ⟨#[]⟩,.slice (some ⟨w.heap.size+1+1+1,0,none⟩) 1 1] 83);rw[e4] at hf zf;have b45:=b4.trans (b5.mono (by omega));have hr':=hr.later b45;refine⟨⟨(b1.trans (b2.mono (by omega))).trans ((b3.mono (by omega)).trans (b45.mono (by omega))),by omega,by omega,((hn.later b2).later b3).later b45,hr' 0 _ rfl,hr' 1 _ rfl,hr' 2 _ rfl,fun i=>(b45.frozen (p:=⟨w.heap.size+1+1,i,none⟩) (show w.heap.size+1+1<D.heap.size by omega)).trans (zr i),hf 0 _ rfl,hf 1 _ rfl,hf 2 _ rfl,zf⟩,hh.later b5⟩
theorem rfrom_any (S:Int)(ao:Option Addr)(n cap:Nat)(ao2:Option Addr)(n2 cap2:Nat)(ao3:Option Addr)(n3 cap3:Nat)(Ls:LkQ)(Hs:HoQ)(Ts:List (List Ru))(x y h:Int)(w:World)
 (hL:GS lnkE w (.slice ao n cap) Ls) (hH:GS hstE w (.slice ao2 n2 cap2) Hs) (hT:TS w (.slice ao3 n3 cap3) Ts) (hcp:cpN S Ls Hs Ts (x,y) h=0):
 Calls Tryz.prog 29 #[.agg #[.int .i64 S,.slice ao n cap,.slice ao2 n2 cap2,.slice ao3 n3 cap3],.agg #[.int .i64 x,.int .i64 y],.int .i64 h] w fun e w'=>∃ao4 n4 cap4,e=.returned (.agg #[.int .i64 (frF Ls Hs Ts (x,y) h).1,.string (frF Ls Hs Ts (x,y) h).2.1,.slice ao4 n4 cap4])∧GS hopE w' (.slice ao4 n4 cap4) (frF Ls Hs Ts (x,y) h).2.2∧Below w.heap.size w w'∧∀g o,ao4=some ⟨g,o,none⟩→w.heap.size≤g:=by
 obtain⟨F,hF⟩:∃F,F=frF Ls Hs Ts (x,y) h:=⟨_,rfl⟩;have HF:Hid (F=foF Ls Hs Ts 24 [((x,y),h)]):=hF;rw[←hF];obtain⟨hnt,hsp,hhd⟩:=cp_0 hcp;obtain⟨htp,hTS,htb⟩:=nt_0 hnt;have HTP:Hid (tpN S Ls Hs=0):=htp;have HTB:Hid (∀k,k<Ts.length→tbN (Ts.getD k [])=0):=htb;have HN3:Hid (Ts.length=n3):=hT.len;have H3S:Hid ((n3:Int)=S):=by
  show _=_;rw[←hTS,HN3.out]
 have HSP:Hid (spB S (x,y)=true∧hdrB h=true):=⟨hsp,hhd⟩;have HLW:Hid (∀W,Below w.heap.size w W→GS lnkE W (.slice ao n cap) Ls):=fun W hb=>hL.later hb
 have HHW:Hid (∀W,Below w.heap.size w W→GS hstE W (.slice ao2 n2 cap2) Hs):=fun W hb=>hH.later hb
 have HTW:Hid (∀W,Below w.heap.size w W→TS W (.slice ao3 n3 cap3) Ts):=fun W hb=>hT.later hb
 obtain⟨hX,hG0⟩:=rb_new w S (.slice ao n cap) (.slice ao2 n2 cap2) (.slice ao3 n3 cap3) x y h;obtain⟨w0,hw0⟩:∃W,((((w.alloc (Obj.cells #[.int .i64 S,.slice ao n cap,.slice ao2 n2 cap2,.slice ao3 n3 cap3] 28)).alloc (Obj.cells #[.int .i64 x,.int .i64 y] 75)).alloc (Obj.cells #[.int .i64 0,.string ⟨#[]⟩,.slice none 0 0] 83)).alloc (Obj.cells #[.int .i64 x,.int .i64 y,.int .i64 h] 127)).alloc (Obj.cells #[.int .i64 0,.string ⟨#[]⟩,.slice (some ⟨w.heap.size+1+1+1,0,none⟩) 1 1] 83)=W:=⟨_,rfl⟩;rw[hw0] at hX hG0;obtain⟨gf,hgf⟩:∃g,w.heap.size+1+1+1+1=g:=⟨_,rfl⟩;obtain⟨gl,hgl⟩:∃g,w.heap.size+1+1+1=g:=⟨_,rfl⟩;obtain⟨gr,hgr⟩:∃g,w.heap.size+1+1=g:=⟨_,rfl⟩;rw[hgf,hgl,hgr] at hX;rw[hgl] at hG0 hw0;have HGF:Hid (w.heap.size+1+1+1+1=gf):=hgf;have HGR:Hid (w.heap.size+1+1=gr):=hgr;have HGL:Hid (w.heap.size+1+1+1=gl):=hgl;have HGNE:Hid (gl≠gf∧gl≠gr∧w.heap.size≤gl):=by
  show _∧_;omega
 have HX:Hid (RB w w0 gr gf S (.slice ao n cap) (.slice ao2 n2 cap2) (.slice ao3 n3 cap3) 0 ⟨#[]⟩ (.slice (some ⟨gl,0,none⟩) 1 1)):=hX;have HG0:Hid (GS hopE w0 (.slice (some ⟨gl,0,none⟩) 1 1) [((x,y),h)]):=hG0;have HW0:Hid (((((w.alloc (Obj.cells #[.int .i64 S,.slice ao n cap,.slice ao2 n2 cap2,.slice ao3 n3 cap3] 28)).alloc (Obj.cells #[.int .i64 x,.int .i64 y] 75)).alloc (Obj.cells #[.int .i64 0,.string ⟨#[]⟩,.slice none 0 0] 83)).alloc (Obj.cells #[.int .i64 x,.int .i64 y,.int .i64 h] 127)).alloc (Obj.cells #[.int .i64 0,.string ⟨#[]⟩,.slice (some ⟨gl,0,none⟩) 1 1] 83)=w0):=hw0;clear hL hH hT hF hnt hsp hhd htp hTS htb hw0 hX hG0 hcp hgf hgr hgl;go_enter Tryz.func29,Tryz.ntmps29;go_upto_region 2 with fail;rw[HGF.out,HGL.out,HGR.out,HW0.out];clear HW0
 go_wp2_with fail
 go_loopw [8] (fun b wr=>∃(l:HpQ) (ao5:Option Addr) (m cap5:Nat) (F0:Int) (F1:ByteArray) (on:Bool),b=.bool on∧l.length=m∧(0<m∧m≤24)∧RB w wr gr gf S (.slice ao n cap) (.slice ao2 n2 cap2) (.slice ao3 n3 cap3) F0 F1 (.slice ao5 m cap5)∧GS hopE wr (.slice ao5 m cap5) l∧(∀g o,ao5=some ⟨g,o,none⟩→g≠gf∧g≠gr∧w.heap.size≤g)∧RI S Ls Hs Ts F on F0 F1 l) (fun b wr=>rmE b (wr.cell? ⟨gf,2,none⟩))
 case atStart=>exact⟨[((x,y),h)],_,1,1,0,⟨#[]⟩,true,rfl,rfl,by omega,HX.out,HG0.out,fun g o e=>by cases e;exact HGNE.out,.inl ⟨rfl,rfl,rfl,HF.out,HSP.out.1,HSP.out.2⟩⟩
 case round =>
  obtain⟨l,ao5,m,cap5,F0,F1,on,rfl,hm,⟨hl0,hl24⟩,hXr,hG,hgn,hRI⟩:=hrel;obtain⟨wo,hwo⟩:∃X,X=wr:=⟨_,rfl⟩;subst hwo;have HML:Hid (l.length=m):=hm;have HXo:Hid (RB w wo gr gf S (.slice ao n cap) (.slice ao2 n2 cap2) (.slice ao3 n3 cap3) F0 F1 (.slice ao5 m cap5)):=hXr;have HGo:Hid (GS hopE wo (.slice ao5 m cap5) l):=hG;have HGN:Hid (∀g o,ao5=some ⟨g,o,none⟩→g≠gf∧g≠gr∧w.heap.size≤g):=hgn;clear HX HG0 HF HSP
  rcases hRI with ⟨rfl,rfl,rfl,hFl,hsp,hhd⟩ | ⟨rfl,hFe⟩
  ·have HFL:Hid (F=foF Ls Hs Ts (25-l.length) l):=hFl;obtain⟨_,_,_,e5,_,_,_,hGa⟩:=hG.form;cases e5;obtain⟨g5,o5,hao5,hc5,_⟩:=hGa hl0;subst hao5;obtain⟨p0,p1,p2,hkl,hLk,c0,c1,c2⟩:=hop_at hc5 hm (show m-1<m by omega);have hla:laH l=((p0,p1),p2):=by
    have e:laH l=l[m-1]:=by
     unfold laH;rw[hm];simp[List.getD,hkl]
    rw[e,hLk]
   have HLA:Hid (laH l=((p0,p1),p2)):=hla;rw[hla] at hsp;have HHD:Hid (hdrB (laH l).2=true):=hhd;have hsp2:=sp_of hsp;simp only at hsp2;have hs1:1≤p0:=hsp2.1;have hs2:p0≤(n3:Int):=by rw[H3S.out];exact hsp2.2.1
   have hn3m:(n3:Int)≤6:=by
    rw[H3S.out];exact (tp_0 HTP.out).1.2
   obtain⟨j,hj⟩:∃j:Nat,p0-1=(j:Int):=⟨(p0-1).toNat,by omega⟩;have hpw:IntKind.i64.wrap (p0-1)=(j:Int):=by
    rw[hj];exact wrap_small (by omega) (by omega)
   have jb0:(0:Int)≤(j:Int):=by omega
   have jb1:(j:Int)<(n3:Int):=by omega
   have hjn:j<n3:=by omega
   have hmi:IntKind.i64.wrap ((m:Int)-1)=((m-1:Nat):Int):=by
    rw[show (m:Int)-1=((m-1:Nat):Int) by omega];exact wrap_small (by omega) (by omega)
   have mb0:(0:Int)≤((m-1:Nat):Int):=by omega
   have mb1:((m-1:Nat):Int)<(m:Int):=by omega
   obtain⟨_,_,_,e6,_,_,_,hTa⟩:=(HTW.out _ HXo.out.below).form;cases e6;obtain⟨g3,o3,hao3,hc3,_⟩:=hTa (by omega);subst hao3;obtain⟨a4,n4,c4,t0,hs4⟩:=hc3 j (by rw[HN3.out];exact hjn);have hta:taT Ts (laH l).1.1=Ts.getD j []:=by
    unfold taT;rw[hla];show Ts.getD (p0-1).toNat []=_;rw[hj,Int.toNat_natCast]
   have HTA:Hid (taT Ts (laH l).1.1=Ts.getD j []):=hta;have HS4:Hid (SR wo (.slice a4 n4 c4) (taT Ts (laH l).1.1)):=by
    show SR _ _ _;rw[hta,getT (by rw[HN3.out];exact hjn)];exact hs4
   have HT4:Hid (tbN (taT Ts (laH l).1.1)=0):=by
    show _=_;rw[hta];exact HTB.out j (by rw[HN3.out];exact hjn)
   obtain⟨G,hGG⟩:∃G,G=gnF Ls Hs (taT Ts (laH l).1.1) l:=⟨_,rfl⟩;have HGG:Hid (gnF Ls Hs (taT Ts (laH l).1.1) l=G):=hGG.symm;obtain⟨hBw,_,_,⟨b0,b1,b2,b3⟩,r0,r1,r2,rf,f0,f1,f2,ff⟩:=HXo.out;have ff0:=ff 0;have ff1:=ff 1;have ff2:=ff 2;have y5:g5<wo.heap.size:=bLQ _ _ c0;have y3:g3<wo.heap.size:=bLQ _ _ t0;have y4:gf<wo.heap.size:=bLQ _ _ f0;have y0:w.heap.size<wo.heap.size:=bLQ _ _ b0;clear hm hXr hG hgn hFl hsp hhd hGa hc5 hkl hLk hla hsp2 hTa hc3 hs4 hta hGG hBw ff rf r0 r1 r2 hj;have HREL:Hid (∀(W:World) (ao6:Option Addr) (n6 cap6:Nat),Below wo.heap.size wo W→GS hopE W (.slice ao6 n6 cap6) G.1.2.2→(ao6=some ⟨g5,o5,none⟩∨∀g o,ao6=some ⟨g,o,none⟩→wo.heap.size≤g) →
    (∃(l:HpQ) (ao5:Option Addr) (m cap5:Nat) (F0:Int) (F1:ByteArray) (on:Bool),Value.bool G.2=.bool on∧l.length=m∧(0<m∧m≤24)∧RB w (put3 W gf (.int .i64 G.1.1) (.string G.1.2.1) (.slice ao6 n6 cap6)) gr gf S (.slice ao n cap) (.slice ao2 n2 cap2) (.slice (some ⟨g3,o3,none⟩) n3 cap3) F0 F1 (.slice ao5 m cap5)∧GS hopE (put3 W gf (.int .i64 G.1.1) (.string G.1.2.1) (.slice ao6 n6 cap6)) (.slice ao5 m cap5) l∧(∀g o,ao5=some ⟨g,o,none⟩→g≠gf∧g≠gr∧w.heap.size≤g)∧RI S Ls Hs Ts F on F0 F1 l)∧rmE (.bool G.2) ((put3 W gf (.int .i64 G.1.1) (.string G.1.2.1) (.slice ao6 n6 cap6)).cell? ⟨gf,2,none⟩)<rmE (.bool true) (wo.cell? ⟨gf,2,none⟩)∧rmE (.bool G.2) (some (.slice ao6 n6 cap6))<rmE (.bool true) (some (.slice (some ⟨g5,o5,none⟩) m cap5))):=by
    intro W ao6 n6 cap6 hbW hgW hw6;have hXW:=HXo.out.later hbW;have hput:=hXW.put G.1.1 G.1.2.1 (.slice ao6 n6 cap6);have hl6:=hgW.len;have hne6:∀g o,ao6=some ⟨g,o,none⟩→g≠gf∧g≠gr∧w.heap.size≤g:=by
     intro g o e
     rcases hw6 with h | h
     ·exact HGN.out g o (h.symm.trans e)
     have h1:=h g o e;have h2:=HXo.out.l2;have h3:=HXo.out.below.size;omega
    have hgp:=gs_put3 hgW (fun g o e=>(hne6 g o e).1) (.int .i64 G.1.1) (.string G.1.2.1) (.slice ao6 n6 cap6);have hL24:l.length≤24:=by rw[HML.out];exact hl24
    have hmm:n6=m∧G.2=false∨n6=m+1∧n6≤24∧G.2=true:=by
     cases hG2:G.2
     ·have h1:=gn_end (Ls:=Ls) (Hs:=Hs) (Ts:=Ts) hL24 (by rw[HGG.out];exact hG2);rw[HGG.out] at h1;rw[h1.2] at hl6;have:=HML.out;exact .inl ⟨by omega,rfl⟩
     obtain⟨q,h1,_,h3,_,_⟩:=gn_on (Ts:=Ts) HTP.out hL24 (by rw[HGG.out];exact hG2);rw[HGG.out] at h1;rw[h1] at hl6;have:=HML.out;simp only[List.length_append,List.length_cons,List.length_nil] at hl6 h3;exact .inr ⟨by omega,by omega,rfl⟩
    refine⟨⟨G.1.2.2,ao6,n6,cap6,G.1.1,G.1.2.1,G.2,rfl,hl6,by omega,hput,hgp,hne6,?_⟩,?_⟩
    ·cases hG2:G.2
     ·have h1:=gn_end (Ls:=Ls) (Hs:=Hs) (Ts:=Ts) hL24 (by rw[HGG.out];exact hG2);rw[HGG.out] at h1;exact .inr ⟨rfl,by rw[HFL.out,h1.1]⟩
     obtain⟨q,h1,h2,_,h4,h5⟩:=gn_on (Ts:=Ts) HTP.out hL24 (by rw[HGG.out];exact hG2);rw[HGG.out] at h1;rw[h1];refine .inl ⟨rfl,rfl,rfl,by rw[HFL.out,h2],?_,?_⟩
     ·rw[la_app];exact h4
     rw[la_app];exact h5
    rw[hput.f2,HXo.out.f2,and_self]
    rcases hmm with ⟨h1,h2⟩ | ⟨h1,h2,h3⟩
    ·rw[h2];simp only[rmE];omega
    rw[h3];simp only[rmE];omega
   go_upto_region 5 with fail
   go_region_with (go_at_call 51;refine (rgo_any S ao n cap ao2 n2 cap2 a4 n4 c4 (some ⟨g5,o5,none⟩) m cap5 Ls Hs (taT Ts (laH l).1.1) l _ (HLW.out _ (HXo.out.below.trans ((Below.drew (Below.refl _ _)).mono HXo.out.below.size))) (HHW.out _ (HXo.out.below.trans ((Below.drew (Below.refl _ _)).mono HXo.out.below.size))) (HS4.out.later (Below.drew (Below.refl _ _))) (HGo.out.later (Below.drew (Below.refl _ _))) HT4.out HHD.out hl0 hl24).mono ?_;rintro e w' ⟨ao6,n6,cap6,rfl,hg6,hb,hw6⟩;rw[HGG.out];rw[HGG.out] at hg6;have HBX:Hid (Below wo.heap.size wo w'):=(bdrew hb);have HRL:=HREL.out w' ao6 n6 cap6 HBX.out hg6 hw6;have HRLH:Hid _:=HRL;have HXX:=HXo.out.later HBX.out;obtain⟨_,_,_,_,_,_,_,_,k0,k1,k2,kf⟩:=HXX;have kf0:=kf 0;have kf1:=kf 1;have kf2:=kf 2;clear kf HRL hb)
   all_goals simp only[Act.put,List.setIfInBounds_toArray,List.set_cons_zero,List.set_cons_succ,List.getElem_toArray,List.getElem_cons_zero,List.getElem_cons_succ]
   all_goals go_wp2
   all_goals go_roundw
   all_goals first
    | exact HRLH.out.1
    | exact HRLH.out.2.1
    | exact HRLH.out.2.2
  have HFE:Hid (F=(F0,F1,l)):=hFe;obtain⟨hBw,hl1,hl2,⟨b0,b1,b2,b3⟩,r0,r1,r2,rf,f0,f1,f2,ff⟩:=HXo.out;have HBW:Hid (Below w.heap.size w (put3 wo gr (.int .i64 F0) (.string F1) (.slice ao5 m cap5))):=below_put3 hBw _ (by omega) _ _ _;have HGE:Hid (GS hopE (put3 wo gr (.int .i64 F0) (.string F1) (.slice ao5 m cap5)) (.slice ao5 m cap5) l):=gs_put3 HGo.out (fun g o e=>(HGN.out g o e).2.1) _ _ _;have rf0:=rf 0;have rf1:=rf 1;have rf2:=rf 2;have hne:gf≠gr:=by omega
  clear hm hXr hG hgn hFe hBw rf ff;go_wp2;refine bodyPost_ret (v:=.agg #[.int .i64 F0,.string F1,.slice ao5 m cap5]) (by simp[results,Tryz.results29,go_sem, *]) rfl ⟨_,_,_,by rw[HFE.out],?_,HBW.out,fun g o e=>(HGN.out g o e).2.2⟩;rw[HFE.out];exact HGE.out
end
section
open Go.ChangeShapes Go.WideShapes Go.ChangeAt Go.RowKit Go.Joins
def legE:Enc (Int×ByteArray×((Int×Int)×Int)) where
 c:=fun x=>[.int .i64 x.1,.string x.2.1,.int .i64 x.2.2.1.1,.int .i64 x.2.2.1.2,.int .i64 x.2.2.2]
 n:=5
 len:=fun _=>rfl
 pos:=by decide
 one:=by
  intro x u hu;simp at hu
  rcases hu with rfl | rfl | rfl | rfl | rfl <;> rfl
theorem leg_cells {w:World}{g o:Nat}{x0:Int}{x1:ByteArray}{x2 x3 x4:Int}(h:VAt w g o (legE.c (x0,x1,((x2,x3),x4)))):w.cell? ⟨g,o,none⟩=some (.int .i64 x0)∧w.cell? ⟨g,o+1,none⟩=some (.string x1)∧w.cell? ⟨g,o+2,none⟩=some (.int .i64 x2)∧w.cell? ⟨g,o+3,none⟩=some (.int .i64 x3)∧w.cell? ⟨g,o+4,none⟩=some (.int .i64 x4):=
 ⟨h 0 _ rfl,h 1 _ rfl,h 2 _ rfl,h 3 _ rfl,h 4 _ rfl⟩
def legB (a b:Int×ByteArray×((Int×Int)×Int)):Bool:=(a.1==b.1)&&((a.2.1==b.2.1)&&((a.2.2.1.1==b.2.2.1.1)&&((a.2.2.1.2==b.2.2.1.2)&&((a.2.2.2==b.2.2.2)))))
theorem leg_ways (x0:Int)(x1:ByteArray)(x2 x3 x4 y0:Int)(y1:ByteArray)(y2 y3 y4:Int):
 ((x0==y0)=false∧legB (x0,x1,((x2,x3),x4)) (y0,y1,((y2,y3),y4))=false) ∨
 ((x0==y0)=true∧(x1.toList==y1.toList)=false∧legB (x0,x1,((x2,x3),x4)) (y0,y1,((y2,y3),y4))=false) ∨
 ((x0==y0)=true∧(x1.toList==y1.toList)=true∧(x2==y2)=false∧legB (x0,x1,((x2,x3),x4)) (y0,y1,((y2,y3),y4))=false) ∨
 ((x0==y0)=true∧(x1.toList==y1.toList)=true∧(x2==y2)=true∧(x3==y3)=false∧legB (x0,x1,((x2,x3),x4)) (y0,y1,((y2,y3),y4))=false) ∨
 ((x0==y0)=true∧(x1.toList==y1.toList)=true∧(x2==y2)=true∧(x3==y3)=true∧(x4==y4)=false∧legB (x0,x1,((x2,x3),x4)) (y0,y1,((y2,y3),y4))=false) ∨
 ((x0==y0)=true∧(x1.toList==y1.toList)=true∧(x2==y2)=true∧(x3==y3)=true∧(x4==y4)=true∧legB (x0,x1,((x2,x3),x4)) (y0,y1,((y2,y3),y4))=true):=by
 have e:legB (x0,x1,((x2,x3),x4)) (y0,y1,((y2,y3),y4))=((x0==y0)&&((x1.toList==y1.toList)&&((x2==y2)&&((x3==y3)&&((x4==y4)))))):=by simp only[legB,beq_toListBytes]
 rw[e];cases h0:(x0==y0)
 ·simp
 skip;cases h1:(x1.toList==y1.toList)
 ·simp
 skip;cases h2:(x2==y2)
 ·simp
 skip;cases h3:(x3==y3)
 ·simp
 skip;cases h4:(x4==y4)
 ·simp
 skip;simp
theorem leg_info:(Tryz.prog.info? 198).map (fun i=>(i.zero,i.size,i.bytes))=some (some (.agg #[.int .i64 0,.string ByteArray.empty,.int .i64 0,.int .i64 0,.int .i64 0]),5,48):=by kernel_rfl
theorem leg_zero:(Value.agg #[.int .i64 0,.string ByteArray.empty,.int .i64 0,.int .i64 0,.int .i64 0]).cells.size=5:=by simp[Value.cells]
end
section
open Go.RowKit
def LGs (W:World)(B:Nat)(v:Value)(f:Nat→Nat→Lg)(k:Nat):Prop:=
 ∃vs:List Value,W.ownsRow B 247 1 v k vs∧∀i,i<k→∃u,vs[i]?=some u∧W.ownsRow B 198 5 u 16 (cellsG legE ((List.range 16).map (f i)))
theorem LGs.later {W W':World}{B:Nat}{v:Value}{f:Nat→Nat→Lg}{k:Nat}(h:LGs W B v f k)(hb:Below W.heap.size W W'):LGs W' B v f k:=by
 obtain⟨vs,h1,h2⟩:=h;refine⟨vs,own_below h1 hb,fun i hi=>?_⟩;obtain⟨u,e,h3⟩:=h2 i hi;exact⟨u,e,own_below h3 hb⟩
theorem LGs.mono {W:World}{B B':Nat}{v:Value}{f:Nat→Nat→Lg}{k:Nat}(h:LGs W B v f k)(hB:B'≤B):LGs W B' v f k:=by
 obtain⟨vs,h1,h2⟩:=h;refine⟨vs,own_mono h1 hB,fun i hi=>?_⟩;obtain⟨u,e,h3⟩:=h2 i hi;exact⟨u,e,own_mono h3 hB⟩
theorem lgs_nil (W:World)(B:Nat)(f:Nat→Nat→Lg):LGs W B (.slice none 0 0) f 0:=⟨[],World.ownsRow_nil _ _ _ _,fun i hi=>by omega⟩
theorem LGs.push {W W':World}{B:Nat}{v v' u:Value}{f:Nat→Nat→Lg}{k:Nat}(h:LGs W B v f k)(hu:W.ownsRow B 198 5 u 16 (cellsG legE ((List.range 16).map (f k))))(hg:W.grownBy W' v.ownBlock)(hv:∀vs,W.ownsRow B 247 1 v k vs→W'.ownsRow B 247 1 v' (k+1) (vs++[u])):LGs W' B v' f (k+1):=by
 obtain⟨vs,h1,h2⟩:=h;have hl:vs.length=k:=by simpa using h1.1
 refine⟨vs++[u],hv vs h1,fun i hi=>?_⟩;by_cases e:i=k
 ·subst e;refine⟨u,by rw[List.getElem?_append_right (by omega),hl];simp,hu.kept hg ?_⟩;exact own_apart hu h1 (by decide)
 obtain⟨y,e1,h3⟩:=h2 i (by omega);refine⟨y,by rw[List.getElem?_append_left (by omega)];exact e1,h3.kept hg ?_⟩;exact own_apart h3 h1 (by decide)
theorem own_uniq {W:World}{B B' e size n:Nat}{v:Value}{xs ys:List Value}(h:W.ownsRow B e size v n xs)(k:W.ownsRow B' e size v n ys):xs=ys:=by
 rcases h.2 with ⟨rfl,rfl⟩ | ⟨g,cap,cur,rfl,_,hg,_,_,_,ht⟩
 ·have h1:=h.1;have h2:=k.1;simp at h1 h2;rw[h1,h2]
 rcases k.2 with ⟨h,_⟩ | ⟨g',cap',cur',e,_,hg',_,_,_,ht'⟩
 ·simp at h
 simp only[Value.slice.injEq,Option.some.injEq,Addr.mk.injEq,and_true,true_and] at e;obtain⟨rfl,rfl⟩:=e;rw[hg] at hg';cases hg';rw[←ht,←ht']
theorem legs_info:(Tryz.prog.info? 247).map (fun i=>(i.zero,i.size,i.bytes))=some (some (.slice none 0 0),1,24):=by kernel_rfl
theorem range_succ_map {α:Type}(f:Nat→α)(h:Nat):(List.range (h+1)).map f=(List.range h).map f++[f h]:=by simp[List.range_succ]
theorem legs_any (S:Int)(ao:Option Addr)(n cap:Nat)(ao2:Option Addr)(n2 cap2:Nat)(ao3:Option Addr)(n3 cap3:Nat)(Ls:LkQ)(Hs:HoQ)(Ts:List (List Ru))(w:World)
 (hL:GS lnkE w (.slice ao n cap) Ls) (hH:GS hstE w (.slice ao2 n2 cap2) Hs) (hT:TS w (.slice ao3 n3 cap3) Ts) (hN:ntN S Ls Hs Ts=0):
 Calls Tryz.prog 100 #[.agg #[.int .i64 S,.slice ao n cap,.slice ao2 n2 cap2,.slice ao3 n3 cap3]] w fun e w'=>∃v,e=.returned v∧LGs w' w.heap.size v (fun (a h:Nat)=>lgT Ls Hs (taT Ts ((a:Int)+1)) (((a:Int)+1,0),(h:Int))) n3∧Below w.heap.size w w':=by
 obtain⟨hTP,hTL,hTT⟩:=nt_0 hN;have hS:=(tp_0 hTP).1;have hnd:=(tp_0 hTP).2.2.2.1;have hTn:=hT.len;have hLn:=hL.len;have hl2:=(tp_0 hTP).2.1;have H36:Hid (n3≤6):=by show _≤_;omega
 have h36:n3≤6:=H36.out;obtain rfl:S=(n3:Int):=by omega
 have HND:Hid ((spsL Ls).Nodup):=hnd;have HN1:Hid (n≤1000):=by show _≤_;omega
 have HTT:Hid (∀k,k<Ts.length→tbN (Ts.getD k [])=0):=hTT;have HLW:Hid (∀W,Below w.heap.size w W→GS lnkE W (.slice ao n cap) Ls):=fun W hb=>hL.later hb
 have HHW:Hid (∀W,Below w.heap.size w W→GS hstE W (.slice ao2 n2 cap2) Hs):=fun W hb=>hH.later hb
 have HTW:Hid (∀W,Below w.heap.size w W→TS W (.slice ao3 n3 cap3) Ts):=fun W hb=>hT.later hb
 obtain⟨f,hf⟩:∃f:Nat→Nat→Lg,f=fun (a h:Nat)=>lgT Ls Hs (taT Ts ((a:Int)+1)) (((a:Int)+1,0),(h:Int)):=⟨_,rfl⟩
 have HF:Hid (∀a h:Nat,lgT Ls Hs (taT Ts ((a:Int)+1)) (((a:Int)+1,0),(h:Int))=f a h):=fun a h=>by rw[hf]
 rw[←hf];have hX:=nebox_new w (n3:Int) (.slice ao n cap) (.slice ao2 n2 cap2) (.slice ao3 n3 cap3) 28;have hB0:Below w.heap.size w (w.alloc (Obj.cells #[.int .i64 (n3:Int),.slice ao n cap,.slice ao2 n2 cap2,.slice ao3 n3 cap3] 28)):=(Below.refl _ _).alloc (Nat.le_refl _) _;obtain⟨w0,hw0⟩:∃W,w.alloc (Obj.cells #[.int .i64 (n3:Int),.slice ao n cap,.slice ao2 n2 cap2,.slice ao3 n3 cap3] 28)=W:=⟨_,rfl⟩;rw[hw0] at hX hB0;have HX:Hid (NeBox w0 w.heap.size (n3:Int) (.slice ao n cap) (.slice ao2 n2 cap2) (.slice ao3 n3 cap3)):=hX;have HB0:Hid (Below w.heap.size w w0):=hB0;have HW0:Hid (w.alloc (Obj.cells #[.int .i64 (n3:Int),.slice ao n cap,.slice ao2 n2 cap2,.slice ao3 n3 cap3] 28)=w0):=hw0;clear hL hH hT hN hTP hTL hTT hS hnd hTn hLn hl2 hf hX hB0 hw0;go_enter Tryz.func100,Tryz.ntmps100;go_upto_region 1 with fail;rw[HW0.out];clear HW0;obtain⟨b0,b1,b2,b3⟩:=HX.out
 go_wp2_with fail
 refine (peers_any ao n cap Ls _ (HLW.out _ HB0.out) HND.out HN1.out).mono ?_;rintro e w1 ⟨B,M,rfl,hM,hPM,hb1⟩;have HM:Hid (MAt spotKey veS w1 B M):=hM;have HPM:Hid (PM M Ls):=hPM;have HX1:Hid (NeBox w1 w.heap.size (n3:Int) (.slice ao n cap) (.slice ao2 n2 cap2) (.slice ao3 n3 cap3)):=HX.out.later hb1;have HB1:Hid (Below w.heap.size w w1):=HB0.out.trans (hb1.mono HB0.out.size);clear hM hPM hb1 HX HB0 b0 b1 b2 b3;go_wp2
 go_loopw [4,5] (fun v i wr=>∃k:Nat,k≤n3∧i=.int .i64 ((k:Int)+1)∧LGs wr w1.heap.size v f k∧Below w1.heap.size w1 wr) (fun _ i _=>n3+1-(intOf i).toNat)
 case atStart=>exact⟨0,by omega,rfl,lgs_nil _ _ _,Below.refl _ _⟩
 case round =>
  obtain⟨k,hk,rfl,hG,hB⟩:=hrel;obtain⟨v4,hv4⟩:∃X,X=u4:=⟨_,rfl⟩;subst hv4;obtain⟨wo,hwo⟩:∃X,X=wr:=⟨_,rfl⟩;subst hwo;have HG:Hid (LGs wo w1.heap.size v4 f k):=hG;have HB:Hid (Below w1.heap.size w1 wo):=hB;have HBw:Hid (Below w.heap.size w wo):=HB1.out.trans (hB.mono HB1.out.size);have HXr:Hid (NeBox wo w.heap.size (n3:Int) (.slice ao n cap) (.slice ao2 n2 cap2) (.slice ao3 n3 cap3)):=HX1.out.later hB;have HMr:Hid (MAt spotKey veS wo B M):=HM.out.later hB;obtain⟨b0,b1,b2,b3⟩:=HXr.out;clear hG hB;by_cases hlt:k<n3
  ·have dk:decide (((k:Int)+1)≤(n3:Int))=true:=by simp;omega
   have hle:(k:Int)+1≤(n3:Int):=by omega
   go_upto_region 7 with fail;clear dk hle;go_wp2
   go_loopw [6,19] (fun u i W=>∃h:Nat,h≤16∧i=.int .i64 h∧W.ownsRow wo.heap.size 198 5 u h (cellsG legE ((List.range h).map (f k)))∧Below wo.heap.size wo W) (fun _ i _=>16-(intOf i).toNat)
   case atStart=>exact⟨0,by omega,rfl,World.ownsRow_nil _ _ _ _,Below.refl _ _⟩
   case round =>
    obtain⟨h,hh,rfl,hown,hBi⟩:=hrel;obtain⟨ao6,cap6,rfl⟩:=own_form hown;have HOWN:Hid (wr.ownsRow wo.heap.size 198 5 (.slice ao6 h cap6) h (cellsG legE ((List.range h).map (f k)))):=hown;have HBi:Hid (Below wo.heap.size wo wr):=hBi;have HBw2:Hid (Below w.heap.size w wr):=HBw.out.trans (hBi.mono HBw.out.size);obtain⟨b0,b1,b2,b3⟩:=HXr.out.later hBi;clear hown;by_cases hlt16:h<16
    ·obtain⟨G,hG⟩:∃G,G=f k h:=⟨_,rfl⟩;have HLEG:Hid (Calls Tryz.prog 98 #[.agg #[.int .i64 (n3:Int),.slice ao n cap,.slice ao2 n2 cap2,.slice ao3 n3 cap3],.map (some B),.agg #[.int .i64 ((k:Int)+1),.int .i64 0,.int .i64 (h:Int)]] wr fun e w'=>e=.returned (legV G)∧Below wr.heap.size wr w'):=by
      have h:=leg_any (n3:Int) ao n cap ao2 n2 cap2 ao3 n3 cap3 Ls Hs Ts B M ((k:Int)+1) 0 (h:Int) wr (HHW.out _ HBw2.out) (HTW.out _ HBw2.out) (HMr.out.later hBi) HPM.out HTT.out (by omega) (by omega) H36.out;rw[HF.out,←hG] at h;exact h
     have HG5:Hid ((List.range (h+1)).map (f k)=(List.range h).map (f k)++[G]):=by
      show _=_;rw[range_succ_map,hG]
     clear hBi hG;obtain⟨x0,x1,⟨x2,x3⟩,x4⟩:=G;unfold legV at HLEG
     dsimp only at HLEG
     go_wp2_with fail
     refine HLEG.out.mono ?_;rintro e w3 ⟨rfl,hb3⟩;have HO3:Hid (w3.ownsRow wo.heap.size 198 5 (.slice ao6 h cap6) h (cellsG legE ((List.range h).map (f k)))):=own_below HOWN.out hb3;have HB3:Hid (Below wo.heap.size wo w3):=HBi.out.trans (hb3.mono HBi.out.size);have hs3:wo.heap.size≤w3.heap.size:=HB3.out.size;obtain⟨j0,hj,hy0,hy1,hy2⟩:=info_parts leg_info;clear hb3 b0 b1 b2 b3 HLEG
     go_wp2_with (at_builtin;refine wpList_append_own _ rfl _ _ 247 rfl wo.heap.size 198 j0 (.agg #[.int .i64 0,.string ByteArray.empty,.int .i64 0,.int .i64 0,.int .i64 0]) 5 48 Tryz.underlying247 hj hy0 hy1 hy2 leg_zero (by decide) _ _ _ rfl (HO3.out.alloc _) ⟨w3.heap.size,0,none⟩ 1 1 [.int .i64 x0,.string x1,.int .i64 x2,.int .i64 x3,.int .i64 x4] rfl rfl ?m1 ?m2 ?m3 ?m4 ?m5 ?_)
     case m1 =>
      intro j u hj
      match j,hj with
      | 0,hj=>simp at hj;subst hj;simp[Addr.add]
      | 1,hj=>simp at hj;subst hj;simp[Addr.add]
      | 2,hj=>simp at hj;subst hj;simp[Addr.add]
      | 3,hj=>simp at hj;subst hj;simp[Addr.add]
      | 4,hj=>simp at hj;subst hj;simp[Addr.add]
     case m2=>intro u hu;simp at hu;rcases hu with rfl | rfl | rfl | rfl | rfl <;> rfl
     case m3=>unfold maxLen;omega
     case m4=>omega
     case m5=>simp;omega
     intro v5 w5 hown5 hgrow5 _;obtain⟨ao7,cap7,rfl⟩:=own_form hown5;have hb5:Below wo.heap.size w3 w5:=((Below.refl _ w3).alloc hs3 _).grown hgrow5 (by simp;omega) (fun g hg=>(HO3.out.lt g hg).1);have HB5:Hid (Below wo.heap.size wo w5):=HB3.out.trans hb5;have HO5:Hid (w5.ownsRow wo.heap.size 198 5 (.slice ao7 (h+1) cap7) (h+1) (cellsG legE ((List.range (h+1)).map (f k)))):=by
      show World.ownsRow _ _ _ _ _ _ _;rw[HG5.out,cellsG_app,cellsG_one];exact hown5
     clear hb5 hgrow5 hown5;go_wp2;go_roundw
     case rel=>exact⟨h+1,by omega,by go_num,HO5.out,HB5.out⟩
     case measure=>simp[intOf];omega
    obtain rfl:h=16:=by omega
    have HG3:Hid (LGs wr w1.heap.size v4 f k):=HG.out.later hBi;have HU3:Hid (wr.ownsRow w1.heap.size 198 5 (.slice ao6 16 cap6) 16 (cellsG legE ((List.range 16).map (f k)))):=own_mono HOWN.out HB.out.size;have HB3:Hid (Below w1.heap.size w1 wr):=HB.out.trans (hBi.mono HB.out.size);have hs3:w1.heap.size≤wr.heap.size:=HB3.out.size;obtain⟨vs,hvs,_⟩:=HG3.out;have HVS:Hid (wr.ownsRow w1.heap.size 247 1 v4 k vs):=hvs;obtain⟨ao8,cap8,rfl⟩:=own_form hvs;obtain⟨j0,hj,hy0,hy1,hy2⟩:=info_parts legs_info;clear hBi hvs b0 b1 b2 b3
    go_wp2_with (at_builtin;refine wpList_append_own _ rfl _ _ 143 rfl w1.heap.size 247 j0 (.slice none 0 0) 1 24 Tryz.underlying143 hj hy0 hy1 hy2 rfl (by decide) _ _ _ rfl (HVS.out.alloc _) ⟨wr.heap.size,0,none⟩ 1 1 [.slice ao6 16 cap6] rfl rfl ?n1 ?n2 ?n3 ?n4 ?n5 ?_)
    case n1 =>
     intro j u hj
     match j,hj with
     | 0,hj=>simp at hj;subst hj;simp[Addr.add]
    case n2=>intro u hu;simp at hu;subst hu;rfl
    case n3=>unfold maxLen;omega
    case n4=>omega
    case n5=>simp;omega
    intro v5 w5 hown5 hgrow5 _;obtain⟨ao7,cap7,rfl⟩:=own_form hown5;have hal:Below wr.heap.size wr (wr.alloc (Obj.cells #[.slice ao6 16 cap6] 247)):=(Below.refl _ _).alloc (Nat.le_refl _) _;have hb5:Below w1.heap.size wr w5:=((Below.refl _ wr).alloc hs3 _).grown hgrow5 (by simp;omega) (fun g hg=>(HVS.out.lt g hg).1);have HB5:Hid (Below w1.heap.size w1 w5):=HB3.out.trans hb5;have HG5:Hid (LGs w5 w1.heap.size (.slice ao7 (k+1) cap7) f (k+1)):=by
     refine LGs.push (HG3.out.later hal) (own_below HU3.out hal) hgrow5 (fun vs' h'=>?_);have e:vs'=vs:=by
      have h2:=own_below HVS.out hal;exact own_uniq h' h2
     rw[e];exact hown5
    clear hb5 hgrow5 hown5 hal;go_wp2;go_roundw
    case rel=>exact⟨k+1,by omega,by go_num,HG5.out,HB5.out⟩
    case measure=>simp[intOf];omega
  obtain rfl:k=n3:=by omega
  have dk:decide (((k:Int)+1)≤(k:Int))=false:=by simp;omega
  have hle:¬((k:Int)+1≤(k:Int)):=by omega
  go_wp2;go_ret;exact⟨_,rfl,HG.out.mono HB1.out.size,HB1.out.trans (HB.out.mono HB1.out.size)⟩
def sxH (l:HpQ):Nat:=((laH l).1.1-1).toNat
def mtS (met:Nat→Bool)(a:Nat):Nat→Bool:=fun b=>if b=a then true else met b
def tkL (k:HpQ→(Nat→Bool)→List (Int×ByteArray×HpQ))(g:Lg)(l:HpQ)(met:Nat→Bool):List (Int×ByteArray×HpQ):=
 if g.1=0 then k (l++[g.2.2]) met else [(g.1,g.2.1,l)]
section
variable (Ls:LkQ)(Hs:HoQ)(As Bs:List (List Ru))
def lgA (Ts:List (List Ru))(l:HpQ):Lg:=afL (lgT Ls Hs (taT Ts (laH l).1.1) (laH l)) l
def pwL:Nat→HpQ→(Nat→Bool)→List (Int×ByteArray×HpQ)
 | 0,_,_=>[]
 | n+1,l,met =>
   if met (sxH l)=true then tkL (pwL n) (lgA Ls Hs Bs l) l met
   else tkL (pwL n) (lgA Ls Hs As l) l met++(if lgA Ls Hs Bs l=lgA Ls Hs As l then [] else tkL (pwL n) (lgA Ls Hs Bs l) l (mtS met (sxH l)))
end
section
variable {Ls:LkQ}{Hs:HoQ}{As Bs:List (List Ru)}
theorem la_24 {Ts:List (List Ru)}{l:HpQ}(h:(lgA Ls Hs Ts l).1=0):l.length≠24:=(af_0 h).2.2.1
theorem la_sp {S:Int}(ht:tpN S Ls Hs=0){Ts:List (List Ru)}{l:HpQ}(h:(lgA Ls Hs Ts l).1=0):spB S (lgA Ls Hs Ts l).2.2.1=true:=by
 unfold lgA at *;obtain⟨e,h0,_⟩:=af_0 h;rw[e];exact lg_sp ht h0
theorem wk_mono:∀(n:Nat) (l:HpQ) (m m2:List Int),(∀s∈m,s∈m2)→∀x,x∈wkL Ls Hs As Bs n l m2 []→x∈wkL Ls Hs As Bs n l m []
 | 0,l,m,m2,hm,x,h=>h
 | n+1,l,m,m2,hm,x,h=>by
   have on:∀(a b:List Int),(∀s∈a,s∈b)→∀g,x∈onL (fun l' a'=>wkL Ls Hs As Bs n l' b a') l [] g→x∈onL (fun l' a'=>wkL Ls Hs As Bs n l' a a') l [] g:=by
    intro a b hab g hx;cases g with
    | inl e=>exact hx
    | inr p=>exact wk_mono n _ a b hab x hx
   have mm:∀(k:List Int) (a:List (Int×ByteArray×HpQ)) g,x∈onL (fun l' a'=>wkL Ls Hs As Bs n l' k a') l a g↔x∈a∨x∈onL (fun l' a'=>wkL Ls Hs As Bs n l' k a') l [] g:=fun k a g=>on_mem (fun l' a x=>wk_mem n l' _ a x) l a g x
   rw[wkL] at h ⊢;by_cases hc:chB As Bs (laH l).1.1=true
   ·rw[if_pos hc] at h ⊢;by_cases h2:(laH l).1.1∈m2
    ·simp only[h2,if_true] at h;by_cases h1:(laH l).1.1∈m
     ·simp only[h1,if_true];exact on _ _ hm _ h
     simp only[h1,if_false];refine (mm _ _ _).2 (.inr (on _ _ ?_ _ h));intro s hs
     rcases List.mem_append.1 hs with hs | hs
     ·exact hm s hs
     rw[List.mem_singleton.1 hs];exact h2
    have h1:¬(laH l).1.1∈m:=fun h=>h2 (hm _ h)
    simp only[h1,h2,if_false] at h ⊢
    rcases (mm _ _ _).1 h with h | h
    ·exact (mm _ _ _).2 (.inl (on _ _ hm _ h))
    refine (mm _ _ _).2 (.inr (on _ _ ?_ _ h));intro s hs
    rcases List.mem_append.1 hs with hs | hs
    ·exact List.mem_append.2 (.inl (hm s hs))
    exact List.mem_append.2 (.inr hs)
   rw[if_neg hc] at h ⊢;by_cases h2:(laH l).1.1∈m2
   ·rw[if_pos h2] at h;simp at h
   have h1:¬(laH l).1.1∈m:=fun h=>h2 (hm _ h)
   rw[if_neg h2] at h;rw[if_neg h1];exact on _ _ hm _ h
theorem pw_mem {S:Int}(ht:tpN S Ls Hs=0)(hA:∀s,tbN (taT As s)=0)(hB:∀s,tbN (taT Bs s)=0):∀(n:Nat) (l:HpQ) (met:Nat→Bool) (m:List Int),1≤(laH l).1.1→(∀s:Int,1≤s→(met (s-1).toNat=true↔s∈m))→(∀s∈m,chB As Bs s=true)→∀x,x∈pwL Ls Hs As Bs n l met↔x∈wkL Ls Hs As Bs n l m []
 | 0,l,met,m,h1,h2,h3,x=>by simp[pwL,wkL]
 | n+1,l,met,m,h1,h2,h3,x=>by
   have ih:=pw_mem ht hA hB n;obtain⟨s,hs⟩:∃s,s=(laH l).1.1:=⟨_,rfl⟩;have hsx:sxH l=(s-1).toNat:=by rw[sxH,←hs]
   have s1:1≤s:=by rw[hs];exact h1
   have tk:∀(Ts:List (List Ru)) (met2:Nat→Bool) (m2:List Int),(∀s:Int,1≤s→(met2 (s-1).toNat=true↔s∈m2))→(∀s∈m2,chB As Bs s=true)→(x∈tkL (pwL Ls Hs As Bs n) (lgA Ls Hs Ts l) l met2↔x∈onL (fun l' a'=>wkL Ls Hs As Bs n l' m2 a') l [] (goE Ls Hs (taT Ts s) l (laH l))):=by
    intro Ts met2 m2 q2 q3;have e:goE Ls Hs (taT Ts s) l (laH l)=lgE (lgA Ls Hs Ts l):=by rw[hs];exact go_lg
    rw[e];unfold tkL lgE;by_cases h0:(lgA Ls Hs Ts l).1=0
    ·rw[if_pos h0,if_pos h0];refine ih _ met2 m2 ?_ q2 q3 x;rw[la_app];have:=sp_of (la_sp ht h0);exact this.1
    rw[if_neg h0,if_neg h0];simp only[onL];rw[pu_mem lo_fate];simp
   have mm:∀(k:List Int) (a:List (Int×ByteArray×HpQ)) g,x∈onL (fun l' a'=>wkL Ls Hs As Bs n l' k a') l a g↔x∈a∨x∈onL (fun l' a'=>wkL Ls Hs As Bs n l' k a') l [] g:=fun k a g=>on_mem (fun l' a x=>wk_mem n l' _ a x) l a g x
   rw[pwL,wkL,←hs,hsx];by_cases hm:met (s-1).toNat=true
   ·have hin:=(h2 s s1).1 hm;rw[if_pos hm,if_pos (h3 s hin)];simp only[hin,if_true];exact tk Bs met m h2 h3
   have hin:¬s∈m:=fun h=>hm ((h2 s s1).2 h)
   rw[if_neg hm];by_cases hc:chB As Bs s=true
   ·rw[if_pos hc];simp only[hin,if_false];have q2:∀t:Int,1≤t→(mtS met (s-1).toNat (t-1).toNat=true↔t∈m++[s]):=by
     intro t t1;unfold mtS;by_cases e:t=s
     ·subst e;simp
     rw[if_neg (by omega),h2 t t1];simp[e]
    have q3:∀t∈m++[s],chB As Bs t=true:=by
     intro t htt
     rcases List.mem_append.1 htt with h | h
     ·exact h3 t h
     rw[List.mem_singleton.1 h];exact hc
    rw[List.mem_append,mm,tk As met m h2 h3];by_cases e:lgA Ls Hs Bs l=lgA Ls Hs As l
    ·rw[if_pos e];simp only[List.not_mem_nil,or_false];constructor
     ·exact .inl
     rintro (h | h)
     ·exact h
     have e2:goE Ls Hs (taT Bs s) l (laH l)=goE Ls Hs (taT As s) l (laH l):=by
      rw[hs,go_lg,go_lg];exact congrArg lgE e
     rw[e2] at h;cases hg:goE Ls Hs (taT As s) l (laH l) with
     | inl e=>rw[hg] at h;exact h
     | inr p =>
       rw[hg] at h;exact wk_mono n _ m (m++[s]) (fun t h=>List.mem_append.2 (.inl h)) x h
    rw[if_neg e,tk Bs _ _ q2 q3]
   rw[if_neg hc,if_neg hin];have e:lgA Ls Hs Bs l=lgA Ls Hs As l:=by
    unfold lgA;have e1:lgT Ls Hs (taT Bs (laH l).1.1) (laH l)=lgT Ls Hs (taT As (laH l).1.1) (laH l):=by
     unfold lgT;rw[←hs,st_alike (hA s) (hB s) (ch_alike (by simpa using hc))]
    rw[e1]
   rw[if_pos e,List.append_nil];exact tk As met m h2 h3
def pwS (Ls:LkQ)(Hs:HoQ)(As Bs:List (List Ru))(s:Int×Int)(h:Int):List (Int×ByteArray×HpQ):=pwL Ls Hs As Bs 24 [(s,h)] (fun _=>false)
theorem ps_mem {S:Int}(ht:tpN S Ls Hs=0)(hA:∀s,tbN (taT As s)=0)(hB:∀s,tbN (taT Bs s)=0){s:Int×Int}(hs:spB S s=true)(h:Int)(x:Int×ByteArray×HpQ):x∈pwS Ls Hs As Bs s h↔x∈seeL Ls Hs As Bs s h:=
 pw_mem ht hA hB 24 [(s,h)] (fun _=>false) [] (sp_of hs).1 (fun s _=>by simp) (fun s h=>absurd h List.not_mem_nil) x
end
def hopAsks (w:World)(f:FuncId)(c:Value)(P:(Int×Int)×Int→Bool):Prop:=
 ∀(x0:Int) (x1:Int) (x2:Int) (W:World),Below w.heap.size w W→Calls Tryz.prog f #[.agg #[.int .i64 x0,.int .i64 x1,.int .i64 x2],c] W fun e w'=>e=.returned (.bool (P ((x0,x1),x2)))∧Below W.heap.size W w'
theorem hopAsks.later {w w':World}{f:FuncId}{c:Value}{P:(Int×Int)×Int→Bool}(h:hopAsks w f c P)(hb:Below w.heap.size w w'):hopAsks w' f c P:=
 fun x0 x1 x2 W hW=>h x0 x1 x2 W (hb.trans (hW.mono hb.size))
theorem hop_idxF (ao:Option Addr)(n cap:Nat)(f:FuncId)(c:Value)(P:(Int×Int)×Int→Bool)(L:HpQ)(w:World)(hn:L.length=n)(hn2:n≤maxLen)(ha:0<n→∃g o,ao=some ⟨g,o,none⟩∧GAt hopE w g o L∧cap≤maxLen)(he:∀args w,(callFunc f args).run Tryz.prog w=.ok (.enter f args) w)(hf:hopAsks w f c P):
 Calls Tryz.prog 163 #[.slice ao n cap,.func (Fn.func f) #[] #[c]] w fun e w'=>e=.returned (.int .i64 (ixG P L))∧Below w.heap.size w w':=by
 have HN:Hid (L.length=n):=hn;have HF:Hid (hopAsks w f c P):=hf;have HA:Hid (0<n→∃g o,ao=some ⟨g,o,none⟩∧GAt hopE w g o L∧cap≤maxLen):=ha;unfold maxLen at hn2;clear hn hf ha;go_enter Tryz.func163,Tryz.ntmps163;go_wp2
 go_loopw [8] (fun i wr=>∃k:Nat,k≤n∧i=.int .i64 k∧(L.take k).any P=false∧Below w.heap.size w wr)
  (fun i _=>n-(intOf i).toNat)
 case atStart=>exact⟨0,by omega,rfl,by simp,Below.refl _ _⟩
 case round =>
  obtain⟨k,hk,rfl,hno,hB⟩:=hrel;have HB:Hid (Below w.heap.size w wr):=hB;have HNO:Hid ((L.take k).any P=false):=hno;clear hno;by_cases hlt:k<n
  ·obtain⟨g,o,hao,hc,_⟩:=HA.out (by omega);subst hao;obtain⟨x0,x1,x2,hkl,hL,q0,q1,q2⟩:=hop_at (hc.later hB) HN.out hlt;have HL:Hid (L[k]=((x0,x1),x2)):=hL;clear hL hB;cases ho:P ((x0,x1),x2)
   ·go_wp2_with fail
    refine (HF.out x0 x1 x2 _ HB.out).mono ?_;rintro e w1 ⟨rfl,hb1⟩;rw[ho];have HB1:=HB.out.trans (hb1.mono HB.out.size);clear hb1;go_wp2;go_roundw
    case rel=>exact⟨k+1,by omega,by go_num,any_nextG hkl HNO.out (by rw[HL.out];exact ho),HB1⟩
    case measure=>simp[intOf];omega
   go_wp2_with fail
   refine (HF.out x0 x1 x2 _ HB.out).mono ?_;rintro e w1 ⟨rfl,hb1⟩;rw[ho];go_wp2;go_ret;exact⟨by rw[ixG_hit hkl HNO.out (by rw[HL.out];exact ho)];rfl,HB.out.trans (hb1.mono HB.out.size)⟩
  obtain rfl:k=n:=by omega
  go_wp2;go_ret;exact⟨by have:=HNO.out;rw[←HN.out,List.take_length] at this;rw[ixG_no this];rfl,HB.out⟩
theorem hop_hasF (ao:Option Addr)(n cap:Nat)(f:FuncId)(c:Value)(P:(Int×Int)×Int→Bool)(L:HpQ)(w:World)(hn:L.length=n)(hn2:n≤maxLen)(ha:0<n→∃g o,ao=some ⟨g,o,none⟩∧GAt hopE w g o L∧cap≤maxLen)(he:∀args w,(callFunc f args).run Tryz.prog w=.ok (.enter f args) w)(hf:hopAsks w f c P):
 Calls Tryz.prog 156 #[.slice ao n cap,.func (Fn.func f) #[] #[c]] w fun e w'=>e=.returned (.bool (L.any P))∧Below w.heap.size w w':=by
 rw[←ixG_any];obtain⟨x,hx⟩:∃x,x=ixG P L:=⟨_,rfl⟩;have HX:Hid (x=ixG P L):=hx;rw[←hx];clear hx;go_enter Tryz.func156,Tryz.ntmps156
 go_wp2_with fail
 refine (hop_idxF ao n cap f c P L _ hn hn2 ha he hf).mono ?_;rintro e w1 ⟨rfl,hb1⟩;rw[←HX.out];go_wp2;go_ret;exact⟨rfl,hb1⟩
theorem fits1_any (x y h:Int)(B:Nat)(v:Int)(w:World)(h0:w.cell? ⟨B,3,none⟩=some (.int .i64 v)):
 Calls Tryz.prog 157 #[.agg #[.int .i64 x,.int .i64 y,.int .i64 h],.pointer (some ⟨B,0,none⟩)] w fun e w'=>e=.returned (.bool (x==v))∧Below w.heap.size w w':=by
 have hlt:B<w.heap.size:=bLQ _ _ h0;have HB0:Hid (Below w.heap.size w (w.alloc (Obj.cells #[.int .i64 x,.int .i64 y,.int .i64 h] 127))):=(Below.refl _ _).alloc (Nat.le_refl _) _;go_enter Tryz.func157,Tryz.ntmps157;go_wp2;go_ret;exact⟨rfl,HB0.out⟩
theorem fits1_asks (B:Nat)(v:Int)(w:World)(h0:w.cell? ⟨B,3,none⟩=some (.int .i64 v)):hopAsks w 157 (.pointer (some ⟨B,0,none⟩)) (fun h=>h.1.1==v):=
 fun x y h W hW=>fits1_any x y h B v W (cell_later hW h0)
theorem fi_off {w:Wi}{m:ByteArray}{F:Int×ByteArray×HpQ}(h:abW w m=false):fiB w m F=true:=by simp[fiB,h]
structure GBox (w W:World)(k:Int)(f t:ByteArray)(v a:Int)(b:ByteArray)(c:Value):Prop where
 below:Below w.heap.size w W
 x:WiBox W w.heap.size k f t v
 y0:W.cell? ⟨w.heap.size+1,0,none⟩=some (.int .i64 a)
 y1:W.cell? ⟨w.heap.size+1,1,none⟩=some (.string b)
 y2:W.cell? ⟨w.heap.size+1,2,none⟩=some c
theorem gbox_new (w:World)(k:Int)(f t:ByteArray)(v a:Int)(b:ByteArray)(c:Value):GBox w ((w.alloc (Obj.cells #[.int .i64 k,.string f,.string t,.int .i64 v] 80)).alloc (Obj.cells #[.int .i64 a,.string b,c] 83)) k f t v a b c:=by
 have e1:(w.alloc (Obj.cells #[.int .i64 k,.string f,.string t,.int .i64 v] 80)).heap.size=w.heap.size+1:=by simp
 have hb:∀(W:World) (o:Obj),Below W.heap.size W (W.alloc o):=fun W o=>(Below.refl _ _).alloc (Nat.le_refl _) _
 have hn:=(wibox_new w k f t v 80).later (hb _ (Obj.cells #[.int .i64 a,.string b,c] 83));have hB:=((Below.refl w.heap.size w).alloc (Nat.le_refl _) (Obj.cells #[.int .i64 k,.string f,.string t,.int .i64 v] 80)).alloc (by rw[e1];omega) (Obj.cells #[.int .i64 a,.string b,c] 83)
 generalize w.alloc (Obj.cells #[.int .i64 k,.string f,.string t,.int .i64 v] 80)=X at e1 hn hB
 have hr:=vat_new X [.int .i64 a,.string b,c] 83;rw[e1] at hr;exact⟨hB,hn,hr 0 _ rfl,hr 1 _ rfl,hr 2 _ rfl⟩
theorem GBox.later {w W W':World}{k:Int}{f t:ByteArray}{v a:Int}{b:ByteArray}{c:Value}(h:GBox w W k f t v a b c)(hb:Below W.heap.size W W'):GBox w W' k f t v a b c:=
 ⟨h.below.trans (hb.mono h.below.size),h.x.later hb,cell_later hb h.y0,cell_later hb h.y1,cell_later hb h.y2⟩
theorem fits_any (k:Int)(f t:ByteArray)(v:Int)(m:ByteArray)(a:Int)(b:ByteArray)(ao:Option Addr)(n cap:Nat)(l:HpQ)(w:World)(hl:GS hopE w (.slice ao n cap) l):
 Calls Tryz.prog 134 #[.agg #[.int .i64 k,.string f,.string t,.int .i64 v],.string m,.agg #[.int .i64 a,.string b,.slice ao n cap]] w fun e w'=>e=.returned (.bool (fiB ⟨k,f,t,v⟩ m (a,b,l)))∧Below w.heap.size w w':=by
 have hX:=gbox_new w k f t v a b (.slice ao n cap);obtain⟨w0,hw0⟩:∃W,(w.alloc (Obj.cells #[.int .i64 k,.string f,.string t,.int .i64 v] 80)).alloc (Obj.cells #[.int .i64 a,.string b,.slice ao n cap] 83)=W:=⟨_,rfl⟩;rw[hw0] at hX;have HX:Hid (GBox w w0 k f t v a b (.slice ao n cap)):=hX;have HW0:Hid ((w.alloc (Obj.cells #[.int .i64 k,.string f,.string t,.int .i64 v] 80)).alloc (Obj.cells #[.int .i64 a,.string b,.slice ao n cap] 83)=w0):=hw0;have HL:Hid (∀W,Below w.heap.size w W→GS hopE W (.slice ao n cap) l):=fun W hb=>hl.later hb
 obtain⟨R,hR⟩:∃R,R=fiB ⟨k,f,t,v⟩ m (a,b,l):=⟨_,rfl⟩;have HR:Hid (R=fiB ⟨k,f,t,v⟩ m (a,b,l)):=hR;rw[←hR];obtain⟨AB,hAB⟩:∃q,q=abW ⟨k,f,t,v⟩ m:=⟨_,rfl⟩;have HAB:Hid (AB=abW ⟨k,f,t,v⟩ m):=hAB;clear hX hw0 hl hR hAB;go_enter Tryz.func134,Tryz.ntmps134;go_upto_region 1 with fail;rw[HW0.out];obtain⟨_,⟨x0,x1,x2,x3⟩,y0,y1,y2⟩:=HX.out;clear HW0
 go_wp2_with fail
 refine (isAbout_any k f t v m _).mono ?_;rintro e w1 ⟨rfl,hb1⟩;rw[←HAB.out];have HX1:Hid (GBox w w1 k f t v a b (.slice ao n cap)):=HX.out.later hb1;clear hb1 HX x0 x1 x2 x3 y0 y1 y2;obtain⟨hB1,⟨x0,x1,x2,x3⟩,y0,y1,y2⟩:=HX1.out;have HB1:Hid (Below w.heap.size w w1):=hB1;clear hB1;cases AB with
 | false =>
   have HR1:Hid (R=true):=by
    show _=_;rw[HR.out,fi_off HAB.out.symm]
   go_wp2;go_ret;exact⟨by rw[HR1.out];rfl,HB1.out⟩
 | true =>
   obtain⟨TH,hTH⟩:∃q,q=(a==1&&b.toList==t.toList):=⟨_,rfl⟩;have hTW:thW ⟨k,f,t,v⟩ (a,b,l)=TH:=by rw[hTH,thW,←beq_toListBytes]
   have HR1:Hid (R=if k=1 then TH else if k=2 then !TH else if k=3 then (!TH || haW v l) else if k=4 then !(a==4) else true):=by
    show _=_;rw[HR.out,fiB,if_pos HAB.out.symm,hTW]
   have HTH:Hid ((a==1&&b.toList==t.toList)=TH):=hTH.symm;clear hTH hTW HR HAB;go_upto_region 3 with fail
   go_cut [7] from 12 to 22 (fun q w'=>q=.bool TH∧w'=w1)
   case first =>
    by_cases a1:a=1
    ·subst a1;have h2:=HTH.out;rw[show ((1:Int)==1&&b.toList==t.toList)=(b.toList==t.toList) from rfl] at h2
     go_wp2_with fail
     go_meet
     exact⟨by rw[←h2],rfl⟩
    have h2:=HTH.out;rw[show (a==1)=false from by simp[a1],Bool.false_and] at h2;subst h2
    go_wp2_with fail
    go_meet
    exact⟨rfl,rfl⟩
   case rest =>
   obtain⟨rfl,hwc⟩:=hcut;subst hwc;by_cases k1:k=1
   ·subst k1;have HR2:Hid (R=TH):=by
     show _=_;rw[HR1.out,if_pos rfl]
    clear HR1;go_wp2;go_ret;exact⟨by rw[HR2.out];rfl,HB1.out⟩
   by_cases k2:k=2
   ·subst k2;have HR2:Hid (R = !TH):=by
     show _=_;rw[HR1.out,if_neg (by decide),if_pos rfl]
    clear HR1;go_wp2;go_ret;exact⟨by rw[HR2.out];rfl,HB1.out⟩
   by_cases k3:k=3
   ·subst k3;have HR2:Hid (R=(!TH || haW v l)):=by
     show _=_;rw[HR1.out,if_neg (by decide),if_neg (by decide),if_pos rfl]
    clear HR1;cases TH with
    | false =>
      go_wp2;go_ret;exact⟨by rw[HR2.out];rfl,HB1.out⟩
    | true =>
      obtain⟨_,_,_,e5,hGn,hGm,_,hGa⟩:=(HL.out _ HB1.out).form;cases e5;have HGN:Hid (l.length=n):=hGn;have HGM:Hid (n≤maxLen):=hGm;have HGA:Hid (0<n→∃g o,ao=some ⟨g,o,none⟩∧GAt hopE wc g o l∧cap≤maxLen):=hGa;clear hGn hGm hGa
      go_wp2_with fail
      refine (hop_hasF ao n cap _ _ (fun h=>h.1.1==v) l _ HGN.out HGM.out HGA.out (enters_of Tryz.func157 (by kernel_rfl) rfl) (fits1_asks _ v _ HX1.out.x.2.2.2)).mono ?_;rintro e w2 ⟨rfl,hb2⟩;rw[show (l.any fun h=>h.1.1==v)=haW v l from rfl];have HB2:Hid (Below w.heap.size w w2):=HB1.out.trans (hb2.mono HB1.out.size);clear hb2;go_wp2;go_ret;exact⟨by rw[HR2.out];rfl,HB2.out⟩
   by_cases k4:k=4
   ·subst k4;have HR2:Hid (R = !(a==4)):=by
     show _=_;rw[HR1.out,if_neg (by decide),if_neg (by decide),if_neg (by decide),if_pos rfl]
    clear HR1;go_wp2;go_ret;exact⟨by rw[HR2.out];rfl,HB1.out⟩
   have HR2:Hid (R=true):=by
    show _=_;rw[HR1.out,if_neg k1,if_neg k2,if_neg k3,if_neg k4]
   clear HR1;go_wp2;go_ret;exact⟨by rw[HR2.out];rfl,HB1.out⟩
end
end Go.Proofs.YtiokpmlhmlcojaaGreatDoor
