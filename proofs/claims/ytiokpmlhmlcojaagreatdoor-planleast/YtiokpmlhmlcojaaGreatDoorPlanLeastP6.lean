/- Contracts and facts on the way to PlanLeast, joined into one text: RefFrom, StLeg, MixLegs, MixWalkMath, SlHopF, WishFits, WishFirst, SlWish2, ItLaw, WishHold, MixWalk1, MixWalk2, MixWalk3, MixWalk4. -/
import Derived.Test.YtiokpmlhmlcojaaGreatDoorPlanLeastP5
namespace Go.Proofs.YtiokpmlhmlcojaaGreatDoor
set_option linter.unusedSimpArgs false
set_option linter.unusedVariables false
set_option maxHeartbeats 16000000
set_option maxRecDepth 100000
open Go.Proofs.Tryz
open IntKind (i64)
section
open Go.RowKit
theorem gn_end {Ls:LkQ}{Hs:HoQ}{Ts:TsQ}{l:HpQ}(h:l.length≤24)(hg:(gnF Ls Hs (taT Ts (laH l).1.1) l).2=false):
 foF Ls Hs Ts (25-l.length) l=(gnF Ls Hs (taT Ts (laH l).1.1) l).1∧(gnF Ls Hs (taT Ts (laH l).1.1) l).1.2.2=l:=by
 rw[fo_r h];have e:enE Ls Hs Ts l (laH l)=goE Ls Hs (taT Ts (laH l).1.1) l (laH l):=rfl;rw[e];unfold gnF at hg ⊢;cases hE:goE Ls Hs (taT Ts (laH l).1.1) l (laH l) with
 | inl p=>exact⟨rfl,rfl⟩
 | inr q=>rw[hE] at hg;cases hg
theorem gn_on {S:Int}{Ls:LkQ}{Hs:HoQ}{Ts:TsQ}{l:HpQ}(ht:tpN S Ls Hs=0)(h:l.length≤24)(hg:(gnF Ls Hs (taT Ts (laH l).1.1) l).2=true):
 ∃q,(gnF Ls Hs (taT Ts (laH l).1.1) l).1=(0,ByteArray.empty,l++[q])∧foF Ls Hs Ts (25-l.length) l=foF Ls Hs Ts (25-(l++[q]).length) (l++[q])∧(l++[q]).length≤24∧spB S q.1=true∧hdrB q.2=true:=by
 rw[fo_r h];unfold gnF at hg ⊢;cases hE:goE Ls Hs (taT Ts (laH l).1.1) l (laH l) with
 | inl p=>rw[hE] at hg;cases hg
 | inr q =>
   have e:enE Ls Hs Ts l (laH l)=.inr q:=hE;obtain⟨h1,h2,_⟩:=en_r e;obtain⟨h3,h4⟩:=nx_good ht h1;refine⟨q,rfl,?_,?_,h3,h4⟩
   ·rw[e];simp only[List.length_append,List.length_cons,List.length_nil];rw[show 24-l.length=25-(l.length+(0+1)) by omega]
   simp only[List.length_append,List.length_cons,List.length_nil];omega
structure RB (w W:World)(gr gf:Nat)(S:Int)(v1 v2 v3:Value)(F0:Int)(F1:ByteArray)(u:Value):Prop where
 below:Below w.heap.size w W
 l1:w.heap.size<gr
 l2:gr<gf
 n:NeBox W w.heap.size S v1 v2 v3
 r0:W.cell? ⟨gr,0,none⟩=some (.int i64 0)
 r1:W.cell? ⟨gr,1,none⟩=some (.string ⟨#[]⟩)
 r2:W.cell? ⟨gr,2,none⟩=some (.slice none 0 0)
 rf:∀i,W.frozen? ⟨gr,i,none⟩=false
 f0:W.cell? ⟨gf,0,none⟩=some (.int i64 F0)
 f1:W.cell? ⟨gf,1,none⟩=some (.string F1)
 f2:W.cell? ⟨gf,2,none⟩=some u
 ff:∀i,W.frozen? ⟨gf,i,none⟩=false
section
variable {w W W':World}{gr gf:Nat}{S:Int}{v1 v2 v3:Value}{F0:Int}{F1:ByteArray}{u:Value}
theorem RB.lt (k:RB w W gr gf S v1 v2 v3 F0 F1 u):gf<W.heap.size:=bLQ W ⟨gf,0,none⟩ k.f0
theorem RB.later (k:RB w W gr gf S v1 v2 v3 F0 F1 u)(hb:Below W.heap.size W W'):RB w W' gr gf S v1 v2 v3 F0 F1 u:=
 have hl:=k.lt;have h1:=k.l1;have h2:=k.l2
 ⟨k.below.trans (hb.mono (by omega)),h1,h2,k.n.later hb,cell_later hb k.r0,cell_later hb k.r1,cell_later hb k.r2,fun i=>(hb.frozen (p:=⟨gr,i,none⟩) (show gr<W.heap.size by omega)).trans (k.rf i),cell_later hb k.f0,cell_later hb k.f1,cell_later hb k.f2,fun i=>(hb.frozen (p:=⟨gf,i,none⟩) (show gf<W.heap.size by omega)).trans (k.ff i)⟩
theorem RB.put (k:RB w W gr gf S v1 v2 v3 F0 F1 u)(G0:Int)(G1:ByteArray)(x:Value):RB w (put3 W gf (.int i64 G0) (.string G1) x) gr gf S v1 v2 v3 G0 G1 x:=by
 have h1:=k.l1;have h2:=k.l2;have hp:=put3_cells (a:=.int i64 G0) (b:=.string G1) (c:=x) ⟨k.f0,k.f1,k.f2⟩;have hne:∀(g i:Nat) (y:Value),g≠gf→W.cell? ⟨g,i,none⟩=some y→(put3 W gf (.int i64 G0) (.string G1) x).cell? ⟨g,i,none⟩=some y:=by
  intro g i y hg e;have hb:∀(W:World) (j:Nat) (z:Value),(W.setCell ⟨gf,j,none⟩ z).cell? ⟨g,i,none⟩=W.cell? ⟨g,i,none⟩:=fun W j z=>World.cell?_of_block (Below.heap_setCell _ _ _ _ hg)
  unfold put3;rw[hb,hb,hb];exact e
 have hfz:∀(g i:Nat),W.frozen? ⟨g,i,none⟩=false→(put3 W gf (.int i64 G0) (.string G1) x).frozen? ⟨g,i,none⟩=false:=by
  intro g i e;unfold put3;simp[e]
 obtain⟨a0,a1,a2,a3⟩:=k.n;exact⟨below_put3 k.below _ (by omega) _ _ _,h1,h2,⟨hne _ _ _ (by omega) a0,hne _ _ _ (by omega) a1,hne _ _ _ (by omega) a2,hne _ _ _ (by omega) a3⟩,hne _ _ _ (by omega) k.r0,hne _ _ _ (by omega) k.r1,hne _ _ _ (by omega) k.r2,fun i=>hfz _ _ (k.rf i),hp.1,hp.2.1,hp.2.2,fun i=>hfz _ _ (k.ff i)⟩
end
theorem gs_put3 {W:World}{b:Nat}{ao:AdQ}{n cap:Nat}{l:HpQ}(h:GS hopE W (.slice ao n cap) l)(hg:∀g o,ao=some ⟨g,o,none⟩→g≠b)(u v x:Value):GS hopE (put3 W b u v x) (.slice ao n cap) l:=by
 rcases h with h | ⟨g,o,c,h1,h2,h3,h4⟩
 ·exact .inl h
 refine .inr ⟨g,o,c,h1,h2,h3,fun i hi j y hy=>?_⟩;have e:=h4 i hi j y hy;have hne:g≠b:=by
  simp only[Value.slice.injEq] at h1;exact hg g o h1.1
 have hb:∀(W:World) (j2:Nat) (z:Value),(W.setCell ⟨b,j2,none⟩ z).cell? ⟨g,o+i*hopE.n+j,none⟩=W.cell? ⟨g,o+i*hopE.n+j,none⟩:=fun W j2 z=>World.cell?_of_block (Below.heap_setCell _ _ _ _ hne)
 unfold put3;rw[hb,hb,hb];exact e
def RI (S:Int)(Ls:LkQ)(Hs:HoQ)(Ts:TsQ)(F:Int×ByteArray×HpQ)(on:Bool)(F0:Int)(F1:ByteArray)(l:HpQ):Prop:=
 (on=true∧F0=0∧F1=⟨#[]⟩∧F=foF Ls Hs Ts (25-l.length) l∧spB S (laH l).1=true∧hdrB (laH l).2=true)∨(on=false∧F=(F0,F1,l))
def rmE (b:Value)(c:Option Value):Nat:=match b,c with
 | .bool true,some (.slice _ n _)=>2*(25-n)+1
 | .bool false,some (.slice _ n _)=>2*(25-n)
 | _,_=>0
theorem rb_new (w:World)(S:Int)(v1 v2 v3:Value)(x y h:Int):RB w (((((w.alloc (.cells #[.int i64 S,v1,v2,v3] 28)).alloc (.cells #[.int i64 x,.int i64 y] 75)).alloc (.cells #[.int i64 0,.string ⟨#[]⟩,.slice none 0 0] 83)).alloc (.cells #[.int i64 x,.int i64 y,.int i64 h] 127)).alloc (.cells #[.int i64 0,.string ⟨#[]⟩,.slice (some ⟨w.heap.size+1+1+1,0,none⟩) 1 1] 83)) (w.heap.size+1+1) (w.heap.size+1+1+1+1) S v1 v2 v3 0 ⟨#[]⟩ (.slice (some ⟨w.heap.size+1+1+1,0,none⟩) 1 1)
 ∧ GS hopE (((((w.alloc (.cells #[.int i64 S,v1,v2,v3] 28)).alloc (.cells #[.int i64 x,.int i64 y] 75)).alloc (.cells #[.int i64 0,.string ⟨#[]⟩,.slice none 0 0] 83)).alloc (.cells #[.int i64 x,.int i64 y,.int i64 h] 127)).alloc (.cells #[.int i64 0,.string ⟨#[]⟩,.slice (some ⟨w.heap.size+1+1+1,0,none⟩) 1 1] 83)) (.slice (some ⟨w.heap.size+1+1+1,0,none⟩) 1 1) [((x,y),h)]:=by
 have hb:∀(W:World) (o:Obj),Below W.heap.size W (W.alloc o):=fun W o=>(bRQ _ _).alloc (nLQ _) _
 have hn:=nebox_new w S v1 v2 v3 28;have e1:(w.alloc (.cells #[.int i64 S,v1,v2,v3] 28)).heap.size=w.heap.size+1:=by simp
 have b1:=hb w (Obj.cells #[.int i64 S,v1,v2,v3] 28)
 generalize w.alloc (.cells #[.int i64 S,v1,v2,v3] 28)=A at hn e1 b1 ⊢
 have e2:(A.alloc (.cells #[.int i64 x,.int i64 y] 75)).heap.size=w.heap.size+1+1:=by simp[e1]
 have b2:=hb A (Obj.cells #[.int i64 x,.int i64 y] 75)
 generalize A.alloc (.cells #[.int i64 x,.int i64 y] 75)=C at e2 b2 ⊢
 have hr:=vat_new C [.int i64 0,.string ⟨#[]⟩,.slice none 0 0] 83;have zr:=froz_new2 C #[.int i64 0,.string ⟨#[]⟩,.slice none 0 0] 83;have e3:(C.alloc (.cells #[.int i64 0,.string ⟨#[]⟩,.slice none 0 0] 83)).heap.size=w.heap.size+1+1+1:=by simp[e2]
 have b3:=hb C (Obj.cells #[.int i64 0,.string ⟨#[]⟩,.slice none 0 0] 83);rw[e2] at hr zr
 generalize C.alloc (.cells #[.int i64 0,.string ⟨#[]⟩,.slice none 0 0] 83)=D at hr zr e3 b3 ⊢
 have hh:=gs_one (E:=hopE) D ((x,y),h) 127 (vs:=[.int i64 x,.int i64 y,.int i64 h]) rfl;have e4:(D.alloc (.cells #[.int i64 x,.int i64 y,.int i64 h] 127)).heap.size=w.heap.size+1+1+1+1:=by simp[e3]
 have b4:=hb D (Obj.cells #[.int i64 x,.int i64 y,.int i64 h] 127);rw[e3] at hh
 generalize D.alloc (.cells #[.int i64 x,.int i64 y,.int i64 h] 127)=G at hh e4 b4 ⊢
 have hf:=vat_new G [.int i64 0,.string ⟨#[]⟩,.slice (some ⟨w.heap.size+1+1+1,0,none⟩) 1 1] 83;have zf:=froz_new2 G #[.int i64 0,.string ⟨#[]⟩,.slice (some ⟨w.heap.size+1+1+1,0,none⟩) 1 1] 83;have b5:=hb G (Obj.cells #[.int i64 0,.string ⟨#[]⟩,.slice (some ⟨w.heap.size+1+1+1,0,none⟩) 1 1] 83);rw[e4] at hf zf;have b45:=b4.trans (b5.mono (by omega));have hr':=hr.later b45;refine⟨⟨(b1.trans (b2.mono (by omega))).trans ((b3.mono (by omega)).trans (b45.mono (by omega))),by omega,by omega,((hn.later b2).later b3).later b45,hr' 0 _ rfl,hr' 1 _ rfl,hr' 2 _ rfl,fun i=>(b45.frozen (p:=⟨w.heap.size+1+1,i,none⟩) (show w.heap.size+1+1<D.heap.size by omega)).trans (zr i),hf 0 _ rfl,hf 1 _ rfl,hf 2 _ rfl,zf⟩,hh.later b5⟩
theorem rfrom_any (S:Int)(ao:AdQ)(n cap:Nat)(ao2:AdQ)(n2 cap2:Nat)(ao3:AdQ)(n3 cap3:Nat)(Ls:LkQ)(Hs:HoQ)(Ts:TsQ)(x y h:Int)(w:World)
 (hL:GS lnkE w (.slice ao n cap) Ls) (hH:GS hstE w (.slice ao2 n2 cap2) Hs) (hT:TS w (.slice ao3 n3 cap3) Ts) (hcp:cpN S Ls Hs Ts (x,y) h=0):
 Calls prog 29 #[.agg #[.int i64 S,.slice ao n cap,.slice ao2 n2 cap2,.slice ao3 n3 cap3],.agg #[.int i64 x,.int i64 y],.int i64 h] w fun e w'=>∃ao4 n4 cap4,e=.returned (.agg #[.int i64 (frF Ls Hs Ts (x,y) h).1,.string (frF Ls Hs Ts (x,y) h).2.1,.slice ao4 n4 cap4])∧GS hopE w' (.slice ao4 n4 cap4) (frF Ls Hs Ts (x,y) h).2.2∧Below w.heap.size w w'∧∀g o,ao4=some ⟨g,o,none⟩→w.heap.size≤g:=by
 obtain⟨F,hF⟩:∃F,F=frF Ls Hs Ts (x,y) h:=⟨_,rfl⟩;have HF:Hid (F=foF Ls Hs Ts 24 [((x,y),h)]):=hF;rw[←hF];obtain⟨hnt,hsp,hhd⟩:=cp_0 hcp;obtain⟨htp,hTS,htb⟩:=nt_0 hnt;have HTP:Hid (tpN S Ls Hs=0):=htp;have HTB:Hid (∀k,k<Ts.length→tbN (Ts.getD k [])=0):=htb;have HN3:Hid (Ts.length=n3):=hT.len;have H3S:Hid ((n3:Int)=S):=by
  show _=_;rw[←hTS,HN3.out]
 have HSP:Hid (spB S (x,y)=true∧hdrB h=true):=⟨hsp,hhd⟩;have HLW:Hid (∀W,Below w.heap.size w W→GS lnkE W (.slice ao n cap) Ls):=fun W hb=>hL.later hb
 have HHW:Hid (∀W,Below w.heap.size w W→GS hstE W (.slice ao2 n2 cap2) Hs):=fun W hb=>hH.later hb
 have HTW:Hid (∀W,Below w.heap.size w W→TS W (.slice ao3 n3 cap3) Ts):=fun W hb=>hT.later hb
 obtain⟨hX,hG0⟩:=rb_new w S (.slice ao n cap) (.slice ao2 n2 cap2) (.slice ao3 n3 cap3) x y h;obtain⟨w0,hw0⟩:∃W,((((w.alloc (.cells #[.int i64 S,.slice ao n cap,.slice ao2 n2 cap2,.slice ao3 n3 cap3] 28)).alloc (.cells #[.int i64 x,.int i64 y] 75)).alloc (.cells #[.int i64 0,.string ⟨#[]⟩,.slice none 0 0] 83)).alloc (.cells #[.int i64 x,.int i64 y,.int i64 h] 127)).alloc (.cells #[.int i64 0,.string ⟨#[]⟩,.slice (some ⟨w.heap.size+1+1+1,0,none⟩) 1 1] 83)=W:=⟨_,rfl⟩;rw[hw0] at hX hG0;obtain⟨gf,hgf⟩:∃g,w.heap.size+1+1+1+1=g:=⟨_,rfl⟩;obtain⟨gl,hgl⟩:∃g,w.heap.size+1+1+1=g:=⟨_,rfl⟩;obtain⟨gr,hgr⟩:∃g,w.heap.size+1+1=g:=⟨_,rfl⟩;rw[hgf,hgl,hgr] at hX;rw[hgl] at hG0 hw0;have HGF:Hid (w.heap.size+1+1+1+1=gf):=hgf;have HGR:Hid (w.heap.size+1+1=gr):=hgr;have HGL:Hid (w.heap.size+1+1+1=gl):=hgl;have HGNE:Hid (gl≠gf∧gl≠gr∧w.heap.size≤gl):=by
  show _∧_;omega
 have HX:Hid (RB w w0 gr gf S (.slice ao n cap) (.slice ao2 n2 cap2) (.slice ao3 n3 cap3) 0 ⟨#[]⟩ (.slice (some ⟨gl,0,none⟩) 1 1)):=hX;have HG0:Hid (GS hopE w0 (.slice (some ⟨gl,0,none⟩) 1 1) [((x,y),h)]):=hG0;have HW0:Hid (((((w.alloc (.cells #[.int i64 S,.slice ao n cap,.slice ao2 n2 cap2,.slice ao3 n3 cap3] 28)).alloc (.cells #[.int i64 x,.int i64 y] 75)).alloc (.cells #[.int i64 0,.string ⟨#[]⟩,.slice none 0 0] 83)).alloc (.cells #[.int i64 x,.int i64 y,.int i64 h] 127)).alloc (.cells #[.int i64 0,.string ⟨#[]⟩,.slice (some ⟨gl,0,none⟩) 1 1] 83)=w0):=hw0;clear hL hH hT hF hnt hsp hhd htp hTS htb hw0 hX hG0 hcp hgf hgr hgl;go_enter func29,ntmps29;go_upto_region 2 with fail;rw[HGF.out,HGL.out,HGR.out,HW0.out];clear HW0
 go_wp2_with fail
 go_loopw [8] (fun b wr=>∃(l:HpQ) (ao5:AdQ) (m cap5:Nat) (F0:Int) (F1:ByteArray) (on:Bool),b=.bool on∧l.length=m∧(0<m∧m≤24)∧RB w wr gr gf S (.slice ao n cap) (.slice ao2 n2 cap2) (.slice ao3 n3 cap3) F0 F1 (.slice ao5 m cap5)∧GS hopE wr (.slice ao5 m cap5) l∧(∀g o,ao5=some ⟨g,o,none⟩→g≠gf∧g≠gr∧w.heap.size≤g)∧RI S Ls Hs Ts F on F0 F1 l) (fun b wr=>rmE b (wr.cell? ⟨gf,2,none⟩))
 case atStart=>exact⟨[((x,y),h)],_,1,1,0,⟨#[]⟩,true,rfl,rfl,by omega,HX.out,HG0.out,fun g o e=>by cases e;exact HGNE.out,.inl ⟨rfl,rfl,rfl,HF.out,HSP.out.1,HSP.out.2⟩⟩
 case round =>
  obtain⟨l,ao5,m,cap5,F0,F1,on,rfl,hm,⟨hl0,hl24⟩,hXr,hG,hgn,hRI⟩:=hrel;obtain⟨wo,hwo⟩:∃X,X=wr:=⟨_,rfl⟩;subst hwo;have HML:Hid (l.length=m):=hm;have HXo:Hid (RB w wo gr gf S (.slice ao n cap) (.slice ao2 n2 cap2) (.slice ao3 n3 cap3) F0 F1 (.slice ao5 m cap5)):=hXr;have HGo:Hid (GS hopE wo (.slice ao5 m cap5) l):=hG;have HGN:Hid (∀g o,ao5=some ⟨g,o,none⟩→g≠gf∧g≠gr∧w.heap.size≤g):=hgn;clear HX HG0 HF HSP
  rcases hRI with ⟨rfl,rfl,rfl,hFl,hsp,hhd⟩ | ⟨rfl,hFe⟩
  ·have HFL:Hid (F=foF Ls Hs Ts (25-l.length) l):=hFl;obtain⟨_,_,_,e5,_,_,_,hGa⟩:=hG.form;cases e5;obtain⟨g5,o5,hao5,hc5,_⟩:=hGa hl0;subst hao5;obtain⟨p0,p1,p2,hkl,hLk,c0,c1,c2⟩:=hop_at hc5 hm (show m-1<m by omega);have hla:laH l=((p0,p1),p2):=by
    have e:laH l=l[m-1]:=by
     unfold laH;rw[hm];simp[List.getD,hkl]
    rw[e,hLk]
   have HLA:Hid (laH l=((p0,p1),p2)):=hla;rw[hla] at hsp;have HHD:Hid (hdrB (laH l).2=true):=hhd;have hsp2:=sp_of hsp;simp only at hsp2;have hs1:1≤p0:=hsp2.1;have hs2:p0≤(n3:Int):=by rw[H3S.out];exact hsp2.2.1
   have hn3m:(n3:Int)≤6:=by
    rw[H3S.out];exact (tp_0 HTP.out).1.2
   obtain⟨j,hj⟩:∃j:Nat,p0-1=(j:Int):=⟨(p0-1).toNat,by omega⟩;have hpw:IntKind.i64.wrap (p0-1)=(j:Int):=by
    rw[hj];exact wrap_small (by omega) (by omega)
   have jb0:(0:Int)≤(j:Int):=by omega
   have jb1:(j:Int)<(n3:Int):=by omega
   have hjn:j<n3:=by omega
   have hmi:IntKind.i64.wrap ((m:Int)-1)=((m-1:Nat):Int):=by
    rw[show (m:Int)-1=((m-1:Nat):Int) by omega];exact wrap_small (by omega) (by omega)
   have mb0:(0:Int)≤((m-1:Nat):Int):=by omega
   have mb1:((m-1:Nat):Int)<(m:Int):=by omega
   obtain⟨_,_,_,e6,_,_,_,hTa⟩:=(HTW.out _ HXo.out.below).form;cases e6;obtain⟨g3,o3,hao3,hc3,_⟩:=hTa (by omega);subst hao3;obtain⟨a4,n4,c4,t0,hs4⟩:=hc3 j (by rw[HN3.out];exact hjn);have hta:taT Ts (laH l).1.1=Ts.getD j []:=by
    unfold taT;rw[hla];show Ts.getD (p0-1).toNat []=_;rw[hj,Int.toNat_natCast]
   have HTA:Hid (taT Ts (laH l).1.1=Ts.getD j []):=hta;have HS4:Hid (SR wo (.slice a4 n4 c4) (taT Ts (laH l).1.1)):=by
    show SR _ _ _;rw[hta,getT (by rw[HN3.out];exact hjn)];exact hs4
   have HT4:Hid (tbN (taT Ts (laH l).1.1)=0):=by
    show _=_;rw[hta];exact HTB.out j (by rw[HN3.out];exact hjn)
   obtain⟨G,hGG⟩:∃G,G=gnF Ls Hs (taT Ts (laH l).1.1) l:=⟨_,rfl⟩;have HGG:Hid (gnF Ls Hs (taT Ts (laH l).1.1) l=G):=hGG.symm;obtain⟨hBw,_,_,⟨b0,b1,b2,b3⟩,r0,r1,r2,rf,f0,f1,f2,ff⟩:=HXo.out;have ff0:=ff 0;have ff1:=ff 1;have ff2:=ff 2;have y5:g5<wo.heap.size:=bLQ _ _ c0;have y3:g3<wo.heap.size:=bLQ _ _ t0;have y4:gf<wo.heap.size:=bLQ _ _ f0;have y0:w.heap.size<wo.heap.size:=bLQ _ _ b0;clear hm hXr hG hgn hFl hsp hhd hGa hc5 hkl hLk hla hsp2 hTa hc3 hs4 hta hGG hBw ff rf r0 r1 r2 hj;have HREL:Hid (∀(W:World) (ao6:AdQ) (n6 cap6:Nat),Below wo.heap.size wo W→GS hopE W (.slice ao6 n6 cap6) G.1.2.2→(ao6=some ⟨g5,o5,none⟩∨∀g o,ao6=some ⟨g,o,none⟩→wo.heap.size≤g) →
    (∃(l:HpQ) (ao5:AdQ) (m cap5:Nat) (F0:Int) (F1:ByteArray) (on:Bool),Value.bool G.2=.bool on∧l.length=m∧(0<m∧m≤24)∧RB w (put3 W gf (.int i64 G.1.1) (.string G.1.2.1) (.slice ao6 n6 cap6)) gr gf S (.slice ao n cap) (.slice ao2 n2 cap2) (.slice (some ⟨g3,o3,none⟩) n3 cap3) F0 F1 (.slice ao5 m cap5)∧GS hopE (put3 W gf (.int i64 G.1.1) (.string G.1.2.1) (.slice ao6 n6 cap6)) (.slice ao5 m cap5) l∧(∀g o,ao5=some ⟨g,o,none⟩→g≠gf∧g≠gr∧w.heap.size≤g)∧RI S Ls Hs Ts F on F0 F1 l)∧rmE (.bool G.2) ((put3 W gf (.int i64 G.1.1) (.string G.1.2.1) (.slice ao6 n6 cap6)).cell? ⟨gf,2,none⟩)<rmE (.bool true) (wo.cell? ⟨gf,2,none⟩)∧rmE (.bool G.2) (some (.slice ao6 n6 cap6))<rmE (.bool true) (some (.slice (some ⟨g5,o5,none⟩) m cap5))):=by
    intro W ao6 n6 cap6 hbW hgW hw6;have hXW:=HXo.out.later hbW;have hput:=hXW.put G.1.1 G.1.2.1 (.slice ao6 n6 cap6);have hl6:=hgW.len;have hne6:∀g o,ao6=some ⟨g,o,none⟩→g≠gf∧g≠gr∧w.heap.size≤g:=by
     intro g o e
     rcases hw6 with h | h
     ·exact HGN.out g o (h.symm.trans e)
     have h1:=h g o e;have h2:=HXo.out.l2;have h3:=HXo.out.below.size;omega
    have hgp:=gs_put3 hgW (fun g o e=>(hne6 g o e).1) (.int i64 G.1.1) (.string G.1.2.1) (.slice ao6 n6 cap6);have hL24:l.length≤24:=by rw[HML.out];exact hl24
    have hmm:n6=m∧G.2=false∨n6=m+1∧n6≤24∧G.2=true:=by
     cases hG2:G.2
     ·have h1:=gn_end (Ls:=Ls) (Hs:=Hs) (Ts:=Ts) hL24 (by rw[HGG.out];exact hG2);rw[HGG.out] at h1;rw[h1.2] at hl6;have:=HML.out;exact .inl ⟨by omega,rfl⟩
     obtain⟨q,h1,_,h3,_,_⟩:=gn_on (Ts:=Ts) HTP.out hL24 (by rw[HGG.out];exact hG2);rw[HGG.out] at h1;rw[h1] at hl6;have:=HML.out;simp only[List.length_append,List.length_cons,List.length_nil] at hl6 h3;exact .inr ⟨by omega,by omega,rfl⟩
    refine⟨⟨G.1.2.2,ao6,n6,cap6,G.1.1,G.1.2.1,G.2,rfl,hl6,by omega,hput,hgp,hne6,?_⟩,?_⟩
    ·cases hG2:G.2
     ·have h1:=gn_end (Ls:=Ls) (Hs:=Hs) (Ts:=Ts) hL24 (by rw[HGG.out];exact hG2);rw[HGG.out] at h1;exact .inr ⟨rfl,by rw[HFL.out,h1.1]⟩
     obtain⟨q,h1,h2,_,h4,h5⟩:=gn_on (Ts:=Ts) HTP.out hL24 (by rw[HGG.out];exact hG2);rw[HGG.out] at h1;rw[h1];refine .inl ⟨rfl,rfl,rfl,by rw[HFL.out,h2],?_,?_⟩
     ·rw[la_app];exact h4
     rw[la_app];exact h5
    rw[hput.f2,HXo.out.f2,and_self]
    rcases hmm with ⟨h1,h2⟩ | ⟨h1,h2,h3⟩
    ·rw[h2];simp only[rmE];omega
    rw[h3];simp only[rmE];omega
   go_upto_region 5 with fail
   go_region_with (go_at_call 51;refine (rgo_any S ao n cap ao2 n2 cap2 a4 n4 c4 (some ⟨g5,o5,none⟩) m cap5 Ls Hs (taT Ts (laH l).1.1) l _ (HLW.out _ (HXo.out.below.trans ((Below.drew (bRQ _ _)).mono HXo.out.below.size))) (HHW.out _ (HXo.out.below.trans ((Below.drew (bRQ _ _)).mono HXo.out.below.size))) (HS4.out.later (Below.drew (bRQ _ _))) (HGo.out.later (Below.drew (bRQ _ _))) HT4.out HHD.out hl0 hl24).mono ?_;rintro e w' ⟨ao6,n6,cap6,rfl,hg6,hb,hw6⟩;rw[HGG.out];rw[HGG.out] at hg6;have HBX:Hid (Below wo.heap.size wo w'):=(bdrew hb);have HRL:=HREL.out w' ao6 n6 cap6 HBX.out hg6 hw6;have HRLH:Hid _:=HRL;have HXX:=HXo.out.later HBX.out;obtain⟨_,_,_,_,_,_,_,_,k0,k1,k2,kf⟩:=HXX;have kf0:=kf 0;have kf1:=kf 1;have kf2:=kf 2;clear kf HRL hb)
   all_goals simp only[Act.put,List.setIfInBounds_toArray,List.set_cons_zero,List.set_cons_succ,List.getElem_toArray,List.getElem_cons_zero,List.getElem_cons_succ]
   all_goals go_wp2
   all_goals go_roundw
   all_goals first
    | exact HRLH.out.1
    | exact HRLH.out.2.1
    | exact HRLH.out.2.2
  have HFE:Hid (F=(F0,F1,l)):=hFe;obtain⟨hBw,hl1,hl2,⟨b0,b1,b2,b3⟩,r0,r1,r2,rf,f0,f1,f2,ff⟩:=HXo.out;have HBW:Hid (Below w.heap.size w (put3 wo gr (.int i64 F0) (.string F1) (.slice ao5 m cap5))):=below_put3 hBw _ (by omega) _ _ _;have HGE:Hid (GS hopE (put3 wo gr (.int i64 F0) (.string F1) (.slice ao5 m cap5)) (.slice ao5 m cap5) l):=gs_put3 HGo.out (fun g o e=>(HGN.out g o e).2.1) _ _ _;have rf0:=rf 0;have rf1:=rf 1;have rf2:=rf 2;have hne:gf≠gr:=by omega
  clear hm hXr hG hgn hFe hBw rf ff;go_wp2;refine bodyPost_ret (v:=.agg #[.int i64 F0,.string F1,.slice ao5 m cap5]) (by simp[results,results29,go_sem, *]) rfl ⟨_,_,_,by rw[HFE.out],?_,HBW.out,fun g o e=>(HGN.out g o e).2.2⟩;rw[HFE.out];exact HGE.out
end
section
open Go.ChangeShapes Go.WideShapes Go.ChangeAt Go.RowKit Go.Joins
def legE:Enc (Int×ByteArray×((Int×Int)×Int)) where
 c:=fun x=>[.int i64 x.1,.string x.2.1,.int i64 x.2.2.1.1,.int i64 x.2.2.1.2,.int i64 x.2.2.2]
 n:=5
 len:=fun _=>rfl
 pos:=by decide
 one:=by
  intro x u hu;simp at hu
  rcases hu with rfl | rfl | rfl | rfl | rfl <;> rfl
theorem leg_cells {w:World}{g o:Nat}{x0:Int}{x1:ByteArray}{x2 x3 x4:Int}(h:VAt w g o (legE.c (x0,x1,((x2,x3),x4)))):w.cell? ⟨g,o,none⟩=some (.int i64 x0)∧w.cell? ⟨g,o+1,none⟩=some (.string x1)∧w.cell? ⟨g,o+2,none⟩=some (.int i64 x2)∧w.cell? ⟨g,o+3,none⟩=some (.int i64 x3)∧w.cell? ⟨g,o+4,none⟩=some (.int i64 x4):=
 ⟨h 0 _ rfl,h 1 _ rfl,h 2 _ rfl,h 3 _ rfl,h 4 _ rfl⟩
def legB (a b:Int×ByteArray×((Int×Int)×Int)):Bool:=(a.1==b.1)&&((a.2.1==b.2.1)&&((a.2.2.1.1==b.2.2.1.1)&&((a.2.2.1.2==b.2.2.1.2)&&((a.2.2.2==b.2.2.2)))))
theorem leg_ways (x0:Int)(x1:ByteArray)(x2 x3 x4 y0:Int)(y1:ByteArray)(y2 y3 y4:Int):
 ((x0==y0)=false∧legB (x0,x1,((x2,x3),x4)) (y0,y1,((y2,y3),y4))=false) ∨
 ((x0==y0)=true∧(x1.toList==y1.toList)=false∧legB (x0,x1,((x2,x3),x4)) (y0,y1,((y2,y3),y4))=false) ∨
 ((x0==y0)=true∧(x1.toList==y1.toList)=true∧(x2==y2)=false∧legB (x0,x1,((x2,x3),x4)) (y0,y1,((y2,y3),y4))=false) ∨
 ((x0==y0)=true∧(x1.toList==y1.toList)=true∧(x2==y2)=true∧(x3==y3)=false∧legB (x0,x1,((x2,x3),x4)) (y0,y1,((y2,y3),y4))=false) ∨
 ((x0==y0)=true∧(x1.toList==y1.toList)=true∧(x2==y2)=true∧(x3==y3)=true∧(x4==y4)=false∧legB (x0,x1,((x2,x3),x4)) (y0,y1,((y2,y3),y4))=false) ∨
 ((x0==y0)=true∧(x1.toList==y1.toList)=true∧(x2==y2)=true∧(x3==y3)=true∧(x4==y4)=true∧legB (x0,x1,((x2,x3),x4)) (y0,y1,((y2,y3),y4))=true):=by
 have e:legB (x0,x1,((x2,x3),x4)) (y0,y1,((y2,y3),y4))=((x0==y0)&&((x1.toList==y1.toList)&&((x2==y2)&&((x3==y3)&&((x4==y4)))))):=by simp only[legB,beq_toListBytes]
 rw[e];cases h0:(x0==y0)
 ·simp
 skip;cases h1:(x1.toList==y1.toList)
 ·simp
 skip;cases h2:(x2==y2)
 ·simp
 skip;cases h3:(x3==y3)
 ·simp
 skip;cases h4:(x4==y4)
 ·simp
 skip;simp
theorem leg_info:(Tryz.prog.info? 198).map (fun i=>(i.zero,i.size,i.bytes))=some (some (.agg #[.int i64 0,.string ByteArray.empty,.int i64 0,.int i64 0,.int i64 0]),5,48):=by kernel_rfl
theorem leg_zero:(Value.agg #[.int i64 0,.string ByteArray.empty,.int i64 0,.int i64 0,.int i64 0]).cells.size=5:=by simp[Value.cells]
end
section
open Go.RowKit
def LGs (W:World)(B:Nat)(v:Value)(f:Nat→Nat→Lg)(k:Nat):Prop:=
 ∃vs:List Value,W.ownsRow B 247 1 v k vs∧∀i,i<k→∃u,vs[i]?=some u∧W.ownsRow B 198 5 u 16 (cellsG legE ((List.range 16).map (f i)))
theorem LGs.later {W W':World}{B:Nat}{v:Value}{f:Nat→Nat→Lg}{k:Nat}(h:LGs W B v f k)(hb:Below W.heap.size W W'):LGs W' B v f k:=by
 obtain⟨vs,h1,h2⟩:=h;refine⟨vs,own_below h1 hb,fun i hi=>?_⟩;obtain⟨u,e,h3⟩:=h2 i hi;exact⟨u,e,own_below h3 hb⟩
theorem LGs.mono {W:World}{B B':Nat}{v:Value}{f:Nat→Nat→Lg}{k:Nat}(h:LGs W B v f k)(hB:B'≤B):LGs W B' v f k:=by
 obtain⟨vs,h1,h2⟩:=h;refine⟨vs,own_mono h1 hB,fun i hi=>?_⟩;obtain⟨u,e,h3⟩:=h2 i hi;exact⟨u,e,own_mono h3 hB⟩
theorem lgs_nil (W:World)(B:Nat)(f:Nat→Nat→Lg):LGs W B (.slice none 0 0) f 0:=⟨[],World.ownsRow_nil _ _ _ _,fun i hi=>by omega⟩
theorem LGs.push {W W':World}{B:Nat}{v v' u:Value}{f:Nat→Nat→Lg}{k:Nat}(h:LGs W B v f k)(hu:W.ownsRow B 198 5 u 16 (cellsG legE ((List.range 16).map (f k))))(hg:W.grownBy W' v.ownBlock)(hv:∀vs,W.ownsRow B 247 1 v k vs→W'.ownsRow B 247 1 v' (k+1) (vs++[u])):LGs W' B v' f (k+1):=by
 obtain⟨vs,h1,h2⟩:=h;have hl:vs.length=k:=by simpa using h1.1
 refine⟨vs++[u],hv vs h1,fun i hi=>?_⟩;by_cases e:i=k
 ·subst e;refine⟨u,by rw[List.getElem?_append_right (by omega),hl];simp,hu.kept hg ?_⟩;exact own_apart hu h1 (by decide)
 obtain⟨y,e1,h3⟩:=h2 i (by omega);refine⟨y,by rw[List.getElem?_append_left (by omega)];exact e1,h3.kept hg ?_⟩;exact own_apart h3 h1 (by decide)
theorem own_uniq {W:World}{B B' e size n:Nat}{v:Value}{xs ys:List Value}(h:W.ownsRow B e size v n xs)(k:W.ownsRow B' e size v n ys):xs=ys:=by
 rcases h.2 with ⟨rfl,rfl⟩ | ⟨g,cap,cur,rfl,_,hg,_,_,_,ht⟩
 ·have h1:=h.1;have h2:=k.1;simp at h1 h2;rw[h1,h2]
 rcases k.2 with ⟨h,_⟩ | ⟨g',cap',cur',e,_,hg',_,_,_,ht'⟩
 ·simp at h
 simp only[Value.slice.injEq,Option.some.injEq,Addr.mk.injEq,and_true,true_and] at e;obtain⟨rfl,rfl⟩:=e;rw[hg] at hg';cases hg';rw[←ht,←ht']
theorem legs_info:(Tryz.prog.info? 247).map (fun i=>(i.zero,i.size,i.bytes))=some (some (.slice none 0 0),1,24):=by kernel_rfl
theorem range_succ_map {α:Type}(f:Nat→α)(h:Nat):(List.range (h+1)).map f=(List.range h).map f++[f h]:=by simp[List.range_succ]
theorem legs_any (S:Int)(ao:AdQ)(n cap:Nat)(ao2:AdQ)(n2 cap2:Nat)(ao3:AdQ)(n3 cap3:Nat)(Ls:LkQ)(Hs:HoQ)(Ts:TsQ)(w:World)
 (hL:GS lnkE w (.slice ao n cap) Ls) (hH:GS hstE w (.slice ao2 n2 cap2) Hs) (hT:TS w (.slice ao3 n3 cap3) Ts) (hN:ntN S Ls Hs Ts=0):
 Calls prog 100 #[.agg #[.int i64 S,.slice ao n cap,.slice ao2 n2 cap2,.slice ao3 n3 cap3]] w fun e w'=>∃v,e=.returned v∧LGs w' w.heap.size v (fun (a h:Nat)=>lgT Ls Hs (taT Ts ((a:Int)+1)) (((a:Int)+1,0),(h:Int))) n3∧Below w.heap.size w w':=by
 obtain⟨hTP,hTL,hTT⟩:=nt_0 hN;have hS:=(tp_0 hTP).1;have hnd:=(tp_0 hTP).2.2.2.1;have hTn:=hT.len;have hLn:=hL.len;have hl2:=(tp_0 hTP).2.1;have H36:Hid (n3≤6):=by show _≤_;omega
 have h36:n3≤6:=H36.out;obtain rfl:S=(n3:Int):=by omega
 have HND:Hid ((spsL Ls).Nodup):=hnd;have HN1:Hid (n≤1000):=by show _≤_;omega
 have HTT:Hid (∀k,k<Ts.length→tbN (Ts.getD k [])=0):=hTT;have HLW:Hid (∀W,Below w.heap.size w W→GS lnkE W (.slice ao n cap) Ls):=fun W hb=>hL.later hb
 have HHW:Hid (∀W,Below w.heap.size w W→GS hstE W (.slice ao2 n2 cap2) Hs):=fun W hb=>hH.later hb
 have HTW:Hid (∀W,Below w.heap.size w W→TS W (.slice ao3 n3 cap3) Ts):=fun W hb=>hT.later hb
 obtain⟨f,hf⟩:∃f:Nat→Nat→Lg,f=fun (a h:Nat)=>lgT Ls Hs (taT Ts ((a:Int)+1)) (((a:Int)+1,0),(h:Int)):=⟨_,rfl⟩
 have HF:Hid (∀a h:Nat,lgT Ls Hs (taT Ts ((a:Int)+1)) (((a:Int)+1,0),(h:Int))=f a h):=fun a h=>by rw[hf]
 rw[←hf];have hX:=nebox_new w (n3:Int) (.slice ao n cap) (.slice ao2 n2 cap2) (.slice ao3 n3 cap3) 28;have hB0:Below w.heap.size w (w.alloc (.cells #[.int i64 (n3:Int),.slice ao n cap,.slice ao2 n2 cap2,.slice ao3 n3 cap3] 28)):=(bRQ _ _).alloc (nLQ _) _;obtain⟨w0,hw0⟩:∃W,w.alloc (.cells #[.int i64 (n3:Int),.slice ao n cap,.slice ao2 n2 cap2,.slice ao3 n3 cap3] 28)=W:=⟨_,rfl⟩;rw[hw0] at hX hB0;have HX:Hid (NeBox w0 w.heap.size (n3:Int) (.slice ao n cap) (.slice ao2 n2 cap2) (.slice ao3 n3 cap3)):=hX;have HB0:Hid (Below w.heap.size w w0):=hB0;have HW0:Hid (w.alloc (.cells #[.int i64 (n3:Int),.slice ao n cap,.slice ao2 n2 cap2,.slice ao3 n3 cap3] 28)=w0):=hw0;clear hL hH hT hN hTP hTL hTT hS hnd hTn hLn hl2 hf hX hB0 hw0;go_enter func100,ntmps100;go_upto_region 1 with fail;rw[HW0.out];clear HW0;obtain⟨b0,b1,b2,b3⟩:=HX.out
 go_wp2_with fail
 refine (peers_any ao n cap Ls _ (HLW.out _ HB0.out) HND.out HN1.out).mono ?_;rintro e w1 ⟨B,M,rfl,hM,hPM,hb1⟩;have HM:Hid (MAt spotKey veS w1 B M):=hM;have HPM:Hid (PM M Ls):=hPM;have HX1:Hid (NeBox w1 w.heap.size (n3:Int) (.slice ao n cap) (.slice ao2 n2 cap2) (.slice ao3 n3 cap3)):=HX.out.later hb1;have HB1:Hid (Below w.heap.size w w1):=HB0.out.trans (hb1.mono HB0.out.size);clear hM hPM hb1 HX HB0 b0 b1 b2 b3;go_wp2
 go_loopw [4,5] (fun v i wr=>∃k:Nat,k≤n3∧i=.int i64 ((k:Int)+1)∧LGs wr w1.heap.size v f k∧Below w1.heap.size w1 wr) (fun _ i _=>n3+1-(intOf i).toNat)
 case atStart=>exact⟨0,by omega,rfl,lgs_nil _ _ _,bRQ _ _⟩
 case round =>
  obtain⟨k,hk,rfl,hG,hB⟩:=hrel;obtain⟨v4,hv4⟩:∃X,X=u4:=⟨_,rfl⟩;subst hv4;obtain⟨wo,hwo⟩:∃X,X=wr:=⟨_,rfl⟩;subst hwo;have HG:Hid (LGs wo w1.heap.size v4 f k):=hG;have HB:Hid (Below w1.heap.size w1 wo):=hB;have HBw:Hid (Below w.heap.size w wo):=HB1.out.trans (hB.mono HB1.out.size);have HXr:Hid (NeBox wo w.heap.size (n3:Int) (.slice ao n cap) (.slice ao2 n2 cap2) (.slice ao3 n3 cap3)):=HX1.out.later hB;have HMr:Hid (MAt spotKey veS wo B M):=HM.out.later hB;obtain⟨b0,b1,b2,b3⟩:=HXr.out;clear hG hB;by_cases hlt:k<n3
  ·have dk:decide (((k:Int)+1)≤(n3:Int))=true:=by simp;omega
   have hle:(k:Int)+1≤(n3:Int):=by omega
   go_upto_region 7 with fail;clear dk hle;go_wp2
   go_loopw [6,19] (fun u i W=>∃h:Nat,h≤16∧i=.int i64 h∧W.ownsRow wo.heap.size 198 5 u h (cellsG legE ((List.range h).map (f k)))∧Below wo.heap.size wo W) (fun _ i _=>16-(intOf i).toNat)
   case atStart=>exact⟨0,by omega,rfl,World.ownsRow_nil _ _ _ _,bRQ _ _⟩
   case round =>
    obtain⟨h,hh,rfl,hown,hBi⟩:=hrel;obtain⟨ao6,cap6,rfl⟩:=own_form hown;have HOWN:Hid (wr.ownsRow wo.heap.size 198 5 (.slice ao6 h cap6) h (cellsG legE ((List.range h).map (f k)))):=hown;have HBi:Hid (Below wo.heap.size wo wr):=hBi;have HBw2:Hid (Below w.heap.size w wr):=HBw.out.trans (hBi.mono HBw.out.size);obtain⟨b0,b1,b2,b3⟩:=HXr.out.later hBi;clear hown;by_cases hlt16:h<16
    ·obtain⟨G,hG⟩:∃G,G=f k h:=⟨_,rfl⟩;have HLEG:Hid (Calls prog 98 #[.agg #[.int i64 (n3:Int),.slice ao n cap,.slice ao2 n2 cap2,.slice ao3 n3 cap3],.map (some B),.agg #[.int i64 ((k:Int)+1),.int i64 0,.int i64 (h:Int)]] wr fun e w'=>e=.returned (legV G)∧Below wr.heap.size wr w'):=by
      have h:=leg_any (n3:Int) ao n cap ao2 n2 cap2 ao3 n3 cap3 Ls Hs Ts B M ((k:Int)+1) 0 (h:Int) wr (HHW.out _ HBw2.out) (HTW.out _ HBw2.out) (HMr.out.later hBi) HPM.out HTT.out (by omega) (by omega) H36.out;rw[HF.out,←hG] at h;exact h
     have HG5:Hid ((List.range (h+1)).map (f k)=(List.range h).map (f k)++[G]):=by
      show _=_;rw[range_succ_map,hG]
     clear hBi hG;obtain⟨x0,x1,⟨x2,x3⟩,x4⟩:=G;unfold legV at HLEG
     dsimp only at HLEG
     go_wp2_with fail
     refine HLEG.out.mono ?_;rintro e w3 ⟨rfl,hb3⟩;have HO3:Hid (w3.ownsRow wo.heap.size 198 5 (.slice ao6 h cap6) h (cellsG legE ((List.range h).map (f k)))):=own_below HOWN.out hb3;have HB3:Hid (Below wo.heap.size wo w3):=HBi.out.trans (hb3.mono HBi.out.size);have hs3:wo.heap.size≤w3.heap.size:=HB3.out.size;obtain⟨j0,hj,hy0,hy1,hy2⟩:=info_parts leg_info;clear hb3 b0 b1 b2 b3 HLEG
     go_wp2_with (at_builtin;refine wpList_append_own _ rfl _ _ 247 rfl wo.heap.size 198 j0 (.agg #[.int i64 0,.string ByteArray.empty,.int i64 0,.int i64 0,.int i64 0]) 5 48 underlying247 hj hy0 hy1 hy2 leg_zero (by decide) _ _ _ rfl (HO3.out.alloc _) ⟨w3.heap.size,0,none⟩ 1 1 [.int i64 x0,.string x1,.int i64 x2,.int i64 x3,.int i64 x4] rfl rfl ?m1 ?m2 ?m3 ?m4 ?m5 ?_)
     case m1 =>
      intro j u hj
      match j,hj with
      | 0,hj=>simp at hj;subst hj;simp[Addr.add]
      | 1,hj=>simp at hj;subst hj;simp[Addr.add]
      | 2,hj=>simp at hj;subst hj;simp[Addr.add]
      | 3,hj=>simp at hj;subst hj;simp[Addr.add]
      | 4,hj=>simp at hj;subst hj;simp[Addr.add]
     case m2=>intro u hu;simp at hu;rcases hu with rfl | rfl | rfl | rfl | rfl <;> rfl
     case m3=>unfold maxLen;omega
     case m4=>omega
     case m5=>simp;omega
     intro v5 w5 hown5 hgrow5 _;obtain⟨ao7,cap7,rfl⟩:=own_form hown5;have hb5:Below wo.heap.size w3 w5:=((Below.refl _ w3).alloc hs3 _).grown hgrow5 (by simp;omega) (fun g hg=>(HO3.out.lt g hg).1);have HB5:Hid (Below wo.heap.size wo w5):=HB3.out.trans hb5;have HO5:Hid (w5.ownsRow wo.heap.size 198 5 (.slice ao7 (h+1) cap7) (h+1) (cellsG legE ((List.range (h+1)).map (f k)))):=by
      show World.ownsRow _ _ _ _ _ _ _;rw[HG5.out,cellsG_app,cellsG_one];exact hown5
     clear hb5 hgrow5 hown5;go_wp2;go_roundw
     case rel=>exact⟨h+1,by omega,by go_num,HO5.out,HB5.out⟩
     case measure=>simp[intOf];omega
    obtain rfl:h=16:=by omega
    have HG3:Hid (LGs wr w1.heap.size v4 f k):=HG.out.later hBi;have HU3:Hid (wr.ownsRow w1.heap.size 198 5 (.slice ao6 16 cap6) 16 (cellsG legE ((List.range 16).map (f k)))):=own_mono HOWN.out HB.out.size;have HB3:Hid (Below w1.heap.size w1 wr):=HB.out.trans (hBi.mono HB.out.size);have hs3:w1.heap.size≤wr.heap.size:=HB3.out.size;obtain⟨vs,hvs,_⟩:=HG3.out;have HVS:Hid (wr.ownsRow w1.heap.size 247 1 v4 k vs):=hvs;obtain⟨ao8,cap8,rfl⟩:=own_form hvs;obtain⟨j0,hj,hy0,hy1,hy2⟩:=info_parts legs_info;clear hBi hvs b0 b1 b2 b3
    go_wp2_with (at_builtin;refine wpList_append_own _ rfl _ _ 143 rfl w1.heap.size 247 j0 (.slice none 0 0) 1 24 underlying143 hj hy0 hy1 hy2 rfl (by decide) _ _ _ rfl (HVS.out.alloc _) ⟨wr.heap.size,0,none⟩ 1 1 [.slice ao6 16 cap6] rfl rfl ?n1 ?n2 ?n3 ?n4 ?n5 ?_)
    case n1 =>
     intro j u hj
     match j,hj with
     | 0,hj=>simp at hj;subst hj;simp[Addr.add]
    case n2=>intro u hu;simp at hu;subst hu;rfl
    case n3=>unfold maxLen;omega
    case n4=>omega
    case n5=>simp;omega
    intro v5 w5 hown5 hgrow5 _;obtain⟨ao7,cap7,rfl⟩:=own_form hown5;have hal:Below wr.heap.size wr (wr.alloc (.cells #[.slice ao6 16 cap6] 247)):=(bRQ _ _).alloc (nLQ _) _;have hb5:Below w1.heap.size wr w5:=((Below.refl _ wr).alloc hs3 _).grown hgrow5 (by simp;omega) (fun g hg=>(HVS.out.lt g hg).1);have HB5:Hid (Below w1.heap.size w1 w5):=HB3.out.trans hb5;have HG5:Hid (LGs w5 w1.heap.size (.slice ao7 (k+1) cap7) f (k+1)):=by
     refine LGs.push (HG3.out.later hal) (own_below HU3.out hal) hgrow5 (fun vs' h'=>?_);have e:vs'=vs:=by
      have h2:=own_below HVS.out hal;exact own_uniq h' h2
     rw[e];exact hown5
    clear hb5 hgrow5 hown5 hal;go_wp2;go_roundw
    case rel=>exact⟨k+1,by omega,by go_num,HG5.out,HB5.out⟩
    case measure=>simp[intOf];omega
  obtain rfl:k=n3:=by omega
  have dk:decide (((k:Int)+1)≤(k:Int))=false:=by simp;omega
  have hle:¬((k:Int)+1≤(k:Int)):=by omega
  go_wp2;go_ret;exact⟨_,rfl,HG.out.mono HB1.out.size,HB1.out.trans (HB.out.mono HB1.out.size)⟩
def sxH (l:HpQ):Nat:=((laH l).1.1-1).toNat
def mtS (met:Nat→Bool)(a:Nat):Nat→Bool:=fun b=>if b=a then true else met b
def tkL (k:HpQ→(Nat→Bool)→List (Int×ByteArray×HpQ))(g:Lg)(l:HpQ)(met:Nat→Bool):List (Int×ByteArray×HpQ):=
 if g.1=0 then k (l++[g.2.2]) met else [(g.1,g.2.1,l)]
section
variable (Ls:LkQ)(Hs:HoQ)(As Bs:TsQ)
def lgA (Ts:TsQ)(l:HpQ):Lg:=afL (lgT Ls Hs (taT Ts (laH l).1.1) (laH l)) l
def pwL:Nat→HpQ→(Nat→Bool)→List (Int×ByteArray×HpQ)
 | 0,_,_=>[]
 | n+1,l,met =>
   if met (sxH l)=true then tkL (pwL n) (lgA Ls Hs Bs l) l met
   else tkL (pwL n) (lgA Ls Hs As l) l met++(if lgA Ls Hs Bs l=lgA Ls Hs As l then [] else tkL (pwL n) (lgA Ls Hs Bs l) l (mtS met (sxH l)))
end
section
variable {Ls:LkQ}{Hs:HoQ}{As Bs:TsQ}
theorem la_24 {Ts:TsQ}{l:HpQ}(h:(lgA Ls Hs Ts l).1=0):l.length≠24:=(af_0 h).2.2.1
theorem la_sp {S:Int}(ht:tpN S Ls Hs=0){Ts:TsQ}{l:HpQ}(h:(lgA Ls Hs Ts l).1=0):spB S (lgA Ls Hs Ts l).2.2.1=true:=by
 unfold lgA at *;obtain⟨e,h0,_⟩:=af_0 h;rw[e];exact lg_sp ht h0
theorem wk_mono:∀(n:Nat) (l:HpQ) (m m2:List Int),(∀s∈m,s∈m2)→∀x,x∈wkL Ls Hs As Bs n l m2 []→x∈wkL Ls Hs As Bs n l m []
 | 0,l,m,m2,hm,x,h=>h
 | n+1,l,m,m2,hm,x,h=>by
   have on:∀(a b:List Int),(∀s∈a,s∈b)→∀g,x∈onL (fun l' a'=>wkL Ls Hs As Bs n l' b a') l [] g→x∈onL (fun l' a'=>wkL Ls Hs As Bs n l' a a') l [] g:=by
    intro a b hab g hx;cases g with
    | inl e=>exact hx
    | inr p=>exact wk_mono n _ a b hab x hx
   have mm:∀(k:List Int) (a:List (Int×ByteArray×HpQ)) g,x∈onL (fun l' a'=>wkL Ls Hs As Bs n l' k a') l a g↔x∈a∨x∈onL (fun l' a'=>wkL Ls Hs As Bs n l' k a') l [] g:=fun k a g=>on_mem (fun l' a x=>wk_mem n l' _ a x) l a g x
   rw[wkL] at h ⊢;by_cases hc:chB As Bs (laH l).1.1=true
   ·rw[if_pos hc] at h ⊢;by_cases h2:(laH l).1.1∈m2
    ·simp only[h2,if_true] at h;by_cases h1:(laH l).1.1∈m
     ·simp only[h1,if_true];exact on _ _ hm _ h
     simp only[h1,if_false];refine (mm _ _ _).2 (.inr (on _ _ ?_ _ h));intro s hs
     rcases List.mem_append.1 hs with hs | hs
     ·exact hm s hs
     rw[List.mem_singleton.1 hs];exact h2
    have h1:¬(laH l).1.1∈m:=fun h=>h2 (hm _ h)
    simp only[h1,h2,if_false] at h ⊢
    rcases (mm _ _ _).1 h with h | h
    ·exact (mm _ _ _).2 (.inl (on _ _ hm _ h))
    refine (mm _ _ _).2 (.inr (on _ _ ?_ _ h));intro s hs
    rcases List.mem_append.1 hs with hs | hs
    ·exact List.mem_append.2 (.inl (hm s hs))
    exact List.mem_append.2 (.inr hs)
   rw[if_neg hc] at h ⊢;by_cases h2:(laH l).1.1∈m2
   ·rw[if_pos h2] at h;simp at h
   have h1:¬(laH l).1.1∈m:=fun h=>h2 (hm _ h)
   rw[if_neg h2] at h;rw[if_neg h1];exact on _ _ hm _ h
theorem pw_mem {S:Int}(ht:tpN S Ls Hs=0)(hA:∀s,tbN (taT As s)=0)(hB:∀s,tbN (taT Bs s)=0):∀(n:Nat) (l:HpQ) (met:Nat→Bool) (m:List Int),1≤(laH l).1.1→(∀s:Int,1≤s→(met (s-1).toNat=true↔s∈m))→(∀s∈m,chB As Bs s=true)→∀x,x∈pwL Ls Hs As Bs n l met↔x∈wkL Ls Hs As Bs n l m []
 | 0,l,met,m,h1,h2,h3,x=>by simp[pwL,wkL]
 | n+1,l,met,m,h1,h2,h3,x=>by
   have ih:=pw_mem ht hA hB n;obtain⟨s,hs⟩:∃s,s=(laH l).1.1:=⟨_,rfl⟩;have hsx:sxH l=(s-1).toNat:=by rw[sxH,←hs]
   have s1:1≤s:=by rw[hs];exact h1
   have tk:∀(Ts:TsQ) (met2:Nat→Bool) (m2:List Int),(∀s:Int,1≤s→(met2 (s-1).toNat=true↔s∈m2))→(∀s∈m2,chB As Bs s=true)→(x∈tkL (pwL Ls Hs As Bs n) (lgA Ls Hs Ts l) l met2↔x∈onL (fun l' a'=>wkL Ls Hs As Bs n l' m2 a') l [] (goE Ls Hs (taT Ts s) l (laH l))):=by
    intro Ts met2 m2 q2 q3;have e:goE Ls Hs (taT Ts s) l (laH l)=lgE (lgA Ls Hs Ts l):=by rw[hs];exact go_lg
    rw[e];unfold tkL lgE;by_cases h0:(lgA Ls Hs Ts l).1=0
    ·rw[if_pos h0,if_pos h0];refine ih _ met2 m2 ?_ q2 q3 x;rw[la_app];have:=sp_of (la_sp ht h0);exact this.1
    rw[if_neg h0,if_neg h0];simp only[onL];rw[pu_mem lo_fate];simp
   have mm:∀(k:List Int) (a:List (Int×ByteArray×HpQ)) g,x∈onL (fun l' a'=>wkL Ls Hs As Bs n l' k a') l a g↔x∈a∨x∈onL (fun l' a'=>wkL Ls Hs As Bs n l' k a') l [] g:=fun k a g=>on_mem (fun l' a x=>wk_mem n l' _ a x) l a g x
   rw[pwL,wkL,←hs,hsx];by_cases hm:met (s-1).toNat=true
   ·have hin:=(h2 s s1).1 hm;rw[if_pos hm,if_pos (h3 s hin)];simp only[hin,if_true];exact tk Bs met m h2 h3
   have hin:¬s∈m:=fun h=>hm ((h2 s s1).2 h)
   rw[if_neg hm];by_cases hc:chB As Bs s=true
   ·rw[if_pos hc];simp only[hin,if_false];have q2:∀t:Int,1≤t→(mtS met (s-1).toNat (t-1).toNat=true↔t∈m++[s]):=by
     intro t t1;unfold mtS;by_cases e:t=s
     ·subst e;simp
     rw[if_neg (by omega),h2 t t1];simp[e]
    have q3:∀t∈m++[s],chB As Bs t=true:=by
     intro t htt
     rcases List.mem_append.1 htt with h | h
     ·exact h3 t h
     rw[List.mem_singleton.1 h];exact hc
    rw[List.mem_append,mm,tk As met m h2 h3];by_cases e:lgA Ls Hs Bs l=lgA Ls Hs As l
    ·rw[if_pos e];simp only[List.not_mem_nil,or_false];constructor
     ·exact .inl
     rintro (h | h)
     ·exact h
     have e2:goE Ls Hs (taT Bs s) l (laH l)=goE Ls Hs (taT As s) l (laH l):=by
      rw[hs,go_lg,go_lg];exact congrArg lgE e
     rw[e2] at h;cases hg:goE Ls Hs (taT As s) l (laH l) with
     | inl e=>rw[hg] at h;exact h
     | inr p =>
       rw[hg] at h;exact wk_mono n _ m (m++[s]) (fun t h=>List.mem_append.2 (.inl h)) x h
    rw[if_neg e,tk Bs _ _ q2 q3]
   rw[if_neg hc,if_neg hin];have e:lgA Ls Hs Bs l=lgA Ls Hs As l:=by
    unfold lgA;have e1:lgT Ls Hs (taT Bs (laH l).1.1) (laH l)=lgT Ls Hs (taT As (laH l).1.1) (laH l):=by
     unfold lgT;rw[←hs,st_alike (hA s) (hB s) (ch_alike (by simpa using hc))]
    rw[e1]
   rw[if_pos e,List.append_nil];exact tk As met m h2 h3
def pwS (Ls:LkQ)(Hs:HoQ)(As Bs:TsQ)(s:Int×Int)(h:Int):List (Int×ByteArray×HpQ):=pwL Ls Hs As Bs 24 [(s,h)] (fun _=>false)
theorem ps_mem {S:Int}(ht:tpN S Ls Hs=0)(hA:∀s,tbN (taT As s)=0)(hB:∀s,tbN (taT Bs s)=0){s:Int×Int}(hs:spB S s=true)(h:Int)(x:Int×ByteArray×HpQ):x∈pwS Ls Hs As Bs s h↔x∈seeL Ls Hs As Bs s h:=
 pw_mem ht hA hB 24 [(s,h)] (fun _=>false) [] (sp_of hs).1 (fun s _=>by simp) (fun s h=>absurd h List.not_mem_nil) x
end
def hopAsks (w:World)(f:FuncId)(c:Value)(P:(Int×Int)×Int→Bool):Prop:=
 ∀(x0:Int) (x1:Int) (x2:Int) (W:World),Below w.heap.size w W→Calls prog f #[.agg #[.int i64 x0,.int i64 x1,.int i64 x2],c] W fun e w'=>e=.returned (.bool (P ((x0,x1),x2)))∧Below W.heap.size W w'
theorem hop_idxF (ao:AdQ)(n cap:Nat)(f:FuncId)(c:Value)(P:(Int×Int)×Int→Bool)(L:HpQ)(w:World)(hn:L.length=n)(hn2:n≤maxLen)(ha:0<n→∃g o,ao=some ⟨g,o,none⟩∧GAt hopE w g o L∧cap≤maxLen)(he:∀args w,(callFunc f args).run prog w=.ok (.enter f args) w)(hf:hopAsks w f c P):
 Calls prog 163 #[.slice ao n cap,.func (Fn.func f) #[] #[c]] w fun e w'=>e=.returned (.int i64 (ixG P L))∧Below w.heap.size w w':=by
 have HN:Hid (L.length=n):=hn;have HF:Hid (hopAsks w f c P):=hf;have HA:Hid (0<n→∃g o,ao=some ⟨g,o,none⟩∧GAt hopE w g o L∧cap≤maxLen):=ha;unfold maxLen at hn2;clear hn hf ha;go_enter func163,ntmps163;go_wp2
 go_loopw [8] (fun i wr=>∃k:Nat,k≤n∧i=.int i64 k∧(L.take k).any P=false∧Below w.heap.size w wr)
  (fun i _=>n-(intOf i).toNat)
 case atStart=>exact⟨0,by omega,rfl,by simp,bRQ _ _⟩
 case round =>
  obtain⟨k,hk,rfl,hno,hB⟩:=hrel;have HB:Hid (Below w.heap.size w wr):=hB;have HNO:Hid ((L.take k).any P=false):=hno;clear hno;by_cases hlt:k<n
  ·obtain⟨g,o,hao,hc,_⟩:=HA.out (by omega);subst hao;obtain⟨x0,x1,x2,hkl,hL,q0,q1,q2⟩:=hop_at (hc.later hB) HN.out hlt;have HL:Hid (L[k]=((x0,x1),x2)):=hL;clear hL hB;cases ho:P ((x0,x1),x2)
   ·go_wp2_with fail
    refine (HF.out x0 x1 x2 _ HB.out).mono ?_;rintro e w1 ⟨rfl,hb1⟩;rw[ho];have HB1:=HB.out.trans (hb1.mono HB.out.size);clear hb1;go_wp2;go_roundw
    case rel=>exact⟨k+1,by omega,by go_num,any_nextG hkl HNO.out (by rw[HL.out];exact ho),HB1⟩
    case measure=>simp[intOf];omega
   go_wp2_with fail
   refine (HF.out x0 x1 x2 _ HB.out).mono ?_;rintro e w1 ⟨rfl,hb1⟩;rw[ho];go_wp2;go_ret;exact⟨by rw[ixG_hit hkl HNO.out (by rw[HL.out];exact ho)];rfl,HB.out.trans (hb1.mono HB.out.size)⟩
  obtain rfl:k=n:=by omega
  go_wp2;go_ret;exact⟨by have:=HNO.out;rw[←HN.out,List.take_length] at this;rw[ixG_no this];rfl,HB.out⟩
theorem hop_hasF (ao:AdQ)(n cap:Nat)(f:FuncId)(c:Value)(P:(Int×Int)×Int→Bool)(L:HpQ)(w:World)(hn:L.length=n)(hn2:n≤maxLen)(ha:0<n→∃g o,ao=some ⟨g,o,none⟩∧GAt hopE w g o L∧cap≤maxLen)(he:∀args w,(callFunc f args).run prog w=.ok (.enter f args) w)(hf:hopAsks w f c P):
 Calls prog 156 #[.slice ao n cap,.func (Fn.func f) #[] #[c]] w fun e w'=>e=.returned (.bool (L.any P))∧Below w.heap.size w w':=by
 rw[←ixG_any];obtain⟨x,hx⟩:∃x,x=ixG P L:=⟨_,rfl⟩;have HX:Hid (x=ixG P L):=hx;rw[←hx];clear hx;go_enter func156,ntmps156
 go_wp2_with fail
 refine (hop_idxF ao n cap f c P L _ hn hn2 ha he hf).mono ?_;rintro e w1 ⟨rfl,hb1⟩;rw[←HX.out];go_wp2;go_ret;exact⟨rfl,hb1⟩
theorem fits1_any (x y h:Int)(B:Nat)(v:Int)(w:World)(h0:w.cell? ⟨B,3,none⟩=some (.int i64 v)):
 Calls prog 157 #[.agg #[.int i64 x,.int i64 y,.int i64 h],.pointer (some ⟨B,0,none⟩)] w fun e w'=>e=.returned (.bool (x==v))∧Below w.heap.size w w':=by
 have hlt:B<w.heap.size:=bLQ _ _ h0;have HB0:Hid (Below w.heap.size w (w.alloc (.cells #[.int i64 x,.int i64 y,.int i64 h] 127))):=(bRQ _ _).alloc (nLQ _) _;go_enter func157,ntmps157;go_wp2;go_ret;exact⟨rfl,HB0.out⟩
theorem fits1_asks (B:Nat)(v:Int)(w:World)(h0:w.cell? ⟨B,3,none⟩=some (.int i64 v)):hopAsks w 157 (.pointer (some ⟨B,0,none⟩)) (fun h=>h.1.1==v):=
 fun x y h W hW=>fits1_any x y h B v W (cell_later hW h0)
theorem fi_off {w:Wi}{m:ByteArray}{F:Int×ByteArray×HpQ}(h:abW w m=false):fiB w m F=true:=by simp[fiB,h]
structure GBox (w W:World)(k:Int)(f t:ByteArray)(v a:Int)(b:ByteArray)(c:Value):Prop where
 below:Below w.heap.size w W
 x:WiBox W w.heap.size k f t v
 y0:W.cell? ⟨w.heap.size+1,0,none⟩=some (.int i64 a)
 y1:W.cell? ⟨w.heap.size+1,1,none⟩=some (.string b)
 y2:W.cell? ⟨w.heap.size+1,2,none⟩=some c
theorem gbox_new (w:World)(k:Int)(f t:ByteArray)(v a:Int)(b:ByteArray)(c:Value):GBox w ((w.alloc (.cells #[.int i64 k,.string f,.string t,.int i64 v] 80)).alloc (.cells #[.int i64 a,.string b,c] 83)) k f t v a b c:=by
 have e1:(w.alloc (.cells #[.int i64 k,.string f,.string t,.int i64 v] 80)).heap.size=w.heap.size+1:=by simp
 have hb:∀(W:World) (o:Obj),Below W.heap.size W (W.alloc o):=fun W o=>(bRQ _ _).alloc (nLQ _) _
 have hn:=(wibox_new w k f t v 80).later (hb _ (Obj.cells #[.int i64 a,.string b,c] 83));have hB:=((Below.refl w.heap.size w).alloc (nLQ _) (Obj.cells #[.int i64 k,.string f,.string t,.int i64 v] 80)).alloc (by rw[e1];omega) (Obj.cells #[.int i64 a,.string b,c] 83)
 generalize w.alloc (.cells #[.int i64 k,.string f,.string t,.int i64 v] 80)=X at e1 hn hB
 have hr:=vat_new X [.int i64 a,.string b,c] 83;rw[e1] at hr;exact⟨hB,hn,hr 0 _ rfl,hr 1 _ rfl,hr 2 _ rfl⟩
theorem GBox.later {w W W':World}{k:Int}{f t:ByteArray}{v a:Int}{b:ByteArray}{c:Value}(h:GBox w W k f t v a b c)(hb:Below W.heap.size W W'):GBox w W' k f t v a b c:=
 ⟨h.below.trans (hb.mono h.below.size),h.x.later hb,cell_later hb h.y0,cell_later hb h.y1,cell_later hb h.y2⟩
theorem fits_any (k:Int)(f t:ByteArray)(v:Int)(m:ByteArray)(a:Int)(b:ByteArray)(ao:AdQ)(n cap:Nat)(l:HpQ)(w:World)(hl:GS hopE w (.slice ao n cap) l):
 Calls prog 134 #[.agg #[.int i64 k,.string f,.string t,.int i64 v],.string m,.agg #[.int i64 a,.string b,.slice ao n cap]] w fun e w'=>e=.returned (.bool (fiB ⟨k,f,t,v⟩ m (a,b,l)))∧Below w.heap.size w w':=by
 have hX:=gbox_new w k f t v a b (.slice ao n cap);obtain⟨w0,hw0⟩:∃W,(w.alloc (.cells #[.int i64 k,.string f,.string t,.int i64 v] 80)).alloc (.cells #[.int i64 a,.string b,.slice ao n cap] 83)=W:=⟨_,rfl⟩;rw[hw0] at hX;have HX:Hid (GBox w w0 k f t v a b (.slice ao n cap)):=hX;have HW0:Hid ((w.alloc (.cells #[.int i64 k,.string f,.string t,.int i64 v] 80)).alloc (.cells #[.int i64 a,.string b,.slice ao n cap] 83)=w0):=hw0;have HL:Hid (∀W,Below w.heap.size w W→GS hopE W (.slice ao n cap) l):=fun W hb=>hl.later hb
 obtain⟨R,hR⟩:∃R,R=fiB ⟨k,f,t,v⟩ m (a,b,l):=⟨_,rfl⟩;have HR:Hid (R=fiB ⟨k,f,t,v⟩ m (a,b,l)):=hR;rw[←hR];obtain⟨AB,hAB⟩:∃q,q=abW ⟨k,f,t,v⟩ m:=⟨_,rfl⟩;have HAB:Hid (AB=abW ⟨k,f,t,v⟩ m):=hAB;clear hX hw0 hl hR hAB;go_enter func134,ntmps134;go_upto_region 1 with fail;rw[HW0.out];obtain⟨_,⟨x0,x1,x2,x3⟩,y0,y1,y2⟩:=HX.out;clear HW0
 go_wp2_with fail
 refine (isAbout_any k f t v m _).mono ?_;rintro e w1 ⟨rfl,hb1⟩;rw[←HAB.out];have HX1:Hid (GBox w w1 k f t v a b (.slice ao n cap)):=HX.out.later hb1;clear hb1 HX x0 x1 x2 x3 y0 y1 y2;obtain⟨hB1,⟨x0,x1,x2,x3⟩,y0,y1,y2⟩:=HX1.out;have HB1:Hid (Below w.heap.size w w1):=hB1;clear hB1;cases AB with
 | false =>
   have HR1:Hid (R=true):=by
    show _=_;rw[HR.out,fi_off HAB.out.symm]
   go_wp2;go_ret;exact⟨by rw[HR1.out];rfl,HB1.out⟩
 | true =>
   obtain⟨TH,hTH⟩:∃q,q=(a==1&&b.toList==t.toList):=⟨_,rfl⟩;have hTW:thW ⟨k,f,t,v⟩ (a,b,l)=TH:=by rw[hTH,thW,←beq_toListBytes]
   have HR1:Hid (R=if k=1 then TH else if k=2 then !TH else if k=3 then (!TH || haW v l) else if k=4 then !(a==4) else true):=by
    show _=_;rw[HR.out,fiB,if_pos HAB.out.symm,hTW]
   have HTH:Hid ((a==1&&b.toList==t.toList)=TH):=hTH.symm;clear hTH hTW HR HAB;go_upto_region 3 with fail
   go_cut [7] from 12 to 22 (fun q w'=>q=.bool TH∧w'=w1)
   case first =>
    by_cases a1:a=1
    ·subst a1;have h2:=HTH.out;rw[show ((1:Int)==1&&b.toList==t.toList)=(b.toList==t.toList) from rfl] at h2
     go_wp2_with fail
     go_meet
     exact⟨by rw[←h2],rfl⟩
    have h2:=HTH.out;rw[show (a==1)=false from by simp[a1],Bool.false_and] at h2;subst h2
    go_wp2_with fail
    go_meet
    exact⟨rfl,rfl⟩
   case rest =>
   obtain⟨rfl,hwc⟩:=hcut;subst hwc;by_cases k1:k=1
   ·subst k1;have HR2:Hid (R=TH):=by
     show _=_;rw[HR1.out,if_pos rfl]
    clear HR1;go_wp2;go_ret;exact⟨by rw[HR2.out];rfl,HB1.out⟩
   by_cases k2:k=2
   ·subst k2;have HR2:Hid (R = !TH):=by
     show _=_;rw[HR1.out,if_neg (by decide),if_pos rfl]
    clear HR1;go_wp2;go_ret;exact⟨by rw[HR2.out];rfl,HB1.out⟩
   by_cases k3:k=3
   ·subst k3;have HR2:Hid (R=(!TH || haW v l)):=by
     show _=_;rw[HR1.out,if_neg (by decide),if_neg (by decide),if_pos rfl]
    clear HR1;cases TH with
    | false =>
      go_wp2;go_ret;exact⟨by rw[HR2.out];rfl,HB1.out⟩
    | true =>
      obtain⟨_,_,_,e5,hGn,hGm,_,hGa⟩:=(HL.out _ HB1.out).form;cases e5;have HGN:Hid (l.length=n):=hGn;have HGM:Hid (n≤maxLen):=hGm;have HGA:Hid (0<n→∃g o,ao=some ⟨g,o,none⟩∧GAt hopE wc g o l∧cap≤maxLen):=hGa;clear hGn hGm hGa
      go_wp2_with fail
      refine (hop_hasF ao n cap _ _ (fun h=>h.1.1==v) l _ HGN.out HGM.out HGA.out (enters_of func157 (by kernel_rfl) rfl) (fits1_asks _ v _ HX1.out.x.2.2.2)).mono ?_;rintro e w2 ⟨rfl,hb2⟩;rw[show (l.any fun h=>h.1.1==v)=haW v l from rfl];have HB2:Hid (Below w.heap.size w w2):=HB1.out.trans (hb2.mono HB1.out.size);clear hb2;go_wp2;go_ret;exact⟨by rw[HR2.out];rfl,HB2.out⟩
   by_cases k4:k=4
   ·subst k4;have HR2:Hid (R = !(a==4)):=by
     show _=_;rw[HR1.out,if_neg (by decide),if_neg (by decide),if_neg (by decide),if_pos rfl]
    clear HR1;go_wp2;go_ret;exact⟨by rw[HR2.out];rfl,HB1.out⟩
   have HR2:Hid (R=true):=by
    show _=_;rw[HR1.out,if_neg k1,if_neg k2,if_neg k3,if_neg k4]
   clear HR1;go_wp2;go_ret;exact⟨by rw[HR2.out];rfl,HB1.out⟩
abbrev Ft:=Int×ByteArray×HpQ
theorem ixG_cases {α:Type}(f:α→Bool)(L:List α):(ixG f L = -1∧L.any f=false)∨∃k:Nat,∃h:k<L.length,ixG f L=(k:Int)∧f L[k]=true∧∀j,(hj:j<k)→f (L[j]'(by omega))=false:=by
 cases e:L.any f with
 | false=>exact .inl ⟨ixG_no e,rfl⟩
 | true =>
   have hx:L.findIdx f<L.length:=by
    rw[List.any_eq_true] at e;obtain⟨x,hx,hf⟩:=e;exact List.findIdx_lt_length_of_exists ⟨x,hx,hf⟩
   refine .inr ⟨L.findIdx f,hx,by simp[ixG,e],List.findIdx_getElem,fun j hj=>?_⟩;have:=List.not_of_lt_findIdx hj;simpa using this
def hwS (l:List Wi)(m:ByteArray)(F:Ft)(n:Nat):Nat:=
 if ixG (fun w => !fiB w m F) (l.take n)<0 then n else (ixG (fun w => !fiB w m F) (l.take n)).toNat
def hwTo (l:List Wi)(m:ByteArray)(L:List Ft):Nat→Nat
 | 0=>l.length
 | k+1=>hwS l m (L.getD k (0,ByteArray.empty,[])) (hwTo l m L k)
def hwN (l:List Wi)(m:ByteArray)(L:List Ft):Nat:=hwTo l m L L.length
section
variable {l:List Wi}{m:ByteArray}
theorem hwS_le (F:Ft)(n:Nat):hwS l m F n≤n:=by
 unfold hwS
 split
 ·omega
 next h =>
 rcases ixG_cases (fun w => !fiB w m F) (l.take n) with ⟨e,_⟩ | ⟨k,hk,e,_⟩
 ·omega
 rw[e];rw[List.length_take] at hk;simp;omega
theorem hwS_lt {F:Ft}{n i:Nat}(hn:n≤l.length)(hi:i<hwS l m F n):fiB (l.getD i zeW) m F=true:=by
 have hin:i<n:=Nat.lt_of_lt_of_le hi (hwS_le F n);have hil:i<l.length:=by omega
 rw[getW hil];unfold hwS at hi
 rcases ixG_cases (fun w => !fiB w m F) (l.take n) with ⟨e,h⟩ | ⟨k,hk,e,_,h⟩
 ·rw[List.any_eq_false] at h;have:=h l[i] (List.mem_take_iff_getElem.2 ⟨i,by omega,rfl⟩);simpa using this
 rw[e,if_neg (by omega)] at hi;have:=h i (by simpa using hi);simpa using this
theorem hwS_at {F:Ft}{n:Nat}(hn:n≤l.length)(h0:hwS l m F n<n):fiB (l.getD (hwS l m F n) zeW) m F=false:=by
 have hil:hwS l m F n<l.length:=by omega
 rw[getW hil]
 rcases ixG_cases (fun w => !fiB w m F) (l.take n) with ⟨e,h⟩ | ⟨k,hk,e,h,_⟩
 ·have e1:hwS l m F n=n:=by rw[hwS,e,if_pos (by omega)]
  omega
 have e1:hwS l m F n=k:=by
  rw[hwS,e,if_neg (by omega)];simp
 simp only[e1];simpa using h
theorem hwTo_le (L:List Ft):∀k,hwTo l m L k≤l.length
 | 0=>nLQ _
 | k+1=>Nat.le_trans (hwS_le _ _) (hwTo_le L k)
theorem hwTo_mono (L:List Ft)(k:Nat):hwTo l m L (k+1)≤hwTo l m L k:=hwS_le _ _
theorem hwTo_zero {L:List Ft}{k:Nat}(h:hwTo l m L k=0):∀{n:Nat},k≤n→hwTo l m L n=0
 | 0,hn=>by
   obtain rfl:k=0:=by omega
   exact h
 | n+1,hn=>by
   by_cases e:k=n+1
   ·subst e;exact h
   have:=hwTo_zero h (show k≤n by omega);have h2:=hwTo_mono (l:=l) (m:=m) L n;omega
theorem hwTo_lt {L:List Ft}:∀{k i:Nat},i<hwTo l m L k→∀j,j<k→fiB (l.getD i zeW) m (L.getD j (0,ByteArray.empty,[]))=true
 | 0,i,_,j,hj=>by omega
 | k+1,i,hi,j,hj=>by
   by_cases e:j=k
   ·subst e;exact hwS_lt (hwTo_le L _) hi
   exact hwTo_lt (Nat.lt_of_lt_of_le hi (hwTo_mono L k)) j (by omega)
theorem hwTo_at {L:List Ft}:∀{k:Nat},hwTo l m L k<l.length→∃j,j<k∧fiB (l.getD (hwTo l m L k) zeW) m (L.getD j (0,ByteArray.empty,[]))=false
 | 0,h=>by
   have:hwTo l m L 0=l.length:=rfl;omega
 | k+1,h=>by
   by_cases e:hwTo l m L (k+1)<hwTo l m L k
   ·exact⟨k,by omega,hwS_at (hwTo_le L k) e⟩
   have e2:hwTo l m L (k+1)=hwTo l m L k:=by
    have:=hwTo_mono (l:=l) (m:=m) L k;omega
   rw[e2] at h ⊢;obtain⟨j,hj,hb⟩:=hwTo_at h;exact⟨j,by omega,hb⟩
def badF (w:Wi)(m:ByteArray)(L:List Ft):Bool:=L.any fun F => !fiB w m F
theorem hwN_lt {L:List Ft}{i:Nat}(h:i<hwN l m L):badF (l.getD i zeW) m L=false:=by
 unfold badF;rw[List.any_eq_false];intro F hF;obtain⟨j,hj,rfl⟩:=List.getElem_of_mem hF;have:=hwTo_lt h j hj;rw[show L.getD j (0,ByteArray.empty,[])=L[j] by simp[List.getD,hj]] at this;rw[this];decide
theorem hwN_at {L:List Ft}(h:hwN l m L<l.length):badF (l.getD (hwN l m L) zeW) m L=true:=by
 obtain⟨j,hj,hb⟩:=hwTo_at h;unfold badF;rw[List.any_eq_true];refine⟨L[j],List.getElem_mem hj,?_⟩;rw[show L.getD j (0,ByteArray.empty,[])=L[j] by simp[List.getD,hj]] at hb;rw[hwN,hb];rfl
theorem hwN_le (L:List Ft):hwN l m L≤l.length:=hwTo_le L _
end
theorem take_getW {l:List Wi}{n i:Nat}(hi:i<n):(l.take n).getD i zeW=l.getD i zeW:=by
 simp[List.getD,List.getElem?_take,hi]
structure Fb (l:List Wi)(Hs:HoQ)(Fs:Nat→Nat→List Ft)(z h held:Nat)(p:Int×ByteArray×Int):Prop where
 le:held≤l.length
 ok:∀i,i<held→∀z' h',h'<16→(z'<z∨z'=z∧h'<h)→badF (l.getD i zeW) (Hs.getD z' zeO).1 (Fs z' h')=false
 no:held=l.length→p=(0,ByteArray.empty,0)
 tell:held<l.length→∃z₁ h₁,h₁<16∧(z₁<z∨z₁=z∧h₁<h)∧z₁<Hs.length∧p=((held:Int),(Hs.getD z₁ zeO).1,(h₁:Int))∧badF (l.getD held zeW) (Hs.getD z₁ zeO).1 (Fs z₁ h₁)=true∧∀z' h',h'<16→(z'<z₁∨z'=z₁∧h'<h₁)→badF (l.getD held zeW) (Hs.getD z' zeO).1 (Fs z' h')=false
section
variable {l:List Wi}{Hs:HoQ}{Fs:Nat→Nat→List Ft}
theorem fb_0:Fb l Hs Fs 0 0 l.length (0,ByteArray.empty,0):=⟨nLQ _,fun _ _ z' h' _ h=>by omega,fun _=>rfl,fun h=>absurd h (Nat.lt_irrefl _)⟩
theorem Fb.host {z held:Nat}{p:Int×ByteArray×Int}(f:Fb l Hs Fs z 16 held p):Fb l Hs Fs (z+1) 0 held p:=
 ⟨f.le,fun i hi z' h' h16 h=>f.ok i hi z' h' h16 (by omega),f.no,fun h=>by
  obtain⟨z₁,h₁,a,b,c⟩:=f.tell h;exact⟨z₁,h₁,a,by omega,c⟩⟩
theorem Fb.same {z h held:Nat}{p:Int×ByteArray×Int}(f:Fb l Hs Fs z h held p)(hn:¬hwN (l.take held) (Hs.getD z zeO).1 (Fs z h)<held):Fb l Hs Fs z (h+1) held p:=by
 have hlen:(l.take held).length=held:=by rw[List.length_take];have:=f.le;omega
 have he:hwN (l.take held) (Hs.getD z zeO).1 (Fs z h)=held:=by
  have:=hwN_le (l:=l.take held) (m:=(Hs.getD z zeO).1) (Fs z h);omega
 refine⟨f.le,fun i hi z' h' h16 hh=>?_,f.no,fun hl=>?_⟩
 ·by_cases e:z'=z∧h'=h
  ·obtain⟨rfl,rfl⟩:=e;have:=hwN_lt (l:=l.take held) (m:=(Hs.getD z' zeO).1) (L:=Fs z' h') (i:=i) (by rw[he];exact hi)
   rwa [take_getW hi] at this
  exact f.ok i hi z' h' h16 (by omega)
 obtain⟨z₁,h₁,a,b,c⟩:=f.tell hl;exact⟨z₁,h₁,a,by omega,c⟩
theorem Fb.less {z h held n:Nat}{p:Int×ByteArray×Int}(f:Fb l Hs Fs z h held p)(h16:h<16)(hz:z<Hs.length)(hn:hwN (l.take held) (Hs.getD z zeO).1 (Fs z h)=n)(hlt:n<held):Fb l Hs Fs z (h+1) n ((n:Int),(Hs.getD z zeO).1,(h:Int)):=by
 have hle:=f.le;have hlen:(l.take held).length=held:=by rw[List.length_take];omega
 have hb:badF (l.getD n zeW) (Hs.getD z zeO).1 (Fs z h)=true:=by
  have:=hwN_at (l:=l.take held) (m:=(Hs.getD z zeO).1) (L:=Fs z h) (by rw[hn,hlen];exact hlt)
  rwa [hn,take_getW hlt] at this
 refine⟨by omega,fun i hi z' h' h16' hh=>?_,fun e=>by omega,fun _=>⟨z,h,h16,by omega,hz,rfl,hb,fun z' h' h16' hh=>f.ok n hlt z' h' h16' hh⟩⟩;by_cases e:z'=z∧h'=h
 ·obtain⟨rfl,rfl⟩:=e;have:=hwN_lt (l:=l.take held) (m:=(Hs.getD z' zeO).1) (L:=Fs z' h') (i:=i) (by rw[hn];exact hi)
  rwa [take_getW (by omega)] at this
 exact f.ok i (by omega) z' h' h16' (by omega)
theorem bad_off {w:Wi}{m:ByteArray}(h:abW w m=false)(L:List Ft):badF w m L=false:=by
 unfold badF;rw[List.any_eq_false];intro F _;simp[fiB,h]
theorem Fb.off {z h held:Nat}{p:Int×ByteArray×Int}(f:Fb l Hs Fs z h held p)(ho:(l.take held).any (fun w=>abW w (Hs.getD z zeO).1)=false):Fb l Hs Fs (z+1) 0 held p:=by
 refine⟨f.le,fun i hi z' h' h16 hh=>?_,f.no,fun hl=>?_⟩
 ·by_cases e:z'=z
  ·subst e;refine bad_off ?_ _;rw[List.any_eq_false] at ho;have hil:i<l.length:=by have:=f.le;omega
   have:=ho l[i] (List.mem_take_iff_getElem.2 ⟨i,by omega,rfl⟩);rw[getW hil];simpa using this
  exact f.ok i hi z' h' h16 (by omega)
 obtain⟨z₁,h₁,a,b,c⟩:=f.tell hl;exact⟨z₁,h₁,a,by omega,c⟩
end
section
variable {Ls:LkQ}{Hs:HoQ}{Ts:TsQ}{Xs:HoQ}{l:List Wi}
theorem brH_neg {w:Wi}{x:ByteArray×(Int×Int)}:∀{k:Nat},(∀j,j<k→brB Ls Hs Ts w x (j:Int)=false)→brH Ls Hs Ts w x k<0
 | 0,_=>by simp[brH]
 | k+1,h=>brH_no (brH_neg (fun j hj=>h j (by omega))) (h k (by omega))
theorem brX_neg {w:Wi}:∀{k:Nat},(∀j,j<k→∀h:Nat,h<16→brB Ls Hs Ts w (Xs.getD j zeO) (h:Int)=false)→brX Ls Hs Ts w Xs k=none
 | 0,_=>rfl
 | k+1,h=>by
   rw[brX,brX_neg (fun j hj=>h j (by omega))];simp only;rw[if_neg];have:=brH_neg (Ls:=Ls) (Hs:=Hs) (Ts:=Ts) (w:=w) (x:=Xs.getD k zeO) (k:=16) (fun j hj=>h k (by omega) j hj);omega
theorem brW_neg:∀{k:Nat},(∀i,i<k→∀j,j<Xs.length→∀h:Nat,h<16→brB Ls Hs Ts (l.getD i zeW) (Xs.getD j zeO) (h:Int)=false)→brW Ls Hs Ts l Xs k=none
 | 0,_=>rfl
 | k+1,h=>by
   rw[brW,brW_neg (fun i hi=>h i (by omega))];simp only;rw[brX_neg (h k (by omega))]
theorem fb_br {held:Nat}{p:Int×ByteArray×Int}(f:Fb l Hs (fun z h=>[frF Ls Hs Ts (Hs.getD z zeO).2 (h:Int)]) Hs.length 0 held p):(brW Ls Hs Ts l Hs l.length).isSome=decide (held<l.length)∧prV Hs (brW Ls Hs Ts l Hs l.length)=p:=by
 have hb:∀w z (h:Nat),badF w (Hs.getD z zeO).1 [frF Ls Hs Ts (Hs.getD z zeO).2 (h:Int)]=brB Ls Hs Ts w (Hs.getD z zeO) (h:Int):=fun w z h=>by simp[badF,brB]
 by_cases hl:held<l.length
 ·obtain⟨z,h,h16,hzh,hz,rfl,hbad,hno⟩:=f.tell hl;have e1:brH Ls Hs Ts l[held] Hs[z] 16=(h:Int):=by
   refine brH_yes h16 (brH_neg fun j hj=>?_) ?_
   ·have:=hno z j (by omega) (.inr ⟨rfl,hj⟩);rw[hb,getW hl,getO hz] at this;exact this
   rw[hb,getW hl,getO hz] at hbad;exact hbad
  have e2:brX Ls Hs Ts l[held] Hs Hs.length=some (z,(h:Int)):=by
   rw[brX_yes hz (brX_neg fun j hj h' hh'=>?_) (by rw[e1];omega),e1];have:=hno j h' hh' (.inl hj);rw[hb,getW hl] at this;exact this
  have e3:=brW_yes hl (brW_neg (Ls:=Ls) (Hs:=Hs) (Ts:=Ts) (Xs:=Hs) fun i hi j hj h' hh'=>by
   have:=f.ok i hi j h' hh' (.inl hj);rw[hb] at this;exact this) e2
  rw[e3];exact⟨by simp[hl],rfl⟩
 have he:held=l.length:=by have:=f.le;omega
 have e3:brW Ls Hs Ts l Hs l.length=none:=brW_neg fun i hi j hj h' hh'=>by
  have:=f.ok i (by omega) j h' hh' (.inl hj);rw[hb] at this;exact this
 rw[e3,f.no he];exact⟨by simp[hl],rfl⟩
end
def wi2Asks (w:World)(f:FuncId)(c0 c1:Value)(P:Wi→Bool):Prop:=
 ∀(x0:Int) (x1:ByteArray) (x2:ByteArray) (x3:Int) (W:World),Below w.heap.size w W→Calls prog f #[.agg #[.int i64 x0,.string x1,.string x2,.int i64 x3],c0,c1] W fun e w'=>e=.returned (.bool (P ⟨x0,x1,x2,x3⟩))∧Below W.heap.size W w'
theorem wi2_idxF (ao:AdQ)(n cap:Nat)(f:FuncId)(c0 c1:Value)(P:Wi→Bool)(L:List (Wi))(w:World)(hn:L.length=n)(hn2:n≤maxLen)(ha:0<n→∃g o,ao=some ⟨g,o,none⟩∧GAt wisE w g o L∧cap≤maxLen)(he:∀args w,(callFunc f args).run prog w=.ok (.enter f args) w)(hf:wi2Asks w f c0 c1 P):
 Calls prog 132 #[.slice ao n cap,.func (Fn.func f) #[] #[c0,c1]] w fun e w'=>e=.returned (.int i64 (ixG P L))∧Below w.heap.size w w':=by
 have HN:Hid (L.length=n):=hn;have HF:Hid (wi2Asks w f c0 c1 P):=hf;have HA:Hid (0<n→∃g o,ao=some ⟨g,o,none⟩∧GAt wisE w g o L∧cap≤maxLen):=ha;unfold maxLen at hn2;clear hn hf ha;go_enter func132,ntmps132;go_wp2
 go_loopw [8] (fun i wr=>∃k:Nat,k≤n∧i=.int i64 k∧(L.take k).any P=false∧Below w.heap.size w wr)
  (fun i _=>n-(intOf i).toNat)
 case atStart=>exact⟨0,by omega,rfl,by simp,bRQ _ _⟩
 case round =>
  obtain⟨k,hk,rfl,hno,hB⟩:=hrel;have HB:Hid (Below w.heap.size w wr):=hB;have HNO:Hid ((L.take k).any P=false):=hno;clear hno;by_cases hlt:k<n
  ·obtain⟨g,o,hao,hc,_⟩:=HA.out (by omega);subst hao;obtain⟨x0,x1,x2,x3,hkl,hL,q0,q1,q2,q3⟩:=wis_at (hc.later hB) HN.out hlt;have HL:Hid (L[k]=⟨x0,x1,x2,x3⟩):=hL;clear hL hB;cases ho:P ⟨x0,x1,x2,x3⟩
   ·go_wp2_with fail
    refine (HF.out x0 x1 x2 x3 _ HB.out).mono ?_;rintro e w1 ⟨rfl,hb1⟩;rw[ho];have HB1:=HB.out.trans (hb1.mono HB.out.size);clear hb1;go_wp2;go_roundw
    case rel=>exact⟨k+1,by omega,by go_num,any_nextG hkl HNO.out (by rw[HL.out];exact ho),HB1⟩
    case measure=>simp[intOf];omega
   go_wp2_with fail
   refine (HF.out x0 x1 x2 x3 _ HB.out).mono ?_;rintro e w1 ⟨rfl,hb1⟩;rw[ho];go_wp2;go_ret;exact⟨by rw[ixG_hit hkl HNO.out (by rw[HL.out];exact ho)];rfl,HB.out.trans (hb1.mono HB.out.size)⟩
  obtain rfl:k=n:=by omega
  go_wp2;go_ret;exact⟨by have:=HNO.out;rw[←HN.out,List.take_length] at this;rw[ixG_no this];rfl,HB.out⟩
end
section
open Go.RowKit Go.Shelf
structure Kb (p:Nat→Prop)(w w':World):Prop where
 os:w'.os=w.os
 tape:w'.tape=w.tape
 output:w'.output=w.output
 size:w.heap.size≤w'.heap.size
 block:∀k,k<w.heap.size→p k→w'.heap[k]?=w.heap[k]?
theorem Kb.refl (p:Nat→Prop)(w:World):Kb p w w:=⟨rfl,rfl,rfl,nLQ _,fun _ _ _=>rfl⟩
theorem Kb.trans {p:Nat→Prop}{a b c:World}(h:Kb p a b)(k:Kb p b c):Kb p a c:=
 ⟨k.os.trans h.os,k.tape.trans h.tape,k.output.trans h.output,Nat.le_trans h.size k.size,fun i hi hx=>(k.block i (Nat.lt_of_lt_of_le hi h.size) hx).trans (h.block i hi hx)⟩
theorem Kb.mono {p q:Nat→Prop}{w w':World}(h:Kb p w w')(hq:∀b,b<w.heap.size→q b→p b):Kb q w w':=⟨h.os,h.tape,h.output,h.size,fun k hk hx=>h.block k hk (hq k hk hx)⟩
theorem Kb.of_below {p:Nat→Prop}{n₀:Nat}{w w':World}(h:Below n₀ w w')(hp:∀b,b<w.heap.size→p b→b<n₀):Kb p w w':=⟨h.os,h.tape,h.output,h.size,fun k hk hx=>h.block k (hp k hk hx)⟩
theorem Kb.below {p:Nat→Prop}{n₀:Nat}{w w':World}(h:Kb p w w')(hn:n₀≤w.heap.size)(hp:∀b,b<n₀→p b):Below n₀ w w':=⟨h.os,h.tape,h.output,h.size,fun k hk=>h.block k (by omega) (hp k hk)⟩
theorem Kb.drew {p:Nat→Prop}{a w:World}(h:Kb p a w):Kb p a w.drew:=⟨h.os,h.tape,h.output,h.size,h.block⟩
theorem Kb.alloc {p:Nat→Prop}{a w:World}(h:Kb p a w)(o:Obj):Kb p a (w.alloc o):=
 h.trans (Kb.of_below ((Below.refl w.heap.size w).alloc (nLQ _) o) (fun b hb _=>hb))
theorem Kb.setCell {p:Nat→Prop}{a w:World}(h:Kb p a w){q:Addr}(hq:q.block<a.heap.size→¬p q.block)(v:Value):Kb p a (w.setCell q v):=by
 refine⟨h.os,h.tape,h.output,?_,fun k hk hx=>(Below.heap_setCell w q v k ?_).trans (h.block k hk hx)⟩
 ·show a.heap.size≤(w.heap.modify _ _).size;rw[Array.size_modify];exact h.size
 intro e;subst e;exact hq hk hx
theorem Kb.putObj {p:Nat→Prop}{a w:World}(h:Kb p a w){l:Nat}(hl:l<a.heap.size→¬p l)(o:Obj):Kb p a (w.putObj l o):=by
 have hg:=grownBy_putObj' w l o;refine⟨hg.os.trans h.os,hg.tape.trans h.tape,hg.output.trans h.output,Nat.le_trans h.size hg.size,fun k hk hx=>(hg.block k (Nat.lt_of_lt_of_le hk h.size) (fun e=>?_)).trans (h.block k hk hx)⟩;cases e;exact hl hk hx
theorem Kb.grown {p:Nat→Prop}{a w w':World}{row:Option Nat}(h:Kb p a w)(hg:w.grownBy w' row)(hr:∀r,row=some r→r<a.heap.size→¬p r):Kb p a w':=
 ⟨hg.os.trans h.os,hg.tape.trans h.tape,hg.output.trans h.output,Nat.le_trans h.size hg.size,fun k hk hx=>(hg.block k (Nat.lt_of_lt_of_le hk h.size) (fun e=>hr k e.symm hk hx)).trans (h.block k hk hx)⟩
theorem Kb.cell {p:Nat→Prop}{w w':World}(h:Kb p w w'){q:Addr}(hl:q.block<w.heap.size)(hp:p q.block):w'.cell? q=w.cell? q:=World.cell?_of_block (w:=w) (h.block q.block hl hp)
theorem Kb.at {p:Nat→Prop}{w w':World}(h:Kb p w w'){q:Addr}{v:Value}(hc:w.cell? q=some v)(hp:p q.block):w'.cell? q=some v:=(h.cell (bLQ _ _ hc) hp).trans hc
theorem Kb.frozen {p:Nat→Prop}{w w':World}(h:Kb p w w'){q:Addr}(hl:q.block<w.heap.size)(hp:p q.block):w'.frozen? q=w.frozen? q:=by
 simp only[World.frozen?,h.block q.block hl hp]
theorem Kb.boxed {p:Nat→Prop}{w w':World}(h:Kb p w w'){b:Nat}{t:TypeId}{v:Value}(hb:Boxed w b t v)(hp:p b):Boxed w' b t v:=(h.block b hb.lt hp).trans hb
theorem room_none (k:Nat):Fence.wide.room k:=room_wide k
theorem round_any {m m':Nat}{P:Program}{l:Nat}{f:FuncId}{tmps:Array Value}{assign body:Code}{w:World}{R:Ending→World→Prop}(h:RoundIn Fence.wide m P l f tmps assign body w R):RoundIn Fence.wide m' P l f tmps assign body w R:=⟨h.1,fun c cs _=>h.2 c cs (room_none _)⟩
theorem yield_any {m m':Nat}{P:Program}{l:Nat}{args:Array Value}{W:World}{R:Ending→World→Prop}(h:YieldAt Fence.wide m P l args W R):YieldAt Fence.wide m' P l args W R:=by
 obtain⟨fn,tmps,assign,body,hy,hR⟩:=h;exact⟨fn,tmps,assign,body,hy,round_any hR⟩
def ItF {α:Type}(P:Program)(g:Nat)(lb:Array Value)(Vl:World→Array Value→α→Prop)(n₀:Nat)(L:List α)(w:World):Prop:=
 ∀ (l:Nat) (J:Nat→(Nat→Prop)→World→Prop) (Jx:World→Prop) (W:World),Below n₀ w W→n₀≤W.heap.size →
   J 0 (fun _=>False) W →
   (∀k X A,J k X A→∀b,X b→b<A.heap.size) →
   (∀k X A A',J k X A→Kb (fun b=>b<W.heap.size∨X b) A A'→J k X A') →
   (∀A A',Jx A→Kb (fun _=>True) A A'→Jx A') →
   (∀k X A args x (Y:Nat→Prop),J k X A→L[k]?=some x→Vl A args x→W.heap.size≤A.heap.size→(∀b,Y b→W.heap.size≤b∧¬X b)→YieldAt Fence.wide 0 P l args A fun e A' =>
    (e=.returned (.bool true)∧(∃X',J (k+1) X' A'∧∀b,X' b→X b∨A.heap.size≤b)∧Kb (fun b=>b<n₀∨Y b) A A')∨(e=.returned (.bool false)∧Jx A'∧Kb (fun b=>b<n₀∨Y b) A A')) →
   Calls P g (#[.func (.yield l) #[] #[]]++lb) W fun e W'=>(∃v,e=.returned v)∧((∃X,J L.length X W')∨Jx W')
def itPost (p:Nat→Prop)(I:World→Prop)(Ix:Code→World→Prop)(W:World):Exit→Act→World→Prop
 | .normal,_,W'=>Kb p W W'∧I W'
 | .ret,_,W'=>Kb p W W'∧Ix .ret W'
 | .exit id,_,W'=>Kb p W W'∧Ix (.exit id) W'
 | .goto t,_,W'=>Kb p W W'∧Ix (.goto t) W'
 | .panic _,_,_=>False
 | .outgrown,_,_=>False
theorem wpIn_rangeFunc_it {P:Program}{n:Nat}{α:Type}{g:Operand}{ps:Array Tmp}{assign body:Code}{Q:Exit→Act→World→Prop}{a:Act}{w:World}
 (h1:1≤n) {gf:Nat} {lb:Array Value} (hg:a.eval g=.func (.func gf) #[] lb) (eg:∀args w,(callFunc gf args).run P w=.ok (.enter gf args) w)
 {Vl:World→Array Value→α→Prop} {n₀:Nat} {L:List α} {w0:World} (hseq:ItF P gf lb Vl n₀ L w0) (hb0:Below n₀ w0 w) (hn₀:n₀≤w.heap.size) (hps:∀A args x,Vl A args x→args.size=ps.size)
 (I:Nat→(Nat→Prop)→World→Prop) (Ix:Code→World→Prop)
 (hlt:∀k X A,I k X A→∀b,X b→w.heap.size+2≤b∧b<A.heap.size)
 (hI:∀k X A A',I k X A→Kb (fun b=>b<w.heap.size∨X b) A A'→I k X A')
 (hIx:∀c A A',Ix c A→Kb (fun b=>b<w.heap.size∨w.heap.size+2≤b) A A'→Ix c A')
 (h0:I 0 (fun _=>False) w)
 (hround:∀(l k:Nat) (X Y:Nat→Prop) (x:α) (args:Array Value) (W:World),l=w.heap.size+1→w.heap.size+2≤W.heap.size→I k X W→L[k]?=some x→Vl W args x→(∀b,Y b→w.heap.size+2≤b∧¬X b)→(∀q:Addr,q.block=l→W.cell? q=none) →
  assign.wpIn (Fence.wide.inRound l) (n-1-1) P (Exit.then (fun a' Wa=>Kb (fun b=>b<n₀∨b=w.heap.size∨b=l∨Y b) W Wa∧∀W2,Kb (fun b=>b≠l) Wa W2→body.wpIn (Fence.wide.inRound l) (n-1-1) P (itPost (fun b=>b<n₀∨b=w.heap.size∨b=l∨Y b) (fun W'=>∃X',I (k+1) X' W'∧∀b,X' b→X b∨W.heap.size≤b) Ix W2) a' W2) (fun _ _ _=>False)) { tmps:=(ps.zip args).foldl (fun t (p,v)=>t.setIfInBounds p v) a.tmps,defers:=[] } W)
 (hdone:∀(X:Nat→Prop) (W:World),I L.length X W→W.heap[w.heap.size]?=some (.deferred (some []))→Q .normal { a with defers:={ target:=.collected w.heap.size,args:=#[] } :: a.defers } W)
 (hstop:∀(c:Code) (W:World),Ix c W→W.heap[w.heap.size]?=some (.deferred (some []))→c.wpIn Fence.wide n P Q { a with defers:={ target:=.collected w.heap.size,args:=#[] } :: a.defers } W):
 (Code.rangeFunc g ps assign body).wpIn Fence.wide n P Q a w:=by
 refine wpIn_rangeFunc ?_;intro fn hfn;rw[show Fence.wide.round=none from rfl];obtain⟨rec,hrec⟩:∃rec:LoopState→Option Code→Loop,rec=fun st pe=>{ state:=st,pending:=pe,fn,tmps:=a.tmps,params:=ps,assign,body,defers:=w.heap.size }:=⟨_,rfl⟩
 obtain⟨W1,hW1⟩:∃W1,(w.alloc (.deferred (some []))).alloc (.loop (rec .ready none))=W1:=⟨_,rfl⟩;have hL1:W1.heap[w.heap.size+1]?=some (.loop (rec .ready none)):=by
  rw[←hW1];have:=World.alloc_heap_new (w.alloc (.deferred (some []))) (.loop (rec .ready none));rwa [World.size_alloc] at this
 have hK1:W1.heap[w.heap.size]?=some (.deferred (some [])):=by
  rw[←hW1];exact (Below.heap_alloc _ _ _ (by simp)).trans (World.alloc_heap_new w _)
 have hS1:W1.heap.size=w.heap.size+2:=by rw[←hW1];simp
 have hB1:Below w.heap.size w W1:=by
  rw[←hW1];exact ((Below.refl _ w).alloc (nLQ _) _).alloc (by simp) _
 have hb1:Below n₀ w0 W1:=hb0.trans (hB1.mono hn₀);refine⟨w.heap.size+1,[{ target:=.collected w.heap.size,args:=#[] }],W1,{ target:=.fn (.func gf) lb,args:=#[.func (.yield (w.heap.size+1)) #[] #[]] },W1,gf,
  #[.func (.yield (w.heap.size+1)) #[] #[]]++lb,W1,?_,?_,?_,?_,fun _=>h1,?_⟩
 ·rw[←hW1,hrec];exact run_enterLoop_outer _ _ _ _ _
 ·simp only[resolve,hg];simp[go_sem]
 ·intro f' hf';trivial
 ·simp[invoke,go_sem,eg]
 have hI1:∀{k:Nat} {X:Nat→Prop} {A:World} (o:Obj),I k X A→I k X (A.putObj (w.heap.size+1) o):=fun o h=>hI _ _ _ _ h ((Kb.refl _ _).putObj (fun _ hp=>hp.elim (fun h=>by omega) (fun hx=>by have:=(hlt _ _ _ h _ hx).1;omega)) o)
 refine (callsIn_wide.2 (hseq (w.heap.size+1)
  (fun k X W=>I k X W∧W.heap[w.heap.size+1]?=some (.loop (rec .ready none))∧W.heap[w.heap.size]?=some (.deferred (some [])))
  (fun W=>∃c,Ix c W∧W.heap[w.heap.size+1]?=some (.loop (rec .done (some c)))∧W.heap[w.heap.size]?=some (.deferred (some [])))
  W1 hb1 (by omega) ?_ ?_ ?_ ?_ ?_)).mono ?_
 ·exact⟨hI _ _ _ _ h0 (Kb.of_below hB1 (fun b _ h=>h.elim id False.elim)),hL1,hK1⟩
 ·exact fun k X A h b hx=>(hlt _ _ _ h.1 b hx).2
 ·rintro k X A A' ⟨hi,hl,hd⟩ hk;rw[hS1] at hk;have hlt':w.heap.size+1<A.heap.size:=(Array.getElem?_eq_some_iff.1 hl).1;exact⟨hI k X A A' hi (hk.mono (fun b _ h=>h.imp (fun h=>by omega) id)),(hk.block _ hlt' (.inl (by omega))).trans hl,(hk.block _ (by omega) (.inl (by omega))).trans hd⟩
 ·rintro A A' ⟨c,hi,hl,hd⟩ hk;have hlt':w.heap.size+1<A.heap.size:=(Array.getElem?_eq_some_iff.1 hl).1;exact⟨c,hIx c A A' hi (hk.mono (fun _ _ _=>trivial)),(hk.block _ hlt' trivial).trans hl,(hk.block _ (by omega) trivial).trans hd⟩
 ·rintro k X W args x Y ⟨hi,hl,hd⟩ hx hv hWW hY;rw[hS1] at hY hWW;have hlt':w.heap.size+1<W.heap.size:=(Array.getElem?_eq_some_iff.1 hl).1;have hy:=run_yield (P:=P) (args:=args) hl (by rw[hrec];exact hps _ _ _ hv);rw[hrec] at hy;refine yield_any (m:=n-1-1) ⟨fn,_,assign,body,hy,roundIn_of_wpIn hfn (wpIn_mono (hround _ k X Y x args W rfl hWW hi hx hv hY (fun q hq=>by simp[World.cell?,hq,hl])) ?_)⟩;clear hy;intro e1 a' Wa hp;cases e1 with
  | normal =>
    obtain⟨hka,hbody⟩:=hp;have hl2:=(hka.block _ hlt' (.inr (.inr (.inl rfl)))).trans hl;have hd2:=(hka.block w.heap.size (by omega) (.inr (.inl rfl))).trans hd;have hlta:w.heap.size+1<Wa.heap.size:=(Array.getElem?_eq_some_iff.1 hl2).1;refine⟨_,run_beginRound hl2 (by rw[hrec]),?_⟩;have hkb:Kb (fun b=>b≠w.heap.size+1) Wa (Wa.putObj (w.heap.size+1) (.loop { rec .ready none with state:=.busy })):=(Kb.refl _ _).putObj (fun _ h=>h rfl) _;have hl3:(Wa.putObj (w.heap.size+1) (.loop { rec .ready none with state:=.busy })).heap[w.heap.size+1]?=some (.loop { rec .ready none with state:=.busy }):=World.putObj_heap_same hlta;have hd3:=(hkb.block w.heap.size (by omega) (by omega)).trans hd2;refine wpIn_mono (hbody _ hkb) ?_
    generalize Wa.putObj (w.heap.size+1) (.loop { rec .ready none with state:=.busy })=W2 at hkb hl3 hd3
    have hlt2:w.heap.size+1<W2.heap.size:=(Array.getElem?_eq_some_iff.1 hl3).1;have fin:∀(jump:Option Code) (W3:World),Kb (fun b=>b<n₀∨b=w.heap.size∨b=w.heap.size+1∨Y b) W2 W3 →
     (Instr.endRound (w.heap.size+1) jump).run P W3=.ok (.bool jump.isNone) (W3.putObj (w.heap.size+1) (.loop (rec (if jump.isNone then .ready else .done) jump))) ∧
     W3.heap[w.heap.size+1]?=some (.loop { rec .ready none with state:=.busy }) ∧
     (W3.putObj (w.heap.size+1) (.loop (rec (if jump.isNone then .ready else .done) jump))).heap[w.heap.size+1]?=some (.loop (rec (if jump.isNone then .ready else .done) jump)) ∧
     (W3.putObj (w.heap.size+1) (.loop (rec (if jump.isNone then .ready else .done) jump))).heap[w.heap.size]?=some (.deferred (some [])):=fun jump W3 hk3=>by
     have hl4:=(hk3.block _ hlt2 (.inr (.inr (.inl rfl)))).trans hl3;have hd4:=(hk3.block w.heap.size (by omega) (.inr (.inl rfl))).trans hd3;have:=run_endRound (P:=P) jump hl4;rw[hrec] at this ⊢;exact⟨this,by rw[hrec] at hl4;exact hl4,World.putObj_heap_same (Array.getElem?_eq_some_iff.1 hl4).1,(World.putObj_heap_other (by omega)).trans hd4⟩
    rintro e a3 W3 hp;have hny:∀b,b<n₀∨Y b→b≠w.heap.size+1:=fun b h e=>h.elim (fun h=>by omega) (fun h=>by have:=(hY b h).1;omega)
    have hall:∀(W3:World) (o:Obj),Kb (fun b=>b<n₀∨b=w.heap.size∨b=w.heap.size+1∨Y b) W2 W3→Kb (fun b=>b<n₀∨Y b) W (W3.putObj (w.heap.size+1) o):=fun W3 o hk3=>(((hka.mono (fun b _ h=>h.imp id (fun h=>.inr (.inr h)))).trans ((hkb.mono (fun b _ h=>hny b h)).trans (hk3.mono (fun b _ h=>h.imp id (fun h=>.inr (.inr h)))))).trans ((Kb.refl _ _).putObj (fun _ h=>hny _ h rfl) _))
    cases e with
    | normal =>
      obtain⟨hk3,X',hi3,hX'⟩:=hp;obtain⟨hr,hl4,hl5,hd5⟩:=fin none W3 hk3;exact⟨_,_,hr,.inl ⟨rfl,⟨X',⟨hI1 _ hi3,hl5,hd5⟩,hX'⟩,hall _ _ hk3⟩⟩
    | ret =>
      obtain⟨hk3,hi3⟩:=hp;obtain⟨hr,hl4,hl5,hd5⟩:=fin (some .ret) W3 hk3;exact⟨_,_,hr,.inr ⟨rfl,⟨.ret,hIx _ W3 _ hi3 ((Kb.refl _ _).putObj (fun _ h=>by omega) _),hl5,hd5⟩,hall _ _ hk3⟩⟩
    | exit id =>
      obtain⟨hk3,hi3⟩:=hp;obtain⟨hr,hl4,hl5,hd5⟩:=fin (some (.exit id)) W3 hk3;exact⟨_,_,hr,.inr ⟨rfl,⟨.exit id,hIx _ W3 _ hi3 ((Kb.refl _ _).putObj (fun _ h=>by omega) _),hl5,hd5⟩,hall _ _ hk3⟩⟩
    | goto t =>
      obtain⟨hk3,hi3⟩:=hp;obtain⟨hr,hl4,hl5,hd5⟩:=fin (some (.goto t)) W3 hk3;exact⟨_,_,hr,.inr ⟨rfl,⟨.goto t,hIx _ W3 _ hi3 ((Kb.refl _ _).putObj (fun _ h=>by omega) _),hl5,hd5⟩,hall _ _ hk3⟩⟩
    | panic ch=>exact hp.elim
    | outgrown=>exact hp.elim
  | ret=>exact hp.elim
  | exit id=>exact hp.elim
  | goto t=>exact hp.elim
  | panic ch=>exact hp.elim
  | outgrown=>exact hp.elim
 rintro e W2 ⟨⟨v,rfl⟩,(⟨X,hi,hl,hd⟩ | ⟨c,hi,hl,hd⟩)⟩
 ·refine⟨none,_,by have:=run_endLoop (P:=P) hl (by rw[hrec];simp);rw[hrec] at this;exact this,?_⟩;exact hdone X _ (hI1 _ hi) ((World.putObj_heap_other (by omega)).trans hd)
 refine⟨some c,_,by have:=run_endLoop (P:=P) hl (by rw[hrec];simp);rw[hrec] at this;exact this,?_⟩;exact hstop c _ (hIx c W2 _ hi ((Kb.refl _ _).putObj (fun _ h=>by omega) _)) ((World.putObj_heap_other (by omega)).trans hd)
attribute [local go_sem] Oper.semAt_some
def FaBox (W:World)(g:Nat)(a:Int)(b:ByteArray)(c:Value):Prop:=W.cell? ⟨g,0,none⟩=some (.int i64 a)∧W.cell? ⟨g,1,none⟩=some (.string b)∧W.cell? ⟨g,2,none⟩=some c
theorem FaBox.later {W W':World}{g:Nat}{a:Int}{b:ByteArray}{c:Value}(h:FaBox W g a b c)(hb:Below W.heap.size W W'):FaBox W' g a b c:=
 ⟨cell_later hb h.1,cell_later hb h.2.1,cell_later hb h.2.2⟩
theorem fabox_new (w:World)(a:Int)(b:ByteArray)(c:Value)(T:TypeId):FaBox (w.alloc (.cells #[.int i64 a,.string b,c] T)) w.heap.size a b c:=by
 refine⟨?_,?_,?_⟩ <;> simp
def FtV (A:World)(args:Array Value)(x:Ft):Prop:=∃ao n cap,args=#[.agg #[.int i64 x.1,.string x.2.1,.slice ao n cap]]∧GS hopE A (.slice ao n cap) x.2.2
theorem GS.kb {α:Type}{E:Enc α}{W W':World}{v:Value}{L:List α}{p:Nat→Prop}(h:GS E W v L)(hk:Kb p W W')(hp:∀q u,W.cell? q=some u→p q.block):GS E W' v L:=by
 rcases h with ⟨ao',cap',e,rfl⟩ | ⟨g,o,cap',e,h1,h2,h3⟩
 ·exact .inl ⟨ao',cap',e,rfl⟩
 exact .inr ⟨g,o,cap',e,h1,h2,fun i hi j u hu=>hk.at (h3 i hi j u hu) (hp _ _ (h3 i hi j u hu))⟩
theorem holding1_any (a:Int)(b:ByteArray)(ao:AdQ)(n cap:Nat)(l:HpQ)(g1 g2:Nat)(k:Int)(f t:ByteArray)(v:Int)(m:ByteArray)(w:World)(hl:GS hopE w (.slice ao n cap) l)(h1:w.cell? ⟨g1,0,none⟩=some (.string m))(h2:FaBox w g2 a b (.slice ao n cap)):
 Calls prog 133 #[.agg #[.int i64 k,.string f,.string t,.int i64 v],.pointer (some ⟨g1,0,none⟩),.pointer (some ⟨g2,0,none⟩)] w fun e w'=>e=.returned (.bool (!fiB ⟨k,f,t,v⟩ m (a,b,l)))∧Below w.heap.size w w':=by
 have hb0:Below w.heap.size w (w.alloc (.cells #[.int i64 k,.string f,.string t,.int i64 v] 80)):=(bRQ _ _).alloc (nLQ _) _;have hl0:=hl.later hb0;have hx0:=wibox_new w k f t v 80;have hs0:=cell_later hb0 h1;have hf0:=h2.later hb0;obtain⟨w0,hw0⟩:∃W,w.alloc (.cells #[.int i64 k,.string f,.string t,.int i64 v] 80)=W:=⟨_,rfl⟩;rw[hw0] at hb0 hl0 hx0 hs0 hf0;have HW0:Hid (w.alloc (.cells #[.int i64 k,.string f,.string t,.int i64 v] 80)=w0):=hw0;have HB0:Hid (Below w.heap.size w w0):=hb0;have HL0:Hid (GS hopE w0 (.slice ao n cap) l):=hl0;obtain⟨x0,x1,x2,x3⟩:=hx0;obtain⟨f0,f1,f2⟩:=hf0;obtain⟨R,hR⟩:∃R,R=fiB ⟨k,f,t,v⟩ m (a,b,l):=⟨_,rfl⟩;have HR:Hid (fiB ⟨k,f,t,v⟩ m (a,b,l)=R):=hR.symm;rw[←hR];clear hb0 hl0 hl h1 h2 hw0 hR;go_enter func133,ntmps133;go_upto_region 1 with fail;rw[HW0.out];clear HW0
 go_wp2_with fail
 refine (fits_any k f t v m a b ao n cap l _ HL0.out).mono ?_;rintro e w1 ⟨rfl,hb1⟩;rw[HR.out];go_wp2;go_ret;exact⟨rfl,HB0.out.trans (hb1.mono HB0.out.size)⟩
structure HB (w W:World)(v:Value)(m:ByteArray)(k:Nat):Prop where
 below:Below w.heap.size w W
 l:Boxed W w.heap.size 29 v
 m:Boxed W (w.heap.size+1) 9 (.string m)
 n:Boxed W (w.heap.size+1+1) 3 (.int i64 k)
theorem HB.kb {w W W':World}{v:Value}{m:ByteArray}{k:Nat}{p:Nat→Prop}(h:HB w W v m k)(hk:Kb p W W')(hp:∀b,b<w.heap.size+3→p b):HB w W' v m k:=
 ⟨h.below.trans (hk.below (by have:=h.l.lt;omega) (fun b hb=>hp b (by omega))),hk.boxed h.l (hp _ (by omega)),hk.boxed h.m (hp _ (by omega)),hk.boxed h.n (hp _ (by omega))⟩
theorem HB.put {w W:World}{v:Value}{m:ByteArray}{k:Nat}(h:HB w W v m k)(j:Nat):HB w (W.setCell ⟨w.heap.size+1+1,0,none⟩ (.int i64 j)) v m j:=
 ⟨h.below.setCell (p:=⟨w.heap.size+1+1,0,none⟩) (show w.heap.size≤w.heap.size+1+1 by omega) _,h.l.other (by omega) _,h.m.other (by omega) _,h.n.set _⟩
theorem holding_in (n:Nat)(h4:4≤n)(a4:AdQ)(n4 c4:Nat)(l:List Wi)(m:ByteArray)(gi:Nat)(lb:Array Value)(L:List Ft)(n₀:Nat)(w:World)
 (hl:GS wisE w (.slice a4 n4 c4) l) (eg:∀args w,(callFunc gi args).run prog w=.ok (.enter gi args) w) (hit:ItF prog gi lb FtV n₀ L w) (hn₀:n₀≤w.heap.size):
 CallsIn Fence.wide n prog 94 #[.slice a4 n4 c4,.string m,.func (.func gi) #[] lb] w fun e W'=>e=.returned (.int i64 (hwN l m L))∧Below w.heap.size w W':=by
 have h1:1≤n:=by omega
 have h2:1≤n-1-1:=by omega
 obtain⟨_,_,_,e5,hGn,hGm,hGc,hGa⟩:=hl.form;cases e5;have HLW:Hid (∀W,Below w.heap.size w W→GS wisE W (.slice a4 n4 c4) l):=fun W hb=>hl.later hb
 have HGN:Hid (l.length=n4):=hGn;have HCAP:Hid (n4≤c4):=hGc;refine callsIn_of_wp_marks func94 rfl trivial ?_ rfl;simp only[ntmps94,List.size_toArray,List.length_cons,List.length_nil,Nat.reduceAdd,Nat.reduceSub,Array.replicate_succ,Array.replicate_zero,List.push_toArray,List.append_toArray,List.nil_append,List.cons_append];clear hGa hGm hGc hGn hl
 gi_wp2
 have bL:=Boxed.new w 29 (.slice a4 n4 c4);have bM:=Boxed.new (w.alloc (.cells #[.slice a4 n4 c4] 29)) 9 (.string m);have bN:=Boxed.new ((w.alloc (.cells #[.slice a4 n4 c4] 29)).alloc (.cells #[.string m] 9)) 3 (.int i64 n4);simp only[World.size_alloc] at bM bN;have hB0:Below w.heap.size w (((w.alloc (.cells #[.slice a4 n4 c4] 29)).alloc (.cells #[.string m] 9)).alloc (.cells #[.int i64 n4] 3)):=(((Below.refl _ w).alloc (nLQ _) _).alloc (by simp) _).alloc (by simp;omega) _;have hH0:HB w (((w.alloc (.cells #[.slice a4 n4 c4] 29)).alloc (.cells #[.string m] 9)).alloc (.cells #[.int i64 n4] 3)) (.slice a4 n4 c4) m (hwTo l m L 0):=⟨hB0,(bL.alloc _).alloc _,bM.alloc _,by rw[show hwTo l m L 0=n4 from HGN.out];exact bN⟩;have hsz:(((w.alloc (.cells #[.slice a4 n4 c4] 29)).alloc (.cells #[.string m] 9)).alloc (.cells #[.int i64 n4] 3)).heap.size=w.heap.size+3:=by simp
 obtain⟨W0,hW0⟩:∃W0,((w.alloc (.cells #[.slice a4 n4 c4] 29)).alloc (.cells #[.string m] 9)).alloc (.cells #[.int i64 n4] 3)=W0:=⟨_,rfl⟩;rw[hW0] at hB0 hH0 hsz ⊢;clear hW0 bL bM bN;refine wpIn_rangeFunc_it h1 (gf:=gi) (lb:=lb) rfl eg (Vl:=FtV) (n₀:=n₀) (L:=L) (w0:=w) hit (hB0.mono hn₀) (by omega) (fun A args x hx=>by obtain⟨_,_,_,rfl,_⟩:=hx;rfl)
  (fun k X W=>HB w W (.slice a4 n4 c4) m (hwTo l m L k)∧∀b,¬X b) (fun c W=>c=.exit 0∧HB w W (.slice a4 n4 c4) m (hwN l m L))
  (fun k X A h b hx=>absurd hx (h.2 b))
  (fun k X A A' h hk=>⟨h.1.kb hk (fun b hb=>.inl (by omega)),h.2⟩)
  (fun c A A' h hk=>⟨h.1,h.2.kb hk (fun b hb=>.inl (by omega))⟩)
  ⟨hH0,fun b h=>h⟩ ?round ?done ?stop
 case round =>
  rintro l' k X Y x args W hl' hBW ⟨hI,hX⟩ hLk ⟨ao,nn,cap,rfl,hG⟩ hY hnl;obtain⟨xa,xb,xl⟩:=x;rw[hsz] at hl' hBW;have hwN2:hwTo l m L (k+1)=hwS l m (xa,xb,xl) (hwTo l m L k):=by
   rw[hwTo]
   congr 1
   simp[List.getD,hLk]
  have hkL:k<L.length:=by
   obtain⟨h,_⟩:=List.getElem?_eq_some_iff.1 hLk;exact h
  obtain⟨N,hN⟩:∃N,N=hwTo l m L k:=⟨_,rfl⟩;have hNle:N≤n4:=by
   rw[hN,←HGN.out];exact hwTo_le L k
  rw[←hN] at hI hwN2;have HNK:Hid (hwTo l m L k=N):=hN.symm;have HN2:Hid (hwTo l m L (k+1)=hwS l m (xa,xb,xl) N):=hwN2;clear hN hwN2;have hcap:=HCAP.out
  dsimp only at hG
  gi_wp2
  refine⟨(Kb.refl _ _).alloc _,fun W2 hk2=>?_⟩;have hBA:Below W.heap.size W (W.alloc (.cells #[.int i64 xa,.string xb,.slice ao nn cap] 83)):=(bRQ _ _).alloc (nLQ _) _;have hfb:=fabox_new W xa xb (.slice ao nn cap) 83;have hnl2:∀q u,(W.alloc (.cells #[.int i64 xa,.string xb,.slice ao nn cap] 83)).cell? q=some u→q.block≠l':=by
   intro q u hq e;have hlt:q.block<W.heap.size:=by rw[e,hl'];omega
   have h:=(hBA.cell (p:=q) hlt).symm.trans hq;rw[hnl q e] at h;cases h
  have hG2:=(hG.later hBA).kb hk2 hnl2;have hf2:FaBox W2 W.heap.size xa xb (.slice ao nn cap):=⟨hk2.at hfb.1 (hnl2 _ _ hfb.1),hk2.at hfb.2.1 (hnl2 _ _ hfb.2.1),hk2.at hfb.2.2 (hnl2 _ _ hfb.2.2)⟩;have hI2:HB w W2 (.slice a4 n4 c4) m N:=(hI.kb (Kb.of_below hBA (fun b hb _=>hb):Kb (fun _=>True) _ _) (fun _ _=>trivial)).kb hk2 (fun b hb=>by omega);have HI2:Hid (HB w W2 (.slice a4 n4 c4) m N):=hI2;have HGT:Hid (GS wisE W2 (.slice a4 N c4) (l.take N)):=(HLW.out W2 hI2.below).take hNle;obtain⟨_,_,_,e6,hTn,hTm,_,hTa⟩:=HGT.out.form;cases e6;have HASK:Hid (wi2Asks W2 133 (.pointer (some ⟨w.heap.size+1,0,none⟩)) (.pointer (some ⟨W.heap.size,0,none⟩)) (fun u => !fiB u m (xa,xb,xl))):=fun y0 y1 y2 y3 W3 hb3=>holding1_any xa xb ao nn cap xl _ _ y0 y1 y2 y3 m W3 (hG2.later hb3) (cell_later hb3 hI2.m.cell) (hf2.later hb3)
  obtain⟨z,hz⟩:∃z,z=ixG (fun u => !fiB u m (xa,xb,xl)) (l.take N):=⟨_,rfl⟩;have HZ:Hid (ixG (fun u => !fiB u m (xa,xb,xl)) (l.take N)=z):=hz.symm;have HTN:Hid ((l.take N).length=N):=hTn;have HTM:Hid (N≤maxLen):=hTm;have HTA:Hid (0<N→∃g o,a4=some ⟨g,o,none⟩∧GAt wisE W2 g o (l.take N)∧c4≤maxLen):=hTa;have hlc:=hI2.l.cell;have hmc:=hI2.m.cell;have hnc:=hI2.n.cell;have nb0:(0:Int)≤(N:Int):=by omega
  have nb1:(N:Int)≤(c4:Int):=by omega
  have nb2:(N:Int)≤(n4:Int):=by omega
  clear hz hTn hTm hTa hG2 hf2 hI2 hfb hnl2 hI hG hk2 hX
  gi_wp2_with fail
  refine⟨trivial,(CallsIn.inRound _ (callsIn_wide.2 (wi2_idxF a4 N c4 _ _ _ (fun u => !fiB u m (xa,xb,xl)) (l.take N) _ HTN.out HTM.out HTA.out (enters_of func133 (by kernel_rfl) rfl) HASK.out))).mono ?_⟩;rintro e W3 ⟨rfl,hb3⟩;rw[HZ.out];have hI3:HB w W3 (.slice a4 n4 c4) m N:=HI2.out.kb (Kb.of_below hb3 (fun b hb _=>hb):Kb (fun _=>True) _ _) (fun _ _=>trivial);have HI3:Hid (HB w W3 (.slice a4 n4 c4) m N):=hI3;have HK3:Hid (Kb (fun b=>b<n₀∨b=W0.heap.size∨b=l'∨Y b) W2 W3):=Kb.of_below hb3 (fun b hb _=>hb);have hlc:=hI3.l.cell;have hmc:=hI3.m.cell;have hnc:=hI3.n.cell;have hnf:=hI3.n.frozen;have HNP:Hid (¬(w.heap.size+1+1<n₀∨w.heap.size+1+1=W0.heap.size∨w.heap.size+1+1=l'∨Y (w.heap.size+1+1))):=by
   rintro (h | h | h | h)
   ·omega
   ·omega
   ·omega
   have:=(hY _ h).1;omega
  have HXN:Hid (∀I:Prop,I→∃X':Nat→Prop,(I∧∀b,¬X' b)∧∀b,X' b→X b∨W.heap.size≤b):=fun I h=>⟨fun _=>False,⟨h,fun _ h=>h⟩,fun _ h=>h.elim⟩
  clear hb3 hI3;by_cases hz0:0≤z
  ·obtain⟨z',rfl⟩:∃z':Nat,z=(z':Int):=⟨z.toNat,by omega⟩;have HS:Hid (hwTo l m L (k+1)=z'):=by
    show _=_;rw[HN2.out,hwS,HZ.out,if_neg (by omega)];simp
   clear hz0;by_cases h0:z'=0
   ·subst h0;have HL0:Hid (hwN l m L=0):=hwTo_zero HS.out (by omega)
    gi_wp2
    exact⟨HK3.out.setCell (fun _=>HNP.out) _,rfl,by rw[HL0.out];exact HI3.out.put 0⟩
   have e0:((z':Int)==0)=false:=by simp;omega
   clear h0
   gi_wp2
   exact⟨HK3.out.setCell (fun _=>HNP.out) _,HXN.out _ (by rw[HS.out];exact HI3.out.put z')⟩
  have HS:Hid (hwTo l m L (k+1)=N):=by
   show _=_;rw[HN2.out,hwS,HZ.out,if_pos (by omega)]
  have ez:decide (0≤z)=false:=by simpa using hz0
  by_cases h0:N=0
  ·subst h0;have HL0:Hid (hwN l m L=0):=hwTo_zero HS.out (by omega)
   gi_wp2
   exact⟨HK3.out,rfl,by rw[HL0.out];exact HI3.out⟩
  have e0:((N:Int)==0)=false:=by simp;omega
  clear h0
  gi_wp2
  exact⟨HK3.out,HXN.out _ (by rw[HS.out];exact HI3.out)⟩
 case done =>
  rintro X W ⟨hI,_⟩ hK;have hc:=hI.n.cell;have HBW:Hid (Below w.heap.size w W):=hI.below;clear hI
  gi_wp2
  refine⟨by simp,.inl ⟨_,_,rfl,run_takeDeferred hK,?_⟩⟩;exact⟨_,results_tmp rfl _ _ _,rfl,HBW.out.trans (belowK_b (w:=w) (nLQ _) W _ _ _ (by omega) hK rfl rfl)⟩
 case stop =>
  rintro c W ⟨rfl,hI⟩ hK;have hc:=hI.n.cell;have HBW:Hid (Below w.heap.size w W):=hI.below;clear hI
  gi_wp2
  refine⟨by simp,.inl ⟨_,_,rfl,run_takeDeferred hK,?_⟩⟩;exact⟨_,results_tmp rfl _ _ _,rfl,HBW.out.trans (belowK_b (w:=w) (nLQ _) W _ _ _ (by omega) hK rfl rfl)⟩
theorem holding_any (a4:AdQ)(n4 c4:Nat)(l:List Wi)(m:ByteArray)(gi:Nat)(lb:Array Value)(L:List Ft)(n₀:Nat)(w:World)
 (hl:GS wisE w (.slice a4 n4 c4) l) (eg:∀args w,(callFunc gi args).run prog w=.ok (.enter gi args) w) (hit:ItF prog gi lb FtV n₀ L w) (hn₀:n₀≤w.heap.size):
 Calls prog 94 #[.slice a4 n4 c4,.string m,.func (.func gi) #[] lb] w fun e W'=>e=.returned (.int i64 (hwN l m L))∧Below w.heap.size w W':=
 (callsIn_wide (n:=4)).1 (holding_in 4 (by omega) a4 n4 c4 l m gi lb L n₀ w hl eg hit hn₀)
end
section
open Go.RowKit Go.Shelf
attribute [local go_sem] Oper.semAt_some
theorem own_kb {W W':World}{B e size n:Nat}{v:Value}{xs:List Value}{p:Nat→Prop}(h:W.ownsRow B e size v n xs)(hk:Kb p W W')(hp:∀g,v.ownBlock=some g→p g):W'.ownsRow B e size v n xs:=by
 refine⟨h.1,?_⟩
 rcases h.2 with ⟨rfl,rfl⟩ | ⟨g,cap,cur,rfl,h1,hg,h2⟩
 ·exact .inl ⟨rfl,rfl⟩
 exact .inr ⟨g,cap,cur,rfl,h1,(hk.block g (Array.getElem?_eq_some_iff.1 hg).1 (hp g rfl)).trans hg,h2⟩
def HK (W:World)(bk:Nat)(l:HpQ):Prop:=W.ownsRow 0 127 3 (.slice (some ⟨bk,0,none⟩) l.length 24) l.length (cellsG hopE l)
theorem HK.kb {W W':World}{bk:Nat}{l:HpQ}{p:Nat→Prop}(h:HK W bk l)(hk:Kb p W W')(hp:p bk):HK W' bk l:=own_kb h hk (fun g e=>by cases e;exact hp)
theorem HK.lt {W:World}{bk:Nat}{l:HpQ}(h:HK W bk l):bk<W.heap.size:=(World.ownsRow.lt h bk rfl).2
theorem HK.gs {W:World}{bk:Nat}{l:HpQ}(h:HK W bk l):GS hopE W (.slice (some ⟨bk,0,none⟩) l.length 24) l:=own_GS (E:=hopE) h
theorem HK.pre {W:World}{bk:Nat}{l:HpQ}{p:(Int×Int)×Int}(h:HK W bk (l++[p])):HK W bk l:=by
 have hc:cellsG hopE (l++[p])=cellsG hopE l++hopE.c p:=by rw[cellsG_app,cellsG_one]
 have hl:(cellsG hopE l).length=l.length*3:=cellsG_len (E:=hopE) l;unfold HK at *;refine⟨hl,?_⟩
 rcases h.2 with ⟨h,_⟩ | ⟨g,cap,cur,e,h1,hg,h2,h3,h4,h5⟩
 ·simp at h
 simp only[Value.slice.injEq,Option.some.injEq,Addr.mk.injEq,and_true,true_and] at e;obtain⟨rfl,_,rfl⟩:=e;refine .inr ⟨bk,24,cur,rfl,h1,hg,by rw[List.length_append] at h2;simp at h2;omega,h3,h4,?_⟩;rw[hc] at h5;have e2:=congrArg (List.take (l.length*3)) h5;rw[List.take_take,←hl,List.take_left,hl,List.length_append] at e2;rw[show min (l.length*3) ((l.length+[p].length)*3)=l.length*3 by rw[List.length_singleton];omega] at e2;exact e2
def metV (met:Nat→Bool):Value:=.agg #[.bool (met 0),.bool (met 1),.bool (met 2),.bool (met 3),.bool (met 4),.bool (met 5)]
theorem la_hdr {Ls:LkQ}{Hs:HoQ}{Ts:TsQ}{l:HpQ}(h:(lgA Ls Hs Ts l).1=0):hdrB (lgA Ls Hs Ts l).2.2.2=true:=by
 unfold lgA at *;obtain⟨e,h0,_⟩:=af_0 h;rw[e];cases h1:stT (taT Ts (laH l).1.1) (laH l) with
 | none=>rw[lg_2 h1] at h0;cases h0
 | some q =>
   cases ha:atO Hs q.1 with
   | some m=>rw[lg_1 h1 ha] at h0;cases h0
   | none =>
     cases hp:peerO Ls q.1 with
     | none=>rw[lg_3 h1 ha hp] at h0;cases h0
     | some s =>
       rw[lg_0 h1 ha hp];exact (st_hdr (Ts:=Ts) (p:=laH l) h1).1
structure MCx (l lo n₀:Nat)(J:Nat→(Nat→Prop)→World→Prop)(Jx:World→Prop)(L:List Ft)(w:World)(vo vy:Value)(m:Nat)(Ls:LkQ)(Hs:HoQ)(As Bs:TsQ):Prop where
 nlo:n₀≤lo
 m6:m≤6
 tp:tpN (m:Int) Ls Hs=0
 old:∀A,Below n₀ w A→LGs A 0 vo (fun (a h:Nat)=>lgT Ls Hs (taT As ((a:Int)+1)) (((a:Int)+1,0),(h:Int))) m
 yng:∀A,Below n₀ w A→LGs A 0 vy (fun (a h:Nat)=>lgT Ls Hs (taT Bs ((a:Int)+1)) (((a:Int)+1,0),(h:Int))) m
 lt:∀k X A,J k X A→∀b,X b→b<A.heap.size
 ab:∀k X A A',J k X A→Kb (fun b=>b<lo∨X b) A A'→J k X A'
 ax:∀A A',Jx A→Kb (fun _=>True) A A'→Jx A'
 yi:∀k X A args x (Y:Nat→Prop),J k X A→L[k]?=some x→FtV A args x→lo≤A.heap.size→(∀b,Y b→lo≤b∧¬X b)→YieldAt Fence.wide 0 prog l args A fun e A' =>
  (e=.returned (.bool true)∧(∃X',J (k+1) X' A'∧∀b,X' b→X b∨A.heap.size≤b)∧Kb (fun b=>b<n₀∨Y b) A A')∨(e=.returned (.bool false)∧Jx A'∧Kb (fun b=>b<n₀∨Y b) A A')
def WkR (J:Nat→(Nat→Prop)→World→Prop)(Jx:World→Prop)(X:Nat→Prop)(k bk:Nat)(l:HpQ)(A:World):Bool→World→Prop
 | true,A'=>(∃X',J k X' A'∧∀b,X' b→X b∨A.heap.size≤b)∧HK A' bk l
 | false,A'=>Jx A'
def WkP (n₀:Nat)(J:Nat→(Nat→Prop)→World→Prop)(Jx:World→Prop)(X Y:Nat→Prop)(k bk:Nat)(l:HpQ)(A:World)(r:Bool)(A':World):Prop:=
 WkR J Jx X k bk l A r A'∧Kb (fun b=>b<n₀∨(Y b∧b≠bk)) A A'
structure WkI (lo n₀:Nat)(J:Nat→(Nat→Prop)→World→Prop)(w:World)(X Y:Nat→Prop)(k bk:Nat)(lst:HpQ)(A:World):Prop where
 b:Below n₀ w A
 s:lo≤A.heap.size
 j:J k X A
 y:∀b,Y b→lo≤b∧b<A.heap.size∧¬X b
 yb:Y bk
 h:HK A bk lst
def Nxt (L:List Ft)(k:Nat)(M:List Ft):Prop:=∀i x,M[i]?=some x→L[k+i]?=some x
theorem Nxt.left {L:List Ft}{k:Nat}{M N:List Ft}(h:Nxt L k (M++N)):Nxt L k M:=fun i x hi=>h i x (by rw[List.getElem?_append_left (List.getElem?_eq_some_iff.1 hi).1];exact hi)
theorem Nxt.right {L:List Ft}{k:Nat}{M N:List Ft}(h:Nxt L k (M++N)):Nxt L (k+M.length) N:=fun i x hi=>by
 have:=h (M.length+i) x (by rw[List.getElem?_append_right (by omega)];simpa using hi)
 rwa [←Nat.add_assoc] at this
section
variable {l lo n₀:Nat}{J:Nat→(Nat→Prop)→World→Prop}{Jx:World→Prop}{L:List Ft}{w:World}{vo vy:Value}{m:Nat}{Ls:LkQ}{Hs:HoQ}{As Bs:TsQ}
theorem WkI.later {X Y:Nat→Prop}{k bk:Nat}{lst:HpQ}{A A':World}(cx:MCx l lo n₀ J Jx L w vo vy m Ls Hs As Bs)(h:WkI lo n₀ J w X Y k bk lst A)(hb:Below A.heap.size A A'):WkI lo n₀ J w X (fun b=>Y b∨(A.heap.size≤b∧b<A'.heap.size)) k bk lst A':=by
 have hk:Kb (fun _=>True) A A':=Kb.of_below hb (fun b hb _=>hb);refine⟨h.b.trans (hb.mono (Nat.le_trans cx.nlo h.s)),Nat.le_trans h.s hb.size,cx.ab _ _ _ _ h.j (hk.mono (fun _ _ _=>trivial)),fun b hy=>?_,.inl h.yb,h.h.kb hk trivial⟩
 rcases hy with hy | ⟨h1,h2⟩
 ·have:=h.y b hy;exact⟨this.1,Nat.lt_of_lt_of_le this.2.1 hb.size,this.2.2⟩
 refine⟨Nat.le_trans h.s h1,h2,fun hx=>?_⟩;have:=cx.lt _ _ _ h.j b hx;omega
theorem WkP.back {X Y:Nat→Prop}{k bk:Nat}{lst:HpQ}{A A1 A':World}{r:Bool}(hb:Below A.heap.size A A1)(h:WkP n₀ J Jx X (fun b=>Y b∨(A.heap.size≤b∧b<A1.heap.size)) k bk lst A1 r A'):WkP n₀ J Jx X Y k bk lst A r A':=by
 obtain⟨h,h4⟩:=h;refine⟨?_,(Kb.of_below hb (fun b hb' _=>hb')).trans (h4.mono (fun b _ h=>h.imp id (fun h=>⟨.inl h.1,h.2⟩)))⟩;cases r with
 | false=>exact h
 | true =>
   obtain⟨⟨X',h1,h2⟩,h3⟩:=h;exact⟨⟨X',h1,fun b hx=>(h2 b hx).imp id (fun h=>Nat.le_trans hb.size h)⟩,h3⟩
end
def WkOK (l lo n₀:Nat)(J:Nat→(Nat→Prop)→World→Prop)(Jx:World→Prop)(L:List Ft)(w:World)(vo vy:Value)(m:Nat)(Ls:LkQ)(Hs:HoQ)(As Bs:TsQ)(n:Nat):Prop:=
 ∀ (A:World) (k:Nat) (X Y:Nat→Prop) (bk:Nat) (lst:HpQ) (met:Nat→Bool),lst.length+n=25→1≤n→0<lst.length→WkI lo n₀ J w X Y k bk lst A→spB (m:Int) (laH lst).1=true→hdrB (laH lst).2=true→Nxt L k (pwL Ls Hs As Bs n lst met) →
   Calls prog 102 #[.agg #[vo,vy],.slice (some ⟨bk,0,none⟩) lst.length 24,metV met,.func (.yield l) #[] #[]] A fun e A'=>∃r,e=.returned (.bool r)∧WkP n₀ J Jx X Y (k+(pwL Ls Hs As Bs n lst met).length) bk lst A r A'
def TkOK (l lo n₀:Nat)(J:Nat→(Nat→Prop)→World→Prop)(Jx:World→Prop)(L:List Ft)(w:World)(vo vy:Value)(m:Nat)(Ls:LkQ)(Hs:HoQ)(As Bs:TsQ)(n:Nat):Prop:=
 ∀ (A:World) (k:Nat) (X Y:Nat→Prop) (bk:Nat) (lst:HpQ) (met:Nat→Bool) (g:Lg),lst.length+n=24→0<lst.length→WkI lo n₀ J w X Y k bk lst A→(∃Ts,g=lgA Ls Hs Ts lst)→Nxt L k (tkL (pwL Ls Hs As Bs n) g lst met) →
   Calls prog 140 #[.agg #[vo,vy],legV g,.slice (some ⟨bk,0,none⟩) lst.length 24,metV met,.func (.yield l) #[] #[]] A fun e A'=>∃r,e=.returned (.bool r)∧WkP n₀ J Jx X Y (k+(tkL (pwL Ls Hs As Bs n) g lst met).length) bk lst A r A'
theorem step_append_fits {P:Program}{α:Type}{E:Enc α}(w:World){ops:Array Oper}{o:Oper}{a:Act}{K:Act→World→Prop}{Q:Exit→Act→World→Prop}{X:Prop}(hgd:o.guard=none)(s x:Operand)(t e:TypeId)
 (ho:o.op=.call { callee:=.builtin .append,args:=#[s,x],argTypes:=#[t,t] }) (ht:P.underlying t=some (.slice e)) (i:TypeInfo) (hi:P.info? e=some i)
 (hsize:i.size=E.n) (base g cap:Nat) (L:List α) (hs:a.eval s=.slice (some ⟨g,0,none⟩) L.length cap) (hown:w.ownsRow base e E.n (.slice (some ⟨g,0,none⟩) L.length cap) L.length (cellsG E L)) (g2 q c:Nat) (hx:a.eval x=.slice (some ⟨g2,q,none⟩) 1 c) (y:α) (hM:VAt w g2 q (E.c y))
 (hroom:L.length+1≤cap)
 (h:∀w',w'.ownsRow base e E.n (.slice (some ⟨g,0,none⟩) (L.length+1) cap) (L.length+1) (cellsG E (L++[y]))→w.grownBy w' (some g)→K (a.put o.dst (.slice (some ⟨g,0,none⟩) (L.length+1) cap)) w'):
 if Region.wanted o (yielded ops a.tmps)=true then Oper.wp P o a w K Q else X:=by
 have hw:Region.wanted o (yielded ops a.tmps)=true:=by simp[Region.wanted,hgd]
 rw[if_pos hw];obtain⟨w',hrun,r1,r2⟩:=run_append_fits (P:=P) w base t o.type e i E.n ht hi hsize g L.length cap (cellsG E L) hown ⟨g2,q,none⟩ 1 c (E.c y) (by rw[E.len];simp) (fun j u hj=>by rw[Addr.add_lit];exact hM j u hj) (E.one y) hroom;unfold Oper.wp;simp[execOp,ho,resolve,invoke,builtin,hs,hx,hrun,Result.andThen];refine h w' ?_ r2;rw[cellsG_app,cellsG_one];exact r1
end
section
open Go.RowKit Go.Shelf
attribute [local go_sem] Oper.semAt_some
structure TB (A W:World)(vo vy:Value)(g:Lg)(met:Nat→Bool):Prop where
 below:Below A.heap.size A W
 size:W.heap.size=A.heap.size+3
 x0:W.cell? ⟨A.heap.size,0,none⟩=some vo
 x1:W.cell? ⟨A.heap.size,1,none⟩=some vy
 g0:W.cell? ⟨A.heap.size+1,0,none⟩=some (.int i64 g.1)
 g1:W.cell? ⟨A.heap.size+1,1,none⟩=some (.string g.2.1)
 g2:W.cell? ⟨A.heap.size+1,2,none⟩=some (.int i64 g.2.2.1.1)
 g3:W.cell? ⟨A.heap.size+1,3,none⟩=some (.int i64 g.2.2.1.2)
 g4:W.cell? ⟨A.heap.size+1,4,none⟩=some (.int i64 g.2.2.2)
 m0:W.cell? ⟨A.heap.size+1+1,0,none⟩=some (.bool (met 0))
 m1:W.cell? ⟨A.heap.size+1+1,1,none⟩=some (.bool (met 1))
 m2:W.cell? ⟨A.heap.size+1+1,2,none⟩=some (.bool (met 2))
 m3:W.cell? ⟨A.heap.size+1+1,3,none⟩=some (.bool (met 3))
 m4:W.cell? ⟨A.heap.size+1+1,4,none⟩=some (.bool (met 4))
 m5:W.cell? ⟨A.heap.size+1+1,5,none⟩=some (.bool (met 5))
def tbox (A:World)(vo vy:Value)(a:Int)(b:ByteArray)(c d e:Int)(q0 q1 q2 q3 q4 q5:Bool):World:=((A.alloc (.cells #[vo,vy] 145)).alloc (.cells #[.int i64 a,.string b,.int i64 c,.int i64 d,.int i64 e] 198)).alloc (.cells #[.bool q0,.bool q1,.bool q2,.bool q3,.bool q4,.bool q5] 204)
theorem tb_new (A:World)(vo vy:Value)(g:Lg)(met:Nat→Bool):TB A (tbox A vo vy g.1 g.2.1 g.2.2.1.1 g.2.2.1.2 g.2.2.2 (met 0) (met 1) (met 2) (met 3) (met 4) (met 5)) vo vy g met:=by
 have hb:∀(W:World) (o:Obj),Below W.heap.size W (W.alloc o):=fun W o=>(bRQ _ _).alloc (nLQ _) _
 unfold tbox;have e1:(A.alloc (.cells #[vo,vy] 145)).heap.size=A.heap.size+1:=by simp
 have h1:=vat_new A [vo,vy] 145;have hB1:=hb A (Obj.cells #[vo,vy] 145)
 generalize A.alloc (.cells #[vo,vy] 145)=A1 at e1 h1 hB1
 have e2:(A1.alloc (.cells #[.int i64 g.1,.string g.2.1,.int i64 g.2.2.1.1,.int i64 g.2.2.1.2,.int i64 g.2.2.2] 198)).heap.size=A.heap.size+1+1:=by simp[e1]
 have h2:=vat_new A1 [.int i64 g.1,.string g.2.1,.int i64 g.2.2.1.1,.int i64 g.2.2.1.2,.int i64 g.2.2.2] 198;have hB2:=hb A1 (Obj.cells #[.int i64 g.1,.string g.2.1,.int i64 g.2.2.1.1,.int i64 g.2.2.1.2,.int i64 g.2.2.2] 198);rw[e1] at h2
 generalize A1.alloc (.cells #[.int i64 g.1,.string g.2.1,.int i64 g.2.2.1.1,.int i64 g.2.2.1.2,.int i64 g.2.2.2] 198)=A2 at e2 h2 hB2
 have e3:(A2.alloc (.cells #[.bool (met 0),.bool (met 1),.bool (met 2),.bool (met 3),.bool (met 4),.bool (met 5)] 204)).heap.size=A.heap.size+3:=by simp[e2]
 have h3:=vat_new A2 [.bool (met 0),.bool (met 1),.bool (met 2),.bool (met 3),.bool (met 4),.bool (met 5)] 204;have hB3:=hb A2 (Obj.cells #[.bool (met 0),.bool (met 1),.bool (met 2),.bool (met 3),.bool (met 4),.bool (met 5)] 204);rw[e2] at h3;have k1:=(h1.later hB2).later hB3;have k2:=h2.later hB3;exact⟨(hB1.trans (hB2.mono (by omega))).trans (hB3.mono (by omega)),e3,k1 0 _ rfl,k1 1 _ rfl,k2 0 _ rfl,k2 1 _ rfl,k2 2 _ rfl,k2 3 _ rfl,k2 4 _ rfl,h3 0 _ rfl,h3 1 _ rfl,h3 2 _ rfl,h3 3 _ rfl,h3 4 _ rfl,h3 5 _ rfl⟩
section
variable {l lo n₀:Nat}{J:Nat→(Nat→Prop)→World→Prop}{Jx:World→Prop}{L:List Ft}{w:World}{vo vy:Value}{m:Nat}{Ls:LkQ}{Hs:HoQ}{As Bs:TsQ}
theorem take_end (cx:MCx l lo n₀ J Jx L w vo vy m Ls Hs As Bs)(nn:Nat)(hn:3≤nn)(A:World)(k:Nat)(X Y:Nat→Prop)(bk:Nat)(lst:HpQ)(met:Nat→Bool)(g:Lg)(hI:WkI lo n₀ J w X Y k bk lst A)(hg:g.1≠0)(hL:L[k]?=some (g.1,g.2.1,lst)):
 CallsIn Fence.wide nn prog 140 #[.agg #[vo,vy],legV g,.slice (some ⟨bk,0,none⟩) lst.length 24,metV met,.func (.yield l) #[] #[]] A fun e A'=>∃r,e=.returned (.bool r)∧WkP n₀ J Jx X Y (k+1) bk lst A r A':=by
 have h1:1≤nn:=by omega
 have hT:=tb_new A vo vy g met;obtain⟨a,b,⟨c,d⟩,e⟩:=g;unfold legV metV
 dsimp only at hT hg hL ⊢
 obtain⟨A1,hA1⟩:∃W,tbox A vo vy a b c d e (met 0) (met 1) (met 2) (met 3) (met 4) (met 5)=W:=⟨_,rfl⟩;rw[hA1] at hT;have hI1:=hI.later cx hT.below;obtain⟨q,hq⟩:∃q,q=lst.length:=⟨_,rfl⟩;have hy:=yield_any (m':=nn-1) (cx.yi k X A1 #[.agg #[.int i64 a,.string b,.slice (some ⟨bk,0,none⟩) q 24]] (a,b,lst) _ hI1.j hL ⟨_,_,_,rfl,by rw[hq];exact hI1.h.gs⟩ hI1.s (fun x hx=>⟨(hI1.y x hx).1,(hI1.y x hx).2.2⟩));obtain⟨fn,tmps,assign,body,hyr,hR⟩:=hy;have HI1:Hid (WkI lo n₀ J w X (fun b=>Y b∨(A.heap.size≤b∧b<A1.heap.size)) k bk lst A1):=hI1;have HT:Hid (TB A A1 vo vy (a,b,((c,d),e)) met):=hT;have ea:(a != 0)=true:=by simp[hg]
 rw[←hq];refine callsIn_of_wp func140 rfl trivial ?_ rfl;simp only[ntmps140,List.size_toArray,List.length_cons,List.length_nil,Nat.reduceAdd,Nat.reduceSub,Array.replicate_succ,Array.replicate_zero,List.push_toArray,List.append_toArray,List.nil_append,List.cons_append];clear hI1 hI hL hq hg hT;subst hA1;unfold tbox at hyr hR
 gi_wp2
 refine hR.mono ?_;rintro e5 A2 (⟨rfl,⟨X',hJ,hX⟩,hk⟩ | ⟨rfl,hJx,hk⟩)
 ·have HP:Hid (WkP n₀ J Jx X Y (k+1) bk lst A true A2):=by
   exact WkP.back HT.out.below ⟨⟨⟨X',hJ,hX⟩,HI1.out.h.kb hk (.inr HI1.out.yb)⟩,hk.mono (fun b _ h=>h.imp id (fun h=>h.1))⟩
  clear hJ hX hk
  gi_wp2
  go_ret;exact⟨true,rfl,HP.out⟩
 have HP:Hid (WkP n₀ J Jx X Y (k+1) bk lst A false A2):=WkP.back HT.out.below ⟨hJx,hk.mono (fun b _ h=>h.imp id (fun h=>h.1))⟩;clear hJx hk
 gi_wp2
 go_ret;exact⟨false,rfl,HP.out⟩
end
end
section
open Go.RowKit Go.Shelf
theorem hk_of {W:World}{bk:Nat}{l:HpQ}{p:(Int×Int)×Int}(h:W.ownsRow 0 127 hopE.n (.slice (some ⟨bk,0,none⟩) (l.length+1) 24) (l.length+1) (cellsG hopE (l++[p]))):HK W bk (l++[p]):=by
 unfold HK;rw[List.length_append,List.length_singleton];exact h
section
variable {l lo n₀:Nat}{J:Nat→(Nat→Prop)→World→Prop}{Jx:World→Prop}{L:List Ft}{w:World}{vo vy:Value}{m:Nat}{Ls:LkQ}{Hs:HoQ}{As Bs:TsQ}
theorem WkI.hop {X Y:Nat→Prop}{k bk:Nat}{lst:HpQ}{A W:World}(cx:MCx l lo n₀ J Jx L w vo vy m Ls Hs As Bs)(h:WkI lo n₀ J w X Y k bk lst A)(hk:Kb (fun b=>b≠bk) A W){p:(Int×Int)×Int}(hh:HK W bk (lst++[p])):WkI lo n₀ J w X Y k bk (lst++[p]) W:=by
 have hbk:=h.y bk h.yb;have hnl:=cx.nlo;refine⟨h.b.trans (hk.below (by have:=h.s;omega) (fun b hb=>by omega)),Nat.le_trans h.s hk.size,cx.ab _ _ _ _ h.j (hk.mono (fun b _ hx=>?_)),fun b hy=>?_,h.yb,hh⟩
 ·intro e;subst e
  rcases hx with hx | hx
  ·omega
  exact hbk.2.2 hx
 have:=h.y b hy;exact⟨this.1,Nat.lt_of_lt_of_le this.2.1 hk.size,this.2.2⟩
theorem WkP.hop {X Y:Nat→Prop}{k bk:Nat}{lst:HpQ}{A W A':World}{r:Bool}{p:(Int×Int)×Int}(hn:n₀≤bk)(hk:Kb (fun b=>b≠bk) A W)(h:WkP n₀ J Jx X Y k bk (lst++[p]) W r A'):WkP n₀ J Jx X Y k bk lst A r A':=by
 obtain⟨h,h4⟩:=h;refine⟨?_,(hk.mono (fun b _ h=>?_)).trans h4⟩
 ·cases r with
  | false=>exact h
  | true =>
    obtain⟨⟨X',h1,h2⟩,h3⟩:=h;exact⟨⟨X',h1,fun b hx=>(h2 b hx).imp id (fun h=>Nat.le_trans hk.size h)⟩,h3.pre⟩
 rcases h with h | h
 ·omega
 exact h.2
theorem take_on (cx:MCx l lo n₀ J Jx L w vo vy m Ls Hs As Bs)(n:Nat)(hW:WkOK l lo n₀ J Jx L w vo vy m Ls Hs As Bs n)(A:World)(k:Nat)(X Y:Nat→Prop)(bk:Nat)(lst:HpQ)(met:Nat→Bool)(c d e:Int)(b:ByteArray)(hlen:lst.length+n=24)(hn1:1≤n)(hI:WkI lo n₀ J w X Y k bk lst A)(hsp:spB (m:Int) (c,d)=true)(hhd:hdrB e=true)(hL:Nxt L k (pwL Ls Hs As Bs n (lst++[((c,d),e)]) met)):
 Calls prog 140 #[.agg #[vo,vy],.agg #[.int i64 0,.string b,.int i64 c,.int i64 d,.int i64 e],.slice (some ⟨bk,0,none⟩) lst.length 24,metV met,.func (.yield l) #[] #[]] A fun e' A'=>∃r,e'=.returned (.bool r)∧WkP n₀ J Jx X Y (k+(pwL Ls Hs As Bs n (lst++[((c,d),e)]) met).length) bk lst A r A':=by
 have hT:=tb_new A vo vy (0,b,((c,d),e)) met
 dsimp only at hT
 obtain⟨A1,hA1⟩:∃W,tbox A vo vy 0 b c d e (met 0) (met 1) (met 2) (met 3) (met 4) (met 5)=W:=⟨_,rfl⟩;rw[hA1] at hT;have hI1:=hI.later cx hT.below;have hbk:=hI.y bk hI.yb;obtain⟨N,hN⟩:∃N,N=(pwL Ls Hs As Bs n (lst++[((c,d),e)]) met).length:=⟨_,rfl⟩;rw[←hN];have HWK:Hid (∀W,Kb (fun b=>b≠bk) A1 W→HK W bk (lst++[((c,d),e)])→Calls prog 102 #[.agg #[vo,vy],.slice (some ⟨bk,0,none⟩) (lst.length+1) 24,.agg #[.bool (met 0),.bool (met 1),.bool (met 2),.bool (met 3),.bool (met 4),.bool (met 5)],.func (.yield l) #[] #[]] W fun e A'=>∃r,e=.returned (.bool r)∧WkP n₀ J Jx X Y (k+N) bk lst A r A'∧Kb (fun b=>A.heap.size≤b∧b<A1.heap.size) W A'):=fun W hk hh=>by
  have h:=hW W k X _ bk (lst++[((c,d),e)]) met (by rw[List.length_append,List.length_singleton];omega) hn1 (by rw[List.length_append];simp) (hI1.hop cx hk hh) (by rw[la_app];exact hsp) (by rw[la_app];exact hhd) hL;rw[←hN,List.length_append,List.length_singleton] at h;refine h.mono ?_;rintro e' A' ⟨r,rfl,hP⟩;exact⟨r,rfl,WkP.back hT.below (WkP.hop (Nat.le_trans cx.nlo hbk.1) hk hP),hP.2.mono (fun b _ h=>.inr ⟨.inr h,by omega⟩)⟩
 have HSW:Hid (∀W,Kb (fun b=>A.heap.size≤b∧b<A1.heap.size) A1 W→W.cell? ⟨A.heap.size,0,none⟩=some vo∧W.cell? ⟨A.heap.size,1,none⟩=some vy∧W.cell? ⟨A.heap.size+1,2,none⟩=some (.int i64 c)∧W.cell? ⟨A.heap.size+1,3,none⟩=some (.int i64 d)∧W.cell? ⟨A.heap.size+1,4,none⟩=some (.int i64 e)∧W.cell? ⟨A.heap.size+1+1,0,none⟩=some (.bool (met 0))∧W.cell? ⟨A.heap.size+1+1,1,none⟩=some (.bool (met 1))∧W.cell? ⟨A.heap.size+1+1,2,none⟩=some (.bool (met 2))∧W.cell? ⟨A.heap.size+1+1,3,none⟩=some (.bool (met 3))∧W.cell? ⟨A.heap.size+1+1,4,none⟩=some (.bool (met 4))∧W.cell? ⟨A.heap.size+1+1,5,none⟩=some (.bool (met 5))):=fun W hk=>by
  have hsz:=hT.size;have a0:A.heap.size≤A.heap.size∧A.heap.size<A1.heap.size:=by omega
  have a1:A.heap.size≤A.heap.size+1∧A.heap.size+1<A1.heap.size:=by omega
  have a2:A.heap.size≤A.heap.size+1+1∧A.heap.size+1+1<A1.heap.size:=by omega
  exact⟨hk.at hT.x0 a0,hk.at hT.x1 a0,hk.at hT.g2 a1,hk.at hT.g3 a1,hk.at hT.g4 a1,hk.at hT.m0 a2,hk.at hT.m1 a2,hk.at hT.m2 a2,hk.at hT.m3 a2,hk.at hT.m4 a2,hk.at hT.m5 a2⟩
 have HOW:Hid (∀W,Kb (fun _=>True) A1 W→W.ownsRow 0 127 hopE.n (.slice (some ⟨bk,0,none⟩) lst.length 24) lst.length (cellsG hopE lst)):=fun W hk=>hI1.h.kb hk trivial
 have HRM:Hid (lst.length+1≤24):=by show _≤_;omega
 have HA1:Hid (((A.alloc (.cells #[vo,vy] 145)).alloc (.cells #[.int i64 0,.string b,.int i64 c,.int i64 d,.int i64 e] 198)).alloc (.cells #[.bool (met 0),.bool (met 1),.bool (met 2),.bool (met 3),.bool (met 4),.bool (met 5)] 204)=A1):=hA1;have HNB:Hid (∀b,b<A1.heap.size→(A.heap.size≤b∧b<A1.heap.size)→b≠bk):=fun b _ h=>by omega
 obtain⟨_,hsz,x0,x1,g0,g1,g2,g3,g4,m0,m1,m2,m3,m4,m5⟩:=hT;have hlA:A.heap.size<A1.heap.size:=by omega
 have hlA1:A.heap.size+1<A1.heap.size:=by omega
 have hlA2:A.heap.size+1+1<A1.heap.size:=by omega
 dsimp only at g0 g1 g2 g3 g4
 unfold metV;obtain⟨j0,hj,hy0,hy1,hy2⟩:=info_parts hop_info;clear hW hlen hn1 hI hI1 hsp hhd hL hA1 hN hbk hsz;go_enter func140,ntmps140;go_upto_region 1 with fail;rw[HA1.out];clear HA1;go_upto_region 3 with fail
 go_region_held3 (fun W=>W.cell? ⟨A.heap.size,0,none⟩=some vo∧W.cell? ⟨A.heap.size,1,none⟩=some vy∧W.cell? ⟨A.heap.size+1,2,none⟩=some (.int i64 c)∧W.cell? ⟨A.heap.size+1,3,none⟩=some (.int i64 d)∧W.cell? ⟨A.heap.size+1,4,none⟩=some (.int i64 e)∧W.cell? ⟨A.heap.size+1+1,0,none⟩=some (.bool (met 0))∧W.cell? ⟨A.heap.size+1+1,1,none⟩=some (.bool (met 1))∧W.cell? ⟨A.heap.size+1+1,2,none⟩=some (.bool (met 2))∧W.cell? ⟨A.heap.size+1+1,3,none⟩=some (.bool (met 3))∧W.cell? ⟨A.heap.size+1+1,4,none⟩=some (.bool (met 4))∧W.cell? ⟨A.heap.size+1+1,5,none⟩=some (.bool (met 5)))
  (first | (with_reducible assumption) | (with_reducible exact HSW.out _ (Kb.refl _ _).drew) | (with_reducible exact HSW.out _ ((Kb.refl _ _).drew.alloc _)) | (with_reducible exact HSW.out _ ((Kb.refl _ _).alloc _).drew) | (with_reducible exact HSW.out _ HK4.out) | (with_reducible exact HSW.out _ HK6.out))
  (first
   | (refine step_append_fits (E:=hopE) _ (by rfl) _ _ 81 127 (by rfl) underlying81 j0 hj hy1 0 bk 24 lst (by rfl) (HOW.out _ ?_) _ 0 1 (by rfl) ((c,d),e) ?_ HRM.out ?_;(focus (first | exact (Kb.refl _ _).drew | exact (Kb.refl _ _).drew.alloc _ | exact ((Kb.refl _ _).alloc _).drew));(focus (exact hop_new A1 c d e _));intro w5 ho5 hg5;have HK5:Hid (Kb (fun b=>b≠bk) A1 w5):=(Kb.grown (by first | exact ((Kb.refl _ _).alloc _).drew | exact (Kb.refl _ _).drew.alloc _) hg5 (fun r er _ h=>h (by cases er;rfl)));have HK4:Hid (Kb (fun b=>A.heap.size≤b∧b<A1.heap.size) A1 w5):=(HK5.out.mono HNB.out);have HH5:Hid (HK w5 bk (lst++[((c,d),e)])):=(hk_of ho5);clear ho5 hg5)
   | (go_at_call 102;refine (HWK.out _ HK5.out HH5.out).mono ?_;rintro e6 w6 ⟨r,rfl,hP,hq6⟩;have HP:Hid (WkP n₀ J Jx X Y (k+N) bk lst A r w6):=hP;have HK6:Hid (Kb (fun b=>A.heap.size≤b∧b<A1.heap.size) A1 w6):=(HK4.out.trans hq6);clear hP hq6))
 all_goals go_wp2
 all_goals go_ret
 all_goals exact⟨_,rfl,HP.out⟩
end
section
variable {l lo n₀:Nat}{J:Nat→(Nat→Prop)→World→Prop}{Jx:World→Prop}{L:List Ft}{w:World}{vo vy:Value}{m:Nat}{Ls:LkQ}{Hs:HoQ}{As Bs:TsQ}
theorem take_ok (cx:MCx l lo n₀ J Jx L w vo vy m Ls Hs As Bs)(n:Nat)(hW:1≤n→WkOK l lo n₀ J Jx L w vo vy m Ls Hs As Bs n):TkOK l lo n₀ J Jx L w vo vy m Ls Hs As Bs n:=by
 rintro A k X Y bk lst met g hlen h0 hI ⟨Ts,rfl⟩ hL;by_cases hg:(lgA Ls Hs Ts lst).1=0
 ·have h24:=la_24 hg;have e:tkL (pwL Ls Hs As Bs n) (lgA Ls Hs Ts lst) lst met=pwL Ls Hs As Bs n (lst++[(lgA Ls Hs Ts lst).2.2]) met:=by rw[tkL,if_pos hg]
  rw[e] at hL ⊢;have hsp:=la_sp cx.tp hg;have hhd:=la_hdr hg;unfold legV;clear e
  generalize lgA Ls Hs Ts lst=G at hg hL hsp hhd ⊢
  obtain⟨a,b,⟨c,d⟩,e'⟩:=G
  dsimp only at hg hL hsp hhd ⊢
  subst hg;exact take_on cx n (hW (by omega)) A k X Y bk lst met c d e' b hlen (by omega) hI hsp hhd hL
 have e:tkL (pwL Ls Hs As Bs n) (lgA Ls Hs Ts lst) lst met=[((lgA Ls Hs Ts lst).1,(lgA Ls Hs Ts lst).2.1,lst)]:=by rw[tkL,if_neg hg]
 rw[e] at hL ⊢;exact (callsIn_wide (n:=3)).1 (take_end cx 3 (by omega) A k X Y bk lst met _ hI hg (hL 0 _ rfl))
theorem lgs_at {W:World}{B:Nat}{v:Value}{f:Nat→Nat→Lg}{m a h:Nat}(hl:LGs W B v f m)(ha:a<m)(hh:h<16):∃g o cap ga oa ca,v=.slice (some ⟨g,o,none⟩) m cap∧W.cell? ⟨g,o+a,none⟩=some (.slice (some ⟨ga,oa,none⟩) 16 ca)∧W.cell? ⟨ga,oa+h*5,none⟩=some (.int i64 (f a h).1)∧W.cell? ⟨ga,oa+h*5+1,none⟩=some (.string (f a h).2.1)∧W.cell? ⟨ga,oa+h*5+2,none⟩=some (.int i64 (f a h).2.2.1.1)∧W.cell? ⟨ga,oa+h*5+3,none⟩=some (.int i64 (f a h).2.2.1.2)∧W.cell? ⟨ga,oa+h*5+4,none⟩=some (.int i64 (f a h).2.2.2):=by
 obtain⟨vs,h1,h2⟩:=hl;obtain⟨u,hu,h3⟩:=h2 a ha;have hG:=own_GS (E:=legE) (L:=(List.range 16).map (f a)) (by rw[List.length_map,List.length_range];exact h3);obtain⟨ao,n,ca,rfl,hn,_,_,hA⟩:=hG.form;have hn2:n=16:=by rw[←hn];simp
 subst hn2;obtain⟨ga,oa,rfl,hga,_⟩:=hA (by omega)
 rcases h1.2 with ⟨rfl,h⟩ | ⟨g,cap,cur,rfl,_,hg,_,_,hcs,ht⟩
 ·omega
 refine⟨g,0,cap,ga,oa,ca,rfl,?_,?_⟩
 ·have:=World.ownsRow.cellAt h1 a (by omega);rw[Nat.zero_add,this];exact hu
 have h5:=leg_cells (x0:=(f a h).1) (x1:=(f a h).2.1) (x2:=(f a h).2.2.1.1) (x3:=(f a h).2.2.1.2) (x4:=(f a h).2.2.2) (by
  have:=hga h (by simpa using hh);rw[show ((List.range 16).map (f a))[h]'(by simpa using hh)=f a h by simp] at this;exact this:VAt W ga (oa+h*5) (legE.c ((f a h).1,(f a h).2.1,(((f a h).2.2.1.1,(f a h).2.2.1.2),(f a h).2.2.2))))
 exact h5
theorem WkI.next {X Y:Nat→Prop}{k k2 bk:Nat}{lst:HpQ}{A A':World}(cx:MCx l lo n₀ J Jx L w vo vy m Ls Hs As Bs)(h:WkI lo n₀ J w X Y k bk lst A)(hp:WkP n₀ J Jx X Y k2 bk lst A true A'):∃X',WkI lo n₀ J w X' Y k2 bk lst A'∧∀b,X' b→X b∨A.heap.size≤b:=by
 obtain⟨⟨⟨X',h1,h2⟩,h3⟩,h4⟩:=hp;have hnl:=cx.nlo;refine⟨X',⟨h.b.trans (h4.below (by have:=h.s;omega) (fun b hb=>.inl hb)),Nat.le_trans h.s h4.size,h1,fun b hy=>?_,h.yb,h3⟩,h2⟩;have q:=h.y b hy;refine⟨q.1,Nat.lt_of_lt_of_le q.2.1 h4.size,fun hx=>?_⟩
 rcases h2 b hx with hx | hx
 ·exact q.2.2 hx
 omega
theorem WkI.set {X Y:Nat→Prop}{k bk b i:Nat}{lst:HpQ}{A:World}{u:Value}(cx:MCx l lo n₀ J Jx L w vo vy m Ls Hs As Bs)(h:WkI lo n₀ J w X Y k bk lst A)(hb:Y b)(hne:b≠bk):WkI lo n₀ J w X Y k bk lst (A.setCell ⟨b,i,none⟩ u):=by
 have q:=h.y b hb;have hnl:=cx.nlo;have hk:∀{p:Nat→Prop},¬p b→Kb p A (A.setCell ⟨b,i,none⟩ u):=fun hp=>(Kb.refl _ _).setCell (q:=⟨b,i,none⟩) (fun _=>hp) u
 have hs:A.heap.size≤(A.setCell ⟨b,i,none⟩ u).heap.size:=(hk (p:=fun _=>False) (fun h=>h)).size;refine⟨h.b.trans ((hk (p:=fun x=>x≠b) (fun h=>h rfl)).below (by have:=h.s;omega) (fun x hx=>by omega)),Nat.le_trans h.s hs,cx.ab _ _ _ _ h.j (hk ?_),fun x hx=>?_,h.yb,h.h.kb (hk (p:=fun x=>x≠b) (fun h=>h rfl)) (fun e=>hne e.symm)⟩
 ·rintro (h' | h')
  ·omega
  exact q.2.2 h'
 have:=h.y x hx;exact⟨this.1,Nat.lt_of_lt_of_le this.2.1 hs,this.2.2⟩
structure QB (A W:World)(vo vy:Value)(met:Nat→Bool)(x y h:Int):Prop where
 x0:W.cell? ⟨A.heap.size,0,none⟩=some vo
 x1:W.cell? ⟨A.heap.size,1,none⟩=some vy
 m:∀i,i<6→W.cell? ⟨A.heap.size+1,i,none⟩=some (.bool (met i))
 mf:∀i,W.frozen? ⟨A.heap.size+1,i,none⟩=false
 h0:W.cell? ⟨A.heap.size+1+1,0,none⟩=some (.int i64 x)
 h1:W.cell? ⟨A.heap.size+1+1,1,none⟩=some (.int i64 y)
 h2:W.cell? ⟨A.heap.size+1+1,2,none⟩=some (.int i64 h)
theorem QB.kb {A W W':World}{vo vy:Value}{met:Nat→Bool}{x y h:Int}{p:Nat→Prop}(q:QB A W vo vy met x y h)(hk:Kb p W W')(hp:∀b,A.heap.size≤b→b<A.heap.size+3→p b):QB A W' vo vy met x y h:=
 ⟨hk.at q.x0 (hp _ (nLQ _) (by simp)),hk.at q.x1 (hp _ (nLQ _) (by simp)),fun i hi=>hk.at (q.m i hi) (hp _ (Nat.le_add_right _ _) (by simp)),fun i=>(hk.frozen (q:=⟨A.heap.size+1,i,none⟩) (show (⟨A.heap.size+1,0,none⟩:Addr).block<W.heap.size from bLQ W ⟨A.heap.size+1,0,none⟩ (q.m 0 (by omega))) (hp _ (Nat.le_add_right _ _) (by simp))).trans (q.mf i),hk.at q.h0 (hp _ (by simp;omega) (by simp)),hk.at q.h1 (hp _ (by simp;omega) (by simp)),hk.at q.h2 (hp _ (by simp;omega) (by simp))⟩
def qbox (A:World)(vo vy:Value)(q0 q1 q2 q3 q4 q5:Bool)(x y h:Int):World:=((A.alloc (.cells #[vo,vy] 145)).alloc (.cells #[.bool q0,.bool q1,.bool q2,.bool q3,.bool q4,.bool q5] 204)).alloc (.cells #[.int i64 x,.int i64 y,.int i64 h] 127)
theorem qb_new (A:World)(vo vy:Value)(met:Nat→Bool)(x y h:Int):QB A (qbox A vo vy (met 0) (met 1) (met 2) (met 3) (met 4) (met 5) x y h) vo vy met x y h∧Below A.heap.size A (qbox A vo vy (met 0) (met 1) (met 2) (met 3) (met 4) (met 5) x y h)∧(qbox A vo vy (met 0) (met 1) (met 2) (met 3) (met 4) (met 5) x y h).heap.size=A.heap.size+3:=by
 have hb:∀(W:World) (o:Obj),Below W.heap.size W (W.alloc o):=fun W o=>(bRQ _ _).alloc (nLQ _) _
 unfold qbox;have e1:(A.alloc (.cells #[vo,vy] 145)).heap.size=A.heap.size+1:=by simp
 have k1:=vat_new A [vo,vy] 145;have hB1:=hb A (Obj.cells #[vo,vy] 145)
 generalize A.alloc (.cells #[vo,vy] 145)=A1 at e1 k1 hB1
 have e2:(A1.alloc (.cells #[.bool (met 0),.bool (met 1),.bool (met 2),.bool (met 3),.bool (met 4),.bool (met 5)] 204)).heap.size=A.heap.size+1+1:=by simp[e1]
 have k2:=vat_new A1 [.bool (met 0),.bool (met 1),.bool (met 2),.bool (met 3),.bool (met 4),.bool (met 5)] 204;have f2:=froz_new2 A1 #[.bool (met 0),.bool (met 1),.bool (met 2),.bool (met 3),.bool (met 4),.bool (met 5)] 204;have hB2:=hb A1 (Obj.cells #[.bool (met 0),.bool (met 1),.bool (met 2),.bool (met 3),.bool (met 4),.bool (met 5)] 204);rw[e1] at k2 f2;have l2:A.heap.size+1<(A1.alloc (.cells #[.bool (met 0),.bool (met 1),.bool (met 2),.bool (met 3),.bool (met 4),.bool (met 5)] 204)).heap.size:=by rw[e2];omega
 generalize A1.alloc (.cells #[.bool (met 0),.bool (met 1),.bool (met 2),.bool (met 3),.bool (met 4),.bool (met 5)] 204)=A2 at e2 k2 f2 hB2 l2
 have e3:(A2.alloc (.cells #[.int i64 x,.int i64 y,.int i64 h] 127)).heap.size=A.heap.size+3:=by simp[e2]
 have k3:=vat_new A2 [.int i64 x,.int i64 y,.int i64 h] 127;have hB3:=hb A2 (Obj.cells #[.int i64 x,.int i64 y,.int i64 h] 127);rw[e2] at k3;have j1:=(k1.later hB2).later hB3;have j2:=k2.later hB3;refine⟨⟨j1 0 _ rfl,j1 1 _ rfl,fun i hi=>?_,fun i=>(hB3.frozen (p:=⟨A.heap.size+1,i,none⟩) l2).trans (f2 i),k3 0 _ rfl,k3 1 _ rfl,k3 2 _ rfl⟩,(hB1.trans (hB2.mono (by omega))).trans (hB3.mono (by omega)),e3⟩
 match i,hi with
 | 0,_=>exact j2 0 _ rfl
 | 1,_=>exact j2 1 _ rfl
 | 2,_=>exact j2 2 _ rfl
 | 3,_=>exact j2 3 _ rfl
 | 4,_=>exact j2 4 _ rfl
 | 5,_=>exact j2 5 _ rfl
theorem QB.meet {A W:World}{vo vy:Value}{met:Nat→Bool}{x y h:Int}(q:QB A W vo vy met x y h){a:Nat}(ha:a<6):QB A (W.setCell ⟨A.heap.size+1,a,none⟩ (.bool true)) vo vy (mtS met a) x y h:=by
 have o:∀(g j:Nat),(g,j)≠(A.heap.size+1,a)→(W.setCell ⟨A.heap.size+1,a,none⟩ (.bool true)).cell? ⟨g,j,none⟩=W.cell? ⟨g,j,none⟩:=fun g j hne=>World.cell?_setCell_other _ _ _ _ (by intro e;injection e with e1 e2;exact hne (by rw[e1,e2]))
 refine⟨?_,?_,fun i hi=>?_,fun i=>?_,?_,?_,?_⟩
 ·rw[o _ _ (by simp)];exact q.x0
 ·rw[o _ _ (by simp)];exact q.x1
 ·unfold mtS;by_cases e:i=a
  ·subst e;rw[if_pos rfl];exact World.cell?_setCell_same _ _ _ (q.m i hi)
  rw[if_neg e,o _ _ (by simp[e])];exact q.m i hi
 ·rw[World.frozen?_setCell];exact q.mf i
 ·rw[o _ _ (by simp)];exact q.h0
 ·rw[o _ _ (by simp)];exact q.h1
 rw[o _ _ (by simp)];exact q.h2
end
end
end Go.Proofs.YtiokpmlhmlcojaaGreatDoor
