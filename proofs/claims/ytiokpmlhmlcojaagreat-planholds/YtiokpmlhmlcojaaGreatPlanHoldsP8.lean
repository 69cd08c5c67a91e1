/- Contracts and facts on the way to PlanHolds, joined into one text: NetFollow, StLeg, MixLegs, MixWalkMath, SlHopF, WishFits, WishFirst, SlWish2, ItLaw. -/
import Derived.Test.YtiokpmlhmlcojaaGreatPlanHoldsP7
namespace Go.Proofs.YtiokpmlhmlcojaaGreat
set_option linter.unusedSimpArgs false
set_option linter.unusedVariables false
set_option maxHeartbeats 16000000
set_option maxRecDepth 100000
section
open Go.RowKit
def fbox (w:World)(S:Int)(v1 v2 v3:Value)(x y h:Int):World:=((w.alloc (Obj.cells #[.int .i64 S,v1,v2,v3] 28)).alloc (Obj.cells #[.int .i64 x,.int .i64 y,.int .i64 h] 101)).alloc (Obj.cells #[.int .i64 0,.string ⟨#[]⟩,.slice none 0 0] 98)
structure FBox (w W:World)(S:Int)(v1 v2 v3:Value)(x y h:Int):Prop where
 below:Below w.heap.size w W
 n:NeBox W w.heap.size S v1 v2 v3
 i0:W.cell? ⟨w.heap.size+1,0,none⟩=some (.int .i64 x)
 i1:W.cell? ⟨w.heap.size+1,1,none⟩=some (.int .i64 y)
 i2:W.cell? ⟨w.heap.size+1,2,none⟩=some (.int .i64 h)
 r0:W.cell? ⟨w.heap.size+1+1,0,none⟩=some (.int .i64 0)
 r1:W.cell? ⟨w.heap.size+1+1,1,none⟩=some (.string ⟨#[]⟩)
 r2:W.cell? ⟨w.heap.size+1+1,2,none⟩=some (.slice none 0 0)
 f:∀i,W.frozen? ⟨w.heap.size+1+1,i,none⟩=false
theorem fbox_new (w:World)(S:Int)(v1 v2 v3:Value)(x y h:Int):FBox w (fbox w S v1 v2 v3 x y h) S v1 v2 v3 x y h:=by
 have e1:(w.alloc (Obj.cells #[.int .i64 S,v1,v2,v3] 28)).heap.size=w.heap.size+1:=by simp
 have e2:((w.alloc (Obj.cells #[.int .i64 S,v1,v2,v3] 28)).alloc (Obj.cells #[.int .i64 x,.int .i64 y,.int .i64 h] 101)).heap.size=w.heap.size+1+1:=by simp
 have hb:∀(W:World) (o:Obj),Below W.heap.size W (W.alloc o):=fun W o=>(Below.refl _ _).alloc (Nat.le_refl _) _
 have hs:=(vat_new (w.alloc (Obj.cells #[.int .i64 S,v1,v2,v3] 28)) [.int .i64 x,.int .i64 y,.int .i64 h] 101).later (hb _ (Obj.cells #[.int .i64 0,.string ⟨#[]⟩,.slice none 0 0] 98));rw[e1] at hs;have hr:=vat_new ((w.alloc (Obj.cells #[.int .i64 S,v1,v2,v3] 28)).alloc (Obj.cells #[.int .i64 x,.int .i64 y,.int .i64 h] 101)) [.int .i64 0,.string ⟨#[]⟩,.slice none 0 0] 98;rw[e2] at hr;have hf:∀k,(fbox w S v1 v2 v3 x y h).frozen? ⟨((w.alloc (Obj.cells #[.int .i64 S,v1,v2,v3] 28)).alloc (Obj.cells #[.int .i64 x,.int .i64 y,.int .i64 h] 101)).heap.size,k,none⟩=false:=fun k=>by
  unfold fbox
  generalize (w.alloc (Obj.cells #[.int .i64 S,v1,v2,v3] 28)).alloc (Obj.cells #[.int .i64 x,.int .i64 y,.int .i64 h] 101)=X
  simp
 rw[e2] at hf;exact⟨(((Below.refl _ _).alloc (Nat.le_refl _) _).alloc (by rw[e1];omega) _).alloc (by rw[e2];omega) _,((nebox_new w S v1 v2 v3 28).later (hb _ _)).later (hb _ _),hs 0 _ rfl,hs 1 _ rfl,hs 2 _ rfl,hr 0 _ rfl,hr 1 _ rfl,hr 2 _ rfl,hf⟩
theorem FBox.lt {w W:World}{S:Int}{v1 v2 v3:Value}{x y h:Int}(k:FBox w W S v1 v2 v3 x y h):w.heap.size+3≤W.heap.size:=bLQ W ⟨w.heap.size+1+1,0,none⟩ k.r0
theorem FBox.later {w W W':World}{S:Int}{v1 v2 v3:Value}{x y h:Int}(k:FBox w W S v1 v2 v3 x y h){B:Nat}(hB:w.heap.size+3≤B)(hb:Below B W W'):FBox w W' S v1 v2 v3 x y h:=
 have hc:∀(g i:Nat) (x:Value),g<w.heap.size+3→W.cell? ⟨g,i,none⟩=some x→W'.cell? ⟨g,i,none⟩=some x:=fun g i x hg e=>(hb.cell (p:=⟨g,i,none⟩) (show g<B by omega)).trans e
 ⟨k.below.trans (hb.mono (by omega)),⟨hc _ _ _ (by omega) k.n.1,hc _ _ _ (by omega) k.n.2.1,hc _ _ _ (by omega) k.n.2.2.1,hc _ _ _ (by omega) k.n.2.2.2⟩,hc _ _ _ (by omega) k.i0,hc _ _ _ (by omega) k.i1,hc _ _ _ (by omega) k.i2,hc _ _ _ (by omega) k.r0,hc _ _ _ (by omega) k.r1,hc _ _ _ (by omega) k.r2,fun i=>(hb.frozen (p:=⟨w.heap.size+1+1,i,none⟩) (show w.heap.size+1+1<B by omega)).trans (k.f i)⟩
def put3 (W:World)(g:Nat)(u v x:Value):World:=((W.setCell ⟨g,0,none⟩ u).setCell ⟨g,1,none⟩ v).setCell ⟨g,2,none⟩ x
theorem put3_cells {W:World}{g:Nat}{a b c u v x:Value}(k:W.cell? ⟨g,0,none⟩=some u∧W.cell? ⟨g,1,none⟩=some v∧W.cell? ⟨g,2,none⟩=some x):(put3 W g a b c).cell? ⟨g,0,none⟩=some a∧(put3 W g a b c).cell? ⟨g,1,none⟩=some b∧(put3 W g a b c).cell? ⟨g,2,none⟩=some c:=by
 unfold put3;have h1:(W.setCell ⟨g,0,none⟩ a).cell? ⟨g,1,none⟩=some v:=by
  rw[World.cell?_setCell_other _ _ _ _ (by simp)];exact k.2.1
 have h2:((W.setCell ⟨g,0,none⟩ a).setCell ⟨g,1,none⟩ b).cell? ⟨g,2,none⟩=some x:=by
  rw[World.cell?_setCell_other _ _ _ _ (by simp),World.cell?_setCell_other _ _ _ _ (by simp)];exact k.2.2
 refine⟨?_,?_,World.cell?_setCell_same _ _ _ h2⟩
 ·rw[World.cell?_setCell_other _ _ _ _ (by simp),World.cell?_setCell_other _ _ _ _ (by simp)];exact World.cell?_setCell_same _ _ _ k.1
 rw[World.cell?_setCell_other _ _ _ _ (by simp)];exact World.cell?_setCell_same _ _ _ h1
theorem below_put3 {B:Nat}{w W:World}(h:Below B w W)(g:Nat)(hg:B≤g)(u v x:Value):Below B w (put3 W g u v x):=((h.setCell (p:=⟨g,0,none⟩) hg u).setCell (p:=⟨g,1,none⟩) hg v).setCell (p:=⟨g,2,none⟩) hg x
theorem own_put3 {W:World}{B e size n:Nat}{v:Value}{xs:List Value}(h:W.ownsRow B e size v n xs)(g:Nat)(hg:g<B)(a b c:Value):(put3 W g a b c).ownsRow B e size v n xs:=ownsRow_setCell_below (ownsRow_setCell_below (ownsRow_setCell_below h hg _) hg _) hg _
def LegAt (W:World)(g:Nat)(a:Int)(b:ByteArray)(c d e:Int):Prop:=W.cell? ⟨g,0,none⟩=some (.int .i64 a)∧W.cell? ⟨g,1,none⟩=some (.string b)∧W.cell? ⟨g,2,none⟩=some (.int .i64 c)∧W.cell? ⟨g,3,none⟩=some (.int .i64 d)∧W.cell? ⟨g,4,none⟩=some (.int .i64 e)
theorem lat_of {W:World}{g:Nat}{a:Int}{b:ByteArray}{c d e:Int}(h0:W.cell? ⟨g,0,none⟩=some (.int .i64 a))(h1:W.cell? ⟨g,1,none⟩=some (.string b))(h2:W.cell? ⟨g,2,none⟩=some (.int .i64 c))(h3:W.cell? ⟨g,3,none⟩=some (.int .i64 d))(h4:W.cell? ⟨g,4,none⟩=some (.int .i64 e)):LegAt W g a b c d e:=⟨h0,h1,h2,h3,h4⟩
theorem LegAt.later {W W':World}{g:Nat}{a:Int}{b:ByteArray}{c d e:Int}(h:LegAt W g a b c d e)(hb:Below W.heap.size W W'):LegAt W' g a b c d e:=⟨cell_later hb h.1,cell_later hb h.2.1,cell_later hb h.2.2.1,cell_later hb h.2.2.2.1,cell_later hb h.2.2.2.2⟩
theorem lat_new (W:World)(a:Int)(b:ByteArray)(c d e:Int)(t:TypeId):LegAt (W.alloc (Obj.cells #[.int .i64 a,.string b,.int .i64 c,.int .i64 d,.int .i64 e] t)) W.heap.size a b c d e:=
 have h:=vat_new W [.int .i64 a,.string b,.int .i64 c,.int .i64 d,.int .i64 e] t
 ⟨h 0 _ rfl,h 1 _ rfl,h 2 _ rfl,h 3 _ rfl,h 4 _ rfl⟩
theorem lat_put5 {W:World}{g:Nat}{a':Int}{b':ByteArray}{c' d' e':Int}(k:LegAt W g a' b' c' d' e')(a:Int)(b:ByteArray)(c d e:Int):LegAt (put5 W g (.int .i64 a) (.string b) (.int .i64 c) (.int .i64 d) (.int .i64 e)) g a b c d e:=by
 obtain⟨k0,k1,k2,k3,k4⟩:=k;unfold put5;have o:∀(W:World) (i j:Nat) (x:Value),i≠j→(W.setCell ⟨g,i,none⟩ x).cell? ⟨g,j,none⟩=W.cell? ⟨g,j,none⟩:=fun W i j x h=>World.cell?_setCell_other _ _ _ _ (by intro e;exact h (by injection e))
 refine⟨?_,?_,?_,?_,?_⟩
 ·rw[o _ _ _ _ (by decide),o _ _ _ _ (by decide),o _ _ _ _ (by decide),o _ _ _ _ (by decide)];exact World.cell?_setCell_same _ _ _ k0
 ·rw[o _ _ _ _ (by decide),o _ _ _ _ (by decide),o _ _ _ _ (by decide)];exact World.cell?_setCell_same _ _ _ (by rw[o _ _ _ _ (by decide)];exact k1)
 ·rw[o _ _ _ _ (by decide),o _ _ _ _ (by decide)];exact World.cell?_setCell_same _ _ _ (by rw[o _ _ _ _ (by decide),o _ _ _ _ (by decide)];exact k2)
 ·rw[o _ _ _ _ (by decide)];exact World.cell?_setCell_same _ _ _ (by rw[o _ _ _ _ (by decide),o _ _ _ _ (by decide),o _ _ _ _ (by decide)];exact k3)
 exact World.cell?_setCell_same _ _ _ (by rw[o _ _ _ _ (by decide),o _ _ _ _ (by decide),o _ _ _ _ (by decide),o _ _ _ _ (by decide)];exact k4)
theorem below_5 {B:Nat}{w W:World}(h:Below B w W)(g:Nat)(hg:B≤g)(a b c d e:Value):Below B w (((((W.setCell ⟨g,0,none⟩ a).setCell ⟨g,1,none⟩ b).setCell ⟨g,2,none⟩ c).setCell ⟨g,3,none⟩ d).setCell ⟨g,4,none⟩ e):=below_put5 h g hg a b c d e
theorem lat_5 {W:World}{g:Nat}{a':Int}{b':ByteArray}{c' d' e':Int}(k:LegAt W g a' b' c' d' e')(a:Int)(b:ByteArray)(c d e:Int):LegAt (((((W.setCell ⟨g,0,none⟩ (.int .i64 a)).setCell ⟨g,1,none⟩ (.string b)).setCell ⟨g,2,none⟩ (.int .i64 c)).setCell ⟨g,3,none⟩ (.int .i64 d)).setCell ⟨g,4,none⟩ (.int .i64 e)) g a b c d e:=lat_put5 k a b c d e
def ZL (W:World)(g:Nat):Prop:=LegAt W g 0 ⟨#[]⟩ 0 0 0∧∀i,W.frozen? ⟨g,i,none⟩=false
theorem ZL.lt {W:World}{g:Nat}(h:ZL W g):g<W.heap.size:=bLQ W ⟨g,0,none⟩ h.1.1
theorem ZL.later {W W':World}{g:Nat}(h:ZL W g)(hb:Below W.heap.size W W'):ZL W' g:=⟨h.1.later hb,fun i=>(hb.frozen (p:=⟨g,i,none⟩) h.lt).trans (h.2 i)⟩
theorem zl_new (W:World)(t:TypeId):ZL (W.alloc (Obj.cells #[.int .i64 0,.string ⟨#[]⟩,.int .i64 0,.int .i64 0,.int .i64 0] t)) W.heap.size:=⟨lat_new W 0 ⟨#[]⟩ 0 0 0 t,froz_new2 W _ t⟩
theorem zl_a {W W':World}{t:TypeId}(hb:Below (W.alloc (Obj.cells #[.int .i64 0,.string ⟨#[]⟩,.int .i64 0,.int .i64 0,.int .i64 0] t)).heap.size (W.alloc (Obj.cells #[.int .i64 0,.string ⟨#[]⟩,.int .i64 0,.int .i64 0,.int .i64 0] t)) W'):ZL W' W.heap.size:=(zl_new W t).later hb
theorem zl_d {W W':World}{t:TypeId}(hb:Below (W.drew.alloc (Obj.cells #[.int .i64 0,.string ⟨#[]⟩,.int .i64 0,.int .i64 0,.int .i64 0] t)).heap.size (W.drew.alloc (Obj.cells #[.int .i64 0,.string ⟨#[]⟩,.int .i64 0,.int .i64 0,.int .i64 0] t)) W'):ZL W' W.heap.size:=(zl_new W.drew t).later hb
def sliL:Value→Nat
 | .slice _ n _=>n
 | _=>0
theorem follow_any (S:Int)(ao:Option Addr)(n cap:Nat)(ao2:Option Addr)(n2 cap2:Nat)(ao3:Option Addr)(n3 cap3:Nat)(Ls:LkQ)(Hs:HoQ)(Ts:List (List Ru))(x y h:Int)(w:World)
 (hL:GS lnkE w (.slice ao n cap) Ls) (hH:GS hstE w (.slice ao2 n2 cap2) Hs) (hT:TS w (.slice ao3 n3 cap3) Ts) (hN:ntN S Ls Hs Ts=0) (hx:spB S (x,y)=true):
 Calls Tryz.prog 32 #[.agg #[.int .i64 S,.slice ao n cap,.slice ao2 n2 cap2,.slice ao3 n3 cap3],.agg #[.int .i64 x,.int .i64 y,.int .i64 h]] w fun e w'=>∃ao4 n4 cap4,e=.returned (.agg #[.int .i64 (frF Ls Hs Ts (x,y) h).1,.string (frF Ls Hs Ts (x,y) h).2.1,.slice ao4 n4 cap4])∧w'.ownsRow w.heap.size 101 3 (.slice ao4 n4 cap4) (frF Ls Hs Ts (x,y) h).2.2.length (cellsG hopE (frF Ls Hs Ts (x,y) h).2.2)∧Below w.heap.size w w':=by
 obtain⟨hTP,hTL,hTT⟩:=nt_0 hN;have hS:=(tp_0 hTP).1;have hnd:=(tp_0 hTP).2.2.2.1;have hTn:=hT.len;have hLn:=hL.len;have hl2:=(tp_0 hTP).2.1;have HTP:Hid (tpN S Ls Hs=0):=hTP;have HND:Hid ((spsL Ls).Nodup):=hnd;have HN1:Hid (n≤1000):=by show _≤_;omega
 have HTT:Hid (∀k,k<Ts.length→tbN (Ts.getD k [])=0):=hTT;have H36:Hid (n3≤6):=by show _≤_;omega
 have H3S:Hid ((n3:Int)=S):=by show _=_;omega
 have HLW:Hid (∀W,Below w.heap.size w W→GS lnkE W (.slice ao n cap) Ls):=fun W hb=>hL.later hb
 have HHW:Hid (∀W,Below w.heap.size w W→GS hstE W (.slice ao2 n2 cap2) Hs):=fun W hb=>hH.later hb
 have HTW:Hid (∀W,Below w.heap.size w W→TS W (.slice ao3 n3 cap3) Ts):=fun W hb=>hT.later hb
 obtain⟨F,hF⟩:∃F,F=frF Ls Hs Ts (x,y) h:=⟨_,rfl⟩;have HF:Hid (F=foF Ls Hs Ts 24 [((x,y),h)]):=hF;rw[←hF];have hX:=fbox_new w S (.slice ao n cap) (.slice ao2 n2 cap2) (.slice ao3 n3 cap3) x y h;obtain⟨w0,hw0⟩:∃W,W=fbox w S (.slice ao n cap) (.slice ao2 n2 cap2) (.slice ao3 n3 cap3) x y h:=⟨_,rfl⟩;rw[←hw0] at hX;have HX:Hid (FBox w w0 S (.slice ao n cap) (.slice ao2 n2 cap2) (.slice ao3 n3 cap3) x y h):=hX;have HW0:Hid (((w.alloc (Obj.cells #[.int .i64 S,.slice ao n cap,.slice ao2 n2 cap2,.slice ao3 n3 cap3] 28)).alloc (Obj.cells #[.int .i64 x,.int .i64 y,.int .i64 h] 101)).alloc (Obj.cells #[.int .i64 0,.string ⟨#[]⟩,.slice none 0 0] 98)=w0):=hw0.symm;have HXX:Hid (spB S (x,y)=true):=hx;clear hL hH hT hN hTP hTL hTT hS hnd hTn hLn hl2 hF hX hw0 hx;go_enter Tryz.func32,Tryz.ntmps32;go_upto_region 1 with fail;rw[HW0.out];obtain⟨_,⟨b0,b1,b2,b3⟩,i0,i1,i2,r0,r1,r2,f⟩:=HX.out;clear HW0 f
 go_wp2_with fail
 refine (peers_any ao n cap Ls _ (HLW.out _ HX.out.below) HND.out HN1.out).mono ?_;rintro e w1 ⟨B,M,rfl,hM,hPM,hb1⟩;have HM:Hid (MAt spotKey veS w1 B M):=hM;have HPM:Hid (PM M Ls):=hPM;have HX1:Hid (FBox w w1 S (.slice ao n cap) (.slice ao2 n2 cap2) (.slice ao3 n3 cap3) x y h):=HX.out.later HX.out.lt hb1;have hlB:B<w1.heap.size:=hM.lt;obtain⟨_,⟨b0,b1,b2,b3⟩,i0,i1,i2,r0,r1,r2,f⟩:=HX1.out;clear f hM hPM hb1 HX;go_wp2;have HLW1:Hid (w.heap.size+3≤w1.heap.size):=HX1.out.lt;have HO1:Hid ((w1.alloc (Obj.cells #[.int .i64 x,.int .i64 y,.int .i64 h] 101)).ownsRow w1.heap.size 101 3 (.slice (some ⟨w1.heap.size,0,none⟩) 1 1) ([((x,y),h)]:HpQ).length (cellsG hopE [((x,y),h)])):=
  World.ownsRow_lit (base:=w1.heap.size) (e:=101) (size:=3) w1 #[.int .i64 x,.int .i64 y,.int .i64 h] 1 (Nat.le_refl _) (by decide) rfl
 clear b0 b1 b2 b3 i0 i1 i2 r0 r1 r2
 go_loopw [6] (fun v wr=>∃l:HpQ,(0<l.length∧l.length≤24)∧wr.ownsRow w1.heap.size 101 3 v l.length (cellsG hopE l)∧F=foF Ls Hs Ts (25-l.length) l∧spB S (laH l).1=true∧Below w1.heap.size w1 wr) (fun v _=>25-sliL v)
 case atStart=>exact⟨[((x,y),h)],by simp,HO1.out,HF.out,HXX.out,(Below.refl _ _).alloc (Nat.le_refl _) _⟩
 case round =>
  obtain⟨l,⟨hl0,hl24⟩,hown,hFl,hsp,hBr⟩:=hrel;obtain⟨ao5,cap5,rfl⟩:=own_form hown;obtain⟨wo,hwo⟩:∃X,X=wr:=⟨_,rfl⟩;subst hwo;obtain⟨m,hm⟩:∃m,m=l.length:=⟨_,rfl⟩;have HML:Hid (l.length=m):=hm.symm;rw[←hm] at hown hl0 hl24 hFl;rw[←hm];have HOWN:Hid (wo.ownsRow w1.heap.size 101 3 (.slice ao5 m cap5) m (cellsG hopE l)):=hown;have HFL:Hid (F=foF Ls Hs Ts (25-l.length) l):=by
   show _=_;rw[←hm];exact hFl
  have HL24:Hid (l.length≤24):=by
   show _≤_;omega
  have HBr:Hid (Below w1.heap.size w1 wo):=hBr;have HXo:Hid (FBox w wo S (.slice ao n cap) (.slice ao2 n2 cap2) (.slice ao3 n3 cap3) x y h):=HX1.out.later HX1.out.lt hBr;have HMo:Hid (MAt spotKey veS wo B M):=HM.out.later hBr;obtain⟨_,_,_,e5,hGn,hGm,_,hGa⟩:=(own_GS (E:=hopE) (L:=l) (by rw[←hm];exact hown):GS hopE wo (.slice ao5 m cap5) l).form;cases e5;obtain⟨g5,o5,hao5,hc5,_⟩:=hGa hl0;subst hao5;obtain⟨p0,p1,p2,hkl,hLk,c0,c1,c2⟩:=hop_at hc5 HML.out (show m-1<m by omega);have hla:laH l=((p0,p1),p2):=by
   have e:laH l=l[m-1]:=by
    unfold laH;rw[←hm];simp[List.getD,hkl]
   rw[e,hLk]
  have HLA:Hid (laH l=((p0,p1),p2)):=hla;rw[hla] at hsp;have hsp2:=sp_of hsp;simp only at hsp2;have HS1:Hid (1≤p0):=hsp2.1;have HS2:Hid (p0≤(n3:Int)):=by
   show _≤_;rw[H3S.out];exact hsp2.2.1
  obtain⟨G0,hG0⟩:∃G,G=lgT Ls Hs (taT Ts p0) ((p0,p1),p2):=⟨_,rfl⟩;obtain⟨G,hG⟩:∃G,G=afL G0 l:=⟨_,rfl⟩;have HGL:Hid (G=afL (lgT Ls Hs (taT Ts (laH l).1.1) (laH l)) l):=by
   show _=_;rw[hG,hG0,hla]
  have HGN:Hid (G.2.1.size≤1000000):=by
   show _≤_;rw[hG,hG0];exact af_name (lg_name HTP.out _ _)
  have HLEG:Hid (∀W,Below wo.heap.size wo W→Calls Tryz.prog 56 #[.agg #[.int .i64 S,.slice ao n cap,.slice ao2 n2 cap2,.slice ao3 n3 cap3],.map (some B),.agg #[.int .i64 p0,.int .i64 p1,.int .i64 p2]] W fun e w'=>e=.returned (legV G0)∧Below W.heap.size W w'):=fun W hW=>by
   have hx:=HXo.out.below.trans (hW.mono HXo.out.below.size);rw[hG0];exact leg_any S ao n cap ao2 n2 cap2 ao3 n3 cap3 Ls Hs Ts B M p0 p1 p2 W (HHW.out W hx) (HTW.out W hx) (HMo.out.later hW) HPM.out HTT.out HS1.out HS2.out H36.out
  have HAFT:Hid (∀W,Below wo.heap.size wo W→Calls Tryz.prog 57 #[legV G0,.slice (some ⟨g5,o5,none⟩) m cap5] W fun e w'=>e=.returned (legV G)∧Below W.heap.size W w'):=fun W hW=>by
   rw[hG];exact after_any G0 (some ⟨g5,o5,none⟩) m cap5 l W ((own_GS (E:=hopE) (L:=l) (by rw[HML.out];exact HOWN.out):GS hopE wo (.slice (some ⟨g5,o5,none⟩) m cap5) l).later hW)
  clear hG hG0;obtain⟨a0,a1,⟨a2,a3⟩,a4⟩:=G0;obtain⟨k0,k1,⟨k2,k3⟩,k4⟩:=G;unfold legV at HLEG HAFT
  dsimp only at HLEG HAFT HGN
  have hmi:IntKind.i64.wrap ((m:Int)-1)=((m-1:Nat):Int):=by
   rw[show (m:Int)-1=((m-1:Nat):Int) by omega];exact wrap_small (by omega) (by omega)
  have mb0:(0:Int)≤((m-1:Nat):Int):=by omega
  have mb1:((m-1:Nat):Int)<(m:Int):=by omega
  obtain⟨_,⟨b0,b1,b2,b3⟩,i0,i1,i2,r0,r1,r2,f⟩:=HXo.out;have hlw:w.heap.size<wo.heap.size:=bLQ _ _ b0;have hlg:g5<wo.heap.size:=bLQ _ _ c0;have HSW:Hid (∀W,Below wo.heap.size wo W→W.cell? ⟨w.heap.size,0,none⟩=some (.int .i64 S)∧W.cell? ⟨w.heap.size,1,none⟩=some (.slice ao n cap)∧W.cell? ⟨w.heap.size,2,none⟩=some (.slice ao2 n2 cap2)∧W.cell? ⟨w.heap.size,3,none⟩=some (.slice ao3 n3 cap3)∧W.cell? ⟨g5,o5+(m-1)*3,none⟩=some (.int .i64 p0)∧W.cell? ⟨g5,o5+(m-1)*3+1,none⟩=some (.int .i64 p1)∧W.cell? ⟨g5,o5+(m-1)*3+2,none⟩=some (.int .i64 p2)):=fun W hW=>⟨cell_later hW b0,cell_later hW b1,cell_later hW b2,cell_later hW b3,cell_later hW c0,cell_later hW c1,cell_later hW c2⟩
  clear hown hFl hsp hBr hm hGn hGm hGa hc5 hLk hla hsp2 f HO1 HF HXX HX1 HM i0 i1 i2 r0 r1 r2;go_upto_region 3 with fail
  go_cut [7] from 14 to 39 (fun p w'=>∃g,p=.pointer (some ⟨g,0,none⟩)∧(LegAt w' g k0 k1 k2 k3 k4∧wo.heap.size≤g)∧Below wo.heap.size wo w')
  case first =>
   go_region_held3 (fun W=>W.cell? ⟨w.heap.size,0,none⟩=some (.int .i64 S)∧W.cell? ⟨w.heap.size,1,none⟩=some (.slice ao n cap)∧W.cell? ⟨w.heap.size,2,none⟩=some (.slice ao2 n2 cap2)∧W.cell? ⟨w.heap.size,3,none⟩=some (.slice ao3 n3 cap3)∧W.cell? ⟨g5,o5+(m-1)*3,none⟩=some (.int .i64 p0)∧W.cell? ⟨g5,o5+(m-1)*3+1,none⟩=some (.int .i64 p1)∧W.cell? ⟨g5,o5+(m-1)*3+2,none⟩=some (.int .i64 p2))
    (first | (with_reducible assumption) | (with_reducible exact HSW.out _ (Below.drew (Below.refl _ _))) | (with_reducible exact HSW.out _ ((Below.drew (Below.refl _ _)).alloc (Nat.le_refl _) _)) | (with_reducible exact HSW.out _ ((Below.refl _ _).alloc (Nat.le_refl _) _).drew) | (with_reducible exact HSW.out _ HBX.out) | (with_reducible exact HSW.out _ (HBX.out.alloc HBX.out.size _)) | (with_reducible exact HSW.out _ HBY.out) | (with_reducible exact HSW.out _ (HBY.out.alloc HBY.out.size _)) | (with_reducible exact HSW.out _ (below_5 HBY.out _ (Nat.le_refl _) _ _ _ _ _)) | (with_reducible exact HSW.out _ (below_5 HBY.out _ HBX.out.size _ _ _ _ _)))
    (first
     | (go_at_call 56;refine (HLEG.out _ (by first | exact Below.drew (Below.refl _ _) | exact (Below.drew (Below.refl _ _)).alloc (Nat.le_refl _) _)).mono ?_;rintro e w' ⟨rfl,hb⟩;have HBX:Hid (Below wo.heap.size wo w'):=(by first | exact bdrew hb | exact balloc hb);(try (have HZ:Hid (ZL w' wo.heap.size):=zl_d hb));clear hb)
     | (go_at_call 57;refine (HAFT.out _ (by first | exact HBX.out | exact HBX.out.alloc HBX.out.size _)).mono ?_;rintro e w'' ⟨rfl,hb⟩;have HBY:Hid (Below wo.heap.size wo w''):=(by first | exact HBX.out.trans (hb.mono HBX.out.size) | exact (HBX.out.alloc HBX.out.size _).trans (hb.mono (HBX.out.alloc HBX.out.size _).size));(try (have hbc:=HZ.out.later hb;obtain⟨⟨y0,y1,y2,y3,y4⟩,yf⟩:=hbc;have yf0:=yf 0;have yf1:=yf 1;have yf2:=yf 2;have yf3:=yf 3;have yf4:=yf 4;clear yf));(try (have hbc:=zl_a hb;obtain⟨⟨y0,y1,y2,y3,y4⟩,yf⟩:=hbc;have yf0:=yf 0;have yf1:=yf 1;have yf2:=yf 2;have yf3:=yf 3;have yf4:=yf 4;clear yf));clear hb))
   all_goals (go_wp2_with fail;go_meet)
   all_goals refine⟨_,rfl,?_⟩
   all_goals first
    | (with_reducible exact⟨⟨lat_new _ _ _ _ _ _ _,HBY.out.size⟩,HBY.out.alloc HBY.out.size _⟩)
    | (with_reducible exact⟨⟨lat_5 (lat_of y0 y1 y2 y3 y4) _ _ _ _ _,Nat.le_refl _⟩,below_5 HBY.out _ (Nat.le_refl _) _ _ _ _ _⟩)
    | (with_reducible exact⟨⟨lat_5 (lat_of y0 y1 y2 y3 y4) _ _ _ _ _,HBX.out.size⟩,below_5 HBY.out _ HBX.out.size _ _ _ _ _⟩)
  case rest =>
   obtain⟨g,rfl,⟨⟨d0,d1,d2,d3,d4⟩,hgo⟩,hbw⟩:=hcut;have HXc:Hid (FBox w wc S (.slice ao n cap) (.slice ao2 n2 cap2) (.slice ao3 n3 cap3) x y h):=HXo.out.later HXo.out.lt hbw;have HOc:Hid (wc.ownsRow w1.heap.size 101 3 (.slice (some ⟨g5,o5,none⟩) m cap5) m (cellsG hopE l)):=own_below HOWN.out hbw;have HBc:Hid (Below w1.heap.size w1 wc):=HBr.out.trans (hbw.mono HBr.out.size);obtain⟨hBw,⟨b0,b1,b2,b3⟩,i0,i1,i2,r0,r1,r2,f⟩:=HXc.out;have HBw:Hid (Below w.heap.size w wc):=hBw;have f0:=f 0;have f1:=f 1;have f2:=f 2;have hlw1:w.heap.size+3≤w1.heap.size:=HLW1.out;have hs1c:w1.heap.size≤wc.heap.size:=HBc.out.size;have HLT:Hid (LegAt wc g k0 k1 k2 k3 k4):=⟨d0,d1,d2,d3,d4⟩;clear hbw f hBw HXo HOWN HMo HBr HSW HLEG HAFT hgo c0 c1 c2;by_cases hk:k0=0
   ·subst hk;have HFN:Hid (F=foF Ls Hs Ts (25-(l++[((k2,k3),k4)]).length) (l++[((k2,k3),k4)])):=by
     show _=_;rw[HFL.out];exact fo_on HL24.out HGL.out rfl
    have HG4:Hid (afL (lgT Ls Hs (taT Ts (laH l).1.1) (laH l)) l=lgT Ls Hs (taT Ts (laH l).1.1) (laH l)∧(lgT Ls Hs (taT Ts (laH l).1.1) (laH l)).1=0∧l.length≠24):=by
     have h:=af_0 (g:=lgT Ls Hs (taT Ts (laH l).1.1) (laH l)) (l:=l) (by rw[←HGL.out]);exact⟨h.1,h.2.1,h.2.2.1⟩
    have HSPN:Hid (spB S (laH (l++[((k2,k3),k4)])).1=true):=by
     show _=_;rw[la_app];have h2:=lg_sp HTP.out HG4.out.2.1;rw[←HG4.out.1,←HGL.out] at h2;exact h2
    have hm23:m≤23:=by
     have h1:=HG4.out.2.2;rw[HML.out] at h1;omega
    obtain⟨j0,hj,hy0,hy1,hy2⟩:=info_parts hop_info;have hlgc:g<wc.heap.size:=bLQ _ _ d0;clear r0 r1 r2 f0 f1 f2 HG4
    go_wp2_with (at_builtin;refine wpList_append_own _ rfl _ _ 96 rfl w1.heap.size 101 j0 (.agg #[.int .i64 0,.int .i64 0,.int .i64 0]) 3 24 Tryz.underlying96 hj hy0 hy1 hy2 hop_zero (by decide) _ _ _ rfl (HOc.out.alloc _) ⟨wc.heap.size,0,none⟩ 1 1 [.int .i64 k2,.int .i64 k3,.int .i64 k4] rfl rfl ?m1 ?m2 ?m3 ?m4 ?m5 ?_)
    case m1 =>
     intro j u hj
     match j,hj with
     | 0,hj=>simp at hj;subst hj;simp[Addr.add]
     | 1,hj=>simp at hj;subst hj;simp[Addr.add]
     | 2,hj=>simp at hj;subst hj;simp[Addr.add]
    case m2=>intro u hu;simp at hu;rcases hu with rfl | rfl | rfl <;> rfl
    case m3=>unfold maxLen;omega
    case m4=>omega
    case m5=>simp;omega
    intro v5 w5 hown5 hgrow5 _;obtain⟨ao6,cap6,rfl⟩:=own_form hown5;have hb5:Below w1.heap.size wc w5:=((Below.refl _ wc).alloc hs1c _).grown hgrow5 (by simp;omega) (fun g hg=>(HOc.out.lt g hg).1);have HB5:Hid (Below w1.heap.size w1 w5):=HBc.out.trans hb5;have HO5:Hid (w5.ownsRow w1.heap.size 101 3 (.slice ao6 (m+1) cap6) (l++[((k2,k3),k4)]).length (cellsG hopE (l++[((k2,k3),k4)]))):=by
     show World.ownsRow _ _ _ _ _ _ _;rw[List.length_append,HML.out,cellsG_app,cellsG_one];exact hown5
    have HLL:Hid (0<(l++[((k2,k3),k4)]).length∧(l++[((k2,k3),k4)]).length≤24):=by
     rw[List.length_append,HML.out];exact⟨by simp,by simp;omega⟩
    clear hb5 hgrow5 hown5;go_wp2;go_roundw
    case rel=>exact⟨l++[((k2,k3),k4)],HLL.out,HO5.out,HFN.out,HSPN.out,HB5.out⟩
    case measure=>simp[sliL];omega
   have HF2:Hid (F=(k0,k1,l)):=by
    show _=_;rw[HFL.out];exact fo_end HL24.out HGL.out hk
   have ek:(k0 != 0)=true:=by simp[hk]
   have hlgc:g<wc.heap.size:=bLQ _ _ d0;clear hk d2 d3 d4 r0 r1 r2 f0 f1 f2;go_upto_region 5 with fail
   go_region_with (go_at_call 53;refine (clone_any k1 _ HGN.out).mono ?_;rintro e w3 ⟨rfl,hb3⟩;have hbz:=bdrew hb3;have HO3:Hid (w3.ownsRow w1.heap.size 101 3 (.slice (some ⟨g5,o5,none⟩) m cap5) m (cellsG hopE l)):=own_below HOc.out hbz;have HX3:Hid (FBox w w3 S (.slice ao n cap) (.slice ao2 n2 cap2) (.slice ao3 n3 cap3) x y h):=HXc.out.later HXc.out.lt hbz;have hld:=HLT.out.later hbz;obtain⟨d0,d1,d2,d3,d4⟩:=hld;obtain⟨hBw3,⟨b0,b1,b2,b3⟩,i0,i1,i2,r0,r1,r2,f⟩:=HX3.out;have HBw3:Hid (Below w.heap.size w w3):=hBw3;have f0:=f 0;have f1:=f 1;have f2:=f 2;clear hb3 hbz f hBw3)
   all_goals
    go_wp2;refine bodyPost_ret (v:=.agg #[.int .i64 k0,.string k1,.slice (some ⟨g5,o5,none⟩) m cap5]) (by simp[results,Tryz.results32,go_sem, *]) rfl ⟨_,_,_,by rw[HF2.out],?_,below_put3 HBw3.out _ (by omega) _ _ _⟩;rw[HF2.out];exact own_mono (B:=w1.heap.size) (by rw[HML.out];exact own_put3 HO3.out _ (by omega) _ _ _) (by have:=HLW1.out;omega)
end
section
open Go.ChangeShapes Go.WideShapes Go.ChangeAt Go.RowKit Go.Joins
def legE:Enc (Int×ByteArray×((Int×Int)×Int)) where
 c:=fun x=>[.int .i64 x.1,.string x.2.1,.int .i64 x.2.2.1.1,.int .i64 x.2.2.1.2,.int .i64 x.2.2.2]
 n:=5
 len:=fun _=>rfl
 pos:=by decide
 one:=by
  intro x u hu;simp at hu
  rcases hu with rfl | rfl | rfl | rfl | rfl <;> rfl
theorem leg_cells {w:World}{g o:Nat}{x0:Int}{x1:ByteArray}{x2 x3 x4:Int}(h:VAt w g o (legE.c (x0,x1,((x2,x3),x4)))):w.cell? ⟨g,o,none⟩=some (.int .i64 x0)∧w.cell? ⟨g,o+1,none⟩=some (.string x1)∧w.cell? ⟨g,o+2,none⟩=some (.int .i64 x2)∧w.cell? ⟨g,o+3,none⟩=some (.int .i64 x3)∧w.cell? ⟨g,o+4,none⟩=some (.int .i64 x4):=
 ⟨h 0 _ rfl,h 1 _ rfl,h 2 _ rfl,h 3 _ rfl,h 4 _ rfl⟩
def legB (a b:Int×ByteArray×((Int×Int)×Int)):Bool:=(a.1==b.1)&&((a.2.1==b.2.1)&&((a.2.2.1.1==b.2.2.1.1)&&((a.2.2.1.2==b.2.2.1.2)&&((a.2.2.2==b.2.2.2)))))
theorem leg_ways (x0:Int)(x1:ByteArray)(x2 x3 x4 y0:Int)(y1:ByteArray)(y2 y3 y4:Int):
 ((x0==y0)=false∧legB (x0,x1,((x2,x3),x4)) (y0,y1,((y2,y3),y4))=false) ∨
 ((x0==y0)=true∧(x1.toList==y1.toList)=false∧legB (x0,x1,((x2,x3),x4)) (y0,y1,((y2,y3),y4))=false) ∨
 ((x0==y0)=true∧(x1.toList==y1.toList)=true∧(x2==y2)=false∧legB (x0,x1,((x2,x3),x4)) (y0,y1,((y2,y3),y4))=false) ∨
 ((x0==y0)=true∧(x1.toList==y1.toList)=true∧(x2==y2)=true∧(x3==y3)=false∧legB (x0,x1,((x2,x3),x4)) (y0,y1,((y2,y3),y4))=false) ∨
 ((x0==y0)=true∧(x1.toList==y1.toList)=true∧(x2==y2)=true∧(x3==y3)=true∧(x4==y4)=false∧legB (x0,x1,((x2,x3),x4)) (y0,y1,((y2,y3),y4))=false) ∨
 ((x0==y0)=true∧(x1.toList==y1.toList)=true∧(x2==y2)=true∧(x3==y3)=true∧(x4==y4)=true∧legB (x0,x1,((x2,x3),x4)) (y0,y1,((y2,y3),y4))=true):=by
 have e:legB (x0,x1,((x2,x3),x4)) (y0,y1,((y2,y3),y4))=((x0==y0)&&((x1.toList==y1.toList)&&((x2==y2)&&((x3==y3)&&((x4==y4)))))):=by simp only[legB,beq_toListBytes]
 rw[e];cases h0:(x0==y0)
 ·simp
 skip;cases h1:(x1.toList==y1.toList)
 ·simp
 skip;cases h2:(x2==y2)
 ·simp
 skip;cases h3:(x3==y3)
 ·simp
 skip;cases h4:(x4==y4)
 ·simp
 skip;simp
theorem leg_info:(Tryz.prog.info? 137).map (fun i=>(i.zero,i.size,i.bytes))=some (some (.agg #[.int .i64 0,.string ByteArray.empty,.int .i64 0,.int .i64 0,.int .i64 0]),5,48):=by kernel_rfl
theorem leg_zero:(Value.agg #[.int .i64 0,.string ByteArray.empty,.int .i64 0,.int .i64 0,.int .i64 0]).cells.size=5:=by simp[Value.cells]
end
section
open Go.RowKit
def LGs (W:World)(B:Nat)(v:Value)(f:Nat→Nat→Lg)(k:Nat):Prop:=
 ∃vs:List Value,W.ownsRow B 171 1 v k vs∧∀i,i<k→∃u,vs[i]?=some u∧W.ownsRow B 137 5 u 16 (cellsG legE ((List.range 16).map (f i)))
theorem LGs.later {W W':World}{B:Nat}{v:Value}{f:Nat→Nat→Lg}{k:Nat}(h:LGs W B v f k)(hb:Below W.heap.size W W'):LGs W' B v f k:=by
 obtain⟨vs,h1,h2⟩:=h;refine⟨vs,own_below h1 hb,fun i hi=>?_⟩;obtain⟨u,e,h3⟩:=h2 i hi;exact⟨u,e,own_below h3 hb⟩
theorem LGs.mono {W:World}{B B':Nat}{v:Value}{f:Nat→Nat→Lg}{k:Nat}(h:LGs W B v f k)(hB:B'≤B):LGs W B' v f k:=by
 obtain⟨vs,h1,h2⟩:=h;refine⟨vs,own_mono h1 hB,fun i hi=>?_⟩;obtain⟨u,e,h3⟩:=h2 i hi;exact⟨u,e,own_mono h3 hB⟩
theorem lgs_nil (W:World)(B:Nat)(f:Nat→Nat→Lg):LGs W B (.slice none 0 0) f 0:=⟨[],World.ownsRow_nil _ _ _ _,fun i hi=>by omega⟩
theorem LGs.push {W W':World}{B:Nat}{v v' u:Value}{f:Nat→Nat→Lg}{k:Nat}(h:LGs W B v f k)(hu:W.ownsRow B 137 5 u 16 (cellsG legE ((List.range 16).map (f k))))(hg:W.grownBy W' v.ownBlock)(hv:∀vs,W.ownsRow B 171 1 v k vs→W'.ownsRow B 171 1 v' (k+1) (vs++[u])):LGs W' B v' f (k+1):=by
 obtain⟨vs,h1,h2⟩:=h;have hl:vs.length=k:=by simpa using h1.1
 refine⟨vs++[u],hv vs h1,fun i hi=>?_⟩;by_cases e:i=k
 ·subst e;refine⟨u,by rw[List.getElem?_append_right (by omega),hl];simp,hu.kept hg ?_⟩;exact own_apart hu h1 (by decide)
 obtain⟨y,e1,h3⟩:=h2 i (by omega);refine⟨y,by rw[List.getElem?_append_left (by omega)];exact e1,h3.kept hg ?_⟩;exact own_apart h3 h1 (by decide)
theorem own_uniq {W:World}{B B' e size n:Nat}{v:Value}{xs ys:List Value}(h:W.ownsRow B e size v n xs)(k:W.ownsRow B' e size v n ys):xs=ys:=by
 rcases h.2 with ⟨rfl,rfl⟩ | ⟨g,cap,cur,rfl,_,hg,_,_,_,ht⟩
 ·have h1:=h.1;have h2:=k.1;simp at h1 h2;rw[h1,h2]
 rcases k.2 with ⟨h,_⟩ | ⟨g',cap',cur',e,_,hg',_,_,_,ht'⟩
 ·simp at h
 simp only[Value.slice.injEq,Option.some.injEq,Addr.mk.injEq,and_true,true_and] at e;obtain⟨rfl,rfl⟩:=e;rw[hg] at hg';cases hg';rw[←ht,←ht']
theorem legs_info:(Tryz.prog.info? 171).map (fun i=>(i.zero,i.size,i.bytes))=some (some (.slice none 0 0),1,24):=by kernel_rfl
theorem range_succ_map {α:Type}(f:Nat→α)(h:Nat):(List.range (h+1)).map f=(List.range h).map f++[f h]:=by simp[List.range_succ]
theorem legs_any (S:Int)(ao:Option Addr)(n cap:Nat)(ao2:Option Addr)(n2 cap2:Nat)(ao3:Option Addr)(n3 cap3:Nat)(Ls:LkQ)(Hs:HoQ)(Ts:List (List Ru))(w:World)
 (hL:GS lnkE w (.slice ao n cap) Ls) (hH:GS hstE w (.slice ao2 n2 cap2) Hs) (hT:TS w (.slice ao3 n3 cap3) Ts) (hN:ntN S Ls Hs Ts=0):
 Calls Tryz.prog 58 #[.agg #[.int .i64 S,.slice ao n cap,.slice ao2 n2 cap2,.slice ao3 n3 cap3]] w fun e w'=>∃v,e=.returned v∧LGs w' w.heap.size v (fun (a h:Nat)=>lgT Ls Hs (taT Ts ((a:Int)+1)) (((a:Int)+1,0),(h:Int))) n3∧Below w.heap.size w w':=by
 obtain⟨hTP,hTL,hTT⟩:=nt_0 hN;have hS:=(tp_0 hTP).1;have hnd:=(tp_0 hTP).2.2.2.1;have hTn:=hT.len;have hLn:=hL.len;have hl2:=(tp_0 hTP).2.1;have H36:Hid (n3≤6):=by show _≤_;omega
 have h36:n3≤6:=H36.out;obtain rfl:S=(n3:Int):=by omega
 have HND:Hid ((spsL Ls).Nodup):=hnd;have HN1:Hid (n≤1000):=by show _≤_;omega
 have HTT:Hid (∀k,k<Ts.length→tbN (Ts.getD k [])=0):=hTT;have HLW:Hid (∀W,Below w.heap.size w W→GS lnkE W (.slice ao n cap) Ls):=fun W hb=>hL.later hb
 have HHW:Hid (∀W,Below w.heap.size w W→GS hstE W (.slice ao2 n2 cap2) Hs):=fun W hb=>hH.later hb
 have HTW:Hid (∀W,Below w.heap.size w W→TS W (.slice ao3 n3 cap3) Ts):=fun W hb=>hT.later hb
 obtain⟨f,hf⟩:∃f:Nat→Nat→Lg,f=fun (a h:Nat)=>lgT Ls Hs (taT Ts ((a:Int)+1)) (((a:Int)+1,0),(h:Int)):=⟨_,rfl⟩
 have HF:Hid (∀a h:Nat,lgT Ls Hs (taT Ts ((a:Int)+1)) (((a:Int)+1,0),(h:Int))=f a h):=fun a h=>by rw[hf]
 rw[←hf];have hX:=nebox_new w (n3:Int) (.slice ao n cap) (.slice ao2 n2 cap2) (.slice ao3 n3 cap3) 28;have hB0:Below w.heap.size w (w.alloc (Obj.cells #[.int .i64 (n3:Int),.slice ao n cap,.slice ao2 n2 cap2,.slice ao3 n3 cap3] 28)):=(Below.refl _ _).alloc (Nat.le_refl _) _;obtain⟨w0,hw0⟩:∃W,w.alloc (Obj.cells #[.int .i64 (n3:Int),.slice ao n cap,.slice ao2 n2 cap2,.slice ao3 n3 cap3] 28)=W:=⟨_,rfl⟩;rw[hw0] at hX hB0;have HX:Hid (NeBox w0 w.heap.size (n3:Int) (.slice ao n cap) (.slice ao2 n2 cap2) (.slice ao3 n3 cap3)):=hX;have HB0:Hid (Below w.heap.size w w0):=hB0;have HW0:Hid (w.alloc (Obj.cells #[.int .i64 (n3:Int),.slice ao n cap,.slice ao2 n2 cap2,.slice ao3 n3 cap3] 28)=w0):=hw0;clear hL hH hT hN hTP hTL hTT hS hnd hTn hLn hl2 hf hX hB0 hw0;go_enter Tryz.func58,Tryz.ntmps58;go_upto_region 1 with fail;rw[HW0.out];clear HW0;obtain⟨b0,b1,b2,b3⟩:=HX.out
 go_wp2_with fail
 refine (peers_any ao n cap Ls _ (HLW.out _ HB0.out) HND.out HN1.out).mono ?_;rintro e w1 ⟨B,M,rfl,hM,hPM,hb1⟩;have HM:Hid (MAt spotKey veS w1 B M):=hM;have HPM:Hid (PM M Ls):=hPM;have HX1:Hid (NeBox w1 w.heap.size (n3:Int) (.slice ao n cap) (.slice ao2 n2 cap2) (.slice ao3 n3 cap3)):=HX.out.later hb1;have HB1:Hid (Below w.heap.size w w1):=HB0.out.trans (hb1.mono HB0.out.size);clear hM hPM hb1 HX HB0 b0 b1 b2 b3;go_wp2
 go_loopw [4,5] (fun v i wr=>∃k:Nat,k≤n3∧i=.int .i64 ((k:Int)+1)∧LGs wr w1.heap.size v f k∧Below w1.heap.size w1 wr) (fun _ i _=>n3+1-(intOf i).toNat)
 case atStart=>exact⟨0,by omega,rfl,lgs_nil _ _ _,Below.refl _ _⟩
 case round =>
  obtain⟨k,hk,rfl,hG,hB⟩:=hrel;obtain⟨v4,hv4⟩:∃X,X=u4:=⟨_,rfl⟩;subst hv4;obtain⟨wo,hwo⟩:∃X,X=wr:=⟨_,rfl⟩;subst hwo;have HG:Hid (LGs wo w1.heap.size v4 f k):=hG;have HB:Hid (Below w1.heap.size w1 wo):=hB;have HBw:Hid (Below w.heap.size w wo):=HB1.out.trans (hB.mono HB1.out.size);have HXr:Hid (NeBox wo w.heap.size (n3:Int) (.slice ao n cap) (.slice ao2 n2 cap2) (.slice ao3 n3 cap3)):=HX1.out.later hB;have HMr:Hid (MAt spotKey veS wo B M):=HM.out.later hB;obtain⟨b0,b1,b2,b3⟩:=HXr.out;clear hG hB;by_cases hlt:k<n3
  ·have dk:decide (((k:Int)+1)≤(n3:Int))=true:=by simp;omega
   have hle:(k:Int)+1≤(n3:Int):=by omega
   go_upto_region 7 with fail;clear dk hle;go_wp2
   go_loopw [6,19] (fun u i W=>∃h:Nat,h≤16∧i=.int .i64 h∧W.ownsRow wo.heap.size 137 5 u h (cellsG legE ((List.range h).map (f k)))∧Below wo.heap.size wo W) (fun _ i _=>16-(intOf i).toNat)
   case atStart=>exact⟨0,by omega,rfl,World.ownsRow_nil _ _ _ _,Below.refl _ _⟩
   case round =>
    obtain⟨h,hh,rfl,hown,hBi⟩:=hrel;obtain⟨ao6,cap6,rfl⟩:=own_form hown;have HOWN:Hid (wr.ownsRow wo.heap.size 137 5 (.slice ao6 h cap6) h (cellsG legE ((List.range h).map (f k)))):=hown;have HBi:Hid (Below wo.heap.size wo wr):=hBi;have HBw2:Hid (Below w.heap.size w wr):=HBw.out.trans (hBi.mono HBw.out.size);obtain⟨b0,b1,b2,b3⟩:=HXr.out.later hBi;clear hown;by_cases hlt16:h<16
    ·obtain⟨G,hG⟩:∃G,G=f k h:=⟨_,rfl⟩;have HLEG:Hid (Calls Tryz.prog 56 #[.agg #[.int .i64 (n3:Int),.slice ao n cap,.slice ao2 n2 cap2,.slice ao3 n3 cap3],.map (some B),.agg #[.int .i64 ((k:Int)+1),.int .i64 0,.int .i64 (h:Int)]] wr fun e w'=>e=.returned (legV G)∧Below wr.heap.size wr w'):=by
      have h:=leg_any (n3:Int) ao n cap ao2 n2 cap2 ao3 n3 cap3 Ls Hs Ts B M ((k:Int)+1) 0 (h:Int) wr (HHW.out _ HBw2.out) (HTW.out _ HBw2.out) (HMr.out.later hBi) HPM.out HTT.out (by omega) (by omega) H36.out;rw[HF.out,←hG] at h;exact h
     have HG5:Hid ((List.range (h+1)).map (f k)=(List.range h).map (f k)++[G]):=by
      show _=_;rw[range_succ_map,hG]
     clear hBi hG;obtain⟨x0,x1,⟨x2,x3⟩,x4⟩:=G;unfold legV at HLEG
     dsimp only at HLEG
     go_wp2_with fail
     refine HLEG.out.mono ?_;rintro e w3 ⟨rfl,hb3⟩;have HO3:Hid (w3.ownsRow wo.heap.size 137 5 (.slice ao6 h cap6) h (cellsG legE ((List.range h).map (f k)))):=own_below HOWN.out hb3;have HB3:Hid (Below wo.heap.size wo w3):=HBi.out.trans (hb3.mono HBi.out.size);have hs3:wo.heap.size≤w3.heap.size:=HB3.out.size;obtain⟨j0,hj,hy0,hy1,hy2⟩:=info_parts leg_info;clear hb3 b0 b1 b2 b3 HLEG
     go_wp2_with (at_builtin;refine wpList_append_own _ rfl _ _ 171 rfl wo.heap.size 137 j0 (.agg #[.int .i64 0,.string ByteArray.empty,.int .i64 0,.int .i64 0,.int .i64 0]) 5 48 Tryz.underlying171 hj hy0 hy1 hy2 leg_zero (by decide) _ _ _ rfl (HO3.out.alloc _) ⟨w3.heap.size,0,none⟩ 1 1 [.int .i64 x0,.string x1,.int .i64 x2,.int .i64 x3,.int .i64 x4] rfl rfl ?m1 ?m2 ?m3 ?m4 ?m5 ?_)
     case m1 =>
      intro j u hj
      match j,hj with
      | 0,hj=>simp at hj;subst hj;simp[Addr.add]
      | 1,hj=>simp at hj;subst hj;simp[Addr.add]
      | 2,hj=>simp at hj;subst hj;simp[Addr.add]
      | 3,hj=>simp at hj;subst hj;simp[Addr.add]
      | 4,hj=>simp at hj;subst hj;simp[Addr.add]
     case m2=>intro u hu;simp at hu;rcases hu with rfl | rfl | rfl | rfl | rfl <;> rfl
     case m3=>unfold maxLen;omega
     case m4=>omega
     case m5=>simp;omega
     intro v5 w5 hown5 hgrow5 _;obtain⟨ao7,cap7,rfl⟩:=own_form hown5;have hb5:Below wo.heap.size w3 w5:=((Below.refl _ w3).alloc hs3 _).grown hgrow5 (by simp;omega) (fun g hg=>(HO3.out.lt g hg).1);have HB5:Hid (Below wo.heap.size wo w5):=HB3.out.trans hb5;have HO5:Hid (w5.ownsRow wo.heap.size 137 5 (.slice ao7 (h+1) cap7) (h+1) (cellsG legE ((List.range (h+1)).map (f k)))):=by
      show World.ownsRow _ _ _ _ _ _ _;rw[HG5.out,cellsG_app,cellsG_one];exact hown5
     clear hb5 hgrow5 hown5;go_wp2;go_roundw
     case rel=>exact⟨h+1,by omega,by go_num,HO5.out,HB5.out⟩
     case measure=>simp[intOf];omega
    obtain rfl:h=16:=by omega
    have HG3:Hid (LGs wr w1.heap.size v4 f k):=HG.out.later hBi;have HU3:Hid (wr.ownsRow w1.heap.size 137 5 (.slice ao6 16 cap6) 16 (cellsG legE ((List.range 16).map (f k)))):=own_mono HOWN.out HB.out.size;have HB3:Hid (Below w1.heap.size w1 wr):=HB.out.trans (hBi.mono HB.out.size);have hs3:w1.heap.size≤wr.heap.size:=HB3.out.size;obtain⟨vs,hvs,_⟩:=HG3.out;have HVS:Hid (wr.ownsRow w1.heap.size 171 1 v4 k vs):=hvs;obtain⟨ao8,cap8,rfl⟩:=own_form hvs;obtain⟨j0,hj,hy0,hy1,hy2⟩:=info_parts legs_info;clear hBi hvs b0 b1 b2 b3
    go_wp2_with (at_builtin;refine wpList_append_own _ rfl _ _ 103 rfl w1.heap.size 171 j0 (.slice none 0 0) 1 24 Tryz.underlying103 hj hy0 hy1 hy2 rfl (by decide) _ _ _ rfl (HVS.out.alloc _) ⟨wr.heap.size,0,none⟩ 1 1 [.slice ao6 16 cap6] rfl rfl ?n1 ?n2 ?n3 ?n4 ?n5 ?_)
    case n1 =>
     intro j u hj
     match j,hj with
     | 0,hj=>simp at hj;subst hj;simp[Addr.add]
    case n2=>intro u hu;simp at hu;subst hu;rfl
    case n3=>unfold maxLen;omega
    case n4=>omega
    case n5=>simp;omega
    intro v5 w5 hown5 hgrow5 _;obtain⟨ao7,cap7,rfl⟩:=own_form hown5;have hal:Below wr.heap.size wr (wr.alloc (Obj.cells #[.slice ao6 16 cap6] 171)):=(Below.refl _ _).alloc (Nat.le_refl _) _;have hb5:Below w1.heap.size wr w5:=((Below.refl _ wr).alloc hs3 _).grown hgrow5 (by simp;omega) (fun g hg=>(HVS.out.lt g hg).1);have HB5:Hid (Below w1.heap.size w1 w5):=HB3.out.trans hb5;have HG5:Hid (LGs w5 w1.heap.size (.slice ao7 (k+1) cap7) f (k+1)):=by
     refine LGs.push (HG3.out.later hal) (own_below HU3.out hal) hgrow5 (fun vs' h'=>?_);have e:vs'=vs:=by
      have h2:=own_below HVS.out hal;exact own_uniq h' h2
     rw[e];exact hown5
    clear hb5 hgrow5 hown5 hal;go_wp2;go_roundw
    case rel=>exact⟨k+1,by omega,by go_num,HG5.out,HB5.out⟩
    case measure=>simp[intOf];omega
  obtain rfl:k=n3:=by omega
  have dk:decide (((k:Int)+1)≤(k:Int))=false:=by simp;omega
  have hle:¬((k:Int)+1≤(k:Int)):=by omega
  go_wp2;go_ret;exact⟨_,rfl,HG.out.mono HB1.out.size,HB1.out.trans (HB.out.mono HB1.out.size)⟩
def sxH (l:HpQ):Nat:=((laH l).1.1-1).toNat
def mtS (met:Nat→Bool)(a:Nat):Nat→Bool:=fun b=>if b=a then true else met b
def tkL (k:HpQ→(Nat→Bool)→List (Int×ByteArray×HpQ))(g:Lg)(l:HpQ)(met:Nat→Bool):List (Int×ByteArray×HpQ):=
 if g.1=0 then k (l++[g.2.2]) met else [(g.1,g.2.1,l)]
section
variable (Ls:LkQ)(Hs:HoQ)(As Bs:List (List Ru))
def lgA (Ts:List (List Ru))(l:HpQ):Lg:=afL (lgT Ls Hs (taT Ts (laH l).1.1) (laH l)) l
def pwL:Nat→HpQ→(Nat→Bool)→List (Int×ByteArray×HpQ)
 | 0,_,_=>[]
 | n+1,l,met =>
   if met (sxH l)=true then tkL (pwL n) (lgA Ls Hs Bs l) l met
   else tkL (pwL n) (lgA Ls Hs As l) l met++(if lgA Ls Hs Bs l=lgA Ls Hs As l then [] else tkL (pwL n) (lgA Ls Hs Bs l) l (mtS met (sxH l)))
end
section
variable {Ls:LkQ}{Hs:HoQ}{As Bs:List (List Ru)}
theorem la_24 {Ts:List (List Ru)}{l:HpQ}(h:(lgA Ls Hs Ts l).1=0):l.length≠24:=(af_0 h).2.2.1
theorem la_sp {S:Int}(ht:tpN S Ls Hs=0){Ts:List (List Ru)}{l:HpQ}(h:(lgA Ls Hs Ts l).1=0):spB S (lgA Ls Hs Ts l).2.2.1=true:=by
 unfold lgA at *;obtain⟨e,h0,_⟩:=af_0 h;rw[e];exact lg_sp ht h0
theorem wk_mono:∀(n:Nat) (l:HpQ) (m m2:List Int),(∀s∈m,s∈m2)→∀x,x∈wkL Ls Hs As Bs n l m2 []→x∈wkL Ls Hs As Bs n l m []
 | 0,l,m,m2,hm,x,h=>h
 | n+1,l,m,m2,hm,x,h=>by
   have on:∀(a b:List Int),(∀s∈a,s∈b)→∀g,x∈onL (fun l' a'=>wkL Ls Hs As Bs n l' b a') l [] g→x∈onL (fun l' a'=>wkL Ls Hs As Bs n l' a a') l [] g:=by
    intro a b hab g hx;cases g with
    | inl e=>exact hx
    | inr p=>exact wk_mono n _ a b hab x hx
   have mm:∀(k:List Int) (a:List (Int×ByteArray×HpQ)) g,x∈onL (fun l' a'=>wkL Ls Hs As Bs n l' k a') l a g↔x∈a∨x∈onL (fun l' a'=>wkL Ls Hs As Bs n l' k a') l [] g:=fun k a g=>on_mem (fun l' a x=>wk_mem n l' _ a x) l a g x
   rw[wkL] at h ⊢;by_cases hc:chB As Bs (laH l).1.1=true
   ·rw[if_pos hc] at h ⊢;by_cases h2:(laH l).1.1∈m2
    ·simp only[h2,if_true] at h;by_cases h1:(laH l).1.1∈m
     ·simp only[h1,if_true];exact on _ _ hm _ h
     simp only[h1,if_false];refine (mm _ _ _).2 (.inr (on _ _ ?_ _ h));intro s hs
     rcases List.mem_append.1 hs with hs | hs
     ·exact hm s hs
     rw[List.mem_singleton.1 hs];exact h2
    have h1:¬(laH l).1.1∈m:=fun h=>h2 (hm _ h)
    simp only[h1,h2,if_false] at h ⊢
    rcases (mm _ _ _).1 h with h | h
    ·exact (mm _ _ _).2 (.inl (on _ _ hm _ h))
    refine (mm _ _ _).2 (.inr (on _ _ ?_ _ h));intro s hs
    rcases List.mem_append.1 hs with hs | hs
    ·exact List.mem_append.2 (.inl (hm s hs))
    exact List.mem_append.2 (.inr hs)
   rw[if_neg hc] at h ⊢;by_cases h2:(laH l).1.1∈m2
   ·rw[if_pos h2] at h;simp at h
   have h1:¬(laH l).1.1∈m:=fun h=>h2 (hm _ h)
   rw[if_neg h2] at h;rw[if_neg h1];exact on _ _ hm _ h
theorem pw_mem {S:Int}(ht:tpN S Ls Hs=0)(hA:∀s,tbN (taT As s)=0)(hB:∀s,tbN (taT Bs s)=0):∀(n:Nat) (l:HpQ) (met:Nat→Bool) (m:List Int),1≤(laH l).1.1→(∀s:Int,1≤s→(met (s-1).toNat=true↔s∈m))→(∀s∈m,chB As Bs s=true)→∀x,x∈pwL Ls Hs As Bs n l met↔x∈wkL Ls Hs As Bs n l m []
 | 0,l,met,m,h1,h2,h3,x=>by simp[pwL,wkL]
 | n+1,l,met,m,h1,h2,h3,x=>by
   have ih:=pw_mem ht hA hB n;obtain⟨s,hs⟩:∃s,s=(laH l).1.1:=⟨_,rfl⟩;have hsx:sxH l=(s-1).toNat:=by rw[sxH,←hs]
   have s1:1≤s:=by rw[hs];exact h1
   have tk:∀(Ts:List (List Ru)) (met2:Nat→Bool) (m2:List Int),(∀s:Int,1≤s→(met2 (s-1).toNat=true↔s∈m2))→(∀s∈m2,chB As Bs s=true)→(x∈tkL (pwL Ls Hs As Bs n) (lgA Ls Hs Ts l) l met2↔x∈onL (fun l' a'=>wkL Ls Hs As Bs n l' m2 a') l [] (goE Ls Hs (taT Ts s) l (laH l))):=by
    intro Ts met2 m2 q2 q3;have e:goE Ls Hs (taT Ts s) l (laH l)=lgE (lgA Ls Hs Ts l):=by rw[hs];exact go_lg
    rw[e];unfold tkL lgE;by_cases h0:(lgA Ls Hs Ts l).1=0
    ·rw[if_pos h0,if_pos h0];refine ih _ met2 m2 ?_ q2 q3 x;rw[la_app];have:=sp_of (la_sp ht h0);exact this.1
    rw[if_neg h0,if_neg h0];simp only[onL];rw[pu_mem lo_fate];simp
   have mm:∀(k:List Int) (a:List (Int×ByteArray×HpQ)) g,x∈onL (fun l' a'=>wkL Ls Hs As Bs n l' k a') l a g↔x∈a∨x∈onL (fun l' a'=>wkL Ls Hs As Bs n l' k a') l [] g:=fun k a g=>on_mem (fun l' a x=>wk_mem n l' _ a x) l a g x
   rw[pwL,wkL,←hs,hsx];by_cases hm:met (s-1).toNat=true
   ·have hin:=(h2 s s1).1 hm;rw[if_pos hm,if_pos (h3 s hin)];simp only[hin,if_true];exact tk Bs met m h2 h3
   have hin:¬s∈m:=fun h=>hm ((h2 s s1).2 h)
   rw[if_neg hm];by_cases hc:chB As Bs s=true
   ·rw[if_pos hc];simp only[hin,if_false];have q2:∀t:Int,1≤t→(mtS met (s-1).toNat (t-1).toNat=true↔t∈m++[s]):=by
     intro t t1;unfold mtS;by_cases e:t=s
     ·subst e;simp
     rw[if_neg (by omega),h2 t t1];simp[e]
    have q3:∀t∈m++[s],chB As Bs t=true:=by
     intro t htt
     rcases List.mem_append.1 htt with h | h
     ·exact h3 t h
     rw[List.mem_singleton.1 h];exact hc
    rw[List.mem_append,mm,tk As met m h2 h3];by_cases e:lgA Ls Hs Bs l=lgA Ls Hs As l
    ·rw[if_pos e];simp only[List.not_mem_nil,or_false];constructor
     ·exact .inl
     rintro (h | h)
     ·exact h
     have e2:goE Ls Hs (taT Bs s) l (laH l)=goE Ls Hs (taT As s) l (laH l):=by
      rw[hs,go_lg,go_lg];exact congrArg lgE e
     rw[e2] at h;cases hg:goE Ls Hs (taT As s) l (laH l) with
     | inl e=>rw[hg] at h;exact h
     | inr p =>
       rw[hg] at h;exact wk_mono n _ m (m++[s]) (fun t h=>List.mem_append.2 (.inl h)) x h
    rw[if_neg e,tk Bs _ _ q2 q3]
   rw[if_neg hc,if_neg hin];have e:lgA Ls Hs Bs l=lgA Ls Hs As l:=by
    unfold lgA;have e1:lgT Ls Hs (taT Bs (laH l).1.1) (laH l)=lgT Ls Hs (taT As (laH l).1.1) (laH l):=by
     unfold lgT;rw[←hs,st_alike (hA s) (hB s) (ch_alike (by simpa using hc))]
    rw[e1]
   rw[if_pos e,List.append_nil];exact tk As met m h2 h3
def pwS (Ls:LkQ)(Hs:HoQ)(As Bs:List (List Ru))(s:Int×Int)(h:Int):List (Int×ByteArray×HpQ):=pwL Ls Hs As Bs 24 [(s,h)] (fun _=>false)
theorem ps_mem {S:Int}(ht:tpN S Ls Hs=0)(hA:∀s,tbN (taT As s)=0)(hB:∀s,tbN (taT Bs s)=0){s:Int×Int}(hs:spB S s=true)(h:Int)(x:Int×ByteArray×HpQ):x∈pwS Ls Hs As Bs s h↔x∈seeL Ls Hs As Bs s h:=
 pw_mem ht hA hB 24 [(s,h)] (fun _=>false) [] (sp_of hs).1 (fun s _=>by simp) (fun s h=>absurd h List.not_mem_nil) x
end
def hopAsks (w:World)(f:FuncId)(c:Value)(P:(Int×Int)×Int→Bool):Prop:=
 ∀(x0:Int) (x1:Int) (x2:Int) (W:World),Below w.heap.size w W→Calls Tryz.prog f #[.agg #[.int .i64 x0,.int .i64 x1,.int .i64 x2],c] W fun e w'=>e=.returned (.bool (P ((x0,x1),x2)))∧Below W.heap.size W w'
theorem hopAsks.later {w w':World}{f:FuncId}{c:Value}{P:(Int×Int)×Int→Bool}(h:hopAsks w f c P)(hb:Below w.heap.size w w'):hopAsks w' f c P:=
 fun x0 x1 x2 W hW=>h x0 x1 x2 W (hb.trans (hW.mono hb.size))
theorem hop_idxF (ao:Option Addr)(n cap:Nat)(f:FuncId)(c:Value)(P:(Int×Int)×Int→Bool)(L:HpQ)(w:World)(hn:L.length=n)(hn2:n≤maxLen)(ha:0<n→∃g o,ao=some ⟨g,o,none⟩∧GAt hopE w g o L∧cap≤maxLen)(he:∀args w,(callFunc f args).run Tryz.prog w=.ok (.enter f args) w)(hf:hopAsks w f c P):
 Calls Tryz.prog 110 #[.slice ao n cap,.func (Fn.func f) #[] #[c]] w fun e w'=>e=.returned (.int .i64 (ixG P L))∧Below w.heap.size w w':=by
 have HN:Hid (L.length=n):=hn;have HF:Hid (hopAsks w f c P):=hf;have HA:Hid (0<n→∃g o,ao=some ⟨g,o,none⟩∧GAt hopE w g o L∧cap≤maxLen):=ha;unfold maxLen at hn2;clear hn hf ha;go_enter Tryz.func110,Tryz.ntmps110;go_wp2
 go_loopw [8] (fun i wr=>∃k:Nat,k≤n∧i=.int .i64 k∧(L.take k).any P=false∧Below w.heap.size w wr)
  (fun i _=>n-(intOf i).toNat)
 case atStart=>exact⟨0,by omega,rfl,by simp,Below.refl _ _⟩
 case round =>
  obtain⟨k,hk,rfl,hno,hB⟩:=hrel;have HB:Hid (Below w.heap.size w wr):=hB;have HNO:Hid ((L.take k).any P=false):=hno;clear hno;by_cases hlt:k<n
  ·obtain⟨g,o,hao,hc,_⟩:=HA.out (by omega);subst hao;obtain⟨x0,x1,x2,hkl,hL,q0,q1,q2⟩:=hop_at (hc.later hB) HN.out hlt;have HL:Hid (L[k]=((x0,x1),x2)):=hL;clear hL hB;cases ho:P ((x0,x1),x2)
   ·go_wp2_with fail
    refine (HF.out x0 x1 x2 _ HB.out).mono ?_;rintro e w1 ⟨rfl,hb1⟩;rw[ho];have HB1:=HB.out.trans (hb1.mono HB.out.size);clear hb1;go_wp2;go_roundw
    case rel=>exact⟨k+1,by omega,by go_num,any_nextG hkl HNO.out (by rw[HL.out];exact ho),HB1⟩
    case measure=>simp[intOf];omega
   go_wp2_with fail
   refine (HF.out x0 x1 x2 _ HB.out).mono ?_;rintro e w1 ⟨rfl,hb1⟩;rw[ho];go_wp2;go_ret;exact⟨by rw[ixG_hit hkl HNO.out (by rw[HL.out];exact ho)];rfl,HB.out.trans (hb1.mono HB.out.size)⟩
  obtain rfl:k=n:=by omega
  go_wp2;go_ret;exact⟨by have:=HNO.out;rw[←HN.out,List.take_length] at this;rw[ixG_no this];rfl,HB.out⟩
theorem hop_hasF (ao:Option Addr)(n cap:Nat)(f:FuncId)(c:Value)(P:(Int×Int)×Int→Bool)(L:HpQ)(w:World)(hn:L.length=n)(hn2:n≤maxLen)(ha:0<n→∃g o,ao=some ⟨g,o,none⟩∧GAt hopE w g o L∧cap≤maxLen)(he:∀args w,(callFunc f args).run Tryz.prog w=.ok (.enter f args) w)(hf:hopAsks w f c P):
 Calls Tryz.prog 103 #[.slice ao n cap,.func (Fn.func f) #[] #[c]] w fun e w'=>e=.returned (.bool (L.any P))∧Below w.heap.size w w':=by
 rw[←ixG_any];obtain⟨x,hx⟩:∃x,x=ixG P L:=⟨_,rfl⟩;have HX:Hid (x=ixG P L):=hx;rw[←hx];clear hx;go_enter Tryz.func103,Tryz.ntmps103
 go_wp2_with fail
 refine (hop_idxF ao n cap f c P L _ hn hn2 ha he hf).mono ?_;rintro e w1 ⟨rfl,hb1⟩;rw[←HX.out];go_wp2;go_ret;exact⟨rfl,hb1⟩
theorem fits1_any (x y h:Int)(B:Nat)(v:Int)(w:World)(h0:w.cell? ⟨B,3,none⟩=some (.int .i64 v)):
 Calls Tryz.prog 104 #[.agg #[.int .i64 x,.int .i64 y,.int .i64 h],.pointer (some ⟨B,0,none⟩)] w fun e w'=>e=.returned (.bool (x==v))∧Below w.heap.size w w':=by
 have hlt:B<w.heap.size:=bLQ _ _ h0;have HB0:Hid (Below w.heap.size w (w.alloc (Obj.cells #[.int .i64 x,.int .i64 y,.int .i64 h] 101))):=(Below.refl _ _).alloc (Nat.le_refl _) _;go_enter Tryz.func104,Tryz.ntmps104;go_wp2;go_ret;exact⟨rfl,HB0.out⟩
theorem fits1_asks (B:Nat)(v:Int)(w:World)(h0:w.cell? ⟨B,3,none⟩=some (.int .i64 v)):hopAsks w 104 (.pointer (some ⟨B,0,none⟩)) (fun h=>h.1.1==v):=
 fun x y h W hW=>fits1_any x y h B v W (cell_later hW h0)
theorem fi_off {w:Wi}{m:ByteArray}{F:Int×ByteArray×HpQ}(h:abW w m=false):fiB w m F=true:=by simp[fiB,h]
structure GBox (w W:World)(k:Int)(f t:ByteArray)(v a:Int)(b:ByteArray)(c:Value):Prop where
 below:Below w.heap.size w W
 x:WiBox W w.heap.size k f t v
 y0:W.cell? ⟨w.heap.size+1,0,none⟩=some (.int .i64 a)
 y1:W.cell? ⟨w.heap.size+1,1,none⟩=some (.string b)
 y2:W.cell? ⟨w.heap.size+1,2,none⟩=some c
theorem gbox_new (w:World)(k:Int)(f t:ByteArray)(v a:Int)(b:ByteArray)(c:Value):GBox w ((w.alloc (Obj.cells #[.int .i64 k,.string f,.string t,.int .i64 v] 125)).alloc (Obj.cells #[.int .i64 a,.string b,c] 98)) k f t v a b c:=by
 have e1:(w.alloc (Obj.cells #[.int .i64 k,.string f,.string t,.int .i64 v] 125)).heap.size=w.heap.size+1:=by simp
 have hb:∀(W:World) (o:Obj),Below W.heap.size W (W.alloc o):=fun W o=>(Below.refl _ _).alloc (Nat.le_refl _) _
 have hn:=(wibox_new w k f t v 125).later (hb _ (Obj.cells #[.int .i64 a,.string b,c] 98));have hB:=((Below.refl w.heap.size w).alloc (Nat.le_refl _) (Obj.cells #[.int .i64 k,.string f,.string t,.int .i64 v] 125)).alloc (by rw[e1];omega) (Obj.cells #[.int .i64 a,.string b,c] 98)
 generalize w.alloc (Obj.cells #[.int .i64 k,.string f,.string t,.int .i64 v] 125)=X at e1 hn hB
 have hr:=vat_new X [.int .i64 a,.string b,c] 98;rw[e1] at hr;exact⟨hB,hn,hr 0 _ rfl,hr 1 _ rfl,hr 2 _ rfl⟩
theorem GBox.later {w W W':World}{k:Int}{f t:ByteArray}{v a:Int}{b:ByteArray}{c:Value}(h:GBox w W k f t v a b c)(hb:Below W.heap.size W W'):GBox w W' k f t v a b c:=
 ⟨h.below.trans (hb.mono h.below.size),h.x.later hb,cell_later hb h.y0,cell_later hb h.y1,cell_later hb h.y2⟩
theorem fits_any (k:Int)(f t:ByteArray)(v:Int)(m:ByteArray)(a:Int)(b:ByteArray)(ao:Option Addr)(n cap:Nat)(l:HpQ)(w:World)(hl:GS hopE w (.slice ao n cap) l):
 Calls Tryz.prog 84 #[.agg #[.int .i64 k,.string f,.string t,.int .i64 v],.string m,.agg #[.int .i64 a,.string b,.slice ao n cap]] w fun e w'=>e=.returned (.bool (fiB ⟨k,f,t,v⟩ m (a,b,l)))∧Below w.heap.size w w':=by
 have hX:=gbox_new w k f t v a b (.slice ao n cap);obtain⟨w0,hw0⟩:∃W,(w.alloc (Obj.cells #[.int .i64 k,.string f,.string t,.int .i64 v] 125)).alloc (Obj.cells #[.int .i64 a,.string b,.slice ao n cap] 98)=W:=⟨_,rfl⟩;rw[hw0] at hX;have HX:Hid (GBox w w0 k f t v a b (.slice ao n cap)):=hX;have HW0:Hid ((w.alloc (Obj.cells #[.int .i64 k,.string f,.string t,.int .i64 v] 125)).alloc (Obj.cells #[.int .i64 a,.string b,.slice ao n cap] 98)=w0):=hw0;have HL:Hid (∀W,Below w.heap.size w W→GS hopE W (.slice ao n cap) l):=fun W hb=>hl.later hb
 obtain⟨R,hR⟩:∃R,R=fiB ⟨k,f,t,v⟩ m (a,b,l):=⟨_,rfl⟩;have HR:Hid (R=fiB ⟨k,f,t,v⟩ m (a,b,l)):=hR;rw[←hR];obtain⟨AB,hAB⟩:∃q,q=abW ⟨k,f,t,v⟩ m:=⟨_,rfl⟩;have HAB:Hid (AB=abW ⟨k,f,t,v⟩ m):=hAB;clear hX hw0 hl hR hAB;go_enter Tryz.func84,Tryz.ntmps84;go_upto_region 1 with fail;rw[HW0.out];obtain⟨_,⟨x0,x1,x2,x3⟩,y0,y1,y2⟩:=HX.out;clear HW0
 go_wp2_with fail
 refine (isAbout_any k f t v m _).mono ?_;rintro e w1 ⟨rfl,hb1⟩;rw[←HAB.out];have HX1:Hid (GBox w w1 k f t v a b (.slice ao n cap)):=HX.out.later hb1;clear hb1 HX x0 x1 x2 x3 y0 y1 y2;obtain⟨hB1,⟨x0,x1,x2,x3⟩,y0,y1,y2⟩:=HX1.out;have HB1:Hid (Below w.heap.size w w1):=hB1;clear hB1;cases AB with
 | false =>
   have HR1:Hid (R=true):=by
    show _=_;rw[HR.out,fi_off HAB.out.symm]
   go_wp2;go_ret;exact⟨by rw[HR1.out];rfl,HB1.out⟩
 | true =>
   obtain⟨TH,hTH⟩:∃q,q=(a==1&&b.toList==t.toList):=⟨_,rfl⟩;have hTW:thW ⟨k,f,t,v⟩ (a,b,l)=TH:=by rw[hTH,thW,←beq_toListBytes]
   have HR1:Hid (R=if k=1 then TH else if k=2 then !TH else if k=3 then (!TH || haW v l) else if k=4 then !(a==4) else true):=by
    show _=_;rw[HR.out,fiB,if_pos HAB.out.symm,hTW]
   have HTH:Hid ((a==1&&b.toList==t.toList)=TH):=hTH.symm;clear hTH hTW HR HAB;go_upto_region 3 with fail
   go_cut [7] from 12 to 22 (fun q w'=>q=.bool TH∧w'=w1)
   case first =>
    by_cases a1:a=1
    ·subst a1;have h2:=HTH.out;rw[show ((1:Int)==1&&b.toList==t.toList)=(b.toList==t.toList) from rfl] at h2
     go_wp2_with fail
     go_meet
     exact⟨by rw[←h2],rfl⟩
    have h2:=HTH.out;rw[show (a==1)=false from by simp[a1],Bool.false_and] at h2;subst h2
    go_wp2_with fail
    go_meet
    exact⟨rfl,rfl⟩
   case rest =>
   obtain⟨rfl,hwc⟩:=hcut;subst hwc;by_cases k1:k=1
   ·subst k1;have HR2:Hid (R=TH):=by
     show _=_;rw[HR1.out,if_pos rfl]
    clear HR1;go_wp2;go_ret;exact⟨by rw[HR2.out];rfl,HB1.out⟩
   by_cases k2:k=2
   ·subst k2;have HR2:Hid (R = !TH):=by
     show _=_;rw[HR1.out,if_neg (by decide),if_pos rfl]
    clear HR1;go_wp2;go_ret;exact⟨by rw[HR2.out];rfl,HB1.out⟩
   by_cases k3:k=3
   ·subst k3;have HR2:Hid (R=(!TH || haW v l)):=by
     show _=_;rw[HR1.out,if_neg (by decide),if_neg (by decide),if_pos rfl]
    clear HR1;cases TH with
    | false =>
      go_wp2;go_ret;exact⟨by rw[HR2.out];rfl,HB1.out⟩
    | true =>
      obtain⟨_,_,_,e5,hGn,hGm,_,hGa⟩:=(HL.out _ HB1.out).form;cases e5;have HGN:Hid (l.length=n):=hGn;have HGM:Hid (n≤maxLen):=hGm;have HGA:Hid (0<n→∃g o,ao=some ⟨g,o,none⟩∧GAt hopE wc g o l∧cap≤maxLen):=hGa;clear hGn hGm hGa
      go_wp2_with fail
      refine (hop_hasF ao n cap _ _ (fun h=>h.1.1==v) l _ HGN.out HGM.out HGA.out (enters_of Tryz.func104 (by kernel_rfl) rfl) (fits1_asks _ v _ HX1.out.x.2.2.2)).mono ?_;rintro e w2 ⟨rfl,hb2⟩;rw[show (l.any fun h=>h.1.1==v)=haW v l from rfl];have HB2:Hid (Below w.heap.size w w2):=HB1.out.trans (hb2.mono HB1.out.size);clear hb2;go_wp2;go_ret;exact⟨by rw[HR2.out];rfl,HB2.out⟩
   by_cases k4:k=4
   ·subst k4;have HR2:Hid (R = !(a==4)):=by
     show _=_;rw[HR1.out,if_neg (by decide),if_neg (by decide),if_neg (by decide),if_pos rfl]
    clear HR1;go_wp2;go_ret;exact⟨by rw[HR2.out];rfl,HB1.out⟩
   have HR2:Hid (R=true):=by
    show _=_;rw[HR1.out,if_neg k1,if_neg k2,if_neg k3,if_neg k4]
   clear HR1;go_wp2;go_ret;exact⟨by rw[HR2.out];rfl,HB1.out⟩
abbrev Ft:=Int×ByteArray×HpQ
theorem ixG_cases {α:Type}(f:α→Bool)(L:List α):(ixG f L = -1∧L.any f=false)∨∃k:Nat,∃h:k<L.length,ixG f L=(k:Int)∧f L[k]=true∧∀j,(hj:j<k)→f (L[j]'(by omega))=false:=by
 cases e:L.any f with
 | false=>exact .inl ⟨ixG_no e,rfl⟩
 | true =>
   have hx:L.findIdx f<L.length:=by
    rw[List.any_eq_true] at e;obtain⟨x,hx,hf⟩:=e;exact List.findIdx_lt_length_of_exists ⟨x,hx,hf⟩
   refine .inr ⟨L.findIdx f,hx,by simp[ixG,e],List.findIdx_getElem,fun j hj=>?_⟩;have:=List.not_of_lt_findIdx hj;simpa using this
def hwS (l:List Wi)(m:ByteArray)(F:Ft)(n:Nat):Nat:=
 if ixG (fun w => !fiB w m F) (l.take n)<0 then n else (ixG (fun w => !fiB w m F) (l.take n)).toNat
def hwTo (l:List Wi)(m:ByteArray)(L:List Ft):Nat→Nat
 | 0=>l.length
 | k+1=>hwS l m (L.getD k (0,ByteArray.empty,[])) (hwTo l m L k)
def hwN (l:List Wi)(m:ByteArray)(L:List Ft):Nat:=hwTo l m L L.length
section
variable {l:List Wi}{m:ByteArray}
theorem hwS_le (F:Ft)(n:Nat):hwS l m F n≤n:=by
 unfold hwS
 split
 ·omega
 next h =>
 rcases ixG_cases (fun w => !fiB w m F) (l.take n) with ⟨e,_⟩ | ⟨k,hk,e,_⟩
 ·omega
 rw[e];rw[List.length_take] at hk;simp;omega
theorem hwS_lt {F:Ft}{n i:Nat}(hn:n≤l.length)(hi:i<hwS l m F n):fiB (l.getD i zeW) m F=true:=by
 have hin:i<n:=Nat.lt_of_lt_of_le hi (hwS_le F n);have hil:i<l.length:=by omega
 rw[getW hil];unfold hwS at hi
 rcases ixG_cases (fun w => !fiB w m F) (l.take n) with ⟨e,h⟩ | ⟨k,hk,e,_,h⟩
 ·rw[List.any_eq_false] at h;have:=h l[i] (List.mem_take_iff_getElem.2 ⟨i,by omega,rfl⟩);simpa using this
 rw[e,if_neg (by omega)] at hi;have:=h i (by simpa using hi);simpa using this
theorem hwS_at {F:Ft}{n:Nat}(hn:n≤l.length)(h0:hwS l m F n<n):fiB (l.getD (hwS l m F n) zeW) m F=false:=by
 have hil:hwS l m F n<l.length:=by omega
 rw[getW hil]
 rcases ixG_cases (fun w => !fiB w m F) (l.take n) with ⟨e,h⟩ | ⟨k,hk,e,h,_⟩
 ·have e1:hwS l m F n=n:=by rw[hwS,e,if_pos (by omega)]
  omega
 have e1:hwS l m F n=k:=by
  rw[hwS,e,if_neg (by omega)];simp
 simp only[e1];simpa using h
theorem hwTo_le (L:List Ft):∀k,hwTo l m L k≤l.length
 | 0=>Nat.le_refl _
 | k+1=>Nat.le_trans (hwS_le _ _) (hwTo_le L k)
theorem hwTo_mono (L:List Ft)(k:Nat):hwTo l m L (k+1)≤hwTo l m L k:=hwS_le _ _
theorem hwTo_zero {L:List Ft}{k:Nat}(h:hwTo l m L k=0):∀{n:Nat},k≤n→hwTo l m L n=0
 | 0,hn=>by
   obtain rfl:k=0:=by omega
   exact h
 | n+1,hn=>by
   by_cases e:k=n+1
   ·subst e;exact h
   have:=hwTo_zero h (show k≤n by omega);have h2:=hwTo_mono (l:=l) (m:=m) L n;omega
theorem hwTo_lt {L:List Ft}:∀{k i:Nat},i<hwTo l m L k→∀j,j<k→fiB (l.getD i zeW) m (L.getD j (0,ByteArray.empty,[]))=true
 | 0,i,_,j,hj=>by omega
 | k+1,i,hi,j,hj=>by
   by_cases e:j=k
   ·subst e;exact hwS_lt (hwTo_le L _) hi
   exact hwTo_lt (Nat.lt_of_lt_of_le hi (hwTo_mono L k)) j (by omega)
theorem hwTo_at {L:List Ft}:∀{k:Nat},hwTo l m L k<l.length→∃j,j<k∧fiB (l.getD (hwTo l m L k) zeW) m (L.getD j (0,ByteArray.empty,[]))=false
 | 0,h=>by
   have:hwTo l m L 0=l.length:=rfl;omega
 | k+1,h=>by
   by_cases e:hwTo l m L (k+1)<hwTo l m L k
   ·exact⟨k,by omega,hwS_at (hwTo_le L k) e⟩
   have e2:hwTo l m L (k+1)=hwTo l m L k:=by
    have:=hwTo_mono (l:=l) (m:=m) L k;omega
   rw[e2] at h ⊢;obtain⟨j,hj,hb⟩:=hwTo_at h;exact⟨j,by omega,hb⟩
def badF (w:Wi)(m:ByteArray)(L:List Ft):Bool:=L.any fun F => !fiB w m F
theorem hwN_lt {L:List Ft}{i:Nat}(h:i<hwN l m L):badF (l.getD i zeW) m L=false:=by
 unfold badF;rw[List.any_eq_false];intro F hF;obtain⟨j,hj,rfl⟩:=List.getElem_of_mem hF;have:=hwTo_lt h j hj;rw[show L.getD j (0,ByteArray.empty,[])=L[j] by simp[List.getD,hj]] at this;rw[this];decide
theorem hwN_at {L:List Ft}(h:hwN l m L<l.length):badF (l.getD (hwN l m L) zeW) m L=true:=by
 obtain⟨j,hj,hb⟩:=hwTo_at h;unfold badF;rw[List.any_eq_true];refine⟨L[j],List.getElem_mem hj,?_⟩;rw[show L.getD j (0,ByteArray.empty,[])=L[j] by simp[List.getD,hj]] at hb;rw[hwN,hb];rfl
theorem hwN_le (L:List Ft):hwN l m L≤l.length:=hwTo_le L _
end
theorem take_getW {l:List Wi}{n i:Nat}(hi:i<n):(l.take n).getD i zeW=l.getD i zeW:=by
 simp[List.getD,List.getElem?_take,hi]
structure Fb (l:List Wi)(Hs:HoQ)(Fs:Nat→Nat→List Ft)(z h held:Nat)(p:Int×ByteArray×Int):Prop where
 le:held≤l.length
 ok:∀i,i<held→∀z' h',h'<16→(z'<z∨z'=z∧h'<h)→badF (l.getD i zeW) (Hs.getD z' zeO).1 (Fs z' h')=false
 no:held=l.length→p=(0,ByteArray.empty,0)
 tell:held<l.length→∃z₁ h₁,h₁<16∧(z₁<z∨z₁=z∧h₁<h)∧z₁<Hs.length∧p=((held:Int),(Hs.getD z₁ zeO).1,(h₁:Int))∧badF (l.getD held zeW) (Hs.getD z₁ zeO).1 (Fs z₁ h₁)=true∧∀z' h',h'<16→(z'<z₁∨z'=z₁∧h'<h₁)→badF (l.getD held zeW) (Hs.getD z' zeO).1 (Fs z' h')=false
section
variable {l:List Wi}{Hs:HoQ}{Fs:Nat→Nat→List Ft}
theorem fb_0:Fb l Hs Fs 0 0 l.length (0,ByteArray.empty,0):=⟨Nat.le_refl _,fun _ _ z' h' _ h=>by omega,fun _=>rfl,fun h=>absurd h (Nat.lt_irrefl _)⟩
theorem Fb.host {z held:Nat}{p:Int×ByteArray×Int}(f:Fb l Hs Fs z 16 held p):Fb l Hs Fs (z+1) 0 held p:=
 ⟨f.le,fun i hi z' h' h16 h=>f.ok i hi z' h' h16 (by omega),f.no,fun h=>by
  obtain⟨z₁,h₁,a,b,c⟩:=f.tell h;exact⟨z₁,h₁,a,by omega,c⟩⟩
theorem Fb.same {z h held:Nat}{p:Int×ByteArray×Int}(f:Fb l Hs Fs z h held p)(hn:¬hwN (l.take held) (Hs.getD z zeO).1 (Fs z h)<held):Fb l Hs Fs z (h+1) held p:=by
 have hlen:(l.take held).length=held:=by rw[List.length_take];have:=f.le;omega
 have he:hwN (l.take held) (Hs.getD z zeO).1 (Fs z h)=held:=by
  have:=hwN_le (l:=l.take held) (m:=(Hs.getD z zeO).1) (Fs z h);omega
 refine⟨f.le,fun i hi z' h' h16 hh=>?_,f.no,fun hl=>?_⟩
 ·by_cases e:z'=z∧h'=h
  ·obtain⟨rfl,rfl⟩:=e;have:=hwN_lt (l:=l.take held) (m:=(Hs.getD z' zeO).1) (L:=Fs z' h') (i:=i) (by rw[he];exact hi)
   rwa [take_getW hi] at this
  exact f.ok i hi z' h' h16 (by omega)
 obtain⟨z₁,h₁,a,b,c⟩:=f.tell hl;exact⟨z₁,h₁,a,by omega,c⟩
theorem Fb.less {z h held n:Nat}{p:Int×ByteArray×Int}(f:Fb l Hs Fs z h held p)(h16:h<16)(hz:z<Hs.length)(hn:hwN (l.take held) (Hs.getD z zeO).1 (Fs z h)=n)(hlt:n<held):Fb l Hs Fs z (h+1) n ((n:Int),(Hs.getD z zeO).1,(h:Int)):=by
 have hle:=f.le;have hlen:(l.take held).length=held:=by rw[List.length_take];omega
 have hb:badF (l.getD n zeW) (Hs.getD z zeO).1 (Fs z h)=true:=by
  have:=hwN_at (l:=l.take held) (m:=(Hs.getD z zeO).1) (L:=Fs z h) (by rw[hn,hlen];exact hlt)
  rwa [hn,take_getW hlt] at this
 refine⟨by omega,fun i hi z' h' h16' hh=>?_,fun e=>by omega,fun _=>⟨z,h,h16,by omega,hz,rfl,hb,fun z' h' h16' hh=>f.ok n hlt z' h' h16' hh⟩⟩;by_cases e:z'=z∧h'=h
 ·obtain⟨rfl,rfl⟩:=e;have:=hwN_lt (l:=l.take held) (m:=(Hs.getD z' zeO).1) (L:=Fs z' h') (i:=i) (by rw[hn];exact hi)
  rwa [take_getW (by omega)] at this
 exact f.ok i (by omega) z' h' h16' (by omega)
theorem bad_off {w:Wi}{m:ByteArray}(h:abW w m=false)(L:List Ft):badF w m L=false:=by
 unfold badF;rw[List.any_eq_false];intro F _;simp[fiB,h]
theorem Fb.off {z h held:Nat}{p:Int×ByteArray×Int}(f:Fb l Hs Fs z h held p)(ho:(l.take held).any (fun w=>abW w (Hs.getD z zeO).1)=false):Fb l Hs Fs (z+1) 0 held p:=by
 refine⟨f.le,fun i hi z' h' h16 hh=>?_,f.no,fun hl=>?_⟩
 ·by_cases e:z'=z
  ·subst e;refine bad_off ?_ _;rw[List.any_eq_false] at ho;have hil:i<l.length:=by have:=f.le;omega
   have:=ho l[i] (List.mem_take_iff_getElem.2 ⟨i,by omega,rfl⟩);rw[getW hil];simpa using this
  exact f.ok i hi z' h' h16 (by omega)
 obtain⟨z₁,h₁,a,b,c⟩:=f.tell hl;exact⟨z₁,h₁,a,by omega,c⟩
end
section
variable {Ls:LkQ}{Hs:HoQ}{Ts:List (List Ru)}{Xs:HoQ}{l:List Wi}
theorem brH_neg {w:Wi}{x:ByteArray×(Int×Int)}:∀{k:Nat},(∀j,j<k→brB Ls Hs Ts w x (j:Int)=false)→brH Ls Hs Ts w x k<0
 | 0,_=>by simp[brH]
 | k+1,h=>brH_no (brH_neg (fun j hj=>h j (by omega))) (h k (by omega))
theorem brX_neg {w:Wi}:∀{k:Nat},(∀j,j<k→∀h:Nat,h<16→brB Ls Hs Ts w (Xs.getD j zeO) (h:Int)=false)→brX Ls Hs Ts w Xs k=none
 | 0,_=>rfl
 | k+1,h=>by
   rw[brX,brX_neg (fun j hj=>h j (by omega))];simp only;rw[if_neg];have:=brH_neg (Ls:=Ls) (Hs:=Hs) (Ts:=Ts) (w:=w) (x:=Xs.getD k zeO) (k:=16) (fun j hj=>h k (by omega) j hj);omega
theorem brW_neg:∀{k:Nat},(∀i,i<k→∀j,j<Xs.length→∀h:Nat,h<16→brB Ls Hs Ts (l.getD i zeW) (Xs.getD j zeO) (h:Int)=false)→brW Ls Hs Ts l Xs k=none
 | 0,_=>rfl
 | k+1,h=>by
   rw[brW,brW_neg (fun i hi=>h i (by omega))];simp only;rw[brX_neg (h k (by omega))]
theorem fb_br {held:Nat}{p:Int×ByteArray×Int}(f:Fb l Hs (fun z h=>[frF Ls Hs Ts (Hs.getD z zeO).2 (h:Int)]) Hs.length 0 held p):(brW Ls Hs Ts l Hs l.length).isSome=decide (held<l.length)∧prV Hs (brW Ls Hs Ts l Hs l.length)=p:=by
 have hb:∀w z (h:Nat),badF w (Hs.getD z zeO).1 [frF Ls Hs Ts (Hs.getD z zeO).2 (h:Int)]=brB Ls Hs Ts w (Hs.getD z zeO) (h:Int):=fun w z h=>by simp[badF,brB]
 by_cases hl:held<l.length
 ·obtain⟨z,h,h16,hzh,hz,rfl,hbad,hno⟩:=f.tell hl;have e1:brH Ls Hs Ts l[held] Hs[z] 16=(h:Int):=by
   refine brH_yes h16 (brH_neg fun j hj=>?_) ?_
   ·have:=hno z j (by omega) (.inr ⟨rfl,hj⟩);rw[hb,getW hl,getO hz] at this;exact this
   rw[hb,getW hl,getO hz] at hbad;exact hbad
  have e2:brX Ls Hs Ts l[held] Hs Hs.length=some (z,(h:Int)):=by
   rw[brX_yes hz (brX_neg fun j hj h' hh'=>?_) (by rw[e1];omega),e1];have:=hno j h' hh' (.inl hj);rw[hb,getW hl] at this;exact this
  have e3:=brW_yes hl (brW_neg (Ls:=Ls) (Hs:=Hs) (Ts:=Ts) (Xs:=Hs) fun i hi j hj h' hh'=>by
   have:=f.ok i hi j h' hh' (.inl hj);rw[hb] at this;exact this) e2
  rw[e3];exact⟨by simp[hl],rfl⟩
 have he:held=l.length:=by have:=f.le;omega
 have e3:brW Ls Hs Ts l Hs l.length=none:=brW_neg fun i hi j hj h' hh'=>by
  have:=f.ok i (by omega) j h' hh' (.inl hj);rw[hb] at this;exact this
 rw[e3,f.no he];exact⟨by simp[hl],rfl⟩
end
def wi2Asks (w:World)(f:FuncId)(c0 c1:Value)(P:Wi→Bool):Prop:=
 ∀(x0:Int) (x1:ByteArray) (x2:ByteArray) (x3:Int) (W:World),Below w.heap.size w W→Calls Tryz.prog f #[.agg #[.int .i64 x0,.string x1,.string x2,.int .i64 x3],c0,c1] W fun e w'=>e=.returned (.bool (P ⟨x0,x1,x2,x3⟩))∧Below W.heap.size W w'
theorem wi2Asks.later {w w':World}{f:FuncId}{c0 c1:Value}{P:Wi→Bool}(h:wi2Asks w f c0 c1 P)(hb:Below w.heap.size w w'):wi2Asks w' f c0 c1 P:=
 fun x0 x1 x2 x3 W hW=>h x0 x1 x2 x3 W (hb.trans (hW.mono hb.size))
theorem wi2_idxF (ao:Option Addr)(n cap:Nat)(f:FuncId)(c0 c1:Value)(P:Wi→Bool)(L:List (Wi))(w:World)(hn:L.length=n)(hn2:n≤maxLen)(ha:0<n→∃g o,ao=some ⟨g,o,none⟩∧GAt wisE w g o L∧cap≤maxLen)(he:∀args w,(callFunc f args).run Tryz.prog w=.ok (.enter f args) w)(hf:wi2Asks w f c0 c1 P):
 Calls Tryz.prog 82 #[.slice ao n cap,.func (Fn.func f) #[] #[c0,c1]] w fun e w'=>e=.returned (.int .i64 (ixG P L))∧Below w.heap.size w w':=by
 have HN:Hid (L.length=n):=hn;have HF:Hid (wi2Asks w f c0 c1 P):=hf;have HA:Hid (0<n→∃g o,ao=some ⟨g,o,none⟩∧GAt wisE w g o L∧cap≤maxLen):=ha;unfold maxLen at hn2;clear hn hf ha;go_enter Tryz.func82,Tryz.ntmps82;go_wp2
 go_loopw [8] (fun i wr=>∃k:Nat,k≤n∧i=.int .i64 k∧(L.take k).any P=false∧Below w.heap.size w wr)
  (fun i _=>n-(intOf i).toNat)
 case atStart=>exact⟨0,by omega,rfl,by simp,Below.refl _ _⟩
 case round =>
  obtain⟨k,hk,rfl,hno,hB⟩:=hrel;have HB:Hid (Below w.heap.size w wr):=hB;have HNO:Hid ((L.take k).any P=false):=hno;clear hno;by_cases hlt:k<n
  ·obtain⟨g,o,hao,hc,_⟩:=HA.out (by omega);subst hao;obtain⟨x0,x1,x2,x3,hkl,hL,q0,q1,q2,q3⟩:=wis_at (hc.later hB) HN.out hlt;have HL:Hid (L[k]=⟨x0,x1,x2,x3⟩):=hL;clear hL hB;cases ho:P ⟨x0,x1,x2,x3⟩
   ·go_wp2_with fail
    refine (HF.out x0 x1 x2 x3 _ HB.out).mono ?_;rintro e w1 ⟨rfl,hb1⟩;rw[ho];have HB1:=HB.out.trans (hb1.mono HB.out.size);clear hb1;go_wp2;go_roundw
    case rel=>exact⟨k+1,by omega,by go_num,any_nextG hkl HNO.out (by rw[HL.out];exact ho),HB1⟩
    case measure=>simp[intOf];omega
   go_wp2_with fail
   refine (HF.out x0 x1 x2 x3 _ HB.out).mono ?_;rintro e w1 ⟨rfl,hb1⟩;rw[ho];go_wp2;go_ret;exact⟨by rw[ixG_hit hkl HNO.out (by rw[HL.out];exact ho)];rfl,HB.out.trans (hb1.mono HB.out.size)⟩
  obtain rfl:k=n:=by omega
  go_wp2;go_ret;exact⟨by have:=HNO.out;rw[←HN.out,List.take_length] at this;rw[ixG_no this];rfl,HB.out⟩
end
section
open Go.RowKit Go.Shelf
structure Kb (p:Nat→Prop)(w w':World):Prop where
 os:w'.os=w.os
 tape:w'.tape=w.tape
 output:w'.output=w.output
 size:w.heap.size≤w'.heap.size
 block:∀k,k<w.heap.size→p k→w'.heap[k]?=w.heap[k]?
theorem Kb.refl (p:Nat→Prop)(w:World):Kb p w w:=⟨rfl,rfl,rfl,Nat.le_refl _,fun _ _ _=>rfl⟩
theorem Kb.trans {p:Nat→Prop}{a b c:World}(h:Kb p a b)(k:Kb p b c):Kb p a c:=
 ⟨k.os.trans h.os,k.tape.trans h.tape,k.output.trans h.output,Nat.le_trans h.size k.size,fun i hi hx=>(k.block i (Nat.lt_of_lt_of_le hi h.size) hx).trans (h.block i hi hx)⟩
theorem Kb.mono {p q:Nat→Prop}{w w':World}(h:Kb p w w')(hq:∀b,b<w.heap.size→q b→p b):Kb q w w':=⟨h.os,h.tape,h.output,h.size,fun k hk hx=>h.block k hk (hq k hk hx)⟩
theorem Kb.of_below {p:Nat→Prop}{n₀:Nat}{w w':World}(h:Below n₀ w w')(hp:∀b,b<w.heap.size→p b→b<n₀):Kb p w w':=⟨h.os,h.tape,h.output,h.size,fun k hk hx=>h.block k (hp k hk hx)⟩
theorem Kb.below {p:Nat→Prop}{n₀:Nat}{w w':World}(h:Kb p w w')(hn:n₀≤w.heap.size)(hp:∀b,b<n₀→p b):Below n₀ w w':=⟨h.os,h.tape,h.output,h.size,fun k hk=>h.block k (by omega) (hp k hk)⟩
theorem Kb.drew {p:Nat→Prop}{a w:World}(h:Kb p a w):Kb p a w.drew:=⟨h.os,h.tape,h.output,h.size,h.block⟩
theorem Kb.alloc {p:Nat→Prop}{a w:World}(h:Kb p a w)(o:Obj):Kb p a (w.alloc o):=
 h.trans (Kb.of_below ((Below.refl w.heap.size w).alloc (Nat.le_refl _) o) (fun b hb _=>hb))
theorem Kb.setCell {p:Nat→Prop}{a w:World}(h:Kb p a w){q:Addr}(hq:q.block<a.heap.size→¬p q.block)(v:Value):Kb p a (w.setCell q v):=by
 refine⟨h.os,h.tape,h.output,?_,fun k hk hx=>(Below.heap_setCell w q v k ?_).trans (h.block k hk hx)⟩
 ·show a.heap.size≤(w.heap.modify _ _).size;rw[Array.size_modify];exact h.size
 intro e;subst e;exact hq hk hx
theorem Kb.putObj {p:Nat→Prop}{a w:World}(h:Kb p a w){l:Nat}(hl:l<a.heap.size→¬p l)(o:Obj):Kb p a (w.putObj l o):=by
 have hg:=grownBy_putObj' w l o;refine⟨hg.os.trans h.os,hg.tape.trans h.tape,hg.output.trans h.output,Nat.le_trans h.size hg.size,fun k hk hx=>(hg.block k (Nat.lt_of_lt_of_le hk h.size) (fun e=>?_)).trans (h.block k hk hx)⟩;cases e;exact hl hk hx
theorem Kb.grown {p:Nat→Prop}{a w w':World}{row:Option Nat}(h:Kb p a w)(hg:w.grownBy w' row)(hr:∀r,row=some r→r<a.heap.size→¬p r):Kb p a w':=
 ⟨hg.os.trans h.os,hg.tape.trans h.tape,hg.output.trans h.output,Nat.le_trans h.size hg.size,fun k hk hx=>(hg.block k (Nat.lt_of_lt_of_le hk h.size) (fun e=>hr k e.symm hk hx)).trans (h.block k hk hx)⟩
theorem Kb.cell {p:Nat→Prop}{w w':World}(h:Kb p w w'){q:Addr}(hl:q.block<w.heap.size)(hp:p q.block):w'.cell? q=w.cell? q:=World.cell?_of_block (w:=w) (h.block q.block hl hp)
theorem Kb.at {p:Nat→Prop}{w w':World}(h:Kb p w w'){q:Addr}{v:Value}(hc:w.cell? q=some v)(hp:p q.block):w'.cell? q=some v:=(h.cell (bLQ _ _ hc) hp).trans hc
theorem Kb.frozen {p:Nat→Prop}{w w':World}(h:Kb p w w'){q:Addr}(hl:q.block<w.heap.size)(hp:p q.block):w'.frozen? q=w.frozen? q:=by
 simp only[World.frozen?,h.block q.block hl hp]
theorem Kb.boxed {p:Nat→Prop}{w w':World}(h:Kb p w w'){b:Nat}{t:TypeId}{v:Value}(hb:Boxed w b t v)(hp:p b):Boxed w' b t v:=(h.block b hb.lt hp).trans hb
theorem room_none (k:Nat):Fence.wide.room k:=room_wide k
theorem round_any {m m':Nat}{P:Program}{l:Nat}{f:FuncId}{tmps:Array Value}{assign body:Code}{w:World}{R:Ending→World→Prop}(h:RoundIn Fence.wide m P l f tmps assign body w R):RoundIn Fence.wide m' P l f tmps assign body w R:=⟨h.1,fun c cs _=>h.2 c cs (room_none _)⟩
theorem yield_any {m m':Nat}{P:Program}{l:Nat}{args:Array Value}{W:World}{R:Ending→World→Prop}(h:YieldAt Fence.wide m P l args W R):YieldAt Fence.wide m' P l args W R:=by
 obtain⟨fn,tmps,assign,body,hy,hR⟩:=h;exact⟨fn,tmps,assign,body,hy,round_any hR⟩
def ItF {α:Type}(P:Program)(g:Nat)(lb:Array Value)(Vl:World→Array Value→α→Prop)(n₀:Nat)(L:List α)(w:World):Prop:=
 ∀ (l:Nat) (J:Nat→(Nat→Prop)→World→Prop) (Jx:World→Prop) (W:World),Below n₀ w W→n₀≤W.heap.size →
   J 0 (fun _=>False) W →
   (∀k X A,J k X A→∀b,X b→b<A.heap.size) →
   (∀k X A A',J k X A→Kb (fun b=>b<W.heap.size∨X b) A A'→J k X A') →
   (∀A A',Jx A→Kb (fun _=>True) A A'→Jx A') →
   (∀k X A args x (Y:Nat→Prop),J k X A→L[k]?=some x→Vl A args x→W.heap.size≤A.heap.size→(∀b,Y b→W.heap.size≤b∧¬X b)→YieldAt Fence.wide 0 P l args A fun e A' =>
    (e=.returned (.bool true)∧(∃X',J (k+1) X' A'∧∀b,X' b→X b∨A.heap.size≤b)∧Kb (fun b=>b<n₀∨Y b) A A')∨(e=.returned (.bool false)∧Jx A'∧Kb (fun b=>b<n₀∨Y b) A A')) →
   Calls P g (#[.func (.yield l) #[] #[]]++lb) W fun e W'=>(∃v,e=.returned v)∧((∃X,J L.length X W')∨Jx W')
theorem ItF.later {α:Type}{P:Program}{g:Nat}{lb:Array Value}{Vl:World→Array Value→α→Prop}{n₀:Nat}{L:List α}{w w':World}(h:ItF P g lb Vl n₀ L w)(hb:Below n₀ w w'):ItF P g lb Vl n₀ L w':=
 fun l J Jx W hW hn h1 h2 h3 h4 h5=>h l J Jx W (hb.trans hW) hn h1 h2 h3 h4 h5
def itPost (p:Nat→Prop)(I:World→Prop)(Ix:Code→World→Prop)(W:World):Exit→Act→World→Prop
 | .normal,_,W'=>Kb p W W'∧I W'
 | .ret,_,W'=>Kb p W W'∧Ix .ret W'
 | .exit id,_,W'=>Kb p W W'∧Ix (.exit id) W'
 | .goto t,_,W'=>Kb p W W'∧Ix (.goto t) W'
 | .panic _,_,_=>False
 | .outgrown,_,_=>False
theorem wpIn_rangeFunc_it {P:Program}{n:Nat}{α:Type}{g:Operand}{ps:Array Tmp}{assign body:Code}{Q:Exit→Act→World→Prop}{a:Act}{w:World}
 (h1:1≤n) {gf:Nat} {lb:Array Value} (hg:a.eval g=.func (.func gf) #[] lb) (eg:∀args w,(callFunc gf args).run P w=.ok (.enter gf args) w)
 {Vl:World→Array Value→α→Prop} {n₀:Nat} {L:List α} {w0:World} (hseq:ItF P gf lb Vl n₀ L w0) (hb0:Below n₀ w0 w) (hn₀:n₀≤w.heap.size) (hps:∀A args x,Vl A args x→args.size=ps.size)
 (I:Nat→(Nat→Prop)→World→Prop) (Ix:Code→World→Prop)
 (hlt:∀k X A,I k X A→∀b,X b→w.heap.size+2≤b∧b<A.heap.size)
 (hI:∀k X A A',I k X A→Kb (fun b=>b<w.heap.size∨X b) A A'→I k X A')
 (hIx:∀c A A',Ix c A→Kb (fun b=>b<w.heap.size∨w.heap.size+2≤b) A A'→Ix c A')
 (h0:I 0 (fun _=>False) w)
 (hround:∀(l k:Nat) (X Y:Nat→Prop) (x:α) (args:Array Value) (W:World),l=w.heap.size+1→w.heap.size+2≤W.heap.size→I k X W→L[k]?=some x→Vl W args x→(∀b,Y b→w.heap.size+2≤b∧¬X b)→(∀q:Addr,q.block=l→W.cell? q=none) →
  assign.wpIn (Fence.wide.inRound l) (n-1-1) P (Exit.then (fun a' Wa=>Kb (fun b=>b<n₀∨b=w.heap.size∨b=l∨Y b) W Wa∧∀W2,Kb (fun b=>b≠l) Wa W2→body.wpIn (Fence.wide.inRound l) (n-1-1) P (itPost (fun b=>b<n₀∨b=w.heap.size∨b=l∨Y b) (fun W'=>∃X',I (k+1) X' W'∧∀b,X' b→X b∨W.heap.size≤b) Ix W2) a' W2) (fun _ _ _=>False)) { tmps:=(ps.zip args).foldl (fun t (p,v)=>t.setIfInBounds p v) a.tmps,defers:=[] } W)
 (hdone:∀(X:Nat→Prop) (W:World),I L.length X W→W.heap[w.heap.size]?=some (.deferred (some []))→Q .normal { a with defers:={ target:=.collected w.heap.size,args:=#[] } :: a.defers } W)
 (hstop:∀(c:Code) (W:World),Ix c W→W.heap[w.heap.size]?=some (.deferred (some []))→c.wpIn Fence.wide n P Q { a with defers:={ target:=.collected w.heap.size,args:=#[] } :: a.defers } W):
 (Code.rangeFunc g ps assign body).wpIn Fence.wide n P Q a w:=by
 refine wpIn_rangeFunc ?_;intro fn hfn;rw[show Fence.wide.round=none from rfl];obtain⟨rec,hrec⟩:∃rec:LoopState→Option Code→Loop,rec=fun st pe=>{ state:=st,pending:=pe,fn,tmps:=a.tmps,params:=ps,assign,body,defers:=w.heap.size }:=⟨_,rfl⟩
 obtain⟨W1,hW1⟩:∃W1,(w.alloc (.deferred (some []))).alloc (.loop (rec .ready none))=W1:=⟨_,rfl⟩;have hL1:W1.heap[w.heap.size+1]?=some (.loop (rec .ready none)):=by
  rw[←hW1];have:=World.alloc_heap_new (w.alloc (.deferred (some []))) (.loop (rec .ready none));rwa [World.size_alloc] at this
 have hK1:W1.heap[w.heap.size]?=some (.deferred (some [])):=by
  rw[←hW1];exact (Below.heap_alloc _ _ _ (by simp)).trans (World.alloc_heap_new w _)
 have hS1:W1.heap.size=w.heap.size+2:=by rw[←hW1];simp
 have hB1:Below w.heap.size w W1:=by
  rw[←hW1];exact ((Below.refl _ w).alloc (Nat.le_refl _) _).alloc (by simp) _
 have hb1:Below n₀ w0 W1:=hb0.trans (hB1.mono hn₀);refine⟨w.heap.size+1,[{ target:=.collected w.heap.size,args:=#[] }],W1,{ target:=.fn (.func gf) lb,args:=#[.func (.yield (w.heap.size+1)) #[] #[]] },W1,gf,
  #[.func (.yield (w.heap.size+1)) #[] #[]]++lb,W1,?_,?_,?_,?_,fun _=>h1,?_⟩
 ·rw[←hW1,hrec];exact run_enterLoop_outer _ _ _ _ _
 ·simp only[resolve,hg];simp[go_sem]
 ·intro f' hf';trivial
 ·simp[invoke,go_sem,eg]
 have hI1:∀{k:Nat} {X:Nat→Prop} {A:World} (o:Obj),I k X A→I k X (A.putObj (w.heap.size+1) o):=fun o h=>hI _ _ _ _ h ((Kb.refl _ _).putObj (fun _ hp=>hp.elim (fun h=>by omega) (fun hx=>by have:=(hlt _ _ _ h _ hx).1;omega)) o)
 refine (callsIn_wide.2 (hseq (w.heap.size+1)
  (fun k X W=>I k X W∧W.heap[w.heap.size+1]?=some (.loop (rec .ready none))∧W.heap[w.heap.size]?=some (.deferred (some [])))
  (fun W=>∃c,Ix c W∧W.heap[w.heap.size+1]?=some (.loop (rec .done (some c)))∧W.heap[w.heap.size]?=some (.deferred (some [])))
  W1 hb1 (by omega) ?_ ?_ ?_ ?_ ?_)).mono ?_
 ·exact⟨hI _ _ _ _ h0 (Kb.of_below hB1 (fun b _ h=>h.elim id False.elim)),hL1,hK1⟩
 ·exact fun k X A h b hx=>(hlt _ _ _ h.1 b hx).2
 ·rintro k X A A' ⟨hi,hl,hd⟩ hk;rw[hS1] at hk;have hlt':w.heap.size+1<A.heap.size:=(Array.getElem?_eq_some_iff.1 hl).1;exact⟨hI k X A A' hi (hk.mono (fun b _ h=>h.imp (fun h=>by omega) id)),(hk.block _ hlt' (.inl (by omega))).trans hl,(hk.block _ (by omega) (.inl (by omega))).trans hd⟩
 ·rintro A A' ⟨c,hi,hl,hd⟩ hk;have hlt':w.heap.size+1<A.heap.size:=(Array.getElem?_eq_some_iff.1 hl).1;exact⟨c,hIx c A A' hi (hk.mono (fun _ _ _=>trivial)),(hk.block _ hlt' trivial).trans hl,(hk.block _ (by omega) trivial).trans hd⟩
 ·rintro k X W args x Y ⟨hi,hl,hd⟩ hx hv hWW hY;rw[hS1] at hY hWW;have hlt':w.heap.size+1<W.heap.size:=(Array.getElem?_eq_some_iff.1 hl).1;have hy:=run_yield (P:=P) (args:=args) hl (by rw[hrec];exact hps _ _ _ hv);rw[hrec] at hy;refine yield_any (m:=n-1-1) ⟨fn,_,assign,body,hy,roundIn_of_wpIn hfn (wpIn_mono (hround _ k X Y x args W rfl hWW hi hx hv hY (fun q hq=>by simp[World.cell?,hq,hl])) ?_)⟩;clear hy;intro e1 a' Wa hp;cases e1 with
  | normal =>
    obtain⟨hka,hbody⟩:=hp;have hl2:=(hka.block _ hlt' (.inr (.inr (.inl rfl)))).trans hl;have hd2:=(hka.block w.heap.size (by omega) (.inr (.inl rfl))).trans hd;have hlta:w.heap.size+1<Wa.heap.size:=(Array.getElem?_eq_some_iff.1 hl2).1;refine⟨_,run_beginRound hl2 (by rw[hrec]),?_⟩;have hkb:Kb (fun b=>b≠w.heap.size+1) Wa (Wa.putObj (w.heap.size+1) (.loop { rec .ready none with state:=.busy })):=(Kb.refl _ _).putObj (fun _ h=>h rfl) _;have hl3:(Wa.putObj (w.heap.size+1) (.loop { rec .ready none with state:=.busy })).heap[w.heap.size+1]?=some (.loop { rec .ready none with state:=.busy }):=World.putObj_heap_same hlta;have hd3:=(hkb.block w.heap.size (by omega) (by omega)).trans hd2;refine wpIn_mono (hbody _ hkb) ?_
    generalize Wa.putObj (w.heap.size+1) (.loop { rec .ready none with state:=.busy })=W2 at hkb hl3 hd3
    have hlt2:w.heap.size+1<W2.heap.size:=(Array.getElem?_eq_some_iff.1 hl3).1;have fin:∀(jump:Option Code) (W3:World),Kb (fun b=>b<n₀∨b=w.heap.size∨b=w.heap.size+1∨Y b) W2 W3 →
     (Instr.endRound (w.heap.size+1) jump).run P W3=.ok (.bool jump.isNone) (W3.putObj (w.heap.size+1) (.loop (rec (if jump.isNone then .ready else .done) jump))) ∧
     W3.heap[w.heap.size+1]?=some (.loop { rec .ready none with state:=.busy }) ∧
     (W3.putObj (w.heap.size+1) (.loop (rec (if jump.isNone then .ready else .done) jump))).heap[w.heap.size+1]?=some (.loop (rec (if jump.isNone then .ready else .done) jump)) ∧
     (W3.putObj (w.heap.size+1) (.loop (rec (if jump.isNone then .ready else .done) jump))).heap[w.heap.size]?=some (.deferred (some [])):=fun jump W3 hk3=>by
     have hl4:=(hk3.block _ hlt2 (.inr (.inr (.inl rfl)))).trans hl3;have hd4:=(hk3.block w.heap.size (by omega) (.inr (.inl rfl))).trans hd3;have:=run_endRound (P:=P) jump hl4;rw[hrec] at this ⊢;exact⟨this,by rw[hrec] at hl4;exact hl4,World.putObj_heap_same (Array.getElem?_eq_some_iff.1 hl4).1,(World.putObj_heap_other (by omega)).trans hd4⟩
    rintro e a3 W3 hp;have hny:∀b,b<n₀∨Y b→b≠w.heap.size+1:=fun b h e=>h.elim (fun h=>by omega) (fun h=>by have:=(hY b h).1;omega)
    have hall:∀(W3:World) (o:Obj),Kb (fun b=>b<n₀∨b=w.heap.size∨b=w.heap.size+1∨Y b) W2 W3→Kb (fun b=>b<n₀∨Y b) W (W3.putObj (w.heap.size+1) o):=fun W3 o hk3=>(((hka.mono (fun b _ h=>h.imp id (fun h=>.inr (.inr h)))).trans ((hkb.mono (fun b _ h=>hny b h)).trans (hk3.mono (fun b _ h=>h.imp id (fun h=>.inr (.inr h)))))).trans ((Kb.refl _ _).putObj (fun _ h=>hny _ h rfl) _))
    cases e with
    | normal =>
      obtain⟨hk3,X',hi3,hX'⟩:=hp;obtain⟨hr,hl4,hl5,hd5⟩:=fin none W3 hk3;exact⟨_,_,hr,.inl ⟨rfl,⟨X',⟨hI1 _ hi3,hl5,hd5⟩,hX'⟩,hall _ _ hk3⟩⟩
    | ret =>
      obtain⟨hk3,hi3⟩:=hp;obtain⟨hr,hl4,hl5,hd5⟩:=fin (some .ret) W3 hk3;exact⟨_,_,hr,.inr ⟨rfl,⟨.ret,hIx _ W3 _ hi3 ((Kb.refl _ _).putObj (fun _ h=>by omega) _),hl5,hd5⟩,hall _ _ hk3⟩⟩
    | exit id =>
      obtain⟨hk3,hi3⟩:=hp;obtain⟨hr,hl4,hl5,hd5⟩:=fin (some (.exit id)) W3 hk3;exact⟨_,_,hr,.inr ⟨rfl,⟨.exit id,hIx _ W3 _ hi3 ((Kb.refl _ _).putObj (fun _ h=>by omega) _),hl5,hd5⟩,hall _ _ hk3⟩⟩
    | goto t =>
      obtain⟨hk3,hi3⟩:=hp;obtain⟨hr,hl4,hl5,hd5⟩:=fin (some (.goto t)) W3 hk3;exact⟨_,_,hr,.inr ⟨rfl,⟨.goto t,hIx _ W3 _ hi3 ((Kb.refl _ _).putObj (fun _ h=>by omega) _),hl5,hd5⟩,hall _ _ hk3⟩⟩
    | panic ch=>exact hp.elim
    | outgrown=>exact hp.elim
  | ret=>exact hp.elim
  | exit id=>exact hp.elim
  | goto t=>exact hp.elim
  | panic ch=>exact hp.elim
  | outgrown=>exact hp.elim
 rintro e W2 ⟨⟨v,rfl⟩,(⟨X,hi,hl,hd⟩ | ⟨c,hi,hl,hd⟩)⟩
 ·refine⟨none,_,by have:=run_endLoop (P:=P) hl (by rw[hrec];simp);rw[hrec] at this;exact this,?_⟩;exact hdone X _ (hI1 _ hi) ((World.putObj_heap_other (by omega)).trans hd)
 refine⟨some c,_,by have:=run_endLoop (P:=P) hl (by rw[hrec];simp);rw[hrec] at this;exact this,?_⟩;exact hstop c _ (hIx c W2 _ hi ((Kb.refl _ _).putObj (fun _ h=>by omega) _)) ((World.putObj_heap_other (by omega)).trans hd)
end
end Go.Proofs.YtiokpmlhmlcojaaGreat
