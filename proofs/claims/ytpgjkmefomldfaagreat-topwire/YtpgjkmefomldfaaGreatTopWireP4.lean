/- Contracts and facts on the way to TopWire, joined into one text: NetFollow, TopoWhere, NetSend, WishMath, StWish, HostHas, WishCon, SlHopF, WishFits, WishFirst, SlWish2. -/
import Derived.Test.YtpgjkmefomldfaaGreatTopWireP3
namespace Go.Proofs.YtpgjkmefomldfaaGreat
set_option linter.unusedSimpArgs false
set_option linter.unusedVariables false
set_option maxHeartbeats 16000000
set_option maxRecDepth 100000
open Go.Proofs.Tryz
open IntKind (i64)
section
open Go.RowKit
def fbox (w:World)(S:Int)(v1 v2 v3:Value)(x y h:Int):World:=((w.alloc (.cells #[.int i64 S,v1,v2,v3] 28)).alloc (.cells #[.int i64 x,.int i64 y,.int i64 h] 122)).alloc (.cells #[.int i64 0,.string ⟨#[]⟩,.slice none 0 0] 70)
structure FBox (w W:World)(S:Int)(v1 v2 v3:Value)(x y h:Int):Prop where
 below:Below w.heap.size w W
 n:NeBox W w.heap.size S v1 v2 v3
 i0:W.cell? ⟨w.heap.size+1,0,none⟩=some (.int i64 x)
 i1:W.cell? ⟨w.heap.size+1,1,none⟩=some (.int i64 y)
 i2:W.cell? ⟨w.heap.size+1,2,none⟩=some (.int i64 h)
 r0:W.cell? ⟨w.heap.size+1+1,0,none⟩=some (.int i64 0)
 r1:W.cell? ⟨w.heap.size+1+1,1,none⟩=some (.string ⟨#[]⟩)
 r2:W.cell? ⟨w.heap.size+1+1,2,none⟩=some (.slice none 0 0)
 f:∀i,W.frozen? ⟨w.heap.size+1+1,i,none⟩=false
theorem fbox_new (w:World)(S:Int)(v1 v2 v3:Value)(x y h:Int):FBox w (fbox w S v1 v2 v3 x y h) S v1 v2 v3 x y h:=by
 have e1:(w.alloc (.cells #[.int i64 S,v1,v2,v3] 28)).heap.size=w.heap.size+1:=by simp
 have e2:((w.alloc (.cells #[.int i64 S,v1,v2,v3] 28)).alloc (.cells #[.int i64 x,.int i64 y,.int i64 h] 122)).heap.size=w.heap.size+1+1:=by simp
 have hb:∀(W:World) (o:Obj),Below W.heap.size W (W.alloc o):=fun W o=>(bRQ _ _).alloc (nLQ _) _
 have hs:=(vat_new (w.alloc (.cells #[.int i64 S,v1,v2,v3] 28)) [.int i64 x,.int i64 y,.int i64 h] 122).later (hb _ (Obj.cells #[.int i64 0,.string ⟨#[]⟩,.slice none 0 0] 70));rw[e1] at hs;have hr:=vat_new ((w.alloc (.cells #[.int i64 S,v1,v2,v3] 28)).alloc (.cells #[.int i64 x,.int i64 y,.int i64 h] 122)) [.int i64 0,.string ⟨#[]⟩,.slice none 0 0] 70;rw[e2] at hr;have hf:∀k,(fbox w S v1 v2 v3 x y h).frozen? ⟨((w.alloc (.cells #[.int i64 S,v1,v2,v3] 28)).alloc (.cells #[.int i64 x,.int i64 y,.int i64 h] 122)).heap.size,k,none⟩=false:=fun k=>by
  unfold fbox
  generalize (w.alloc (.cells #[.int i64 S,v1,v2,v3] 28)).alloc (.cells #[.int i64 x,.int i64 y,.int i64 h] 122)=X
  simp
 rw[e2] at hf;exact⟨(((bRQ _ _).alloc (nLQ _) _).alloc (by rw[e1];omega) _).alloc (by rw[e2];omega) _,((nebox_new w S v1 v2 v3 28).later (hb _ _)).later (hb _ _),hs 0 _ rfl,hs 1 _ rfl,hs 2 _ rfl,hr 0 _ rfl,hr 1 _ rfl,hr 2 _ rfl,hf⟩
theorem FBox.lt {w W:World}{S:Int}{v1 v2 v3:Value}{x y h:Int}(k:FBox w W S v1 v2 v3 x y h):w.heap.size+3≤W.heap.size:=bLQ W ⟨w.heap.size+1+1,0,none⟩ k.r0
theorem FBox.later {w W W':World}{S:Int}{v1 v2 v3:Value}{x y h:Int}(k:FBox w W S v1 v2 v3 x y h){B:Nat}(hB:w.heap.size+3≤B)(hb:Below B W W'):FBox w W' S v1 v2 v3 x y h:=
 have hc:∀(g i:Nat) (x:Value),g<w.heap.size+3→W.cell? ⟨g,i,none⟩=some x→W'.cell? ⟨g,i,none⟩=some x:=fun g i x hg e=>(hb.cell (p:=⟨g,i,none⟩) (show g<B by omega)).trans e
 ⟨k.below.trans (hb.mono (by omega)),⟨hc _ _ _ (by omega) k.n.1,hc _ _ _ (by omega) k.n.2.1,hc _ _ _ (by omega) k.n.2.2.1,hc _ _ _ (by omega) k.n.2.2.2⟩,hc _ _ _ (by omega) k.i0,hc _ _ _ (by omega) k.i1,hc _ _ _ (by omega) k.i2,hc _ _ _ (by omega) k.r0,hc _ _ _ (by omega) k.r1,hc _ _ _ (by omega) k.r2,fun i=>(hb.frozen (p:=⟨w.heap.size+1+1,i,none⟩) (show w.heap.size+1+1<B by omega)).trans (k.f i)⟩
def put3 (W:World)(g:Nat)(u v x:Value):World:=((W.setCell ⟨g,0,none⟩ u).setCell ⟨g,1,none⟩ v).setCell ⟨g,2,none⟩ x
theorem put3_cells {W:World}{g:Nat}{a b c u v x:Value}(k:W.cell? ⟨g,0,none⟩=some u∧W.cell? ⟨g,1,none⟩=some v∧W.cell? ⟨g,2,none⟩=some x):(put3 W g a b c).cell? ⟨g,0,none⟩=some a∧(put3 W g a b c).cell? ⟨g,1,none⟩=some b∧(put3 W g a b c).cell? ⟨g,2,none⟩=some c:=by
 unfold put3;have h1:(W.setCell ⟨g,0,none⟩ a).cell? ⟨g,1,none⟩=some v:=by
  rw[World.cell?_setCell_other _ _ _ _ (by simp)];exact k.2.1
 have h2:((W.setCell ⟨g,0,none⟩ a).setCell ⟨g,1,none⟩ b).cell? ⟨g,2,none⟩=some x:=by
  rw[World.cell?_setCell_other _ _ _ _ (by simp),World.cell?_setCell_other _ _ _ _ (by simp)];exact k.2.2
 refine⟨?_,?_,World.cell?_setCell_same _ _ _ h2⟩
 ·rw[World.cell?_setCell_other _ _ _ _ (by simp),World.cell?_setCell_other _ _ _ _ (by simp)];exact World.cell?_setCell_same _ _ _ k.1
 rw[World.cell?_setCell_other _ _ _ _ (by simp)];exact World.cell?_setCell_same _ _ _ h1
theorem below_put3 {B:Nat}{w W:World}(h:Below B w W)(g:Nat)(hg:B≤g)(u v x:Value):Below B w (put3 W g u v x):=((h.setCell (p:=⟨g,0,none⟩) hg u).setCell (p:=⟨g,1,none⟩) hg v).setCell (p:=⟨g,2,none⟩) hg x
theorem own_put3 {W:World}{B e size n:Nat}{v:Value}{xs:List Value}(h:W.ownsRow B e size v n xs)(g:Nat)(hg:g<B)(a b c:Value):(put3 W g a b c).ownsRow B e size v n xs:=ownsRow_setCell_below (ownsRow_setCell_below (ownsRow_setCell_below h hg _) hg _) hg _
def LegAt (W:World)(g:Nat)(a:Int)(b:ByteArray)(c d e:Int):Prop:=W.cell? ⟨g,0,none⟩=some (.int i64 a)∧W.cell? ⟨g,1,none⟩=some (.string b)∧W.cell? ⟨g,2,none⟩=some (.int i64 c)∧W.cell? ⟨g,3,none⟩=some (.int i64 d)∧W.cell? ⟨g,4,none⟩=some (.int i64 e)
theorem lat_of {W:World}{g:Nat}{a:Int}{b:ByteArray}{c d e:Int}(h0:W.cell? ⟨g,0,none⟩=some (.int i64 a))(h1:W.cell? ⟨g,1,none⟩=some (.string b))(h2:W.cell? ⟨g,2,none⟩=some (.int i64 c))(h3:W.cell? ⟨g,3,none⟩=some (.int i64 d))(h4:W.cell? ⟨g,4,none⟩=some (.int i64 e)):LegAt W g a b c d e:=⟨h0,h1,h2,h3,h4⟩
theorem LegAt.later {W W':World}{g:Nat}{a:Int}{b:ByteArray}{c d e:Int}(h:LegAt W g a b c d e)(hb:Below W.heap.size W W'):LegAt W' g a b c d e:=⟨cell_later hb h.1,cell_later hb h.2.1,cell_later hb h.2.2.1,cell_later hb h.2.2.2.1,cell_later hb h.2.2.2.2⟩
theorem lat_new (W:World)(a:Int)(b:ByteArray)(c d e:Int)(t:TypeId):LegAt (W.alloc (.cells #[.int i64 a,.string b,.int i64 c,.int i64 d,.int i64 e] t)) W.heap.size a b c d e:=
 have h:=vat_new W [.int i64 a,.string b,.int i64 c,.int i64 d,.int i64 e] t
 ⟨h 0 _ rfl,h 1 _ rfl,h 2 _ rfl,h 3 _ rfl,h 4 _ rfl⟩
theorem lat_put5 {W:World}{g:Nat}{a':Int}{b':ByteArray}{c' d' e':Int}(k:LegAt W g a' b' c' d' e')(a:Int)(b:ByteArray)(c d e:Int):LegAt (put5 W g (.int i64 a) (.string b) (.int i64 c) (.int i64 d) (.int i64 e)) g a b c d e:=by
 obtain⟨k0,k1,k2,k3,k4⟩:=k;unfold put5;have o:∀(W:World) (i j:Nat) (x:Value),i≠j→(W.setCell ⟨g,i,none⟩ x).cell? ⟨g,j,none⟩=W.cell? ⟨g,j,none⟩:=fun W i j x h=>World.cell?_setCell_other _ _ _ _ (by intro e;exact h (by injection e))
 refine⟨?_,?_,?_,?_,?_⟩
 ·rw[o _ _ _ _ (by decide),o _ _ _ _ (by decide),o _ _ _ _ (by decide),o _ _ _ _ (by decide)];exact World.cell?_setCell_same _ _ _ k0
 ·rw[o _ _ _ _ (by decide),o _ _ _ _ (by decide),o _ _ _ _ (by decide)];exact World.cell?_setCell_same _ _ _ (by rw[o _ _ _ _ (by decide)];exact k1)
 ·rw[o _ _ _ _ (by decide),o _ _ _ _ (by decide)];exact World.cell?_setCell_same _ _ _ (by rw[o _ _ _ _ (by decide),o _ _ _ _ (by decide)];exact k2)
 ·rw[o _ _ _ _ (by decide)];exact World.cell?_setCell_same _ _ _ (by rw[o _ _ _ _ (by decide),o _ _ _ _ (by decide),o _ _ _ _ (by decide)];exact k3)
 exact World.cell?_setCell_same _ _ _ (by rw[o _ _ _ _ (by decide),o _ _ _ _ (by decide),o _ _ _ _ (by decide),o _ _ _ _ (by decide)];exact k4)
theorem below_5 {B:Nat}{w W:World}(h:Below B w W)(g:Nat)(hg:B≤g)(a b c d e:Value):Below B w (((((W.setCell ⟨g,0,none⟩ a).setCell ⟨g,1,none⟩ b).setCell ⟨g,2,none⟩ c).setCell ⟨g,3,none⟩ d).setCell ⟨g,4,none⟩ e):=below_put5 h g hg a b c d e
theorem lat_5 {W:World}{g:Nat}{a':Int}{b':ByteArray}{c' d' e':Int}(k:LegAt W g a' b' c' d' e')(a:Int)(b:ByteArray)(c d e:Int):LegAt (((((W.setCell ⟨g,0,none⟩ (.int i64 a)).setCell ⟨g,1,none⟩ (.string b)).setCell ⟨g,2,none⟩ (.int i64 c)).setCell ⟨g,3,none⟩ (.int i64 d)).setCell ⟨g,4,none⟩ (.int i64 e)) g a b c d e:=lat_put5 k a b c d e
def ZL (W:World)(g:Nat):Prop:=LegAt W g 0 ⟨#[]⟩ 0 0 0∧∀i,W.frozen? ⟨g,i,none⟩=false
theorem ZL.lt {W:World}{g:Nat}(h:ZL W g):g<W.heap.size:=bLQ W ⟨g,0,none⟩ h.1.1
theorem ZL.later {W W':World}{g:Nat}(h:ZL W g)(hb:Below W.heap.size W W'):ZL W' g:=⟨h.1.later hb,fun i=>(hb.frozen (p:=⟨g,i,none⟩) h.lt).trans (h.2 i)⟩
theorem zl_new (W:World)(t:TypeId):ZL (W.alloc (.cells #[.int i64 0,.string ⟨#[]⟩,.int i64 0,.int i64 0,.int i64 0] t)) W.heap.size:=⟨lat_new W 0 ⟨#[]⟩ 0 0 0 t,froz_new2 W _ t⟩
theorem zl_a {W W':World}{t:TypeId}(hb:Below (W.alloc (.cells #[.int i64 0,.string ⟨#[]⟩,.int i64 0,.int i64 0,.int i64 0] t)).heap.size (W.alloc (.cells #[.int i64 0,.string ⟨#[]⟩,.int i64 0,.int i64 0,.int i64 0] t)) W'):ZL W' W.heap.size:=(zl_new W t).later hb
theorem zl_d {W W':World}{t:TypeId}(hb:Below (W.drew.alloc (.cells #[.int i64 0,.string ⟨#[]⟩,.int i64 0,.int i64 0,.int i64 0] t)).heap.size (W.drew.alloc (.cells #[.int i64 0,.string ⟨#[]⟩,.int i64 0,.int i64 0,.int i64 0] t)) W'):ZL W' W.heap.size:=(zl_new W.drew t).later hb
def sliL:Value→Nat
 | .slice _ n _=>n
 | _=>0
theorem follow_any (S:Int)(ao:AdQ)(n cap:Nat)(ao2:AdQ)(n2 cap2:Nat)(ao3:AdQ)(n3 cap3:Nat)(Ls:LkQ)(Hs:HoQ)(Ts:TsQ)(x y h:Int)(w:World)
 (hL:GS lnkE w (.slice ao n cap) Ls) (hH:GS hstE w (.slice ao2 n2 cap2) Hs) (hT:TS w (.slice ao3 n3 cap3) Ts) (hN:ntN S Ls Hs Ts=0) (hx:spB S (x,y)=true):
 Calls prog 45 #[.agg #[.int i64 S,.slice ao n cap,.slice ao2 n2 cap2,.slice ao3 n3 cap3],.agg #[.int i64 x,.int i64 y,.int i64 h]] w fun e w'=>∃ao4 n4 cap4,e=.returned (.agg #[.int i64 (frF Ls Hs Ts (x,y) h).1,.string (frF Ls Hs Ts (x,y) h).2.1,.slice ao4 n4 cap4])∧w'.ownsRow w.heap.size 122 3 (.slice ao4 n4 cap4) (frF Ls Hs Ts (x,y) h).2.2.length (cellsG hopE (frF Ls Hs Ts (x,y) h).2.2)∧Below w.heap.size w w':=by
 obtain⟨hTP,hTL,hTT⟩:=nt_0 hN;have hS:=(tp_0 hTP).1;have hnd:=(tp_0 hTP).2.2.2.1;have hTn:=hT.len;have hLn:=hL.len;have hl2:=(tp_0 hTP).2.1;have HTP:Hid (tpN S Ls Hs=0):=hTP;have HND:Hid ((spsL Ls).Nodup):=hnd;have HN1:Hid (n≤1000):=by show _≤_;omega
 have HTT:Hid (∀k,k<Ts.length→tbN (Ts.getD k [])=0):=hTT;have H36:Hid (n3≤6):=by show _≤_;omega
 have H3S:Hid ((n3:Int)=S):=by show _=_;omega
 have HLW:Hid (∀W,Below w.heap.size w W→GS lnkE W (.slice ao n cap) Ls):=fun W hb=>hL.later hb
 have HHW:Hid (∀W,Below w.heap.size w W→GS hstE W (.slice ao2 n2 cap2) Hs):=fun W hb=>hH.later hb
 have HTW:Hid (∀W,Below w.heap.size w W→TS W (.slice ao3 n3 cap3) Ts):=fun W hb=>hT.later hb
 obtain⟨F,hF⟩:∃F,F=frF Ls Hs Ts (x,y) h:=⟨_,rfl⟩;have HF:Hid (F=foF Ls Hs Ts 24 [((x,y),h)]):=hF;rw[←hF];have hX:=fbox_new w S (.slice ao n cap) (.slice ao2 n2 cap2) (.slice ao3 n3 cap3) x y h;obtain⟨w0,hw0⟩:∃W,W=fbox w S (.slice ao n cap) (.slice ao2 n2 cap2) (.slice ao3 n3 cap3) x y h:=⟨_,rfl⟩;rw[←hw0] at hX;have HX:Hid (FBox w w0 S (.slice ao n cap) (.slice ao2 n2 cap2) (.slice ao3 n3 cap3) x y h):=hX;have HW0:Hid (((w.alloc (.cells #[.int i64 S,.slice ao n cap,.slice ao2 n2 cap2,.slice ao3 n3 cap3] 28)).alloc (.cells #[.int i64 x,.int i64 y,.int i64 h] 122)).alloc (.cells #[.int i64 0,.string ⟨#[]⟩,.slice none 0 0] 70)=w0):=hw0.symm;have HXX:Hid (spB S (x,y)=true):=hx;clear hL hH hT hN hTP hTL hTT hS hnd hTn hLn hl2 hF hX hw0 hx;go_enter func45,ntmps45;go_upto_region 1 with fail;rw[HW0.out];obtain⟨_,⟨b0,b1,b2,b3⟩,i0,i1,i2,r0,r1,r2,f⟩:=HX.out;clear HW0 f
 go_wp2_with fail
 refine (peers_any ao n cap Ls _ (HLW.out _ HX.out.below) HND.out HN1.out).mono ?_;rintro e w1 ⟨B,M,rfl,hM,hPM,hb1⟩;have HM:Hid (MAt spotKey veS w1 B M):=hM;have HPM:Hid (PM M Ls):=hPM;have HX1:Hid (FBox w w1 S (.slice ao n cap) (.slice ao2 n2 cap2) (.slice ao3 n3 cap3) x y h):=HX.out.later HX.out.lt hb1;have hlB:B<w1.heap.size:=hM.lt;obtain⟨_,⟨b0,b1,b2,b3⟩,i0,i1,i2,r0,r1,r2,f⟩:=HX1.out;clear f hM hPM hb1 HX;go_wp2;have HLW1:Hid (w.heap.size+3≤w1.heap.size):=HX1.out.lt;have HO1:Hid ((w1.alloc (.cells #[.int i64 x,.int i64 y,.int i64 h] 122)).ownsRow w1.heap.size 122 3 (.slice (some ⟨w1.heap.size,0,none⟩) 1 1) ([((x,y),h)]:HpQ).length (cellsG hopE [((x,y),h)])):=
  World.ownsRow_lit (base:=w1.heap.size) (e:=122) (size:=3) w1 #[.int i64 x,.int i64 y,.int i64 h] 1 (nLQ _) (by decide) rfl
 clear b0 b1 b2 b3 i0 i1 i2 r0 r1 r2
 go_loopw [6] (fun v wr=>∃l:HpQ,(0<l.length∧l.length≤24)∧wr.ownsRow w1.heap.size 122 3 v l.length (cellsG hopE l)∧F=foF Ls Hs Ts (25-l.length) l∧spB S (laH l).1=true∧Below w1.heap.size w1 wr) (fun v _=>25-sliL v)
 case atStart=>exact⟨[((x,y),h)],by simp,HO1.out,HF.out,HXX.out,(bRQ _ _).alloc (nLQ _) _⟩
 case round =>
  obtain⟨l,⟨hl0,hl24⟩,hown,hFl,hsp,hBr⟩:=hrel;obtain⟨ao5,cap5,rfl⟩:=own_form hown;obtain⟨wo,hwo⟩:∃X,X=wr:=⟨_,rfl⟩;subst hwo;obtain⟨m,hm⟩:∃m,m=l.length:=⟨_,rfl⟩;have HML:Hid (l.length=m):=hm.symm;rw[←hm] at hown hl0 hl24 hFl;rw[←hm];have HOWN:Hid (wo.ownsRow w1.heap.size 122 3 (.slice ao5 m cap5) m (cellsG hopE l)):=hown;have HFL:Hid (F=foF Ls Hs Ts (25-l.length) l):=by
   show _=_;rw[←hm];exact hFl
  have HL24:Hid (l.length≤24):=by
   show _≤_;omega
  have HBr:Hid (Below w1.heap.size w1 wo):=hBr;have HXo:Hid (FBox w wo S (.slice ao n cap) (.slice ao2 n2 cap2) (.slice ao3 n3 cap3) x y h):=HX1.out.later HX1.out.lt hBr;have HMo:Hid (MAt spotKey veS wo B M):=HM.out.later hBr;obtain⟨_,_,_,e5,hGn,hGm,_,hGa⟩:=(own_GS (E:=hopE) (L:=l) (by rw[←hm];exact hown):GS hopE wo (.slice ao5 m cap5) l).form;cases e5;obtain⟨g5,o5,hao5,hc5,_⟩:=hGa hl0;subst hao5;obtain⟨p0,p1,p2,hkl,hLk,c0,c1,c2⟩:=hop_at hc5 HML.out (show m-1<m by omega);have hla:laH l=((p0,p1),p2):=by
   have e:laH l=l[m-1]:=by
    unfold laH;rw[←hm];simp[List.getD,hkl]
   rw[e,hLk]
  have HLA:Hid (laH l=((p0,p1),p2)):=hla;rw[hla] at hsp;have hsp2:=sp_of hsp;simp only at hsp2;have HS1:Hid (1≤p0):=hsp2.1;have HS2:Hid (p0≤(n3:Int)):=by
   show _≤_;rw[H3S.out];exact hsp2.2.1
  obtain⟨G0,hG0⟩:∃G,G=lgT Ls Hs (taT Ts p0) ((p0,p1),p2):=⟨_,rfl⟩;obtain⟨G,hG⟩:∃G,G=afL G0 l:=⟨_,rfl⟩;have HGL:Hid (G=afL (lgT Ls Hs (taT Ts (laH l).1.1) (laH l)) l):=by
   show _=_;rw[hG,hG0,hla]
  have HGN:Hid (G.2.1.size≤1000000):=by
   show _≤_;rw[hG,hG0];exact af_name (lg_name HTP.out _ _)
  have HLEG:Hid (∀W,Below wo.heap.size wo W→Calls prog 75 #[.agg #[.int i64 S,.slice ao n cap,.slice ao2 n2 cap2,.slice ao3 n3 cap3],.map (some B),.agg #[.int i64 p0,.int i64 p1,.int i64 p2]] W fun e w'=>e=.returned (legV G0)∧Below W.heap.size W w'):=fun W hW=>by
   have hx:=HXo.out.below.trans (hW.mono HXo.out.below.size);rw[hG0];exact leg_any S ao n cap ao2 n2 cap2 ao3 n3 cap3 Ls Hs Ts B M p0 p1 p2 W (HHW.out W hx) (HTW.out W hx) (HMo.out.later hW) HPM.out HTT.out HS1.out HS2.out H36.out
  have HAFT:Hid (∀W,Below wo.heap.size wo W→Calls prog 76 #[legV G0,.slice (some ⟨g5,o5,none⟩) m cap5] W fun e w'=>e=.returned (legV G)∧Below W.heap.size W w'):=fun W hW=>by
   rw[hG];exact after_any G0 (some ⟨g5,o5,none⟩) m cap5 l W ((own_GS (E:=hopE) (L:=l) (by rw[HML.out];exact HOWN.out):GS hopE wo (.slice (some ⟨g5,o5,none⟩) m cap5) l).later hW)
  clear hG hG0;obtain⟨a0,a1,⟨a2,a3⟩,a4⟩:=G0;obtain⟨k0,k1,⟨k2,k3⟩,k4⟩:=G;unfold legV at HLEG HAFT
  dsimp only at HLEG HAFT HGN
  have hmi:IntKind.i64.wrap ((m:Int)-1)=((m-1:Nat):Int):=by
   rw[show (m:Int)-1=((m-1:Nat):Int) by omega];exact wrap_small (by omega) (by omega)
  have mb0:(0:Int)≤((m-1:Nat):Int):=by omega
  have mb1:((m-1:Nat):Int)<(m:Int):=by omega
  obtain⟨_,⟨b0,b1,b2,b3⟩,i0,i1,i2,r0,r1,r2,f⟩:=HXo.out;have hlw:w.heap.size<wo.heap.size:=bLQ _ _ b0;have hlg:g5<wo.heap.size:=bLQ _ _ c0;have HSW:Hid (∀W,Below wo.heap.size wo W→W.cell? ⟨w.heap.size,0,none⟩=some (.int i64 S)∧W.cell? ⟨w.heap.size,1,none⟩=some (.slice ao n cap)∧W.cell? ⟨w.heap.size,2,none⟩=some (.slice ao2 n2 cap2)∧W.cell? ⟨w.heap.size,3,none⟩=some (.slice ao3 n3 cap3)∧W.cell? ⟨g5,o5+(m-1)*3,none⟩=some (.int i64 p0)∧W.cell? ⟨g5,o5+(m-1)*3+1,none⟩=some (.int i64 p1)∧W.cell? ⟨g5,o5+(m-1)*3+2,none⟩=some (.int i64 p2)):=fun W hW=>⟨cell_later hW b0,cell_later hW b1,cell_later hW b2,cell_later hW b3,cell_later hW c0,cell_later hW c1,cell_later hW c2⟩
  clear hown hFl hsp hBr hm hGn hGm hGa hc5 hLk hla hsp2 f HO1 HF HXX HX1 HM i0 i1 i2 r0 r1 r2;go_upto_region 3 with fail
  go_cut [7] from 14 to 39 (fun p w'=>∃g,p=.pointer (some ⟨g,0,none⟩)∧(LegAt w' g k0 k1 k2 k3 k4∧wo.heap.size≤g)∧Below wo.heap.size wo w')
  case first =>
   go_region_held3 (fun W=>W.cell? ⟨w.heap.size,0,none⟩=some (.int i64 S)∧W.cell? ⟨w.heap.size,1,none⟩=some (.slice ao n cap)∧W.cell? ⟨w.heap.size,2,none⟩=some (.slice ao2 n2 cap2)∧W.cell? ⟨w.heap.size,3,none⟩=some (.slice ao3 n3 cap3)∧W.cell? ⟨g5,o5+(m-1)*3,none⟩=some (.int i64 p0)∧W.cell? ⟨g5,o5+(m-1)*3+1,none⟩=some (.int i64 p1)∧W.cell? ⟨g5,o5+(m-1)*3+2,none⟩=some (.int i64 p2))
    (first | (with_reducible assumption) | (with_reducible exact HSW.out _ (Below.drew (bRQ _ _))) | (with_reducible exact HSW.out _ ((Below.drew (bRQ _ _)).alloc (nLQ _) _)) | (with_reducible exact HSW.out _ ((bRQ _ _).alloc (nLQ _) _).drew) | (with_reducible exact HSW.out _ HBX.out) | (with_reducible exact HSW.out _ (HBX.out.alloc HBX.out.size _)) | (with_reducible exact HSW.out _ HBY.out) | (with_reducible exact HSW.out _ (HBY.out.alloc HBY.out.size _)) | (with_reducible exact HSW.out _ (below_5 HBY.out _ (nLQ _) _ _ _ _ _)) | (with_reducible exact HSW.out _ (below_5 HBY.out _ HBX.out.size _ _ _ _ _)))
    (first
     | (go_at_call 75;refine (HLEG.out _ (by first | exact Below.drew (bRQ _ _) | exact (Below.drew (bRQ _ _)).alloc (nLQ _) _)).mono ?_;rintro e w' ⟨rfl,hb⟩;have HBX:Hid (Below wo.heap.size wo w'):=(by first | exact bdrew hb | exact balloc hb);(try (have HZ:Hid (ZL w' wo.heap.size):=zl_d hb));clear hb)
     | (go_at_call 76;refine (HAFT.out _ (by first | exact HBX.out | exact HBX.out.alloc HBX.out.size _)).mono ?_;rintro e w'' ⟨rfl,hb⟩;have HBY:Hid (Below wo.heap.size wo w''):=(by first | exact HBX.out.trans (hb.mono HBX.out.size) | exact (HBX.out.alloc HBX.out.size _).trans (hb.mono (HBX.out.alloc HBX.out.size _).size));(try (have hbc:=HZ.out.later hb;obtain⟨⟨y0,y1,y2,y3,y4⟩,yf⟩:=hbc;have yf0:=yf 0;have yf1:=yf 1;have yf2:=yf 2;have yf3:=yf 3;have yf4:=yf 4;clear yf));(try (have hbc:=zl_a hb;obtain⟨⟨y0,y1,y2,y3,y4⟩,yf⟩:=hbc;have yf0:=yf 0;have yf1:=yf 1;have yf2:=yf 2;have yf3:=yf 3;have yf4:=yf 4;clear yf));clear hb))
   all_goals (go_wp2_with fail;go_meet)
   all_goals refine⟨_,rfl,?_⟩
   all_goals first
    | (with_reducible exact⟨⟨lat_new _ _ _ _ _ _ _,HBY.out.size⟩,HBY.out.alloc HBY.out.size _⟩)
    | (with_reducible exact⟨⟨lat_5 (lat_of y0 y1 y2 y3 y4) _ _ _ _ _,nLQ _⟩,below_5 HBY.out _ (nLQ _) _ _ _ _ _⟩)
    | (with_reducible exact⟨⟨lat_5 (lat_of y0 y1 y2 y3 y4) _ _ _ _ _,HBX.out.size⟩,below_5 HBY.out _ HBX.out.size _ _ _ _ _⟩)
  case rest =>
   obtain⟨g,rfl,⟨⟨d0,d1,d2,d3,d4⟩,hgo⟩,hbw⟩:=hcut;have HXc:Hid (FBox w wc S (.slice ao n cap) (.slice ao2 n2 cap2) (.slice ao3 n3 cap3) x y h):=HXo.out.later HXo.out.lt hbw;have HOc:Hid (wc.ownsRow w1.heap.size 122 3 (.slice (some ⟨g5,o5,none⟩) m cap5) m (cellsG hopE l)):=own_below HOWN.out hbw;have HBc:Hid (Below w1.heap.size w1 wc):=HBr.out.trans (hbw.mono HBr.out.size);obtain⟨hBw,⟨b0,b1,b2,b3⟩,i0,i1,i2,r0,r1,r2,f⟩:=HXc.out;have HBw:Hid (Below w.heap.size w wc):=hBw;have f0:=f 0;have f1:=f 1;have f2:=f 2;have hlw1:w.heap.size+3≤w1.heap.size:=HLW1.out;have hs1c:w1.heap.size≤wc.heap.size:=HBc.out.size;have HLT:Hid (LegAt wc g k0 k1 k2 k3 k4):=⟨d0,d1,d2,d3,d4⟩;clear hbw f hBw HXo HOWN HMo HBr HSW HLEG HAFT hgo c0 c1 c2;by_cases hk:k0=0
   ·subst hk;have HFN:Hid (F=foF Ls Hs Ts (25-(l++[((k2,k3),k4)]).length) (l++[((k2,k3),k4)])):=by
     show _=_;rw[HFL.out];exact fo_on HL24.out HGL.out rfl
    have HG4:Hid (afL (lgT Ls Hs (taT Ts (laH l).1.1) (laH l)) l=lgT Ls Hs (taT Ts (laH l).1.1) (laH l)∧(lgT Ls Hs (taT Ts (laH l).1.1) (laH l)).1=0∧l.length≠24):=by
     have h:=af_0 (g:=lgT Ls Hs (taT Ts (laH l).1.1) (laH l)) (l:=l) (by rw[←HGL.out]);exact⟨h.1,h.2.1,h.2.2.1⟩
    have HSPN:Hid (spB S (laH (l++[((k2,k3),k4)])).1=true):=by
     show _=_;rw[la_app];have h2:=lg_sp HTP.out HG4.out.2.1;rw[←HG4.out.1,←HGL.out] at h2;exact h2
    have hm23:m≤23:=by
     have h1:=HG4.out.2.2;rw[HML.out] at h1;omega
    obtain⟨j0,hj,hy0,hy1,hy2⟩:=info_parts hop_info;have hlgc:g<wc.heap.size:=bLQ _ _ d0;clear r0 r1 r2 f0 f1 f2 HG4
    go_wp2_with (at_builtin;refine wpList_append_own _ rfl _ _ 68 rfl w1.heap.size 122 j0 (.agg #[.int i64 0,.int i64 0,.int i64 0]) 3 24 underlying68 hj hy0 hy1 hy2 hop_zero (by decide) _ _ _ rfl (HOc.out.alloc _) ⟨wc.heap.size,0,none⟩ 1 1 [.int i64 k2,.int i64 k3,.int i64 k4] rfl rfl ?m1 ?m2 ?m3 ?m4 ?m5 ?_)
    case m1 =>
     intro j u hj
     match j,hj with
     | 0,hj=>simp at hj;subst hj;simp[Addr.add]
     | 1,hj=>simp at hj;subst hj;simp[Addr.add]
     | 2,hj=>simp at hj;subst hj;simp[Addr.add]
    case m2=>intro u hu;simp at hu;rcases hu with rfl | rfl | rfl <;> rfl
    case m3=>unfold maxLen;omega
    case m4=>omega
    case m5=>simp;omega
    intro v5 w5 hown5 hgrow5 _;obtain⟨ao6,cap6,rfl⟩:=own_form hown5;have hb5:Below w1.heap.size wc w5:=((Below.refl _ wc).alloc hs1c _).grown hgrow5 (by simp;omega) (fun g hg=>(HOc.out.lt g hg).1);have HB5:Hid (Below w1.heap.size w1 w5):=HBc.out.trans hb5;have HO5:Hid (w5.ownsRow w1.heap.size 122 3 (.slice ao6 (m+1) cap6) (l++[((k2,k3),k4)]).length (cellsG hopE (l++[((k2,k3),k4)]))):=by
     show World.ownsRow _ _ _ _ _ _ _;rw[List.length_append,HML.out,cellsG_app,cellsG_one];exact hown5
    have HLL:Hid (0<(l++[((k2,k3),k4)]).length∧(l++[((k2,k3),k4)]).length≤24):=by
     rw[List.length_append,HML.out];exact⟨by simp,by simp;omega⟩
    clear hb5 hgrow5 hown5;go_wp2;go_roundw
    case rel=>exact⟨l++[((k2,k3),k4)],HLL.out,HO5.out,HFN.out,HSPN.out,HB5.out⟩
    case measure=>simp[sliL];omega
   have HF2:Hid (F=(k0,k1,l)):=by
    show _=_;rw[HFL.out];exact fo_end HL24.out HGL.out hk
   have ek:(k0 != 0)=true:=by simp[hk]
   have hlgc:g<wc.heap.size:=bLQ _ _ d0;clear hk d2 d3 d4 r0 r1 r2 f0 f1 f2;go_upto_region 5 with fail
   go_region_with (go_at_call 31;refine (clone_any k1 _ HGN.out).mono ?_;rintro e w3 ⟨rfl,hb3⟩;have hbz:=bdrew hb3;have HO3:Hid (w3.ownsRow w1.heap.size 122 3 (.slice (some ⟨g5,o5,none⟩) m cap5) m (cellsG hopE l)):=own_below HOc.out hbz;have HX3:Hid (FBox w w3 S (.slice ao n cap) (.slice ao2 n2 cap2) (.slice ao3 n3 cap3) x y h):=HXc.out.later HXc.out.lt hbz;have hld:=HLT.out.later hbz;obtain⟨d0,d1,d2,d3,d4⟩:=hld;obtain⟨hBw3,⟨b0,b1,b2,b3⟩,i0,i1,i2,r0,r1,r2,f⟩:=HX3.out;have HBw3:Hid (Below w.heap.size w w3):=hBw3;have f0:=f 0;have f1:=f 1;have f2:=f 2;clear hb3 hbz f hBw3)
   all_goals
    go_wp2;refine bodyPost_ret (v:=.agg #[.int i64 k0,.string k1,.slice (some ⟨g5,o5,none⟩) m cap5]) (by simp[results,results45,go_sem, *]) rfl ⟨_,_,_,by rw[HF2.out],?_,below_put3 HBw3.out _ (by omega) _ _ _⟩;rw[HF2.out];exact own_mono (B:=w1.heap.size) (by rw[HML.out];exact own_put3 HO3.out _ (by omega) _ _ _) (by have:=HLW1.out;omega)
theorem where1_any (n:ByteArray)(x0 x1:Int)(B:Nat)(m:ByteArray)(w:World)(h0:w.cell? ⟨B,0,none⟩=some (.string m)):
 Calls prog 73 #[.agg #[.string n,.int i64 x0,.int i64 x1],.pointer (some ⟨B,0,none⟩)] w fun e w'=>e=.returned (.bool (n==m))∧Below w.heap.size w w':=by
 have hlt:B<w.heap.size:=bLQ _ _ h0;have HB0:Hid (Below w.heap.size w (w.alloc (.cells #[Value.string n,.int i64 x0,.int i64 x1] 67))):=(bRQ _ _).alloc (nLQ _) _;rw[beq_toListBytes];go_enter func73,ntmps73;go_wp2;go_ret;exact⟨rfl,HB0.out⟩
theorem where1_asks (B:Nat)(m:ByteArray)(w:World)(h0:w.cell? ⟨B,0,none⟩=some (.string m)):hstAsks w 73 (.pointer (some ⟨B,0,none⟩)) (fun h=>h.1==m):=
 fun n x0 x1 W hW=>where1_any n x0 x1 B m W (cell_later hW h0)
def wbox (w:World)(S:Int)(v1 v2:Value)(m:ByteArray):World:=((w.alloc (.cells #[.int i64 S,v1,v2] 25)).alloc (.cells #[.string m] 9)).alloc (.cells #[.int i64 0,.int i64 0] 65)
structure WBox (w W:World)(S:Int)(v1 v2:Value)(m:ByteArray):Prop where
 below:Below w.heap.size w W
 t:TBox W w.heap.size S v1 v2
 s:W.cell? ⟨w.heap.size+1,0,none⟩=some (.string m)
 r0:W.cell? ⟨w.heap.size+1+1,0,none⟩=some (.int i64 0)
 r1:W.cell? ⟨w.heap.size+1+1,1,none⟩=some (.int i64 0)
 f:∀i,W.frozen? ⟨w.heap.size+1+1,i,none⟩=false
theorem froz_new (w:World)(cs:Array Value)(t:TypeId)(k:Nat):(w.alloc (.cells cs t)).frozen? ⟨w.heap.size,k,none⟩=false:=by simp
theorem wbox_new (w:World)(S:Int)(v1 v2:Value)(m:ByteArray):WBox w (wbox w S v1 v2 m) S v1 v2 m:=by
 have e1:(w.alloc (.cells #[.int i64 S,v1,v2] 25)).heap.size=w.heap.size+1:=by simp
 have e2:((w.alloc (.cells #[.int i64 S,v1,v2] 25)).alloc (.cells #[.string m] 9)).heap.size=w.heap.size+1+1:=by simp
 have hb:∀(W:World) (o:Obj),Below W.heap.size W (W.alloc o):=fun W o=>(bRQ _ _).alloc (nLQ _) _
 have hs:=(vat_new (w.alloc (.cells #[.int i64 S,v1,v2] 25)) [.string m] 9).later (hb _ (Obj.cells #[.int i64 0,.int i64 0] 65));rw[e1] at hs;have hr:=vat_new ((w.alloc (.cells #[.int i64 S,v1,v2] 25)).alloc (.cells #[.string m] 9)) [.int i64 0,.int i64 0] 65;rw[e2] at hr;have hf:=froz_new ((w.alloc (.cells #[.int i64 S,v1,v2] 25)).alloc (.cells #[.string m] 9)) #[.int i64 0,.int i64 0] 65;rw[e2] at hf;exact⟨(((bRQ _ _).alloc (nLQ _) _).alloc (by rw[e1];omega) _).alloc (by rw[e2];omega) _,((tbox_new w S v1 v2 25).later (hb _ _)).later (hb _ _),hs 0 _ rfl,hr 0 _ rfl,hr 1 _ rfl,hf⟩
theorem WBox.later {w W W':World}{S:Int}{v1 v2:Value}{m:ByteArray}(h:WBox w W S v1 v2 m)(hb:Below W.heap.size W W'):WBox w W' S v1 v2 m:=
 ⟨h.below.trans (hb.mono h.below.size),h.t.later hb,cell_later hb h.s,cell_later hb h.r0,cell_later hb h.r1,fun i=>(hb.frozen (p:=⟨w.heap.size+1+1,i,none⟩) (show (⟨w.heap.size+1+1,0,none⟩:Addr).block<W.heap.size from bLQ W ⟨w.heap.size+1+1,0,none⟩ h.r0)).trans (h.f i)⟩
theorem below_two {w W:World}(h:Below w.heap.size w W)(g:Nat)(hg:w.heap.size≤g)(u v:Value):Below w.heap.size w ((W.setCell ⟨g,0,none⟩ u).setCell ⟨g,1,none⟩ v):=(h.setCell (p:=⟨g,0,none⟩) hg u).setCell (p:=⟨g,1,none⟩) hg v
theorem where_any (S:Int)(ao:AdQ)(n cap:Nat)(ao2:AdQ)(n2 cap2:Nat)(Ls:LkQ)(Hs:HoQ)(m:ByteArray)(w:World)
 (hL:GS lnkE w (.slice ao n cap) Ls) (hH:GS hstE w (.slice ao2 n2 cap2) Hs):
 Calls prog 43 #[.agg #[.int i64 S,.slice ao n cap,.slice ao2 n2 cap2],.string m] w fun e w'=>e=.returned (.tuple #[.agg #[.int i64 (weV S Ls Hs m).1,.int i64 (weV S Ls Hs m).2],noV (weN S Ls Hs m)])∧Below w.heap.size w w':=by
 have hX:=wbox_new w S (.slice ao n cap) (.slice ao2 n2 cap2) m;obtain⟨R,hR⟩:∃R,R=weN S Ls Hs m:=⟨_,rfl⟩;have HR:Hid (R=weN S Ls Hs m):=hR;obtain⟨V1,hV1⟩:∃V,V=(weV S Ls Hs m).1:=⟨_,rfl⟩;have HV1:Hid (V1=(weV S Ls Hs m).1):=hV1;obtain⟨V2,hV2⟩:∃V,V=(weV S Ls Hs m).2:=⟨_,rfl⟩;have HV2:Hid (V2=(weV S Ls Hs m).2):=hV2;rw[←hR,←hV1,←hV2];have HL2:Hid (GS lnkE (wbox w S (.slice ao n cap) (.slice ao2 n2 cap2) m) (.slice ao n cap) Ls):=hL.later hX.below;have HH2:Hid (GS hstE (wbox w S (.slice ao n cap) (.slice ao2 n2 cap2) m) (.slice ao2 n2 cap2) Hs):=hH.later hX.below;have HX:Hid (WBox w (wbox w S (.slice ao n cap) (.slice ao2 n2 cap2) m) S (.slice ao n cap) (.slice ao2 n2 cap2) m):=hX;clear hR hV1 hV2 hX hL hH;go_enter func43,ntmps43
 go_wp2_with fail
 refine (check_any S ao n cap ao2 n2 cap2 Ls Hs _ HL2.out HH2.out).mono ?_;rintro e w1 ⟨rfl,hb1⟩;obtain⟨T,hT⟩:∃T,T=tpN S Ls Hs:=⟨_,rfl⟩;have HT:Hid (T=tpN S Ls Hs):=hT;rw[←hT];have hX1:=HX.out.later hb1;have HX1:Hid (WBox w w1 S (.slice ao n cap) (.slice ao2 n2 cap2) m):=hX1;have HH1:Hid (GS hstE w1 (.slice ao2 n2 cap2) Hs):=HH2.out.later hb1;obtain⟨_,⟨b0,b1,b2⟩,s0,r0,r1,f⟩:=hX1;have f0:=f 0;have f1:=f 1;clear hT hb1 HX HL2 HH2 f;by_cases h0:T=0
 ·subst h0;rw[no_ok rfl];have HK:Hid (hstAsks w1 73 (.pointer (some ⟨w.heap.size+1,0,none⟩)) (fun h=>h.1==m)):=where1_asks _ m w1 s0;obtain⟨_,_,_,e2,hHn,hHm,_,hHa⟩:=HH1.out.form;cases e2;have HHN:Hid (Hs.length=n2):=hHn;have HHM:Hid (n2≤maxLen):=hHm;have HHA:Hid (0<n2→∃g o,ao2=some ⟨g,o,none⟩∧GAt hstE w1 g o Hs∧cap2≤maxLen):=hHa;clear hHn hHm hHa s0 r0 r1 f0 f1
  go_wp2_with fail
  refine (hst_idxF ao2 n2 cap2 _ _ (fun h=>h.1==m) Hs _ HHN.out HHM.out HHA.out (enters_of func73 (by kernel_rfl) rfl) HK.out).mono ?_;rintro e w2 ⟨rfl,hb2⟩;have hX2:=HX1.out.later hb2;have HB3:Hid (Below w.heap.size w w2):=hX2.below;have HHA2:Hid (0<n2→∃g o,ao2=some ⟨g,o,none⟩∧GAt hstE w2 g o Hs∧cap2≤maxLen):=fun h=>by
   obtain⟨g,o,e1,e2,e3⟩:=HHA.out h;exact⟨g,o,e1,e2.later hb2,e3⟩
  obtain⟨_,⟨b0,b1,b2⟩,s0,r0,r1,f⟩:=hX2;have f0:=f 0;have f1:=f 1;clear hb2 HHA HX1 f
  rcases where_ix Hs m with ⟨hi,ho⟩ | ⟨k,hk,hi,ho⟩
  ·rw[hi];have HR5:Hid (R=5):=by
    show _=_;rw[HR.out,weN,if_pos HT.out.symm,ho];rfl
   have HV5:Hid (V1=0∧V2=0):=by
    have h5:=HR5.out;have e:weV S Ls Hs m=(0,0):=by rw[weV,←HR.out,h5,if_neg (by decide)]
    exact⟨by rw[HV1.out,e],by rw[HV2.out,e]⟩
   clear hi ho;go_wp2;refine bodyPost_ret (v:=.tuple #[.agg #[.int i64 0,.int i64 0],.iface 81 (.int i64 5)]) (by simp[results,results43,go_sem, *]) rfl ⟨by rw[HR5.out,HV5.out.1,HV5.out.2];rfl,below_two HB3.out _ (by omega) _ _⟩
  rw[hi];have HR0:Hid (R=0):=by
   show _=_;rw[HR.out,weN,if_pos HT.out.symm,ho];rfl
  have hlt:k<n2:=by rw[←HHN.out];exact hk
  obtain⟨g,o,hao,hc,_⟩:=HHA2.out (by omega);subst hao;obtain⟨y0,y1,y2,hkl,hHk,q0,q1,q2⟩:=hst_at hc HHN.out hlt;have HV0:Hid (V1=y1∧V2=y2):=by
   have h5:=HR0.out;have e:weV S Ls Hs m=(y1,y2):=by rw[weV,←HR.out,h5,if_pos rfl,ho,Option.getD_some,hHk]
   exact⟨by rw[HV1.out,e],by rw[HV2.out,e]⟩
  have kb0:(0:Int)≤(k:Int):=by omega
  have kb1:(k:Int)<(n2:Int):=by omega
  have hk0:¬(k:Int)<0:=by omega
  clear hi ho hHk hc HHA2;go_wp2;refine bodyPost_ret (v:=.tuple #[.agg #[.int i64 y1,.int i64 y2],.nilIface]) (by simp[results,results43,go_sem, *]) rfl ⟨by rw[HR0.out,HV0.out.1,HV0.out.2];rfl,below_two HB3.out _ (by omega) _ _⟩
 rw[no_ne h0];have HR2:Hid (R=T):=by
  show _=_;rw[HR.out,weN,←HT.out,if_neg h0]
 have HV5:Hid (V1=0∧V2=0):=by
  have h2:=HR2.out;have e:weV S Ls Hs m=(0,0):=by rw[weV,←HR.out,h2,if_neg h0]
  exact⟨by rw[HV1.out,e],by rw[HV2.out,e]⟩
 have HN0:Hid (T≠0):=h0;clear h0;go_wp2;refine bodyPost_ret (v:=.tuple #[.agg #[.int i64 0,.int i64 0],.iface 81 (.int i64 T)]) (by simp[results,results43,go_sem, *]) rfl ⟨by rw[HR2.out,HV5.out.1,HV5.out.2,no_ne HN0.out],below_two HX1.out.below _ (by omega) _ _⟩
structure VBox (w W:World)(S:Int)(v1 v2 v3:Value):Prop where
 below:Below w.heap.size w W
 n:NeBox W w.heap.size S v1 v2 v3
 r0:W.cell? ⟨w.heap.size+1,0,none⟩=some (.int i64 0)
 r1:W.cell? ⟨w.heap.size+1,1,none⟩=some (.string ⟨#[]⟩)
 r2:W.cell? ⟨w.heap.size+1,2,none⟩=some (.slice none 0 0)
 f:∀i,W.frozen? ⟨w.heap.size+1,i,none⟩=false
theorem vbox_new (w:World)(S:Int)(v1 v2 v3:Value):VBox w ((w.alloc (.cells #[.int i64 S,v1,v2,v3] 28)).alloc (.cells #[.int i64 0,.string ⟨#[]⟩,.slice none 0 0] 70)) S v1 v2 v3:=by
 have e1:(w.alloc (.cells #[.int i64 S,v1,v2,v3] 28)).heap.size=w.heap.size+1:=by simp
 have hb:∀(W:World) (o:Obj),Below W.heap.size W (W.alloc o):=fun W o=>(bRQ _ _).alloc (nLQ _) _
 have hn:=(nebox_new w S v1 v2 v3 28).later (hb _ (Obj.cells #[.int i64 0,.string ⟨#[]⟩,.slice none 0 0] 70));have hB:=((Below.refl w.heap.size w).alloc (nLQ _) (Obj.cells #[.int i64 S,v1,v2,v3] 28)).alloc (by rw[e1];omega) (Obj.cells #[.int i64 0,.string ⟨#[]⟩,.slice none 0 0] 70)
 generalize w.alloc (.cells #[.int i64 S,v1,v2,v3] 28)=X at e1 hn hB
 have hr:=vat_new X [.int i64 0,.string ⟨#[]⟩,.slice none 0 0] 70;have hf:=froz_new2 X #[.int i64 0,.string ⟨#[]⟩,.slice none 0 0] 70;rw[e1] at hr hf;exact⟨hB,hn,hr 0 _ rfl,hr 1 _ rfl,hr 2 _ rfl,hf⟩
theorem VBox.later {w W W':World}{S:Int}{v1 v2 v3:Value}(k:VBox w W S v1 v2 v3)(hb:Below W.heap.size W W'):VBox w W' S v1 v2 v3:=
 ⟨k.below.trans (hb.mono k.below.size),k.n.later hb,cell_later hb k.r0,cell_later hb k.r1,cell_later hb k.r2,fun i=>(hb.frozen (p:=⟨w.heap.size+1,i,none⟩) (show (⟨w.heap.size+1,0,none⟩:Addr).block<W.heap.size from bLQ W ⟨w.heap.size+1,0,none⟩ k.r0)).trans (k.f i)⟩
theorem own_none (W:World)(B:Nat):W.ownsRow B 122 3 (.slice none 0 0) (zeF.2.2).length (cellsG hopE zeF.2.2):=World.ownsRow_nil _ _ _ _
theorem send_any (S:Int)(ao:AdQ)(n cap:Nat)(ao2:AdQ)(n2 cap2:Nat)(ao3:AdQ)(n3 cap3:Nat)(Ls:LkQ)(Hs:HoQ)(Ts:TsQ)(m:ByteArray)(h:Int)(w:World)
 (hL:GS lnkE w (.slice ao n cap) Ls) (hH:GS hstE w (.slice ao2 n2 cap2) Hs) (hT:TS w (.slice ao3 n3 cap3) Ts):
 Calls prog 17 #[.agg #[.int i64 S,.slice ao n cap,.slice ao2 n2 cap2,.slice ao3 n3 cap3],.string m,.int i64 h] w fun e w'=>∃ao4 n4 cap4,e=.returned (.tuple #[.agg #[.int i64 (seV S Ls Hs Ts m h).1,.string (seV S Ls Hs Ts m h).2.1,.slice ao4 n4 cap4],noV (seN S Ls Hs Ts m h)])∧w'.ownsRow w.heap.size 122 3 (.slice ao4 n4 cap4) (seV S Ls Hs Ts m h).2.2.length (cellsG hopE (seV S Ls Hs Ts m h).2.2)∧Below w.heap.size w w':=by
 obtain⟨R,hR⟩:∃R,R=seN S Ls Hs Ts m h:=⟨_,rfl⟩;obtain⟨V,hV⟩:∃V,V=seV S Ls Hs Ts m h:=⟨_,rfl⟩;have HR:Hid (R=seN S Ls Hs Ts m h):=hR;have HV:Hid (V=seV S Ls Hs Ts m h):=hV;rw[←hR,←hV];have HLW:Hid (∀W,Below w.heap.size w W→GS lnkE W (.slice ao n cap) Ls):=fun W hb=>hL.later hb
 have HHW:Hid (∀W,Below w.heap.size w W→GS hstE W (.slice ao2 n2 cap2) Hs):=fun W hb=>hH.later hb
 have HTW:Hid (∀W,Below w.heap.size w W→TS W (.slice ao3 n3 cap3) Ts):=fun W hb=>hT.later hb
 have hX:=vbox_new w S (.slice ao n cap) (.slice ao2 n2 cap2) (.slice ao3 n3 cap3);obtain⟨w0,hw0⟩:∃W,(w.alloc (.cells #[.int i64 S,.slice ao n cap,.slice ao2 n2 cap2,.slice ao3 n3 cap3] 28)).alloc (.cells #[.int i64 0,.string ⟨#[]⟩,.slice none 0 0] 70)=W:=⟨_,rfl⟩;rw[hw0] at hX;have HX:Hid (VBox w w0 S (.slice ao n cap) (.slice ao2 n2 cap2) (.slice ao3 n3 cap3)):=hX;have HW0:Hid ((w.alloc (.cells #[.int i64 S,.slice ao n cap,.slice ao2 n2 cap2,.slice ao3 n3 cap3] 28)).alloc (.cells #[.int i64 0,.string ⟨#[]⟩,.slice none 0 0] 70)=w0):=hw0;clear hL hH hT hR hV hX hw0;go_enter func17,ntmps17;go_upto_region 1 with fail;rw[HW0.out];obtain⟨_,⟨b0,b1,b2,b3⟩,r0,r1,r2,f⟩:=HX.out;clear HW0 f r0 r1 r2
 go_wp2_with fail
 refine (ncheck_any S ao n cap ao2 n2 cap2 ao3 n3 cap3 Ls Hs Ts _ (HLW.out _ HX.out.below) (HHW.out _ HX.out.below) (HTW.out _ HX.out.below)).mono ?_;rintro e w1 ⟨rfl,hb1⟩;obtain⟨T,hT⟩:∃T,T=ntN S Ls Hs Ts:=⟨_,rfl⟩;have HT:Hid (T=ntN S Ls Hs Ts):=hT;rw[←hT];have HX1:Hid (VBox w w1 S (.slice ao n cap) (.slice ao2 n2 cap2) (.slice ao3 n3 cap3)):=HX.out.later hb1;obtain⟨hB1,⟨b0,b1,b2,b3⟩,r0,r1,r2,f⟩:=HX1.out;have HB1:Hid (Below w.heap.size w w1):=hB1;have f0:=f 0;have f1:=f 1;have f2:=f 2;clear hT hb1 HX f hB1;by_cases h0:T=0
 ·have HN0:Hid (ntN S Ls Hs Ts=0):=HT.out.symm.trans h0;subst h0;rw[no_ok rfl];clear r0 r1 r2 f0 f1 f2
  go_wp2_with fail
  refine (where_any S ao n cap ao2 n2 cap2 Ls Hs m _ (HLW.out _ HX1.out.below) (HHW.out _ HX1.out.below)).mono ?_;rintro e w2 ⟨rfl,hb2⟩;obtain⟨WN,hWN⟩:∃q,q=weN S Ls Hs m:=⟨_,rfl⟩;obtain⟨X1,hX1⟩:∃q,q=(weV S Ls Hs m).1:=⟨_,rfl⟩;obtain⟨X2,hX2⟩:∃q,q=(weV S Ls Hs m).2:=⟨_,rfl⟩;have HWN:Hid (WN=weN S Ls Hs m):=hWN;have HXV:Hid (weV S Ls Hs m=(X1,X2)):=by
   show _=_;rw[hX1,hX2]
  rw[←hWN,←hX1,←hX2];have hal:Below w2.heap.size w2 (w2.alloc (.cells #[.int i64 X1,.int i64 X2] 65)):=(bRQ _ _).alloc (nLQ _) _;have hXa:=(HX1.out.later hb2).later hal;have hva:=vat_new w2 [.int i64 X1,.int i64 X2] 65;obtain⟨w3,hw3⟩:∃W,w2.alloc (.cells #[.int i64 X1,.int i64 X2] 65)=W:=⟨_,rfl⟩;obtain⟨g3,hg3⟩:∃g,w2.heap.size=g:=⟨_,rfl⟩;have hva2:VAt w3 g3 0 [.int i64 X1,.int i64 X2]:=by
   rw[←hw3,←hg3];exact hva
  rw[hw3] at hXa;have HX3:Hid (VBox w w3 S (.slice ao n cap) (.slice ao2 n2 cap2) (.slice ao3 n3 cap3)):=hXa;have HW3:Hid (w2.alloc (.cells #[.int i64 X1,.int i64 X2] 65)=w3):=hw3;have HG3:Hid (w2.heap.size=g3):=hg3;have s0:w3.cell? ⟨g3,0,none⟩=some (.int i64 X1):=hva2 0 _ rfl;have s1:w3.cell? ⟨g3,1,none⟩=some (.int i64 X2):=hva2 1 _ rfl;obtain⟨hB3,⟨b0,b1,b2,b3⟩,r0,r1,r2,f⟩:=HX3.out;have HB3:Hid (Below w.heap.size w w3):=hB3;have f0:=f 0;have f1:=f 1;have f2:=f 2;clear hWN hX1 hX2 hb2 hal hXa hva hva2 hw3 hg3 hB3 f HX1 HB1;go_upto_region 5 with fail;rw[HW3.out,HG3.out];clear HW3 HG3;by_cases h5:WN=0
  ·have HW0:Hid (weN S Ls Hs m=0):=HWN.out.symm.trans h5;subst h5;rw[no_ok rfl];cases hh:hdrB h
   ·have HR1:Hid (R=1):=by
     show _=_;rw[HR.out,seN,if_pos HN0.out,if_pos HW0.out,hh];rfl
    have HV1:Hid (V=zeF):=by
     show _=_;rw[HV.out,seV,←HR.out,HR1.out];rfl
    go_wp2_with fail
    refine (isHeader_any h _).mono ?_;rintro e w4 ⟨rfl,hw4⟩;subst hw4;rw[hh];go_wp2;refine bodyPost_ret (v:=.tuple #[.agg #[.int i64 0,.string ⟨#[]⟩,.slice none 0 0],.iface 81 (.int i64 1)]) (by simp[results,results17,go_sem, *]) rfl ⟨_,_,_,by rw[HR1.out,HV1.out];rfl,by rw[HV1.out];exact own_none _ _,below_put3 HB3.out _ (by omega) _ _ _⟩
   have HR0:Hid (R=0):=by
    show _=_;rw[HR.out,seN,if_pos HN0.out,if_pos HW0.out,hh];rfl
   have HV0:Hid (V=frF Ls Hs Ts (X1,X2) h):=by
    show _=_;rw[HV.out,seV,←HR.out,HR0.out,if_pos rfl,HXV.out]
   have HSP:Hid (spB S (X1,X2)=true):=by
    show _=_;have ht:=(nt_0 HN0.out).1;have hw:=HW0.out;rw[weN,if_pos ht] at hw;have hv:=HXV.out;rw[weV,HW0.out,if_pos rfl] at hv;cases hp:whereO Hs m with
    | none=>rw[hp] at hw;simp at hw
    | some p =>
      rw[hp,Option.getD_some] at hv;rw[←hv];exact where_sp ht hp
   clear r0 r1 r2 f0 f1 f2
   go_wp2_with fail
   refine (isHeader_any h _).mono ?_;rintro e w4 ⟨rfl,hw4⟩;subst hw4;rw[hh]
   go_wp2_with fail
   refine (follow_any S ao n cap ao2 n2 cap2 ao3 n3 cap3 Ls Hs Ts X1 X2 h _ (HLW.out _ HB3.out) (HHW.out _ HB3.out) (HTW.out _ HB3.out) HN0.out HSP.out).mono ?_;rintro e w5 ⟨ao4,n4,cap4,rfl,hown,hb5⟩;rw[←HV0.out] at hown;rw[←HV0.out];have hsz:w.heap.size+1<w4.heap.size:=bLQ _ _ HX3.out.r0;have HOW:Hid (∀u v x,(put3 w5 (w.heap.size+1) u v x).ownsRow w.heap.size 122 3 (.slice ao4 n4 cap4) V.2.2.length (cellsG hopE V.2.2)):=fun u v x=>own_mono (own_put3 hown _ hsz u v x) (by omega)
   have HX5:Hid (VBox w w5 S (.slice ao n cap) (.slice ao2 n2 cap2) (.slice ao3 n3 cap3)):=HX3.out.later hb5;obtain⟨hB5,⟨b0,b1,b2,b3⟩,r0,r1,r2,f⟩:=HX5.out;have HB5:Hid (Below w.heap.size w w5):=hB5;have f0:=f 0;have f1:=f 1;have f2:=f 2;obtain⟨V1,hV1⟩:∃q,q=V.1:=⟨_,rfl⟩;obtain⟨V2,hV2⟩:∃q,q=V.2.1:=⟨_,rfl⟩;have HVV:Hid (V.1=V1∧V.2.1=V2):=⟨hV1.symm,hV2.symm⟩;rw[←hV1,←hV2];clear hown hb5 hB5 f hV1 hV2;go_wp2;refine bodyPost_ret (v:=.tuple #[.agg #[.int i64 V1,.string V2,.slice ao4 n4 cap4],.nilIface]) (by simp[results,results17,go_sem, *]) rfl ⟨ao4,n4,cap4,by rw[HR0.out,HVV.out.1,HVV.out.2];rfl,HOW.out _ _ _,below_put3 HB5.out _ (by omega) _ _ _⟩
  rw[no_ne h5];have HNE:Hid (WN≠0):=h5;have HR1:Hid (R=WN):=by
   show _=_;rw[HR.out,seN,if_pos HN0.out,if_neg (by rw[←HWN.out];exact h5),HWN.out]
  have HV1:Hid (V=zeF):=by
   show _=_;rw[HV.out,seV,←HR.out,HR1.out,if_neg h5]
  clear h5;go_wp2;refine bodyPost_ret (v:=.tuple #[.agg #[.int i64 0,.string ⟨#[]⟩,.slice none 0 0],.iface 81 (.int i64 WN)]) (by simp[results,results17,go_sem, *]) rfl ⟨_,_,_,by rw[HR1.out,HV1.out,no_ne HNE.out];rfl,by rw[HV1.out];exact own_none _ _,below_put3 HB3.out _ (by omega) _ _ _⟩
 rw[no_ne h0];have HNE:Hid (T≠0):=h0;have HR1:Hid (R=T):=by
  show _=_;rw[HR.out,seN,if_neg (by rw[←HT.out];exact h0),HT.out]
 have HV1:Hid (V=zeF):=by
  show _=_;rw[HV.out,seV,←HR.out,HR1.out,if_neg h0]
 clear h0;go_wp2;refine bodyPost_ret (v:=.tuple #[.agg #[.int i64 0,.string ⟨#[]⟩,.slice none 0 0],.iface 81 (.int i64 T)]) (by simp[results,results17,go_sem, *]) rfl ⟨_,_,_,by rw[HR1.out,HV1.out,no_ne HNE.out];rfl,by rw[HV1.out];exact own_none _ _,below_put3 HB1.out _ (by omega) _ _ _⟩
structure Wi where
 k:Int
 f:ByteArray
 t:ByteArray
 v:Int
def zeW:Wi:=⟨0,ByteArray.empty,ByteArray.empty,0⟩
def abW (w:Wi)(n:ByteArray):Bool:=(w.k==4) || (w.f==n)
def thW (w:Wi)(F:Int×ByteArray×HpQ):Bool:=(F.1==1)&&(F.2.1==w.t)
def haW (v:Int)(l:HpQ):Bool:=l.any fun h=>h.1.1==v
def fiB (w:Wi)(n:ByteArray)(F:Int×ByteArray×HpQ):Bool:=
 if abW w n then (if w.k=1 then thW w F else if w.k=2 then !thW w F else if w.k=3 then (!thW w F || haW w.v F.2.2) else if w.k=4 then !(F.1==4) else true) else true
def wkB (k:Int):Bool:=decide (1≤k)&&decide (k≤4)
def viB (w:Wi)(S:Int):Bool:=(w.k != 3) || swB S w.v
def nlB (w:Wi):Bool:=(w.f==ByteArray.empty)&&(w.t==ByteArray.empty)
def hoB (Hs:HoQ)(n:ByteArray):Bool:=Hs.any fun h=>h.1==n
def veB (w:Wi):Bool:=(w.k != 3)&&(w.v != 0)
def woN (S:Int)(Hs:HoQ)(w:Wi):Int:=
 if !wkB w.k || (!viB w S || veB w) then 1 else if w.k=4 then (if nlB w then 0 else 3) else if hoB Hs w.f&&hoB Hs w.t then 0 else 5
def wsTo (S:Int)(Hs:HoQ)(l:List Wi):Nat→Int
 | 0=>0
 | k+1=>if wsTo S Hs l k=0 then woN S Hs (l.getD k zeW) else wsTo S Hs l k
def wsN (S:Int)(Ls:LkQ)(Hs:HoQ)(l:List Wi):Int:=
 if tpN S Ls Hs=0 then (if 8<l.length then 4 else wsTo S Hs l l.length) else tpN S Ls Hs
theorem ws_le {S:Int}{Hs:HoQ}{l:List Wi}{k:Nat}(h:wsTo S Hs l k≠0):∀{n:Nat},k≤n→wsTo S Hs l n=wsTo S Hs l k
 | 0,hn=>by
   obtain rfl:k=0:=by omega
   rfl
 | n+1,hn=>by
   by_cases e:k=n+1
   ·subst e;rfl
   have:=ws_le h (show k≤n by omega);rw[wsTo,if_neg (by rw[this];exact h),this]
theorem getW {l:List Wi}{k:Nat}(hk:k<l.length):l.getD k zeW=l[k]:=by simp[List.getD,hk]
section
variable (Ls:LkQ)(Hs:HoQ)(Ts:TsQ)
def brB (w:Wi)(x:ByteArray×(Int×Int))(h:Int):Bool := !fiB w x.1 (frF Ls Hs Ts x.2 h)
def brH (w:Wi)(x:ByteArray×(Int×Int)):Nat→Int
 | 0 => -1
 | k+1=>if brH w x k<0 then (if brB Ls Hs Ts w x (k:Int) then (k:Int) else -1) else brH w x k
def zeO:ByteArray×(Int×Int):=(ByteArray.empty,(0,0))
def brX (w:Wi)(Xs:HoQ):Nat→Option (Nat×Int)
 | 0=>none
 | k+1=>match brX w Xs k with
   | some x=>some x
   | none=>if 0≤brH Ls Hs Ts w (Xs.getD k zeO) 16 then some (k,brH Ls Hs Ts w (Xs.getD k zeO) 16) else none
def brW (l:List Wi)(Xs:HoQ):Nat→Option (Nat×Nat×Int)
 | 0=>none
 | k+1=>match brW l Xs k with
   | some x=>some x
   | none=>match brX Ls Hs Ts (l.getD k zeW) Xs Xs.length with
     | some p=>some (k,p.1,p.2)
     | none=>none
end
section
variable {Ls:LkQ}{Hs:HoQ}{Ts:TsQ}
theorem brH_le {w:Wi}{x:ByteArray×(Int×Int)}{k:Nat}(h:0≤brH Ls Hs Ts w x k):∀{n:Nat},k≤n→brH Ls Hs Ts w x n=brH Ls Hs Ts w x k
 | 0,hn=>by
   obtain rfl:k=0:=by omega
   rfl
 | n+1,hn=>by
   by_cases e:k=n+1
   ·subst e;rfl
   have:=brH_le h (show k≤n by omega);rw[brH,if_neg (by rw[this];omega),this]
theorem brH_no {w:Wi}{x:ByteArray×(Int×Int)}{k:Nat}(h:brH Ls Hs Ts w x k<0)(h2:brB Ls Hs Ts w x (k:Int)=false):brH Ls Hs Ts w x (k+1)<0:=by
 rw[brH,if_pos h,h2];simp
theorem brH_yes {w:Wi}{x:ByteArray×(Int×Int)}{k:Nat}(hk:k<16)(h:brH Ls Hs Ts w x k<0)(h2:brB Ls Hs Ts w x (k:Int)=true):brH Ls Hs Ts w x 16=k:=by
 have e:brH Ls Hs Ts w x (k+1)=k:=by
  rw[brH,if_pos h,h2];simp
 rw[brH_le (k:=k+1) (by rw[e];omega) (by omega),e]
variable {Xs:HoQ}
theorem brX_le {w:Wi}{k:Nat}{p:Nat×Int}(h:brX Ls Hs Ts w Xs k=some p):∀{n:Nat},k≤n→brX Ls Hs Ts w Xs n=some p
 | 0,hn=>by
   obtain rfl:k=0:=by omega
   exact h
 | n+1,hn=>by
   by_cases e:k=n+1
   ·subst e;exact h
   rw[brX,brX_le h (show k≤n by omega)]
theorem getO {Xs:HoQ}{k:Nat}(hk:k<Xs.length):Xs.getD k zeO=Xs[k]:=by simp[List.getD,hk]
theorem brX_yes {w:Wi}{k:Nat}(hk:k<Xs.length)(h:brX Ls Hs Ts w Xs k=none)(h2:0≤brH Ls Hs Ts w Xs[k] 16):brX Ls Hs Ts w Xs Xs.length=some (k,brH Ls Hs Ts w Xs[k] 16):=by
 refine brX_le (k:=k+1) ?_ (by omega);rw[brX,h];simp only;rw[getO hk,if_pos h2]
variable {l:List Wi}
theorem brW_le {k:Nat}{p:Nat×Nat×Int}(h:brW Ls Hs Ts l Xs k=some p):∀{n:Nat},k≤n→brW Ls Hs Ts l Xs n=some p
 | 0,hn=>by
   obtain rfl:k=0:=by omega
   exact h
 | n+1,hn=>by
   by_cases e:k=n+1
   ·subst e;exact h
   rw[brW,brW_le h (show k≤n by omega)]
theorem brW_yes {k:Nat}(hk:k<l.length)(h:brW Ls Hs Ts l Xs k=none){p:Nat×Int}(h2:brX Ls Hs Ts l[k] Xs Xs.length=some p):brW Ls Hs Ts l Xs l.length=some (k,p.1,p.2):=by
 refine brW_le (k:=k+1) ?_ (by omega);rw[brW,h];simp only;rw[getW hk,h2]
end
def prV (Hs:HoQ):Option (Nat×Nat×Int)→Int×ByteArray×Int
 | none=>(0,ByteArray.empty,0)
 | some p=>((p.1:Int),(Hs.getD p.2.1 zeO).1,p.2.2)
def wiN (S:Int)(Ls:LkQ)(Hs:HoQ)(Ts:TsQ)(l:List Wi):Int:=
 if ntN S Ls Hs Ts=0 then (if wsN S Ls Hs l=0 then (if (brW Ls Hs Ts l Hs l.length).isSome then 9 else 0) else wsN S Ls Hs l) else ntN S Ls Hs Ts
def wiV (S:Int)(Ls:LkQ)(Hs:HoQ)(Ts:TsQ)(l:List Wi):Int×ByteArray×Int:=
 if ntN S Ls Hs Ts=0∧wsN S Ls Hs l=0 then prV Hs (brW Ls Hs Ts l Hs l.length) else (0,ByteArray.empty,0)
end
section
open Go.ChangeShapes Go.WideShapes Go.ChangeAt Go.RowKit Go.Joins
def wisE:Enc (Wi) where
 c:=fun x=>[.int i64 x.k,.string x.f,.string x.t,.int i64 x.v]
 n:=4
 len:=fun _=>rfl
 pos:=by decide
 one:=by
  intro x u hu;simp at hu
  rcases hu with rfl | rfl | rfl | rfl <;> rfl
theorem wis_cells {w:World}{g o:Nat}{x0:Int}{x1 x2:ByteArray}{x3:Int}(h:VAt w g o (wisE.c ⟨x0,x1,x2,x3⟩)):w.cell? ⟨g,o,none⟩=some (.int i64 x0)∧w.cell? ⟨g,o+1,none⟩=some (.string x1)∧w.cell? ⟨g,o+2,none⟩=some (.string x2)∧w.cell? ⟨g,o+3,none⟩=some (.int i64 x3):=
 ⟨h 0 _ rfl,h 1 _ rfl,h 2 _ rfl,h 3 _ rfl⟩
theorem wis_at {w:World}{g o:Nat}{L:List (Wi)}(h:GAt wisE w g o L){n k:Nat}(hn:L.length=n)(hk:k<n):
 ∃(x0:Int) (x1:ByteArray) (x2:ByteArray) (x3:Int) (hl:k<L.length),L[k]=⟨x0,x1,x2,x3⟩∧w.cell? ⟨g,o+k*4,none⟩=some (.int i64 x0)∧w.cell? ⟨g,o+k*4+1,none⟩=some (.string x1)∧w.cell? ⟨g,o+k*4+2,none⟩=some (.string x2)∧w.cell? ⟨g,o+k*4+3,none⟩=some (.int i64 x3):=
 have hl:k<L.length:=by omega
 ⟨_,_,_,_,hl,rfl,wis_cells (h k hl)⟩
theorem wis_row (w:World)(x0:Int)(x1 x2:ByteArray)(x3:Int)(t:TypeId):GS wisE (w.alloc (.cells #[.int i64 x0,.string x1,.string x2,.int i64 x3] t)) (.slice (some ⟨w.heap.size,0,none⟩) 1 1) [⟨x0,x1,x2,x3⟩]:=gs_one (E:=wisE) w ⟨x0,x1,x2,x3⟩ t (vs:=[.int i64 x0,.string x1,.string x2,.int i64 x3]) rfl
end
section
open Go.RowKit
theorem hst_hasF (ao:AdQ)(n cap:Nat)(f:FuncId)(c:Value)(P:ByteArray×(Int×Int)→Bool)(L:HoQ)(w:World)(hn:L.length=n)(hn2:n≤maxLen)(ha:0<n→∃g o,ao=some ⟨g,o,none⟩∧GAt hstE w g o L∧cap≤maxLen)(he:∀args w,(callFunc f args).run prog w=.ok (.enter f args) w)(hf:hstAsks w f c P):
 Calls prog 120 #[.slice ao n cap,.func (Fn.func f) #[] #[c]] w fun e w'=>e=.returned (.bool (L.any P))∧Below w.heap.size w w':=by
 rw[←ixG_any];obtain⟨x,hx⟩:∃x,x=ixG P L:=⟨_,rfl⟩;have HX:Hid (x=ixG P L):=hx;rw[←hx];clear hx;go_enter func120,ntmps120
 go_wp2_with fail
 refine (hst_idxF ao n cap f c P L _ hn hn2 ha he hf).mono ?_;rintro e w1 ⟨rfl,hb1⟩;rw[←HX.out];go_wp2;go_ret;exact⟨rfl,hb1⟩
theorem emp_lst (s:ByteArray):s.toList.isEmpty=(s==ByteArray.empty):=by
 have e:ByteArray.empty.toList=[]:=by rw[Lib.toList_data];rfl
 rw[beq_toListBytes,e];cases h:s.toList with
 | nil=>rfl
 | cons a l=>rfl
def WiBox (W:World)(g:Nat)(k:Int)(f t:ByteArray)(v:Int):Prop:=W.cell? ⟨g,0,none⟩=some (.int i64 k)∧W.cell? ⟨g,1,none⟩=some (.string f)∧W.cell? ⟨g,2,none⟩=some (.string t)∧W.cell? ⟨g,3,none⟩=some (.int i64 v)
theorem wibox_new (w:World)(k:Int)(f t:ByteArray)(v:Int)(T:TypeId):WiBox (w.alloc (.cells #[.int i64 k,.string f,.string t,.int i64 v] T)) w.heap.size k f t v:=by
 refine⟨?_,?_,?_,?_⟩ <;> simp
theorem WiBox.later {W W':World}{g:Nat}{k:Int}{f t:ByteArray}{v:Int}(h:WiBox W g k f t v)(hb:Below W.heap.size W W'):WiBox W' g k f t v:=
 ⟨cell_later hb h.1,cell_later hb h.2.1,cell_later hb h.2.2.1,cell_later hb h.2.2.2⟩
theorem WiBox.lt {W:World}{g:Nat}{k:Int}{f t:ByteArray}{v:Int}(h:WiBox W g k f t v):g<W.heap.size:=bLQ _ _ h.1
theorem isWhat_any (k:Int)(w:World):
 Calls prog 97 #[.int i64 k] w fun e w'=>e=.returned (.bool (wkB k))∧Below w.heap.size w w':=by
 by_cases h1:1≤k
 ·by_cases h2:k≤4
  ·have e:wkB k=true:=by simp[wkB,h1,h2]
   rw[e];clear e;go_enter func97,ntmps97;go_wp2;go_ret;exact⟨rfl,bRQ _ _⟩
  have e:wkB k=false:=by simp[wkB,h2]
  rw[e];clear e;go_enter func97,ntmps97;go_wp2;go_ret;exact⟨rfl,bRQ _ _⟩
 have e:wkB k=false:=by simp[wkB,h1]
 rw[e];clear e;go_enter func97,ntmps97;go_wp2;go_ret;exact⟨rfl,bRQ _ _⟩
theorem isAbout_any (k:Int)(f t:ByteArray)(v:Int)(m:ByteArray)(w:World):
 Calls prog 80 #[.agg #[.int i64 k,.string f,.string t,.int i64 v],.string m] w fun e w'=>e=.returned (.bool (abW ⟨k,f,t,v⟩ m))∧Below w.heap.size w w':=by
 have HB0:Hid (Below w.heap.size w (w.alloc (.cells #[.int i64 k,Value.string f,Value.string t,.int i64 v] 78))):=(bRQ _ _).alloc (nLQ _) _;by_cases h:k=4
 ·subst h;rw[show abW ⟨4,f,t,v⟩ m=true from rfl];go_enter func80,ntmps80;go_wp2;go_ret;exact⟨rfl,HB0.out⟩
 have e:abW ⟨k,f,t,v⟩ m=(k==4 || f.toList==m.toList):=by rw[abW,←beq_toListBytes]
 rw[e];clear e;go_enter func80,ntmps80;go_wp2;go_ret;exact⟨rfl,HB0.out⟩
theorem isNameless_any (k:Int)(f t:ByteArray)(v:Int)(w:World):
 Calls prog 99 #[.agg #[.int i64 k,.string f,.string t,.int i64 v]] w fun e w'=>e=.returned (.bool (nlB ⟨k,f,t,v⟩))∧Below w.heap.size w w':=by
 have HB0:Hid (Below w.heap.size w (w.alloc (.cells #[.int i64 k,Value.string f,Value.string t,.int i64 v] 78))):=(bRQ _ _).alloc (nLQ _) _;cases hf:(f==ByteArray.empty)
 ·have e:nlB ⟨k,f,t,v⟩=false:=by simp[nlB,hf]
  rw[e];rw[←emp_lst] at hf;clear e;go_enter func99,ntmps99;go_wp2;go_ret;exact⟨rfl,HB0.out⟩
 have e:nlB ⟨k,f,t,v⟩=t.toList.isEmpty:=by simp[nlB,hf,emp_lst]
 rw[e];rw[←emp_lst] at hf;clear e;cases ht:t.toList.isEmpty
 ·go_enter func99,ntmps99;go_wp2;go_ret;exact⟨rfl,HB0.out⟩
 go_enter func99,ntmps99;go_wp2;go_ret;exact⟨rfl,HB0.out⟩
theorem isVia_any (k:Int)(f t:ByteArray)(v S:Int)(w:World):
 Calls prog 98 #[.agg #[.int i64 k,.string f,.string t,.int i64 v],.int i64 S] w fun e w'=>e=.returned (.bool (viB ⟨k,f,t,v⟩ S))∧Below w.heap.size w w':=by
 have HB0:Hid (Below w.heap.size w (w.alloc (.cells #[.int i64 k,Value.string f,Value.string t,.int i64 v] 78))):=(bRQ _ _).alloc (nLQ _) _;by_cases h:k=3
 ·subst h;rw[show viB ⟨3,f,t,v⟩ S=swB S v from rfl];go_enter func98,ntmps98
  go_wp2_with fail
  refine (isSwitch_any S v _).mono ?_;rintro e w1 ⟨rfl,hb1⟩;go_wp2;go_ret;exact⟨rfl,HB0.out.trans (hb1.mono HB0.out.size)⟩
 have e:viB ⟨k,f,t,v⟩ S=true:=by simp[viB,h]
 rw[e];clear e;go_enter func98,ntmps98;go_wp2;go_ret;exact⟨rfl,HB0.out⟩
theorem isHost1_any (n:ByteArray)(x0 x1:Int)(B:Nat)(m:ByteArray)(w:World)(h0:w.cell? ⟨B,0,none⟩=some (.string m)):
 Calls prog 121 #[.agg #[.string n,.int i64 x0,.int i64 x1],.pointer (some ⟨B,0,none⟩)] w fun e w'=>e=.returned (.bool (n==m))∧Below w.heap.size w w':=by
 have hlt:B<w.heap.size:=bLQ _ _ h0;have HB0:Hid (Below w.heap.size w (w.alloc (.cells #[Value.string n,.int i64 x0,.int i64 x1] 67))):=(bRQ _ _).alloc (nLQ _) _;rw[beq_toListBytes];go_enter func121,ntmps121;go_wp2;go_ret;exact⟨rfl,HB0.out⟩
theorem isHost1_asks (B:Nat)(m:ByteArray)(w:World)(h0:w.cell? ⟨B,0,none⟩=some (.string m)):hstAsks w 121 (.pointer (some ⟨B,0,none⟩)) (fun h=>h.1==m):=
 fun n x0 x1 W hW=>isHost1_any n x0 x1 B m W (cell_later hW h0)
theorem isHost_any (S:Int)(v1:Value)(ao2:AdQ)(n2 cap2:Nat)(Hs:HoQ)(m:ByteArray)(w:World)(hv1:v1.oneCell'=true)(hH:GS hstE w (.slice ao2 n2 cap2) Hs):
 Calls prog 100 #[.agg #[.int i64 S,v1,.slice ao2 n2 cap2],.string m] w fun e w'=>e=.returned (.bool (hoB Hs m))∧Below w.heap.size w w':=by
 have e1:(w.alloc (.cells #[.int i64 S,v1,.slice ao2 n2 cap2] 25)).heap.size=w.heap.size+1:=by simp
 have hb1:Below w.heap.size w (w.alloc (.cells #[.int i64 S,v1,.slice ao2 n2 cap2] 25)):=(bRQ _ _).alloc (nLQ _) _;have ht:=tbox_new w S v1 (.slice ao2 n2 cap2) 25;obtain⟨w0,hw0⟩:∃W,W=w.alloc (.cells #[.int i64 S,v1,.slice ao2 n2 cap2] 25):=⟨_,rfl⟩;rw[←hw0] at e1 hb1 ht;have hb2:Below w0.heap.size w0 (w0.alloc (.cells #[.string m] 9)):=(bRQ _ _).alloc (nLQ _) _;have hm:=vat_new w0 [.string m] 9;have ht2:=ht.later hb2;have hB2:=hb1.trans (hb2.mono hb1.size);obtain⟨w2,hw2⟩:∃W,W=w0.alloc (.cells #[.string m] 9):=⟨_,rfl⟩;have hm2:VAt w2 w0.heap.size 0 [.string m]:=by rw[hw2];exact hm
 rw[←hw2] at ht2 hB2;rw[e1] at hm2;have m0:w2.cell? ⟨w.heap.size+1,0,none⟩=some (.string m):=hm2 0 _ rfl;obtain⟨b0,b1,b2⟩:=ht2;have HW:Hid ((w.alloc (.cells #[.int i64 S,v1,.slice ao2 n2 cap2] 25)).alloc (.cells #[.string m] 9)=w2):=by
  show _=_;rw[hw2,hw0]
 have HB2:Hid (Below w.heap.size w w2):=hB2;obtain⟨_,_,_,eH,hHn,hHm,_,hHa⟩:=hH.form;cases eH;have HHN:Hid (Hs.length=n2):=hHn;have HHM:Hid (n2≤maxLen):=hHm;have HHA:Hid (0<n2→∃g o,ao2=some ⟨g,o,none⟩∧GAt hstE w2 g o Hs∧cap2≤maxLen):=fun h=>by
  obtain⟨g,o,k1,k2,k3⟩:=hHa h;exact⟨g,o,k1,k2.later hB2,k3⟩
 have HM0:Hid (w2.cell? ⟨w.heap.size+1,0,none⟩=some (.string m)):=m0;clear hb1 ht hw0 hb2 hm hw2 hm2 hB2 hHn hHm hHa hH e1 m0;go_enter func100,ntmps100;go_upto_region 1 with fail;rw[HW.out];clear HW
 go_wp2_with fail
 refine (hst_hasF ao2 n2 cap2 _ _ (fun h=>h.1==m) Hs _ HHN.out HHM.out HHA.out (enters_of func121 (by kernel_rfl) rfl) (isHost1_asks _ m _ HM0.out)).mono ?_;rintro e w3 ⟨rfl,hb3⟩;rw[show (Hs.any fun h=>h.1==m)=hoB Hs m from rfl];go_wp2;go_ret;exact⟨rfl,HB2.out.trans (hb3.mono HB2.out.size)⟩
def hopAsks (w:World)(f:FuncId)(c:Value)(P:(Int×Int)×Int→Bool):Prop:=
 ∀(x0:Int) (x1:Int) (x2:Int) (W:World),Below w.heap.size w W→Calls prog f #[.agg #[.int i64 x0,.int i64 x1,.int i64 x2],c] W fun e w'=>e=.returned (.bool (P ((x0,x1),x2)))∧Below W.heap.size W w'
theorem hopAsks.later {w w':World}{f:FuncId}{c:Value}{P:(Int×Int)×Int→Bool}(h:hopAsks w f c P)(hb:Below w.heap.size w w'):hopAsks w' f c P:=
 fun x0 x1 x2 W hW=>h x0 x1 x2 W (hb.trans (hW.mono hb.size))
theorem hop_idxF (ao:AdQ)(n cap:Nat)(f:FuncId)(c:Value)(P:(Int×Int)×Int→Bool)(L:HpQ)(w:World)(hn:L.length=n)(hn2:n≤maxLen)(ha:0<n→∃g o,ao=some ⟨g,o,none⟩∧GAt hopE w g o L∧cap≤maxLen)(he:∀args w,(callFunc f args).run prog w=.ok (.enter f args) w)(hf:hopAsks w f c P):
 Calls prog 134 #[.slice ao n cap,.func (Fn.func f) #[] #[c]] w fun e w'=>e=.returned (.int i64 (ixG P L))∧Below w.heap.size w w':=by
 have HN:Hid (L.length=n):=hn;have HF:Hid (hopAsks w f c P):=hf;have HA:Hid (0<n→∃g o,ao=some ⟨g,o,none⟩∧GAt hopE w g o L∧cap≤maxLen):=ha;unfold maxLen at hn2;clear hn hf ha;go_enter func134,ntmps134;go_wp2
 go_loopw [8] (fun i wr=>∃k:Nat,k≤n∧i=.int i64 k∧(L.take k).any P=false∧Below w.heap.size w wr)
  (fun i _=>n-(intOf i).toNat)
 case atStart=>exact⟨0,by omega,rfl,by simp,bRQ _ _⟩
 case round =>
  obtain⟨k,hk,rfl,hno,hB⟩:=hrel;have HB:Hid (Below w.heap.size w wr):=hB;have HNO:Hid ((L.take k).any P=false):=hno;clear hno;by_cases hlt:k<n
  ·obtain⟨g,o,hao,hc,_⟩:=HA.out (by omega);subst hao;obtain⟨x0,x1,x2,hkl,hL,q0,q1,q2⟩:=hop_at (hc.later hB) HN.out hlt;have HL:Hid (L[k]=((x0,x1),x2)):=hL;clear hL hB;cases ho:P ((x0,x1),x2)
   ·go_wp2_with fail
    refine (HF.out x0 x1 x2 _ HB.out).mono ?_;rintro e w1 ⟨rfl,hb1⟩;rw[ho];have HB1:=HB.out.trans (hb1.mono HB.out.size);clear hb1;go_wp2;go_roundw
    case rel=>exact⟨k+1,by omega,by go_num,any_nextG hkl HNO.out (by rw[HL.out];exact ho),HB1⟩
    case measure=>simp[intOf];omega
   go_wp2_with fail
   refine (HF.out x0 x1 x2 _ HB.out).mono ?_;rintro e w1 ⟨rfl,hb1⟩;rw[ho];go_wp2;go_ret;exact⟨by rw[ixG_hit hkl HNO.out (by rw[HL.out];exact ho)];rfl,HB.out.trans (hb1.mono HB.out.size)⟩
  obtain rfl:k=n:=by omega
  go_wp2;go_ret;exact⟨by have:=HNO.out;rw[←HN.out,List.take_length] at this;rw[ixG_no this];rfl,HB.out⟩
theorem hop_hasF (ao:AdQ)(n cap:Nat)(f:FuncId)(c:Value)(P:(Int×Int)×Int→Bool)(L:HpQ)(w:World)(hn:L.length=n)(hn2:n≤maxLen)(ha:0<n→∃g o,ao=some ⟨g,o,none⟩∧GAt hopE w g o L∧cap≤maxLen)(he:∀args w,(callFunc f args).run prog w=.ok (.enter f args) w)(hf:hopAsks w f c P):
 Calls prog 122 #[.slice ao n cap,.func (Fn.func f) #[] #[c]] w fun e w'=>e=.returned (.bool (L.any P))∧Below w.heap.size w w':=by
 rw[←ixG_any];obtain⟨x,hx⟩:∃x,x=ixG P L:=⟨_,rfl⟩;have HX:Hid (x=ixG P L):=hx;rw[←hx];clear hx;go_enter func122,ntmps122
 go_wp2_with fail
 refine (hop_idxF ao n cap f c P L _ hn hn2 ha he hf).mono ?_;rintro e w1 ⟨rfl,hb1⟩;rw[←HX.out];go_wp2;go_ret;exact⟨rfl,hb1⟩
theorem fits1_any (x y h:Int)(B:Nat)(v:Int)(w:World)(h0:w.cell? ⟨B,3,none⟩=some (.int i64 v)):
 Calls prog 123 #[.agg #[.int i64 x,.int i64 y,.int i64 h],.pointer (some ⟨B,0,none⟩)] w fun e w'=>e=.returned (.bool (x==v))∧Below w.heap.size w w':=by
 have hlt:B<w.heap.size:=bLQ _ _ h0;have HB0:Hid (Below w.heap.size w (w.alloc (.cells #[.int i64 x,.int i64 y,.int i64 h] 122))):=(bRQ _ _).alloc (nLQ _) _;go_enter func123,ntmps123;go_wp2;go_ret;exact⟨rfl,HB0.out⟩
theorem fits1_asks (B:Nat)(v:Int)(w:World)(h0:w.cell? ⟨B,3,none⟩=some (.int i64 v)):hopAsks w 123 (.pointer (some ⟨B,0,none⟩)) (fun h=>h.1.1==v):=
 fun x y h W hW=>fits1_any x y h B v W (cell_later hW h0)
theorem fi_off {w:Wi}{m:ByteArray}{F:Int×ByteArray×HpQ}(h:abW w m=false):fiB w m F=true:=by simp[fiB,h]
structure GBox (w W:World)(k:Int)(f t:ByteArray)(v a:Int)(b:ByteArray)(c:Value):Prop where
 below:Below w.heap.size w W
 x:WiBox W w.heap.size k f t v
 y0:W.cell? ⟨w.heap.size+1,0,none⟩=some (.int i64 a)
 y1:W.cell? ⟨w.heap.size+1,1,none⟩=some (.string b)
 y2:W.cell? ⟨w.heap.size+1,2,none⟩=some c
theorem gbox_new (w:World)(k:Int)(f t:ByteArray)(v a:Int)(b:ByteArray)(c:Value):GBox w ((w.alloc (.cells #[.int i64 k,.string f,.string t,.int i64 v] 78)).alloc (.cells #[.int i64 a,.string b,c] 70)) k f t v a b c:=by
 have e1:(w.alloc (.cells #[.int i64 k,.string f,.string t,.int i64 v] 78)).heap.size=w.heap.size+1:=by simp
 have hb:∀(W:World) (o:Obj),Below W.heap.size W (W.alloc o):=fun W o=>(bRQ _ _).alloc (nLQ _) _
 have hn:=(wibox_new w k f t v 78).later (hb _ (Obj.cells #[.int i64 a,.string b,c] 70));have hB:=((Below.refl w.heap.size w).alloc (nLQ _) (Obj.cells #[.int i64 k,.string f,.string t,.int i64 v] 78)).alloc (by rw[e1];omega) (Obj.cells #[.int i64 a,.string b,c] 70)
 generalize w.alloc (.cells #[.int i64 k,.string f,.string t,.int i64 v] 78)=X at e1 hn hB
 have hr:=vat_new X [.int i64 a,.string b,c] 70;rw[e1] at hr;exact⟨hB,hn,hr 0 _ rfl,hr 1 _ rfl,hr 2 _ rfl⟩
theorem GBox.later {w W W':World}{k:Int}{f t:ByteArray}{v a:Int}{b:ByteArray}{c:Value}(h:GBox w W k f t v a b c)(hb:Below W.heap.size W W'):GBox w W' k f t v a b c:=
 ⟨h.below.trans (hb.mono h.below.size),h.x.later hb,cell_later hb h.y0,cell_later hb h.y1,cell_later hb h.y2⟩
theorem fits_any (k:Int)(f t:ByteArray)(v:Int)(m:ByteArray)(a:Int)(b:ByteArray)(ao:AdQ)(n cap:Nat)(l:HpQ)(w:World)(hl:GS hopE w (.slice ao n cap) l):
 Calls prog 103 #[.agg #[.int i64 k,.string f,.string t,.int i64 v],.string m,.agg #[.int i64 a,.string b,.slice ao n cap]] w fun e w'=>e=.returned (.bool (fiB ⟨k,f,t,v⟩ m (a,b,l)))∧Below w.heap.size w w':=by
 have hX:=gbox_new w k f t v a b (.slice ao n cap);obtain⟨w0,hw0⟩:∃W,(w.alloc (.cells #[.int i64 k,.string f,.string t,.int i64 v] 78)).alloc (.cells #[.int i64 a,.string b,.slice ao n cap] 70)=W:=⟨_,rfl⟩;rw[hw0] at hX;have HX:Hid (GBox w w0 k f t v a b (.slice ao n cap)):=hX;have HW0:Hid ((w.alloc (.cells #[.int i64 k,.string f,.string t,.int i64 v] 78)).alloc (.cells #[.int i64 a,.string b,.slice ao n cap] 70)=w0):=hw0;have HL:Hid (∀W,Below w.heap.size w W→GS hopE W (.slice ao n cap) l):=fun W hb=>hl.later hb
 obtain⟨R,hR⟩:∃R,R=fiB ⟨k,f,t,v⟩ m (a,b,l):=⟨_,rfl⟩;have HR:Hid (R=fiB ⟨k,f,t,v⟩ m (a,b,l)):=hR;rw[←hR];obtain⟨AB,hAB⟩:∃q,q=abW ⟨k,f,t,v⟩ m:=⟨_,rfl⟩;have HAB:Hid (AB=abW ⟨k,f,t,v⟩ m):=hAB;clear hX hw0 hl hR hAB;go_enter func103,ntmps103;go_upto_region 1 with fail;rw[HW0.out];obtain⟨_,⟨x0,x1,x2,x3⟩,y0,y1,y2⟩:=HX.out;clear HW0
 go_wp2_with fail
 refine (isAbout_any k f t v m _).mono ?_;rintro e w1 ⟨rfl,hb1⟩;rw[←HAB.out];have HX1:Hid (GBox w w1 k f t v a b (.slice ao n cap)):=HX.out.later hb1;clear hb1 HX x0 x1 x2 x3 y0 y1 y2;obtain⟨hB1,⟨x0,x1,x2,x3⟩,y0,y1,y2⟩:=HX1.out;have HB1:Hid (Below w.heap.size w w1):=hB1;clear hB1;cases AB with
 | false =>
   have HR1:Hid (R=true):=by
    show _=_;rw[HR.out,fi_off HAB.out.symm]
   go_wp2;go_ret;exact⟨by rw[HR1.out];rfl,HB1.out⟩
 | true =>
   obtain⟨TH,hTH⟩:∃q,q=(a==1&&b.toList==t.toList):=⟨_,rfl⟩;have hTW:thW ⟨k,f,t,v⟩ (a,b,l)=TH:=by rw[hTH,thW,←beq_toListBytes]
   have HR1:Hid (R=if k=1 then TH else if k=2 then !TH else if k=3 then (!TH || haW v l) else if k=4 then !(a==4) else true):=by
    show _=_;rw[HR.out,fiB,if_pos HAB.out.symm,hTW]
   have HTH:Hid ((a==1&&b.toList==t.toList)=TH):=hTH.symm;clear hTH hTW HR HAB;go_upto_region 3 with fail
   go_cut [7] from 12 to 22 (fun q w'=>q=.bool TH∧w'=w1)
   case first =>
    by_cases a1:a=1
    ·subst a1;have h2:=HTH.out;rw[show ((1:Int)==1&&b.toList==t.toList)=(b.toList==t.toList) from rfl] at h2
     go_wp2_with fail
     go_meet
     exact⟨by rw[←h2],rfl⟩
    have h2:=HTH.out;rw[show (a==1)=false from by simp[a1],Bool.false_and] at h2;subst h2
    go_wp2_with fail
    go_meet
    exact⟨rfl,rfl⟩
   case rest =>
   obtain⟨rfl,hwc⟩:=hcut;subst hwc;by_cases k1:k=1
   ·subst k1;have HR2:Hid (R=TH):=by
     show _=_;rw[HR1.out,if_pos rfl]
    clear HR1;go_wp2;go_ret;exact⟨by rw[HR2.out];rfl,HB1.out⟩
   by_cases k2:k=2
   ·subst k2;have HR2:Hid (R = !TH):=by
     show _=_;rw[HR1.out,if_neg (by decide),if_pos rfl]
    clear HR1;go_wp2;go_ret;exact⟨by rw[HR2.out];rfl,HB1.out⟩
   by_cases k3:k=3
   ·subst k3;have HR2:Hid (R=(!TH || haW v l)):=by
     show _=_;rw[HR1.out,if_neg (by decide),if_neg (by decide),if_pos rfl]
    clear HR1;cases TH with
    | false =>
      go_wp2;go_ret;exact⟨by rw[HR2.out];rfl,HB1.out⟩
    | true =>
      obtain⟨_,_,_,e5,hGn,hGm,_,hGa⟩:=(HL.out _ HB1.out).form;cases e5;have HGN:Hid (l.length=n):=hGn;have HGM:Hid (n≤maxLen):=hGm;have HGA:Hid (0<n→∃g o,ao=some ⟨g,o,none⟩∧GAt hopE wc g o l∧cap≤maxLen):=hGa;clear hGn hGm hGa
      go_wp2_with fail
      refine (hop_hasF ao n cap _ _ (fun h=>h.1.1==v) l _ HGN.out HGM.out HGA.out (enters_of func123 (by kernel_rfl) rfl) (fits1_asks _ v _ HX1.out.x.2.2.2)).mono ?_;rintro e w2 ⟨rfl,hb2⟩;rw[show (l.any fun h=>h.1.1==v)=haW v l from rfl];have HB2:Hid (Below w.heap.size w w2):=HB1.out.trans (hb2.mono HB1.out.size);clear hb2;go_wp2;go_ret;exact⟨by rw[HR2.out];rfl,HB2.out⟩
   by_cases k4:k=4
   ·subst k4;have HR2:Hid (R = !(a==4)):=by
     show _=_;rw[HR1.out,if_neg (by decide),if_neg (by decide),if_neg (by decide),if_pos rfl]
    clear HR1;go_wp2;go_ret;exact⟨by rw[HR2.out];rfl,HB1.out⟩
   have HR2:Hid (R=true):=by
    show _=_;rw[HR1.out,if_neg k1,if_neg k2,if_neg k3,if_neg k4]
   clear HR1;go_wp2;go_ret;exact⟨by rw[HR2.out];rfl,HB1.out⟩
abbrev Ft:=Int×ByteArray×HpQ
theorem ixG_cases {α:Type}(f:α→Bool)(L:List α):(ixG f L = -1∧L.any f=false)∨∃k:Nat,∃h:k<L.length,ixG f L=(k:Int)∧f L[k]=true∧∀j,(hj:j<k)→f (L[j]'(by omega))=false:=by
 cases e:L.any f with
 | false=>exact .inl ⟨ixG_no e,rfl⟩
 | true =>
   have hx:L.findIdx f<L.length:=by
    rw[List.any_eq_true] at e;obtain⟨x,hx,hf⟩:=e;exact List.findIdx_lt_length_of_exists ⟨x,hx,hf⟩
   refine .inr ⟨L.findIdx f,hx,by simp[ixG,e],List.findIdx_getElem,fun j hj=>?_⟩;have:=List.not_of_lt_findIdx hj;simpa using this
def hwS (l:List Wi)(m:ByteArray)(F:Ft)(n:Nat):Nat:=
 if ixG (fun w => !fiB w m F) (l.take n)<0 then n else (ixG (fun w => !fiB w m F) (l.take n)).toNat
def hwTo (l:List Wi)(m:ByteArray)(L:List Ft):Nat→Nat
 | 0=>l.length
 | k+1=>hwS l m (L.getD k (0,ByteArray.empty,[])) (hwTo l m L k)
def hwN (l:List Wi)(m:ByteArray)(L:List Ft):Nat:=hwTo l m L L.length
section
variable {l:List Wi}{m:ByteArray}
theorem hwS_le (F:Ft)(n:Nat):hwS l m F n≤n:=by
 unfold hwS
 split
 ·omega
 next h =>
 rcases ixG_cases (fun w => !fiB w m F) (l.take n) with ⟨e,_⟩ | ⟨k,hk,e,_⟩
 ·omega
 rw[e];rw[List.length_take] at hk;simp;omega
theorem hwS_lt {F:Ft}{n i:Nat}(hn:n≤l.length)(hi:i<hwS l m F n):fiB (l.getD i zeW) m F=true:=by
 have hin:i<n:=Nat.lt_of_lt_of_le hi (hwS_le F n);have hil:i<l.length:=by omega
 rw[getW hil];unfold hwS at hi
 rcases ixG_cases (fun w => !fiB w m F) (l.take n) with ⟨e,h⟩ | ⟨k,hk,e,_,h⟩
 ·rw[List.any_eq_false] at h;have:=h l[i] (List.mem_take_iff_getElem.2 ⟨i,by omega,rfl⟩);simpa using this
 rw[e,if_neg (by omega)] at hi;have:=h i (by simpa using hi);simpa using this
theorem hwS_at {F:Ft}{n:Nat}(hn:n≤l.length)(h0:hwS l m F n<n):fiB (l.getD (hwS l m F n) zeW) m F=false:=by
 have hil:hwS l m F n<l.length:=by omega
 rw[getW hil]
 rcases ixG_cases (fun w => !fiB w m F) (l.take n) with ⟨e,h⟩ | ⟨k,hk,e,h,_⟩
 ·have e1:hwS l m F n=n:=by rw[hwS,e,if_pos (by omega)]
  omega
 have e1:hwS l m F n=k:=by
  rw[hwS,e,if_neg (by omega)];simp
 simp only[e1];simpa using h
theorem hwTo_le (L:List Ft):∀k,hwTo l m L k≤l.length
 | 0=>nLQ _
 | k+1=>Nat.le_trans (hwS_le _ _) (hwTo_le L k)
theorem hwTo_mono (L:List Ft)(k:Nat):hwTo l m L (k+1)≤hwTo l m L k:=hwS_le _ _
theorem hwTo_zero {L:List Ft}{k:Nat}(h:hwTo l m L k=0):∀{n:Nat},k≤n→hwTo l m L n=0
 | 0,hn=>by
   obtain rfl:k=0:=by omega
   exact h
 | n+1,hn=>by
   by_cases e:k=n+1
   ·subst e;exact h
   have:=hwTo_zero h (show k≤n by omega);have h2:=hwTo_mono (l:=l) (m:=m) L n;omega
theorem hwTo_lt {L:List Ft}:∀{k i:Nat},i<hwTo l m L k→∀j,j<k→fiB (l.getD i zeW) m (L.getD j (0,ByteArray.empty,[]))=true
 | 0,i,_,j,hj=>by omega
 | k+1,i,hi,j,hj=>by
   by_cases e:j=k
   ·subst e;exact hwS_lt (hwTo_le L _) hi
   exact hwTo_lt (Nat.lt_of_lt_of_le hi (hwTo_mono L k)) j (by omega)
theorem hwTo_at {L:List Ft}:∀{k:Nat},hwTo l m L k<l.length→∃j,j<k∧fiB (l.getD (hwTo l m L k) zeW) m (L.getD j (0,ByteArray.empty,[]))=false
 | 0,h=>by
   have:hwTo l m L 0=l.length:=rfl;omega
 | k+1,h=>by
   by_cases e:hwTo l m L (k+1)<hwTo l m L k
   ·exact⟨k,by omega,hwS_at (hwTo_le L k) e⟩
   have e2:hwTo l m L (k+1)=hwTo l m L k:=by
    have:=hwTo_mono (l:=l) (m:=m) L k;omega
   rw[e2] at h ⊢;obtain⟨j,hj,hb⟩:=hwTo_at h;exact⟨j,by omega,hb⟩
def badF (w:Wi)(m:ByteArray)(L:List Ft):Bool:=L.any fun F => !fiB w m F
theorem hwN_lt {L:List Ft}{i:Nat}(h:i<hwN l m L):badF (l.getD i zeW) m L=false:=by
 unfold badF;rw[List.any_eq_false];intro F hF;obtain⟨j,hj,rfl⟩:=List.getElem_of_mem hF;have:=hwTo_lt h j hj;rw[show L.getD j (0,ByteArray.empty,[])=L[j] by simp[List.getD,hj]] at this;rw[this];decide
theorem hwN_at {L:List Ft}(h:hwN l m L<l.length):badF (l.getD (hwN l m L) zeW) m L=true:=by
 obtain⟨j,hj,hb⟩:=hwTo_at h;unfold badF;rw[List.any_eq_true];refine⟨L[j],List.getElem_mem hj,?_⟩;rw[show L.getD j (0,ByteArray.empty,[])=L[j] by simp[List.getD,hj]] at hb;rw[hwN,hb];rfl
theorem hwN_le (L:List Ft):hwN l m L≤l.length:=hwTo_le L _
end
theorem take_getW {l:List Wi}{n i:Nat}(hi:i<n):(l.take n).getD i zeW=l.getD i zeW:=by
 simp[List.getD,List.getElem?_take,hi]
structure Fb (l:List Wi)(Hs:HoQ)(Fs:Nat→Nat→List Ft)(z h held:Nat)(p:Int×ByteArray×Int):Prop where
 le:held≤l.length
 ok:∀i,i<held→∀z' h',h'<16→(z'<z∨z'=z∧h'<h)→badF (l.getD i zeW) (Hs.getD z' zeO).1 (Fs z' h')=false
 no:held=l.length→p=(0,ByteArray.empty,0)
 tell:held<l.length→∃z₁ h₁,h₁<16∧(z₁<z∨z₁=z∧h₁<h)∧z₁<Hs.length∧p=((held:Int),(Hs.getD z₁ zeO).1,(h₁:Int))∧badF (l.getD held zeW) (Hs.getD z₁ zeO).1 (Fs z₁ h₁)=true∧∀z' h',h'<16→(z'<z₁∨z'=z₁∧h'<h₁)→badF (l.getD held zeW) (Hs.getD z' zeO).1 (Fs z' h')=false
section
variable {l:List Wi}{Hs:HoQ}{Fs:Nat→Nat→List Ft}
theorem fb_0:Fb l Hs Fs 0 0 l.length (0,ByteArray.empty,0):=⟨nLQ _,fun _ _ z' h' _ h=>by omega,fun _=>rfl,fun h=>absurd h (Nat.lt_irrefl _)⟩
theorem Fb.host {z held:Nat}{p:Int×ByteArray×Int}(f:Fb l Hs Fs z 16 held p):Fb l Hs Fs (z+1) 0 held p:=
 ⟨f.le,fun i hi z' h' h16 h=>f.ok i hi z' h' h16 (by omega),f.no,fun h=>by
  obtain⟨z₁,h₁,a,b,c⟩:=f.tell h;exact⟨z₁,h₁,a,by omega,c⟩⟩
theorem Fb.same {z h held:Nat}{p:Int×ByteArray×Int}(f:Fb l Hs Fs z h held p)(hn:¬hwN (l.take held) (Hs.getD z zeO).1 (Fs z h)<held):Fb l Hs Fs z (h+1) held p:=by
 have hlen:(l.take held).length=held:=by rw[List.length_take];have:=f.le;omega
 have he:hwN (l.take held) (Hs.getD z zeO).1 (Fs z h)=held:=by
  have:=hwN_le (l:=l.take held) (m:=(Hs.getD z zeO).1) (Fs z h);omega
 refine⟨f.le,fun i hi z' h' h16 hh=>?_,f.no,fun hl=>?_⟩
 ·by_cases e:z'=z∧h'=h
  ·obtain⟨rfl,rfl⟩:=e;have:=hwN_lt (l:=l.take held) (m:=(Hs.getD z' zeO).1) (L:=Fs z' h') (i:=i) (by rw[he];exact hi)
   rwa [take_getW hi] at this
  exact f.ok i hi z' h' h16 (by omega)
 obtain⟨z₁,h₁,a,b,c⟩:=f.tell hl;exact⟨z₁,h₁,a,by omega,c⟩
theorem Fb.less {z h held n:Nat}{p:Int×ByteArray×Int}(f:Fb l Hs Fs z h held p)(h16:h<16)(hz:z<Hs.length)(hn:hwN (l.take held) (Hs.getD z zeO).1 (Fs z h)=n)(hlt:n<held):Fb l Hs Fs z (h+1) n ((n:Int),(Hs.getD z zeO).1,(h:Int)):=by
 have hle:=f.le;have hlen:(l.take held).length=held:=by rw[List.length_take];omega
 have hb:badF (l.getD n zeW) (Hs.getD z zeO).1 (Fs z h)=true:=by
  have:=hwN_at (l:=l.take held) (m:=(Hs.getD z zeO).1) (L:=Fs z h) (by rw[hn,hlen];exact hlt)
  rwa [hn,take_getW hlt] at this
 refine⟨by omega,fun i hi z' h' h16' hh=>?_,fun e=>by omega,fun _=>⟨z,h,h16,by omega,hz,rfl,hb,fun z' h' h16' hh=>f.ok n hlt z' h' h16' hh⟩⟩;by_cases e:z'=z∧h'=h
 ·obtain⟨rfl,rfl⟩:=e;have:=hwN_lt (l:=l.take held) (m:=(Hs.getD z' zeO).1) (L:=Fs z' h') (i:=i) (by rw[hn];exact hi)
  rwa [take_getW (by omega)] at this
 exact f.ok i (by omega) z' h' h16' (by omega)
theorem bad_off {w:Wi}{m:ByteArray}(h:abW w m=false)(L:List Ft):badF w m L=false:=by
 unfold badF;rw[List.any_eq_false];intro F _;simp[fiB,h]
theorem Fb.off {z h held:Nat}{p:Int×ByteArray×Int}(f:Fb l Hs Fs z h held p)(ho:(l.take held).any (fun w=>abW w (Hs.getD z zeO).1)=false):Fb l Hs Fs (z+1) 0 held p:=by
 refine⟨f.le,fun i hi z' h' h16 hh=>?_,f.no,fun hl=>?_⟩
 ·by_cases e:z'=z
  ·subst e;refine bad_off ?_ _;rw[List.any_eq_false] at ho;have hil:i<l.length:=by have:=f.le;omega
   have:=ho l[i] (List.mem_take_iff_getElem.2 ⟨i,by omega,rfl⟩);rw[getW hil];simpa using this
  exact f.ok i hi z' h' h16 (by omega)
 obtain⟨z₁,h₁,a,b,c⟩:=f.tell hl;exact⟨z₁,h₁,a,by omega,c⟩
end
section
variable {Ls:LkQ}{Hs:HoQ}{Ts:TsQ}{Xs:HoQ}{l:List Wi}
theorem brH_neg {w:Wi}{x:ByteArray×(Int×Int)}:∀{k:Nat},(∀j,j<k→brB Ls Hs Ts w x (j:Int)=false)→brH Ls Hs Ts w x k<0
 | 0,_=>by simp[brH]
 | k+1,h=>brH_no (brH_neg (fun j hj=>h j (by omega))) (h k (by omega))
theorem brX_neg {w:Wi}:∀{k:Nat},(∀j,j<k→∀h:Nat,h<16→brB Ls Hs Ts w (Xs.getD j zeO) (h:Int)=false)→brX Ls Hs Ts w Xs k=none
 | 0,_=>rfl
 | k+1,h=>by
   rw[brX,brX_neg (fun j hj=>h j (by omega))];simp only;rw[if_neg];have:=brH_neg (Ls:=Ls) (Hs:=Hs) (Ts:=Ts) (w:=w) (x:=Xs.getD k zeO) (k:=16) (fun j hj=>h k (by omega) j hj);omega
theorem brW_neg:∀{k:Nat},(∀i,i<k→∀j,j<Xs.length→∀h:Nat,h<16→brB Ls Hs Ts (l.getD i zeW) (Xs.getD j zeO) (h:Int)=false)→brW Ls Hs Ts l Xs k=none
 | 0,_=>rfl
 | k+1,h=>by
   rw[brW,brW_neg (fun i hi=>h i (by omega))];simp only;rw[brX_neg (h k (by omega))]
theorem fb_br {held:Nat}{p:Int×ByteArray×Int}(f:Fb l Hs (fun z h=>[frF Ls Hs Ts (Hs.getD z zeO).2 (h:Int)]) Hs.length 0 held p):(brW Ls Hs Ts l Hs l.length).isSome=decide (held<l.length)∧prV Hs (brW Ls Hs Ts l Hs l.length)=p:=by
 have hb:∀w z (h:Nat),badF w (Hs.getD z zeO).1 [frF Ls Hs Ts (Hs.getD z zeO).2 (h:Int)]=brB Ls Hs Ts w (Hs.getD z zeO) (h:Int):=fun w z h=>by simp[badF,brB]
 by_cases hl:held<l.length
 ·obtain⟨z,h,h16,hzh,hz,rfl,hbad,hno⟩:=f.tell hl;have e1:brH Ls Hs Ts l[held] Hs[z] 16=(h:Int):=by
   refine brH_yes h16 (brH_neg fun j hj=>?_) ?_
   ·have:=hno z j (by omega) (.inr ⟨rfl,hj⟩);rw[hb,getW hl,getO hz] at this;exact this
   rw[hb,getW hl,getO hz] at hbad;exact hbad
  have e2:brX Ls Hs Ts l[held] Hs Hs.length=some (z,(h:Int)):=by
   rw[brX_yes hz (brX_neg fun j hj h' hh'=>?_) (by rw[e1];omega),e1];have:=hno j h' hh' (.inl hj);rw[hb,getW hl] at this;exact this
  have e3:=brW_yes hl (brW_neg (Ls:=Ls) (Hs:=Hs) (Ts:=Ts) (Xs:=Hs) fun i hi j hj h' hh'=>by
   have:=f.ok i hi j h' hh' (.inl hj);rw[hb] at this;exact this) e2
  rw[e3];exact⟨by simp[hl],rfl⟩
 have he:held=l.length:=by have:=f.le;omega
 have e3:brW Ls Hs Ts l Hs l.length=none:=brW_neg fun i hi j hj h' hh'=>by
  have:=f.ok i (by omega) j h' hh' (.inl hj);rw[hb] at this;exact this
 rw[e3,f.no he];exact⟨by simp[hl],rfl⟩
end
def wi2Asks (w:World)(f:FuncId)(c0 c1:Value)(P:Wi→Bool):Prop:=
 ∀(x0:Int) (x1:ByteArray) (x2:ByteArray) (x3:Int) (W:World),Below w.heap.size w W→Calls prog f #[.agg #[.int i64 x0,.string x1,.string x2,.int i64 x3],c0,c1] W fun e w'=>e=.returned (.bool (P ⟨x0,x1,x2,x3⟩))∧Below W.heap.size W w'
theorem wi2Asks.later {w w':World}{f:FuncId}{c0 c1:Value}{P:Wi→Bool}(h:wi2Asks w f c0 c1 P)(hb:Below w.heap.size w w'):wi2Asks w' f c0 c1 P:=
 fun x0 x1 x2 x3 W hW=>h x0 x1 x2 x3 W (hb.trans (hW.mono hb.size))
theorem wi2_idxF (ao:AdQ)(n cap:Nat)(f:FuncId)(c0 c1:Value)(P:Wi→Bool)(L:List (Wi))(w:World)(hn:L.length=n)(hn2:n≤maxLen)(ha:0<n→∃g o,ao=some ⟨g,o,none⟩∧GAt wisE w g o L∧cap≤maxLen)(he:∀args w,(callFunc f args).run prog w=.ok (.enter f args) w)(hf:wi2Asks w f c0 c1 P):
 Calls prog 101 #[.slice ao n cap,.func (Fn.func f) #[] #[c0,c1]] w fun e w'=>e=.returned (.int i64 (ixG P L))∧Below w.heap.size w w':=by
 have HN:Hid (L.length=n):=hn;have HF:Hid (wi2Asks w f c0 c1 P):=hf;have HA:Hid (0<n→∃g o,ao=some ⟨g,o,none⟩∧GAt wisE w g o L∧cap≤maxLen):=ha;unfold maxLen at hn2;clear hn hf ha;go_enter func101,ntmps101;go_wp2
 go_loopw [8] (fun i wr=>∃k:Nat,k≤n∧i=.int i64 k∧(L.take k).any P=false∧Below w.heap.size w wr)
  (fun i _=>n-(intOf i).toNat)
 case atStart=>exact⟨0,by omega,rfl,by simp,bRQ _ _⟩
 case round =>
  obtain⟨k,hk,rfl,hno,hB⟩:=hrel;have HB:Hid (Below w.heap.size w wr):=hB;have HNO:Hid ((L.take k).any P=false):=hno;clear hno;by_cases hlt:k<n
  ·obtain⟨g,o,hao,hc,_⟩:=HA.out (by omega);subst hao;obtain⟨x0,x1,x2,x3,hkl,hL,q0,q1,q2,q3⟩:=wis_at (hc.later hB) HN.out hlt;have HL:Hid (L[k]=⟨x0,x1,x2,x3⟩):=hL;clear hL hB;cases ho:P ⟨x0,x1,x2,x3⟩
   ·go_wp2_with fail
    refine (HF.out x0 x1 x2 x3 _ HB.out).mono ?_;rintro e w1 ⟨rfl,hb1⟩;rw[ho];have HB1:=HB.out.trans (hb1.mono HB.out.size);clear hb1;go_wp2;go_roundw
    case rel=>exact⟨k+1,by omega,by go_num,any_nextG hkl HNO.out (by rw[HL.out];exact ho),HB1⟩
    case measure=>simp[intOf];omega
   go_wp2_with fail
   refine (HF.out x0 x1 x2 x3 _ HB.out).mono ?_;rintro e w1 ⟨rfl,hb1⟩;rw[ho];go_wp2;go_ret;exact⟨by rw[ixG_hit hkl HNO.out (by rw[HL.out];exact ho)];rfl,HB.out.trans (hb1.mono HB.out.size)⟩
  obtain rfl:k=n:=by omega
  go_wp2;go_ret;exact⟨by have:=HNO.out;rw[←HN.out,List.take_length] at this;rw[ixG_no this];rfl,HB.out⟩
end
end Go.Proofs.YtpgjkmefomldfaaGreat
