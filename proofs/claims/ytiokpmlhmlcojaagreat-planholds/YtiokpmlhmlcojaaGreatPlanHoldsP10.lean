/- Contracts and facts on the way to PlanHolds, joined into one text: MixDuring, PlanMath3, SlWish, BrokenBox, MixBroken, MixSeenMath, MixSafe, PlanTask, PlanRound, MixMath5, MixTellsMath, PlanSafe. -/
import Derived.Test.YtiokpmlhmlcojaaGreatPlanHoldsP9
namespace Go.Proofs.YtiokpmlhmlcojaaGreat
set_option linter.unusedSimpArgs false
set_option linter.unusedVariables false
set_option maxHeartbeats 16000000
set_option maxRecDepth 100000
section
open Go.RowKit Go.Shelf
def lgF (Ls:LkQ)(Hs:HoQ)(Ts:List (List Ru)):Nat→Nat→Lg:=fun (a h:Nat)=>lgT Ls Hs (taT Ts ((a:Int)+1)) (((a:Int)+1,0),(h:Int))
def DuQ (N:Int)(W:World)(B:Nat)(vo vy:Value)(Ls:LkQ)(Hs:HoQ)(Ts:List (List Ru))(l:List Op8)(m:Nat):Prop:=N=0→LGs W B vo (lgF Ls Hs Ts) m∧LGs W B vy (lgF Ls Hs (caT Ts l)) m
theorem fates_val (vo vy:Value)(c d e:Int)(w:World):
 Calls Tryz.prog 35 #[.agg #[vo,vy],.agg #[.int .i64 c,.int .i64 d,.int .i64 e]] w fun e' w'=>e'=.returned (.func (Fn.func 59) #[] #[.pointer (some ⟨w.heap.size,0,none⟩),.pointer (some ⟨w.heap.size+1,0,none⟩)])∧w'=(w.alloc (.cells #[vo,vy] 105)).alloc (.cells #[.int .i64 c,.int .i64 d,.int .i64 e] 101):=by
 go_enter Tryz.func35,Tryz.ntmps35;go_wp2;go_ret;exact⟨rfl,rfl⟩
theorem fates_it (vo vy:Value)(m:Nat)(Ls:LkQ)(Hs:HoQ)(As Bs:List (List Ru))(c d e:Int)(w:World)(hm:m≤6)(ht:tpN (m:Int) Ls Hs=0)(ho:LGs w 0 vo (lgF Ls Hs As) m)(hy:LGs w 0 vy (lgF Ls Hs Bs) m)(hsp:spB (m:Int) (c,d)=true)(hhd:hdrB e=true):
 Calls Tryz.prog 35 #[.agg #[vo,vy],.agg #[.int .i64 c,.int .i64 d,.int .i64 e]] w fun e' w'=>∃gi lb,e'=.returned (.func (Fn.func gi) #[] lb)∧(∀args w,(callFunc gi args).run Tryz.prog w=.ok (.enter gi args) w)∧ItF Tryz.prog gi lb FtV w'.heap.size (pwS Ls Hs As Bs (c,d) e) w'∧Below w.heap.size w w':=by
 refine (fates_val vo vy c d e w).mono ?_;rintro e' w' ⟨rfl,rfl⟩;have hb:∀(W:World) (o:Obj),Below W.heap.size W (W.alloc o):=fun W o=>(Below.refl _ _).alloc (Nat.le_refl _) _
 have h1:=(vat_new w [vo,vy] 105).later (hb (w.alloc (.cells #[vo,vy] 105)) (.cells #[.int .i64 c,.int .i64 d,.int .i64 e] 101));have h2:=vat_new (w.alloc (.cells #[vo,vy] 105)) [.int .i64 c,.int .i64 d,.int .i64 e] 101;rw[World.size_alloc] at h2;have hB:Below w.heap.size w ((w.alloc (.cells #[vo,vy] 105)).alloc (.cells #[.int .i64 c,.int .i64 d,.int .i64 e] 101)):=((Below.refl _ _).alloc (Nat.le_refl _) _).alloc (by simp) _;exact⟨_,_,rfl,enters_of Tryz.func59 (by kernel_rfl) rfl,fates1_it vo vy m Ls Hs As Bs w.heap.size (w.heap.size+1) c d e _ (h1 0 _ rfl) (h1 1 _ rfl) (h2 0 _ rfl) (h2 1 _ rfl) (h2 2 _ rfl) hm ht (ho.later hB) (hy.later hB) hsp hhd,hB⟩
structure DB (w W:World)(S:Int)(v1 v2 v3:Value):Prop where
 below:Below w.heap.size w W
 n:NeBox W w.heap.size S v1 v2 v3
 r0:W.cell? ⟨w.heap.size+1,0,none⟩=some (.slice none 0 0)
 r1:W.cell? ⟨w.heap.size+1,1,none⟩=some (.slice none 0 0)
 f:∀i,W.frozen? ⟨w.heap.size+1,i,none⟩=false
theorem db_new (w:World)(S:Int)(v1 v2 v3:Value):DB w ((w.alloc (Obj.cells #[.int .i64 S,v1,v2,v3] 28)).alloc (Obj.cells #[.slice none 0 0,.slice none 0 0] 105)) S v1 v2 v3:=by
 have e1:(w.alloc (Obj.cells #[.int .i64 S,v1,v2,v3] 28)).heap.size=w.heap.size+1:=by simp
 have hb:∀(W:World) (o:Obj),Below W.heap.size W (W.alloc o):=fun W o=>(Below.refl _ _).alloc (Nat.le_refl _) _
 have hn:=(nebox_new w S v1 v2 v3 28).later (hb _ (Obj.cells #[.slice none 0 0,.slice none 0 0] 105));have hB:=((Below.refl w.heap.size w).alloc (Nat.le_refl _) (Obj.cells #[.int .i64 S,v1,v2,v3] 28)).alloc (by rw[e1];omega) (Obj.cells #[.slice none 0 0,.slice none 0 0] 105)
 generalize w.alloc (Obj.cells #[.int .i64 S,v1,v2,v3] 28)=X at e1 hn hB
 have hr:=vat_new X [.slice none 0 0,.slice none 0 0] 105;have hf:=froz_new2 X #[.slice none 0 0,.slice none 0 0] 105;rw[e1] at hr hf;exact⟨hB,hn,hr 0 _ rfl,hr 1 _ rfl,hf⟩
theorem DB.lt {w W:World}{S:Int}{v1 v2 v3:Value}(k:DB w W S v1 v2 v3):w.heap.size+1<W.heap.size:=bLQ W ⟨w.heap.size+1,0,none⟩ k.r0
theorem DB.later {w W W':World}{S:Int}{v1 v2 v3:Value}(k:DB w W S v1 v2 v3)(hb:Below W.heap.size W W'):DB w W' S v1 v2 v3:=
 ⟨k.below.trans (hb.mono k.below.size),k.n.later hb,cell_later hb k.r0,cell_later hb k.r1,fun i=>(hb.frozen (p:=⟨w.heap.size+1,i,none⟩) k.lt).trans (k.f i)⟩
theorem below_2 {B:Nat}{w W:World}(h:Below B w W)(g:Nat)(hg:B≤g)(a b:Value):Below B w ((W.setCell ⟨g,0,none⟩ a).setCell ⟨g,1,none⟩ b):=(h.setCell (p:=⟨g,0,none⟩) hg a).setCell (p:=⟨g,1,none⟩) hg b
theorem LGs.put {W:World}{B B':Nat}{v:Value}{f:Nat→Nat→Lg}{k:Nat}(h:LGs W B v f k)(g:Nat)(hg:g<B)(a b:Value)(hB:B'≤B):LGs ((W.setCell ⟨g,0,none⟩ a).setCell ⟨g,1,none⟩ b) B' v f k:=by
 obtain⟨vs,h1,h2⟩:=h;refine⟨vs,own_mono (ownsRow_setCell_below (ownsRow_setCell_below h1 hg _) hg _) hB,fun i hi=>?_⟩;obtain⟨u,e,h3⟩:=h2 i hi;exact⟨u,e,own_mono (ownsRow_setCell_below (ownsRow_setCell_below h3 hg _) hg _) hB⟩
def NetQ (w2:World)(Z:Int)(q1:Option Addr)(j1 e1:Nat)(q2:Option Addr)(j2 e2:Nat)(q3:Option Addr)(j3 e3:Nat)(Ls:LkQ)(Hs:HoQ)(T':List (List Ru)):Prop:=
 (∀W,Below w2.heap.size w2 W→GS lnkE W (.slice q1 j1 e1) Ls∧GS hstE W (.slice q2 j2 e2) Hs∧TS W (.slice q3 j3 e3) T')∧ntN Z Ls Hs T'=0
theorem during_any (S:Int)(ao:Option Addr)(n cap:Nat)(ao2:Option Addr)(n2 cap2:Nat)(ao3:Option Addr)(n3 cap3:Nat)(a4:Option Addr)(n4 c4:Nat)(Ls:LkQ)(Hs:HoQ)(Ts:List (List Ru))(l:List Op8)(w:World)
 (hL:GS lnkE w (.slice ao n cap) Ls) (hH:GS hstE w (.slice ao2 n2 cap2) Hs) (hT:TS w (.slice ao3 n3 cap3) Ts) (hl:GS opE w (.slice a4 n4 c4) l):
 Calls Tryz.prog 33 #[.agg #[.int .i64 S,.slice ao n cap,.slice ao2 n2 cap2,.slice ao3 n3 cap3],.slice a4 n4 c4] w fun e w'=>∃(p7:Option Addr) (j7 e7:Nat) (p8:Option Addr) (j8 e8:Nat),e=.returned (.tuple #[.agg #[.slice p7 j7 e7,.slice p8 j8 e8],noV (cgN S Ls Hs Ts l)])∧DuQ (cgN S Ls Hs Ts l) w' 0 (.slice p7 j7 e7) (.slice p8 j8 e8) Ls Hs Ts l n3∧Below w.heap.size w w':=by
 obtain⟨N,hN⟩:∃N,N=cgN S Ls Hs Ts l:=⟨_,rfl⟩;have HN:Hid (cgN S Ls Hs Ts l=N):=hN.symm;rw[←hN];have HLW:Hid (∀W,Below w.heap.size w W→GS lnkE W (.slice ao n cap) Ls):=fun W hb=>hL.later hb
 have HHW:Hid (∀W,Below w.heap.size w W→GS hstE W (.slice ao2 n2 cap2) Hs):=fun W hb=>hH.later hb
 have HTW:Hid (∀W,Below w.heap.size w W→TS W (.slice ao3 n3 cap3) Ts):=fun W hb=>hT.later hb
 have HlW:Hid (∀W,Below w.heap.size w W→GS opE W (.slice a4 n4 c4) l):=fun W hb=>hl.later hb
 have HTN:Hid (Ts.length=n3):=hT.len;have hX:=db_new w S (.slice ao n cap) (.slice ao2 n2 cap2) (.slice ao3 n3 cap3);obtain⟨w0,hw0⟩:∃W,(w.alloc (Obj.cells #[.int .i64 S,.slice ao n cap,.slice ao2 n2 cap2,.slice ao3 n3 cap3] 28)).alloc (Obj.cells #[.slice none 0 0,.slice none 0 0] 105)=W:=⟨_,rfl⟩;rw[hw0] at hX;have HX:Hid (DB w w0 S (.slice ao n cap) (.slice ao2 n2 cap2) (.slice ao3 n3 cap3)):=hX;have HW0:Hid ((w.alloc (Obj.cells #[.int .i64 S,.slice ao n cap,.slice ao2 n2 cap2,.slice ao3 n3 cap3] 28)).alloc (Obj.cells #[.slice none 0 0,.slice none 0 0] 105)=w0):=hw0;clear hL hH hT hl hN hX hw0;go_enter Tryz.func33,Tryz.ntmps33;go_upto_region 1 with fail;rw[HW0.out];clear HW0;obtain⟨_,⟨b0,b1,b2,b3⟩,_,_,_⟩:=HX.out
 go_wp2_with fail
 refine (chApply_any S ao n cap ao2 n2 cap2 ao3 n3 cap3 a4 n4 c4 Ls Hs Ts l _ (HLW.out _ HX.out.below) (HHW.out _ HX.out.below) (HTW.out _ HX.out.below) (HlW.out _ HX.out.below)).mono ?_;rintro e w1 ⟨p1,k1,d1,p2,k2,d2,p3,k3,d3,rfl,g1,g2,g3,hb1⟩;rw[HN.out] at g1 g2 g3;rw[HN.out];have HX1:Hid (DB w w1 S (.slice ao n cap) (.slice ao2 n2 cap2) (.slice ao3 n3 cap3)):=HX.out.later hb1;obtain⟨Z,hZ⟩:∃Z,Z=nvS N S:=⟨_,rfl⟩;rw[←hZ];have hal:Below w1.heap.size w1 (w1.alloc (Obj.cells #[.int .i64 Z,.slice p1 k1 d1,.slice p2 k2 d2,.slice p3 k3 d3] 28)):=(Below.refl _ _).alloc (Nat.le_refl _) _;have hne:=nebox_new w1 Z (.slice p1 k1 d1) (.slice p2 k2 d2) (.slice p3 k3 d3) 28;have hX2:=HX1.out.later hal;have g1':=g1.later hal;have g2':=g2.later hal;have g3':=g3.later hal;obtain⟨w2,hw2⟩:∃W,w1.alloc (Obj.cells #[.int .i64 Z,.slice p1 k1 d1,.slice p2 k2 d2,.slice p3 k3 d3] 28)=W:=⟨_,rfl⟩;obtain⟨gn,hgn⟩:∃g,w1.heap.size=g:=⟨_,rfl⟩;rw[hw2] at hne hX2 g1' g2' g3';rw[hgn] at hne;have HW2:Hid (w1.alloc (Obj.cells #[.int .i64 Z,.slice p1 k1 d1,.slice p2 k2 d2,.slice p3 k3 d3] 28)=w2):=hw2;have HGN:Hid (w1.heap.size=gn):=hgn;have HX2:Hid (DB w w2 S (.slice ao n cap) (.slice ao2 n2 cap2) (.slice ao3 n3 cap3)):=hX2;have HNE:Hid (NeBox w2 gn Z (.slice p1 k1 d1) (.slice p2 k2 d2) (.slice p3 k3 d3)):=hne;have HG:Hid (GS lnkE w2 (.slice p1 k1 d1) (nvL N Ls)∧GS hstE w2 (.slice p2 k2 d2) (nvL N Hs)∧TS w2 (.slice p3 k3 d3) (nvL N (caT Ts l))):=⟨g1',g2',g3'⟩;have HZ:Hid (Z=nvS N S):=hZ;have HGL:Hid (w.heap.size+1<gn):=by
  show _<_;rw[←hgn];exact HX1.out.lt
 clear hb1 g1 g2 g3 g1' g2' g3' hal hne hX2 hw2 hgn hZ HX HX1 b0 b1 b2 b3;go_upto_region 2 with fail;rw[HW2.out,HGN.out];clear HW2 HGN;by_cases h0:N=0
 ·subst h0;rw[no_ok rfl];have HNT:Hid (ntN S Ls Hs Ts=0∧caN S Ts l=0):=by
   have h:=HN.out;unfold cgN at h;by_cases e:ntN S Ls Hs Ts=0
   ·rw[if_pos e] at h;by_cases e2:200<l.length
    ·rw[if_pos e2] at h;cases h
    rw[if_neg e2] at h;exact⟨e,h⟩
   rw[if_neg e] at h;exact absurd h e
  obtain rfl:Z=S:=HZ.out;have hg:=HG.out;simp only[nvL,if_true] at hg;have hk3:k3=n3:=by
   have h1:=hg.2.2.len;rw[ca_len,HTN.out] at h1;exact h1.symm
  subst hk3;have HLG:Hid (∀(q1:Option Addr) (j1 e1:Nat) (q2:Option Addr) (j2 e2:Nat) (q3:Option Addr) (j3 e3:Nat) (T':List (List Ru)) (W:World),Below w2.heap.size w2 W→NetQ w2 Z q1 j1 e1 q2 j2 e2 q3 j3 e3 Ls Hs T'→Calls Tryz.prog 58 #[.agg #[.int .i64 Z,.slice q1 j1 e1,.slice q2 j2 e2,.slice q3 j3 e3]] W fun e w'=>∃a' c',e=.returned (.slice a' j3 c')∧LGs w' W.heap.size (.slice a' j3 c') (lgF Ls Hs T') j3∧Below W.heap.size W w'):=fun q1 j1 e1 q2 j2 e2 q3 j3 e3 T' W hb hq=>(legs_any Z q1 j1 e1 q2 j2 e2 q3 j3 e3 Ls Hs T' W (hq.1 W hb).1 (hq.1 W hb).2.1 (hq.1 W hb).2.2 hq.2).mono (by
   rintro e w' ⟨v,rfl,hG,hb⟩;obtain⟨vs,hv,_⟩:=id hG;obtain⟨a',c',rfl⟩:=own_form hv;exact⟨a',c',rfl,hG,hb⟩)
  have HQA:Hid (NetQ w2 Z ao n cap ao2 n2 cap2 ao3 k3 cap3 Ls Hs Ts):=⟨fun W hb=>by
   have hx:=HX2.out.below.trans (hb.mono HX2.out.below.size);exact⟨HLW.out W hx,HHW.out W hx,HTW.out W hx⟩,HNT.out.1⟩
  have HQB:Hid (NetQ w2 Z p1 k1 d1 p2 k2 d2 p3 k3 d3 Ls Hs (caT Ts l)):=⟨fun W hb=>⟨hg.1.later hb,hg.2.1.later hb,hg.2.2.later hb⟩,nt_ca HNT.out.1 HNT.out.2⟩;have HSW:Hid (∀W,Below w2.heap.size w2 W→W.cell? ⟨w.heap.size,0,none⟩=some (.int .i64 Z)∧W.cell? ⟨w.heap.size,1,none⟩=some (.slice ao n cap)∧W.cell? ⟨w.heap.size,2,none⟩=some (.slice ao2 n2 cap2)∧W.cell? ⟨w.heap.size,3,none⟩=some (.slice ao3 k3 cap3)∧W.cell? ⟨gn,0,none⟩=some (.int .i64 Z)∧W.cell? ⟨gn,1,none⟩=some (.slice p1 k1 d1)∧W.cell? ⟨gn,2,none⟩=some (.slice p2 k2 d2)∧W.cell? ⟨gn,3,none⟩=some (.slice p3 k3 d3)):=fun W hb=>by
   obtain⟨a0,a1,a2,a3⟩:=HX2.out.n.later hb;obtain⟨c0,c1,c2,c3⟩:=HNE.out.later hb;exact⟨a0,a1,a2,a3,c0,c1,c2,c3⟩
  have HSV:Hid (∀W,Below w2.heap.size w2 W→∀a b,(((W.setCell ⟨w.heap.size+1,0,none⟩ a).setCell ⟨w.heap.size+1,1,none⟩ b).cell? ⟨w.heap.size,0,none⟩=some (.int .i64 Z)∧((W.setCell ⟨w.heap.size+1,0,none⟩ a).setCell ⟨w.heap.size+1,1,none⟩ b).cell? ⟨w.heap.size,1,none⟩=some (.slice ao n cap)∧((W.setCell ⟨w.heap.size+1,0,none⟩ a).setCell ⟨w.heap.size+1,1,none⟩ b).cell? ⟨w.heap.size,2,none⟩=some (.slice ao2 n2 cap2)∧((W.setCell ⟨w.heap.size+1,0,none⟩ a).setCell ⟨w.heap.size+1,1,none⟩ b).cell? ⟨w.heap.size,3,none⟩=some (.slice ao3 k3 cap3)∧((W.setCell ⟨w.heap.size+1,0,none⟩ a).setCell ⟨w.heap.size+1,1,none⟩ b).cell? ⟨gn,0,none⟩=some (.int .i64 Z)∧((W.setCell ⟨w.heap.size+1,0,none⟩ a).setCell ⟨w.heap.size+1,1,none⟩ b).cell? ⟨gn,1,none⟩=some (.slice p1 k1 d1)∧((W.setCell ⟨w.heap.size+1,0,none⟩ a).setCell ⟨w.heap.size+1,1,none⟩ b).cell? ⟨gn,2,none⟩=some (.slice p2 k2 d2)∧((W.setCell ⟨w.heap.size+1,0,none⟩ a).setCell ⟨w.heap.size+1,1,none⟩ b).cell? ⟨gn,3,none⟩=some (.slice p3 k3 d3))):=fun W hb a b=>by
   have hl:=HX2.out.lt;have hgl:gn≠w.heap.size+1:=by
    have h1:=HX2.out.lt;have h2:=HGL.out;omega
   have o:∀(g j:Nat),g≠w.heap.size+1→((W.setCell ⟨w.heap.size+1,0,none⟩ a).setCell ⟨w.heap.size+1,1,none⟩ b).cell? ⟨g,j,none⟩=W.cell? ⟨g,j,none⟩:=fun g j hne=>by
    rw[World.cell?_setCell_other _ _ _ _ (by intro e;injection e with e1;exact hne e1.symm),World.cell?_setCell_other _ _ _ _ (by intro e;injection e with e1;exact hne e1.symm)]
   obtain⟨a0,a1,a2,a3,c0,c1,c2,c3⟩:=HSW.out W hb;exact⟨by rw[o _ _ (by omega)];exact a0,by rw[o _ _ (by omega)];exact a1,by rw[o _ _ (by omega)];exact a2,by rw[o _ _ (by omega)];exact a3,by rw[o _ _ hgl];exact c0,by rw[o _ _ hgl];exact c1,by rw[o _ _ hgl];exact c2,by rw[o _ _ hgl];exact c3⟩
  obtain⟨s0,s1,s2,s3,s4,s5,s6,s7⟩:=HSW.out w2 (Below.refl _ _);have hlw:w.heap.size<w2.heap.size:=bLQ _ _ s0;have hlg:gn<w2.heap.size:=bLQ _ _ s4;have hlr:w.heap.size+1<w2.heap.size:=HX2.out.lt;have HR:Hid (∀W,Below w2.heap.size w2 W→(W.cell? ⟨w.heap.size+1,0,none⟩=some (.slice none 0 0)∧W.cell? ⟨w.heap.size+1,1,none⟩=some (.slice none 0 0))∧W.frozen? ⟨w.heap.size+1,0,none⟩=false∧W.frozen? ⟨w.heap.size+1,1,none⟩=false):=fun W hb=>⟨⟨cell_later hb HX2.out.r0,cell_later hb HX2.out.r1⟩,(HX2.out.later hb).f 0,(HX2.out.later hb).f 1⟩
  have HBW:Hid (Below w.heap.size w w2):=HX2.out.below;clear hg;go_upto_region 4 with fail
  go_region_held3 (fun W=>W.cell? ⟨w.heap.size,0,none⟩=some (.int .i64 Z)∧W.cell? ⟨w.heap.size,1,none⟩=some (.slice ao n cap)∧W.cell? ⟨w.heap.size,2,none⟩=some (.slice ao2 n2 cap2)∧W.cell? ⟨w.heap.size,3,none⟩=some (.slice ao3 k3 cap3)∧W.cell? ⟨gn,0,none⟩=some (.int .i64 Z)∧W.cell? ⟨gn,1,none⟩=some (.slice p1 k1 d1)∧W.cell? ⟨gn,2,none⟩=some (.slice p2 k2 d2)∧W.cell? ⟨gn,3,none⟩=some (.slice p3 k3 d3))
   (first | (with_reducible assumption) | (with_reducible exact HSW.out _ (Below.drew (Below.refl _ _))) | (with_reducible exact HSW.out _ HBA.out) | (with_reducible exact HSW.out _ HBB.out) | (with_reducible exact HSV.out _ HBA.out _ _) | (with_reducible exact HSV.out _ HBB.out _ _))
   (first
    | (go_at_call 58;refine (HLG.out _ _ _ _ _ _ _ _ _ (Ts) _ ?_ ?_).mono ?_;(focus (first | (with_reducible exact Below.drew (Below.refl _ _)) | (with_reducible exact HBB.out)));(focus (with_reducible exact HQA.out));rintro e5 w5A ⟨aA,cA,rfl,hG,hb⟩;have HBA:Hid (Below w2.heap.size w2 w5A):=(by first | exact bdrew hb | exact HBB.out.trans (hb.mono HBB.out.size));have HGA:Hid (LGs w5A w2.heap.size (.slice aA k3 cA) (lgF Ls Hs (Ts)) k3):=(hG.mono (by first | exact Nat.le_refl _ | exact HBB.out.size));(try (have HGB2:Hid (LGs w5A w2.heap.size (.slice aB k3 cB) _ k3):=HGB.out.later hb));have hr:=HR.out _ HBA.out;obtain⟨⟨r0,r1⟩,f0,f1⟩:=hr;clear hG hb)
    | (go_at_call 58;refine (HLG.out _ _ _ _ _ _ _ _ _ (caT Ts l) _ ?_ ?_).mono ?_;(focus (first | (with_reducible exact Below.drew (Below.refl _ _)) | (with_reducible exact HBA.out)));(focus (with_reducible exact HQB.out));rintro e5 w5B ⟨aB,cB,rfl,hG,hb⟩;have HBB:Hid (Below w2.heap.size w2 w5B):=(by first | exact bdrew hb | exact HBA.out.trans (hb.mono HBA.out.size));have HGB:Hid (LGs w5B w2.heap.size (.slice aB k3 cB) (lgF Ls Hs (caT Ts l)) k3):=(hG.mono (by first | exact Nat.le_refl _ | exact HBA.out.size));(try (have HGA2:Hid (LGs w5B w2.heap.size (.slice aA k3 cA) _ k3):=HGA.out.later hb));have hr:=HR.out _ HBB.out;obtain⟨⟨r0,r1⟩,f0,f1⟩:=hr;clear hG hb))
  all_goals go_wp2
  all_goals refine bodyPost_ret (v:=.tuple #[.agg #[.slice aA k3 cA,.slice aB k3 cB],.nilIface]) (by simp[results,Tryz.results33,go_sem, *]) rfl ⟨_,_,_,_,_,_,by rw[no_ok rfl],?_⟩
  all_goals first
   | exact⟨fun _=>⟨HGA2.out.put _ hlr _ _ (Nat.zero_le _),HGB.out.put _ hlr _ _ (Nat.zero_le _)⟩,below_2 (HBW.out.trans (HBB.out.mono HBW.out.size)) _ (by omega) _ _⟩
   | exact⟨fun _=>⟨HGA.out.put _ hlr _ _ (Nat.zero_le _),HGB2.out.put _ hlr _ _ (Nat.zero_le _)⟩,below_2 (HBW.out.trans (HBA.out.mono HBW.out.size)) _ (by omega) _ _⟩
 rw[no_ne h0];have HNZ:Hid (N≠0):=h0;obtain⟨hB2,_,r0,r1,rf⟩:=HX2.out;have HB2:Hid (Below w.heap.size w w2):=hB2;have f0:=rf 0;have f1:=rf 1;clear hB2 rf h0;go_wp2;refine bodyPost_ret (v:=.tuple #[.agg #[.slice none 0 0,.slice none 0 0],.iface 63 (.int .i64 N)]) (by simp[results,Tryz.results33,go_sem, *]) rfl ⟨_,_,_,_,_,_,by rw[no_ne HNZ.out],fun e=>absurd e HNZ.out,below_2 HB2.out _ (by omega) _ _⟩
end
section
open Go.RowKit
def alS (D:List Op8):Nat:=D.foldl (fun s o=>s ||| onS o.w.toNat) 0
theorem al_next {l:List Op8}{k:Nat}(hk:k<l.length):alS (l.take (k+1))=alS (l.take k) ||| onS l[k].w.toNat:=by
 rw[List.take_succ_eq_append_getElem hk,alS,alS,List.foldl_append];rfl
theorem al_in:∀(D:List Op8) (s:Nat),(∀o∈D,1≤o.w∧o.w≤6)→s<64→(D.foldl (fun s o=>s ||| onS o.w.toNat) s)<64∧∀a,1≤a→a≤6→(inS (D.foldl (fun s o=>s ||| onS o.w.toNat) s) a=true↔inS s a=true∨∃o∈D,o.w=(a:Int))
 | [],s,_,hs=>⟨hs,fun a _ _=>by simp⟩
 | o :: D,s,h,hs=>by
   have ho:=h o (List.mem_cons_self ..);obtain⟨i1,i2⟩:=al_in D (s ||| onS o.w.toNat) (fun x hx=>h x (List.mem_cons_of_mem _ hx)) (or_lt hs (on_lt (by omega)));refine⟨i1,fun a h1 h2=>?_⟩;rw[List.foldl_cons,i2 a h1 h2,in_or,in_on h2 (by omega)];constructor
   ·rintro (k | ⟨x,k1,k2⟩)
    ·rcases Bool.or_eq_true_iff.1 k with k | k
     ·exact .inl k
     exact .inr ⟨o,List.mem_cons_self ..,by have:=of_decide_eq_true k;omega⟩
    exact .inr ⟨x,List.mem_cons_of_mem _ k1,k2⟩
   rintro (k | ⟨x,k1,k2⟩)
   ·exact .inl (by rw[k];rfl)
   rcases List.mem_cons.1 k1 with e | e
   ·subst e;exact .inl (by rw[decide_eq_true (show a=x.w.toNat by omega)];simp)
   exact .inr ⟨x,e,k2⟩
theorem al_lt {D:List Op8}(h:∀o∈D,1≤o.w∧o.w≤6):alS D<64:=(al_in D 0 h (by decide)).1
theorem al_mem {D:List Op8}(h:∀o∈D,1≤o.w∧o.w≤6){a:Nat}(h1:1≤a)(h2:a≤6):inS (alS D) a=true↔∃o∈D,o.w=(a:Int):=by
 rw[alS,(al_in D 0 h (by decide)).2 a h1 h2,in_0];simp
section
variable (sf:Nat→Nat→Bool)(done:Nat)
end
def wisAsks (w:World)(f:FuncId)(c:Value)(P:Wi→Bool):Prop:=
 ∀(x0:Int) (x1:ByteArray) (x2:ByteArray) (x3:Int) (W:World),Below w.heap.size w W→Calls Tryz.prog f #[.agg #[.int .i64 x0,.string x1,.string x2,.int .i64 x3],c] W fun e w'=>e=.returned (.bool (P ⟨x0,x1,x2,x3⟩))∧Below W.heap.size W w'
theorem wisAsks.later {w w':World}{f:FuncId}{c:Value}{P:Wi→Bool}(h:wisAsks w f c P)(hb:Below w.heap.size w w'):wisAsks w' f c P:=
 fun x0 x1 x2 x3 W hW=>h x0 x1 x2 x3 W (hb.trans (hW.mono hb.size))
theorem wis_idxF (ao:Option Addr)(n cap:Nat)(f:FuncId)(c:Value)(P:Wi→Bool)(L:List (Wi))(w:World)(hn:L.length=n)(hn2:n≤maxLen)(ha:0<n→∃g o,ao=some ⟨g,o,none⟩∧GAt wisE w g o L∧cap≤maxLen)(he:∀args w,(callFunc f args).run Tryz.prog w=.ok (.enter f args) w)(hf:wisAsks w f c P):
 Calls Tryz.prog 82 #[.slice ao n cap,.func (Fn.func f) #[] #[c]] w fun e w'=>e=.returned (.int .i64 (ixG P L))∧Below w.heap.size w w':=by
 have HN:Hid (L.length=n):=hn;have HF:Hid (wisAsks w f c P):=hf;have HA:Hid (0<n→∃g o,ao=some ⟨g,o,none⟩∧GAt wisE w g o L∧cap≤maxLen):=ha;unfold maxLen at hn2;clear hn hf ha;go_enter Tryz.func82,Tryz.ntmps82;go_wp2
 go_loopw [8] (fun i wr=>∃k:Nat,k≤n∧i=.int .i64 k∧(L.take k).any P=false∧Below w.heap.size w wr)
  (fun i _=>n-(intOf i).toNat)
 case atStart=>exact⟨0,by omega,rfl,by simp,Below.refl _ _⟩
 case round =>
  obtain⟨k,hk,rfl,hno,hB⟩:=hrel;have HB:Hid (Below w.heap.size w wr):=hB;have HNO:Hid ((L.take k).any P=false):=hno;clear hno;by_cases hlt:k<n
  ·obtain⟨g,o,hao,hc,_⟩:=HA.out (by omega);subst hao;obtain⟨x0,x1,x2,x3,hkl,hL,q0,q1,q2,q3⟩:=wis_at (hc.later hB) HN.out hlt;have HL:Hid (L[k]=⟨x0,x1,x2,x3⟩):=hL;clear hL hB;cases ho:P ⟨x0,x1,x2,x3⟩
   ·go_wp2_with fail
    refine (HF.out x0 x1 x2 x3 _ HB.out).mono ?_;rintro e w1 ⟨rfl,hb1⟩;rw[ho];have HB1:=HB.out.trans (hb1.mono HB.out.size);clear hb1;go_wp2;go_roundw
    case rel=>exact⟨k+1,by omega,by go_num,any_nextG hkl HNO.out (by rw[HL.out];exact ho),HB1⟩
    case measure=>simp[intOf];omega
   go_wp2_with fail
   refine (HF.out x0 x1 x2 x3 _ HB.out).mono ?_;rintro e w1 ⟨rfl,hb1⟩;rw[ho];go_wp2;go_ret;exact⟨by rw[ixG_hit hkl HNO.out (by rw[HL.out];exact ho)];rfl,HB.out.trans (hb1.mono HB.out.size)⟩
  obtain rfl:k=n:=by omega
  go_wp2;go_ret;exact⟨by have:=HNO.out;rw[←HN.out,List.take_length] at this;rw[ixG_no this];rfl,HB.out⟩
theorem wis_hasF (ao:Option Addr)(n cap:Nat)(f:FuncId)(c:Value)(P:Wi→Bool)(L:List (Wi))(w:World)(hn:L.length=n)(hn2:n≤maxLen)(ha:0<n→∃g o,ao=some ⟨g,o,none⟩∧GAt wisE w g o L∧cap≤maxLen)(he:∀args w,(callFunc f args).run Tryz.prog w=.ok (.enter f args) w)(hf:wisAsks w f c P):
 Calls Tryz.prog 49 #[.slice ao n cap,.func (Fn.func f) #[] #[c]] w fun e w'=>e=.returned (.bool (L.any P))∧Below w.heap.size w w':=by
 rw[←ixG_any];obtain⟨x,hx⟩:∃x,x=ixG P L:=⟨_,rfl⟩;have HX:Hid (x=ixG P L):=hx;rw[←hx];clear hx;go_enter Tryz.func49,Tryz.ntmps49
 go_wp2_with fail
 refine (wis_idxF ao n cap f c P L _ hn hn2 ha he hf).mono ?_;rintro e w1 ⟨rfl,hb1⟩;rw[←HX.out];go_wp2;go_ret;exact⟨rfl,hb1⟩
def HsBox (W:World)(g:Nat)(m:ByteArray)(x y:Int):Prop:=W.cell? ⟨g,0,none⟩=some (.string m)∧W.cell? ⟨g,1,none⟩=some (.int .i64 x)∧W.cell? ⟨g,2,none⟩=some (.int .i64 y)
theorem HsBox.later {W W':World}{g:Nat}{m:ByteArray}{x y:Int}(h:HsBox W g m x y)(hb:Below W.heap.size W W'):HsBox W' g m x y:=
 ⟨cell_later hb h.1,cell_later hb h.2.1,cell_later hb h.2.2⟩
theorem hsbox_new (w:World)(m:ByteArray)(x y:Int)(T:TypeId):HsBox (w.alloc (Obj.cells #[.string m,.int .i64 x,.int .i64 y] T)) w.heap.size m x y:=by
 refine⟨?_,?_,?_⟩ <;> simp
structure PrBox (w W:World)(g:Nat)(a:Int)(b:ByteArray)(c:Int):Prop where
 c0:W.cell? ⟨g,0,none⟩=some (.int .i64 a)
 c1:W.cell? ⟨g,1,none⟩=some (.string b)
 c2:W.cell? ⟨g,2,none⟩=some (.int .i64 c)
 f:∀i,W.frozen? ⟨g,i,none⟩=false
theorem prbox_new (w u:World)(a:Int)(b:ByteArray)(c:Int):PrBox u (w.alloc (Obj.cells #[.int .i64 a,.string b,.int .i64 c] 65)) w.heap.size a b c:=by
 refine⟨?_,?_,?_,fun i=>?_⟩ <;> simp
theorem PrBox.lt {u W:World}{g:Nat}{a:Int}{b:ByteArray}{c:Int}(h:PrBox u W g a b c):g<W.heap.size:=bLQ W ⟨g,0,none⟩ h.c0
theorem PrBox.later {u W W':World}{g:Nat}{a:Int}{b:ByteArray}{c:Int}(h:PrBox u W g a b c)(hb:Below W.heap.size W W'):PrBox u W' g a b c:=
 ⟨cell_later hb h.c0,cell_later hb h.c1,cell_later hb h.c2,fun i=>(hb.frozen (p:=⟨g,i,none⟩) h.lt).trans (h.f i)⟩
theorem PrBox.put {u W:World}{g:Nat}{a:Int}{b:ByteArray}{c:Int}(h:PrBox u W g a b c)(a':Int)(b':ByteArray)(c':Int):PrBox u (put3 W g (.int .i64 a') (.string b') (.int .i64 c')) g a' b' c':=by
 obtain⟨x,y,z⟩:=put3_cells (a:=.int .i64 a') (b:=.string b') (c:=.int .i64 c') ⟨h.c0,h.c1,h.c2⟩;refine⟨x,y,z,fun i=>?_⟩;unfold put3;rw[World.frozen?_setCell,World.frozen?_setCell,World.frozen?_setCell];exact h.f i
theorem PrBox.other {u W:World}{g g':Nat}{a:Int}{b:ByteArray}{c:Int}(h:PrBox u W g a b c)(hg:g≠g')(a' b' c':Value):PrBox u (put3 W g' a' b' c') g a b c:=by
 have o:∀(W:World) (i j:Nat) (x:Value),(W.setCell ⟨g',i,none⟩ x).cell? ⟨g,j,none⟩=W.cell? ⟨g,j,none⟩:=fun W i j x=>World.cell?_setCell_other _ _ _ _ (by intro e;exact hg (by injection e with e1;exact e1.symm))
 unfold put3;refine⟨?_,?_,?_,fun i=>?_⟩
 ·rw[o,o,o];exact h.c0
 ·rw[o,o,o];exact h.c1
 ·rw[o,o,o];exact h.c2
 rw[World.frozen?_setCell,World.frozen?_setCell,World.frozen?_setCell];exact h.f i
structure Rbx (w W:World)(p:Int×ByteArray×Int):Prop where
 below:Below w.heap.size w W
 r:PrBox w W w.heap.size 0 ⟨#[]⟩ 0
 p:PrBox w W (w.heap.size+1) p.1 p.2.1 p.2.2
theorem Rbx.later {w W W':World}{p:Int×ByteArray×Int}(h:Rbx w W p)(hb:Below W.heap.size W W'):Rbx w W' p:=⟨h.below.trans (hb.mono h.below.size),h.r.later hb,h.p.later hb⟩
theorem Rbx.put {w W:World}{p:Int×ByteArray×Int}(h:Rbx w W p)(q:Int×ByteArray×Int):Rbx w (put3 W (w.heap.size+1) (.int .i64 q.1) (.string q.2.1) (.int .i64 q.2.2)) q:=⟨below_put3 h.below _ (by omega) _ _ _,h.r.other (by omega) _ _ _,h.p.put _ _ _⟩
theorem rbx_new (w:World):Rbx w ((w.alloc (Obj.cells #[.int .i64 0,.string ⟨#[]⟩,.int .i64 0] 65)).alloc (Obj.cells #[.int .i64 0,.string ⟨#[]⟩,.int .i64 0] 65)) (0,ByteArray.empty,0):=by
 have e1:(w.alloc (Obj.cells #[.int .i64 0,.string ⟨#[]⟩,.int .i64 0] 65)).heap.size=w.heap.size+1:=by simp
 have hb:∀(W:World) (o:Obj),Below W.heap.size W (W.alloc o):=fun W o=>(Below.refl _ _).alloc (Nat.le_refl _) _
 have h2:=prbox_new (w.alloc (Obj.cells #[.int .i64 0,.string ⟨#[]⟩,.int .i64 0] 65)) w 0 ⟨#[]⟩ 0;rw[e1] at h2;exact⟨((Below.refl _ w).alloc (Nat.le_refl _) _).alloc (by rw[e1];omega) _,(prbox_new w w 0 ⟨#[]⟩ 0).later (hb _ _),h2⟩
theorem first1_any (k:Int)(f t:ByteArray)(v:Int)(g:Nat)(m:ByteArray)(x y:Int)(w:World)(h2:HsBox w g m x y):
 Calls Tryz.prog 50 #[.agg #[.int .i64 k,.string f,.string t,.int .i64 v],.pointer (some ⟨g,0,none⟩)] w fun e w'=>e=.returned (.bool (abW ⟨k,f,t,v⟩ m))∧Below w.heap.size w w':=by
 have hb0:Below w.heap.size w (w.alloc (Obj.cells #[.int .i64 k,.string f,.string t,.int .i64 v] 125)):=(Below.refl _ _).alloc (Nat.le_refl _) _;have hx0:=wibox_new w k f t v 125;have hs0:=h2.later hb0;obtain⟨w0,hw0⟩:∃W,w.alloc (Obj.cells #[.int .i64 k,.string f,.string t,.int .i64 v] 125)=W:=⟨_,rfl⟩;rw[hw0] at hb0 hx0 hs0;have HW0:Hid (w.alloc (Obj.cells #[.int .i64 k,.string f,.string t,.int .i64 v] 125)=w0):=hw0;have HB0:Hid (Below w.heap.size w w0):=hb0;obtain⟨x0,x1,x2,x3⟩:=hx0;obtain⟨s0,s1,s2⟩:=hs0;obtain⟨R,hR⟩:∃R,R=abW ⟨k,f,t,v⟩ m:=⟨_,rfl⟩;have HR:Hid (abW ⟨k,f,t,v⟩ m=R):=hR.symm;rw[←hR];clear hb0 h2 hw0 hR;go_enter Tryz.func50,Tryz.ntmps50;go_upto_region 1 with fail;rw[HW0.out];clear HW0
 go_wp2_with fail
 refine (isAbout_any k f t v m _).mono ?_;rintro e w1 ⟨rfl,hb1⟩;rw[HR.out];go_wp2;go_ret;exact⟨rfl,HB0.out.trans (hb1.mono HB0.out.size)⟩
def FcAsks (w:World)(g:Nat)(Hs:HoQ)(Fs:Nat→Nat→List Ft):Prop:=
 ∀ (z:Nat) (hz:z<Hs.length) (h:Nat),h<16→∀W:World,Below w.heap.size w W→Calls Tryz.prog 34 #[.agg #[.string Hs[z].1,.int .i64 Hs[z].2.1,.int .i64 Hs[z].2.2],.int .i64 h,.pointer (some ⟨g,0,none⟩)] W fun e W' =>
   ∃gi lb,e=.returned (.func (Fn.func gi) #[] lb)∧(∀args w,(callFunc gi args).run Tryz.prog w=.ok (.enter gi args) w)∧ItF Tryz.prog gi lb FtV W'.heap.size (Fs z h) W'∧Below W.heap.size W W'
theorem fbrk_any (g:Nat)(ao2:Option Addr)(n2 cap2:Nat)(a4:Option Addr)(n4 c4:Nat)(Hs:HoQ)(Fs:Nat→Nat→List Ft)(l:List Wi)(w:World)
 (hH:GS hstE w (.slice ao2 n2 cap2) Hs) (hl:GS wisE w (.slice a4 n4 c4) l) (hnm:∀h∈Hs,h.1.size≤1000000) (hfc:FcAsks w g Hs Fs):
 Calls Tryz.prog 29 #[.slice ao2 n2 cap2,.slice a4 n4 c4,.func (Fn.func 34) #[] #[.pointer (some ⟨g,0,none⟩)]] w fun e w'=>∃held p,e=.returned (.tuple #[.agg #[.int .i64 p.1,.string p.2.1,.int .i64 p.2.2],.bool (decide (held<l.length))])∧Fb l Hs Fs Hs.length 0 held p∧Below w.heap.size w w':=by
 have hX:=rbx_new w;obtain⟨w0,hw0⟩:∃W,(w.alloc (Obj.cells #[.int .i64 0,.string ⟨#[]⟩,.int .i64 0] 65)).alloc (Obj.cells #[.int .i64 0,.string ⟨#[]⟩,.int .i64 0] 65)=W:=⟨_,rfl⟩;rw[hw0] at hX;have HW0:Hid ((w.alloc (Obj.cells #[.int .i64 0,.string ⟨#[]⟩,.int .i64 0] 65)).alloc (Obj.cells #[.int .i64 0,.string ⟨#[]⟩,.int .i64 0] 65)=w0):=hw0;have HX:Hid (Rbx w w0 (0,ByteArray.empty,0)):=hX;have HLW:Hid (∀W,Below w.heap.size w W→GS wisE W (.slice a4 n4 c4) l):=fun W hb=>hl.later hb
 have HFC:Hid (FcAsks w g Hs Fs):=hfc;have HNM:Hid (∀h∈Hs,h.1.size≤1000000):=hnm;obtain⟨_,_,_,e5,hGn,hGm,hGc,hGa⟩:=hl.form;cases e5;obtain⟨_,_,_,e6,hHn,hHm,_,hHa⟩:=hH.form;cases e6;have HGN:Hid (l.length=n4):=hGn;have HCAP:Hid (n4≤c4):=hGc;have HHN:Hid (Hs.length=n2):=hHn;have HHA:Hid (0<n2→∃g o,ao2=some ⟨g,o,none⟩∧GAt hstE w g o Hs∧cap2≤maxLen):=hHa;have hn4:n4≤maxLen:=hGm;have hn2:n2≤maxLen:=hHm;unfold maxLen at hn4 hn2;have HF0:Hid (Fb l Hs Fs 0 0 n4 (0,ByteArray.empty,0)):=by
  have h:=fb_0 (l:=l) (Hs:=Hs) (Fs:=Fs);rw[hGn] at h;exact h
 clear hX hw0 hl hH hfc hnm hGn hGm hGc hGa hHn hHm hHa;go_enter Tryz.func29,Tryz.ntmps29;go_upto_region 2 with fail;rw[HW0.out];clear HW0;go_wp2
 go_loopw [9,18] (fun hv i wr=>∃(z hd:Nat) (p:Int×ByteArray×Int),z≤n2∧hv=.int .i64 hd∧i=.int .i64 z∧Fb l Hs Fs z 0 hd p∧Rbx w wr p) (fun _ i _=>n2-(intOf i).toNat)
 case atStart=>exact⟨0,n4,(0,ByteArray.empty,0),by omega,rfl,rfl,HF0.out,HX.out⟩
 case round =>
  obtain⟨z,hd,p,hz,rfl,rfl,hF,hR⟩:=hrel;have HF:Hid (Fb l Hs Fs z 0 hd p):=hF;have HR:Hid (Rbx w wr p):=hR;have hdle:hd≤n4:=by rw[←HGN.out];exact hF.le
  clear hF hR;by_cases hlt:z<n2
  ·obtain⟨g2,o2,hao2,hc2,_⟩:=HHA.out (by omega);subst hao2;obtain⟨z0,z1,z2,hzl,hZk,p0,p1,p2⟩:=hst_at (hc2.later HR.out.below) HHN.out hlt;have HZK:Hid (Hs[z]=(z0,(z1,z2))):=hZk;have HZD:Hid (Hs.getD z zeO=(z0,(z1,z2))):=by
    show _=_;rw[getO hzl,hZk]
   have HSZ:Hid (z0.size≤1000000):=by
    have:=HNM.out Hs[z] (List.getElem_mem hzl);rw[hZk] at this;exact this
   have hba:Below wr.heap.size wr (wr.alloc (Obj.cells #[Value.string z0,.int .i64 z1,.int .i64 z2] 33)):=(Below.refl _ _).alloc (Nat.le_refl _) _;have hhb:=hsbox_new wr z0 z1 z2 33;have hR2:=HR.out.later hba;obtain⟨w2,hw2⟩:∃W,wr.alloc (Obj.cells #[Value.string z0,.int .i64 z1,.int .i64 z2] 33)=W:=⟨_,rfl⟩;obtain⟨gh,hgh⟩:∃q,q=wr.heap.size:=⟨_,rfl⟩;rw[hw2] at hhb hR2;rw[←hgh] at hhb;have HW2:Hid (wr.alloc (Obj.cells #[Value.string z0,.int .i64 z1,.int .i64 z2] 33)=w2):=hw2;have HGH:Hid (wr.heap.size=gh):=hgh.symm;have HHB:Hid (HsBox w2 gh z0 z1 z2):=hhb;have HR2:Hid (Rbx w w2 p):=hR2;have HLG:Hid (w.heap.size+1<gh):=by
    show _<_;rw[hgh];exact HR.out.p.lt
   clear hc2 hZk hba hhb hR2 hw2 hgh HR;go_upto_region 6 with fail;rw[HW2.out,HGH.out];clear HW2 HGH p0 p1 p2;go_wp2
   go_loopw [9,22] (fun hv i wr=>∃(h hd:Nat) (p:Int×ByteArray×Int),h≤16∧hv=.int .i64 hd∧i=.int .i64 h∧Fb l Hs Fs z h hd p∧Rbx w wr p∧HsBox wr gh z0 z1 z2) (fun _ i _=>16-(intOf i).toNat)
   case atStart=>exact⟨0,hd,p,by omega,rfl,rfl,HF.out,HR2.out,HHB.out⟩
   case round =>
    clear HF HR2 HHB hdle;obtain⟨h,hd,p,hh,rfl,rfl,hF,hR,hS⟩:=hrel;have HF:Hid (Fb l Hs Fs z h hd p):=hF;have HR:Hid (Rbx w wr p):=hR;have HS:Hid (HsBox wr gh z0 z1 z2):=hS;have hdle:hd≤n4:=by rw[←HGN.out];exact hF.le
    clear hF hR hS;by_cases hlt16:h<16
    ·have HGT:Hid (∀W,Below wr.heap.size wr W→GS wisE W (.slice a4 hd c4) (l.take hd)):=fun W hb=>(HLW.out W (HR.out.below.trans (hb.mono HR.out.below.size))).take hdle
     obtain⟨_,_,_,e7,hTn,hTm,_,hTa⟩:=(HGT.out wr (Below.refl _ _)).form;cases e7;have HTN:Hid ((l.take hd).length=hd):=hTn;have HTM:Hid (hd≤maxLen):=hTm;have HTA:Hid (0<hd→∃g o,a4=some ⟨g,o,none⟩∧GAt wisE wr g o (l.take hd)∧c4≤maxLen):=hTa;have HASK:Hid (wisAsks wr 50 (.pointer (some ⟨gh,0,none⟩)) (fun u=>abW u z0)):=fun y0 y1 y2 y3 W hb=>first1_any y0 y1 y2 y3 gh z0 z1 z2 W (HS.out.later hb)
     obtain⟨c,hc⟩:∃c,c=(l.take hd).any (fun u=>abW u z0):=⟨_,rfl⟩;have HC:Hid ((l.take hd).any (fun u=>abW u z0)=c):=hc.symm;obtain⟨s0,s1,s2⟩:=HS.out;have hcap:=HCAP.out;have nb0:(0:Int)≤(hd:Int):=by omega
     have nb1:(hd:Int)≤(c4:Int):=by omega
     have nb2:(hd:Int)≤(n4:Int):=by omega
     clear hc hTn hTm hTa
     go_wp2_with fail
     refine (wis_hasF a4 hd c4 _ _ (fun u=>abW u z0) (l.take hd) _ HTN.out HTM.out HTA.out (enters_of Tryz.func50 (by kernel_rfl) rfl) HASK.out).mono ?_;rintro e w3 ⟨rfl,hb3⟩;rw[HC.out];have HR3:Hid (Rbx w w3 p):=HR.out.later hb3;have HS3:Hid (HsBox w3 gh z0 z1 z2):=HS.out.later hb3;have HGT3:Hid (∀W,Below w3.heap.size w3 W→GS wisE W (.slice a4 hd c4) (l.take hd)):=fun W hb=>HGT.out W (hb3.trans (hb.mono hb3.size))
     clear hb3 s0 s1 s2 HTN HTM HTA HASK HGT HR HS;cases c with
     | false =>
       have HFO:Hid (Fb l Hs Fs (z+1) 0 hd p):=HF.out.off (by rw[HZD.out];exact HC.out);go_wp2;go_roundw
       case rel=>exact⟨z+1,hd,p,by omega,rfl,by go_num,HFO.out,HR3.out⟩
       case measure=>simp[intOf];omega
     | true =>
       obtain⟨N,hN⟩:∃N,N=hwN (l.take hd) z0 (Fs z h):=⟨_,rfl⟩;have HN:Hid (hwN (l.take hd) z0 (Fs z h)=N):=hN.symm;have HFCW:Hid (∀W,Below w3.heap.size w3 W→Calls Tryz.prog 34 #[.agg #[.string z0,.int .i64 z1,.int .i64 z2],.int .i64 h,.pointer (some ⟨g,0,none⟩)] W fun e W' =>
        ∃gi lb,e=.returned (.func (Fn.func gi) #[] lb)∧(∀args w,(callFunc gi args).run Tryz.prog w=.ok (.enter gi args) w)∧ItF Tryz.prog gi lb FtV W'.heap.size (Fs z h) W'∧Below W.heap.size W W'):=fun W hb=>by
        have h:=HFC.out z hzl h hlt16 W (HR3.out.below.trans (hb.mono HR3.out.below.size));rw[HZK.out] at h;exact h
       have HHOL:Hid (∀(gi:Nat) (lb:Array Value) (W:World),(∀args w,(callFunc gi args).run Tryz.prog w=.ok (.enter gi args) w)→ItF Tryz.prog gi lb FtV W.heap.size (Fs z h) W→Below w3.heap.size w3 W→Calls Tryz.prog 52 #[.slice a4 hd c4,.string z0,.func (Fn.func gi) #[] lb] W fun e W'=>e=.returned (.int .i64 N)∧Below W.heap.size W W'):=fun gi lb W eg hit hb=>by
        rw[hN];exact holding_any a4 hd c4 (l.take hd) z0 gi lb (Fs z h) W.heap.size W (HGT3.out W hb) eg hit (Nat.le_refl _)
       have HSW:Hid (∀W,Below w3.heap.size w3 W→W.cell? ⟨gh,0,none⟩=some (.string z0)∧W.cell? ⟨gh,1,none⟩=some (.int .i64 z1)∧W.cell? ⟨gh,2,none⟩=some (.int .i64 z2)):=fun W hb=>HS3.out.later hb
       obtain⟨s0,s1,s2⟩:=HS3.out;clear hN;go_upto_region 10 with fail
       go_cut [13] from 23 to 51 (fun v w'=>v=.int .i64 N∧Below w3.heap.size w3 w')
       case first =>
        go_region_held3 (fun W=>W.cell? ⟨gh,0,none⟩=some (.string z0)∧W.cell? ⟨gh,1,none⟩=some (.int .i64 z1)∧W.cell? ⟨gh,2,none⟩=some (.int .i64 z2))
         (first | (with_reducible assumption) | (with_reducible exact HSW.out _ (Below.drew (Below.refl _ _))) | (with_reducible exact HSW.out _ HBX.out) | (with_reducible exact HSW.out _ HBY.out))
         (first
          | (go_at_call 34;refine (HFCW.out _ (Below.drew (Below.refl _ _))).mono ?_;rintro e w' ⟨gi,lb,rfl,eg,hit,hb⟩;have HBX:Hid (Below w3.heap.size w3 w'):=bdrew hb;have HEG:Hid (∀args w,(callFunc gi args).run Tryz.prog w=.ok (.enter gi args) w):=eg;have HIT:Hid (ItF Tryz.prog gi lb FtV w'.heap.size (Fs z h) w'):=hit;clear hb eg hit)
          | (go_at_call 52;refine (HHOL.out _ _ _ HEG.out HIT.out HBX.out).mono ?_;rintro e w'' ⟨rfl,hb⟩;have HBY:Hid (Below w3.heap.size w3 w''):=HBX.out.trans (hb.mono HBX.out.size);clear hb))
        all_goals (go_wp2_with fail;go_meet)
        all_goals exact⟨rfl,HBY.out⟩
       case rest =>
        obtain⟨rfl,hbw⟩:=hcut;have HR4:Hid (Rbx w wc p):=HR3.out.later hbw;have HS4:Hid (HsBox wc gh z0 z1 z2):=HS3.out.later hbw;clear hbw HR3 HS3 HGT3 HFCW HHOL HSW s0 s1 s2;obtain⟨s0,s1,s2⟩:=HS4.out;by_cases hNl:N<hd
        ·have HFL:Hid (Fb l Hs Fs z (h+1) N ((N:Int),z0,(h:Int))):=by
          have:=HF.out.less hlt16 hzl (by rw[HZD.out];exact HN.out) hNl;rw[HZD.out] at this;exact this
         have dN:decide ((N:Int)<(hd:Int))=true:=by simp;omega
         go_wp2_with fail
         refine (clone_any z0 _ HSZ.out).mono ?_;rintro e w6 ⟨rfl,hb6⟩;have HR6:Hid (Rbx w w6 p):=HR4.out.later hb6;have HS6:Hid (HsBox w6 gh z0 z1 z2):=HS4.out.later hb6;obtain⟨r0,r1,r2,rf⟩:=HR6.out.p;have f0:=rf 0;have f1:=rf 1;have f2:=rf 2;have HSP:Hid (∀a b c,HsBox (put3 w6 (w.heap.size+1) a b c) gh z0 z1 z2):=fun a b c=>by
          have o:∀(W:World) (i j:Nat) (x:Value),(W.setCell ⟨w.heap.size+1,i,none⟩ x).cell? ⟨gh,j,none⟩=W.cell? ⟨gh,j,none⟩:=fun W i j x=>World.cell?_setCell_other _ _ _ _ (by intro e;injection e with e1;have:=HLG.out;omega)
          unfold put3;obtain⟨x0,x1,x2⟩:=HS6.out;exact⟨by rw[o,o,o];exact x0,by rw[o,o,o];exact x1,by rw[o,o,o];exact x2⟩
         clear hb6 rf s0 s1 s2 hNl;go_wp2;go_roundw
         case rel=>exact⟨h+1,N,((N:Int),z0,(h:Int)),by omega,rfl,by go_num,HFL.out,HR6.out.put ((N:Int),z0,(h:Int)),HSP.out _ _ _⟩
         case measure=>simp[intOf];omega
        have HFS:Hid (Fb l Hs Fs z (h+1) hd p):=HF.out.same (by rw[HZD.out,HN.out];exact hNl);have dN:decide ((N:Int)<(hd:Int))=false:=by simp;omega
        have hNl2:hd≤N:=by omega
        go_wp2;go_roundw
        case rel=>exact⟨h+1,hd,p,by omega,rfl,by go_num,HFS.out,HR4.out,HS4.out⟩
        case measure=>simp[intOf];omega
    obtain rfl:h=16:=by omega
    have HFO:Hid (Fb l Hs Fs (z+1) 0 hd p):=HF.out.host;go_wp2;go_roundw
    case rel=>exact⟨z+1,hd,p,by omega,rfl,by go_num,HFO.out,HR.out⟩
    case measure=>simp[intOf];omega
  obtain rfl:z=n2:=by omega
  obtain⟨P1,P2,P3⟩:=p;obtain⟨q0,q1,q2,_⟩:=HR.out.p;obtain⟨r0,r1,r2,rf⟩:=HR.out.r;have f0:=rf 0;have f1:=rf 1;have f2:=rf 2;have HB:Hid (Below w.heap.size w wr):=HR.out.below;have HFE:Hid (Fb l Hs Fs Hs.length 0 hd (P1,P2,P3)):=by
   have h:=HF.out;rw[←HHN.out] at h;exact h
  dsimp only at q0 q1 q2
  clear rf;go_wp2;refine bodyPost_ret (v:=.tuple #[.agg #[.int .i64 P1,.string P2,.int .i64 P3],.bool (decide ((hd:Int)<(n4:Int)))]) (by simp[results,Tryz.results29,go_sem, *]) rfl ⟨hd,(P1,P2,P3),?_,HFE.out,below_put3 HB.out _ (Nat.le_refl _) _ _ _⟩;rw[show decide (hd<l.length)=decide ((hd:Int)<(n4:Int)) by rw[HGN.out];simp]
section
variable {S:Int}{Ls:LkQ}{Hs:HoQ}{Ts:List (List Ru)}{l:List Op8}{m:ByteArray}{h:Int}
theorem cg_nt (h0:cgN S Ls Hs Ts l=0):ntN S Ls Hs Ts=0∧caN S Ts l=0:=by
 unfold cgN at h0;by_cases e:ntN S Ls Hs Ts=0
 ·rw[if_pos e] at h0;by_cases e2:200<l.length
  ·rw[if_pos e2] at h0;cases h0
  rw[if_neg e2] at h0;exact⟨e,h0⟩
 rw[if_neg e] at h0;exact absurd h0 e
theorem ta_ok {Us:List (List Ru)}(hn:∀k,k<Us.length→tbN (Us.getD k [])=0)(s:Int):tbN (taT Us s)=0:=by
 unfold taT;by_cases hk:(s-1).toNat<Us.length
 ·exact hn _ hk
 rw[List.getD_eq_getElem?_getD,List.getElem?_eq_none (by omega)];rfl
theorem cg_ok (h0:cgN S Ls Hs Ts l=0):tpN S Ls Hs=0∧(Ts.length:Int)=S∧(∀s,tbN (taT Ts s)=0)∧∀s,tbN (taT (caT Ts l) s)=0:=by
 obtain⟨h1,h2⟩:=cg_nt h0;obtain⟨a1,a2,a3⟩:=nt_0 h1;obtain⟨_,_,b3⟩:=nt_0 (nt_ca h1 h2);exact⟨a1,a2,ta_ok a3,ta_ok b3⟩
end
end
section
open Go.RowKit Go.Shelf
theorem nm_sml {a:ByteArray}(h:nmB a=true):a.size≤6:=by
 simp only[nmB,Bool.and_eq_true,decide_eq_true_eq] at h;exact h.2.1
def SfR (S:Int)(Ls:LkQ)(Hs:HoQ)(Ts:List (List Ru))(o:List Op8)(l:List Wi)(N:Int)(p:Int×ByteArray×Int):Prop:=
 (cgN S Ls Hs Ts o≠0∧N=cgN S Ls Hs Ts o∧p=(0,ByteArray.empty,0))∨(cgN S Ls Hs Ts o=0∧wsN S Ls Hs l≠0∧N=wsN S Ls Hs l∧p=(0,ByteArray.empty,0)) ∨
 (cgN S Ls Hs Ts o=0∧wsN S Ls Hs l=0∧∃held,Fb l Hs (fun z h=>pwS Ls Hs Ts (caT Ts o) (Hs.getD z zeO).2 (h:Int)) Hs.length 0 held p∧N=if held<l.length then 9 else 0)
theorem safe1_any (m:ByteArray)(x y h:Int)(g:Nat)(p7:Option Addr)(j7 e7:Nat)(p8:Option Addr)(j8 e8 n3:Nat)(Ls:LkQ)(Hs:HoQ)(As Bs:List (List Ru))(w:World)
 (c0:w.cell? ⟨g,0,none⟩=some (.slice p7 j7 e7)) (c1:w.cell? ⟨g,1,none⟩=some (.slice p8 j8 e8)) (ho:LGs w 0 (.slice p7 j7 e7) (lgF Ls Hs As) n3) (hy:LGs w 0 (.slice p8 j8 e8) (lgF Ls Hs Bs) n3) (hm:n3≤6) (ht:tpN (n3:Int) Ls Hs=0) (hsp:spB (n3:Int) (x,y)=true) (hhd:hdrB h=true):
 Calls Tryz.prog 34 #[.agg #[.string m,.int .i64 x,.int .i64 y],.int .i64 h,.pointer (some ⟨g,0,none⟩)] w fun e w'=>∃gi lb,e=.returned (.func (Fn.func gi) #[] lb)∧(∀args w,(callFunc gi args).run Tryz.prog w=.ok (.enter gi args) w)∧ItF Tryz.prog gi lb FtV w'.heap.size (pwS Ls Hs As Bs (x,y) h) w'∧Below w.heap.size w w':=by
 have hb0:Below w.heap.size w (w.alloc (Obj.cells #[.string m,.int .i64 x,.int .i64 y] 33)):=(Below.refl _ _).alloc (Nat.le_refl _) _;have HIT:=fates_it (.slice p7 j7 e7) (.slice p8 j8 e8) n3 Ls Hs As Bs x y h (w.alloc (Obj.cells #[.string m,.int .i64 x,.int .i64 y] 33)) hm ht (ho.later hb0) (hy.later hb0) hsp hhd;have HB0:Hid (Below w.heap.size w (w.alloc (Obj.cells #[.string m,.int .i64 x,.int .i64 y] 33))):=hb0;have hg:g<w.heap.size:=bLQ _ _ c0;have ng:g≠w.heap.size:=by omega
 clear ho hy hb0;go_enter Tryz.func34,Tryz.ntmps34
 go_wp2_with fail
 refine HIT.mono ?_;rintro e w1 ⟨gi,lb,rfl,h1,h2,h3⟩;go_wp2;go_ret;exact⟨gi,lb,rfl,h1,h2,HB0.out.trans (h3.mono HB0.out.size)⟩
structure HmBox (w W:World)(S:Int)(v1 v2 v3:Value):Prop where
 below:Below w.heap.size w W
 n:NeBox W w.heap.size S v1 v2 v3
 p:PrBox w W (w.heap.size+1) 0 ⟨#[]⟩ 0
theorem hmbox_new (w:World)(S:Int)(v1 v2 v3:Value):HmBox w ((w.alloc (Obj.cells #[.int .i64 S,v1,v2,v3] 28)).alloc (Obj.cells #[.int .i64 0,.string ⟨#[]⟩,.int .i64 0] 65)) S v1 v2 v3:=by
 have e1:(w.alloc (Obj.cells #[.int .i64 S,v1,v2,v3] 28)).heap.size=w.heap.size+1:=by simp
 have hb:∀(W:World) (o:Obj),Below W.heap.size W (W.alloc o):=fun W o=>(Below.refl _ _).alloc (Nat.le_refl _) _
 have hn:=(nebox_new w S v1 v2 v3 28).later (hb _ (Obj.cells #[.int .i64 0,.string ⟨#[]⟩,.int .i64 0] 65));have hB:=((Below.refl w.heap.size w).alloc (Nat.le_refl _) (Obj.cells #[.int .i64 S,v1,v2,v3] 28)).alloc (by rw[e1];omega) (Obj.cells #[.int .i64 0,.string ⟨#[]⟩,.int .i64 0] 65)
 generalize w.alloc (Obj.cells #[.int .i64 S,v1,v2,v3] 28)=X at e1 hn hB
 have hr:=prbox_new X w 0 ⟨#[]⟩ 0;rw[e1] at hr;exact⟨hB,hn,hr⟩
theorem HmBox.later {w W W':World}{S:Int}{v1 v2 v3:Value}(k:HmBox w W S v1 v2 v3)(hb:Below W.heap.size W W'):HmBox w W' S v1 v2 v3:=
 ⟨k.below.trans (hb.mono k.below.size),k.n.later hb,k.p.later hb⟩
theorem safe_any (S:Int)(ao:Option Addr)(n cap:Nat)(ao2:Option Addr)(n2 cap2:Nat)(ao3:Option Addr)(n3 cap3:Nat)(a5:Option Addr)(n5 c5:Nat)(a4:Option Addr)(n4 c4:Nat)(Ls:LkQ)(Hs:HoQ)(Ts:List (List Ru))(o:List Op8)(l:List Wi)(w:World)
 (hL:GS lnkE w (.slice ao n cap) Ls) (hH:GS hstE w (.slice ao2 n2 cap2) Hs) (hT:TS w (.slice ao3 n3 cap3) Ts) (ho:GS opE w (.slice a5 n5 c5) o) (hl:GS wisE w (.slice a4 n4 c4) l):
 Calls Tryz.prog 15 #[.agg #[.int .i64 S,.slice ao n cap,.slice ao2 n2 cap2,.slice ao3 n3 cap3],.slice a5 n5 c5,.slice a4 n4 c4] w fun e w'=>∃N p,e=.returned (.tuple #[.agg #[.int .i64 p.1,.string p.2.1,.int .i64 p.2.2],noV N])∧SfR S Ls Hs Ts o l N p∧Below w.heap.size w w':=by
 have HLW:Hid (∀W,Below w.heap.size w W→GS lnkE W (.slice ao n cap) Ls):=fun W hb=>hL.later hb
 have HHW:Hid (∀W,Below w.heap.size w W→GS hstE W (.slice ao2 n2 cap2) Hs):=fun W hb=>hH.later hb
 have HTW:Hid (∀W,Below w.heap.size w W→TS W (.slice ao3 n3 cap3) Ts):=fun W hb=>hT.later hb
 have HoW:Hid (∀W,Below w.heap.size w W→GS opE W (.slice a5 n5 c5) o):=fun W hb=>ho.later hb
 have HlW:Hid (∀W,Below w.heap.size w W→GS wisE W (.slice a4 n4 c4) l):=fun W hb=>hl.later hb
 have HTN:Hid (Ts.length=n3):=hT.len;have hX:=hmbox_new w S (.slice ao n cap) (.slice ao2 n2 cap2) (.slice ao3 n3 cap3);obtain⟨w0,hw0⟩:∃W,(w.alloc (Obj.cells #[.int .i64 S,.slice ao n cap,.slice ao2 n2 cap2,.slice ao3 n3 cap3] 28)).alloc (Obj.cells #[.int .i64 0,.string ⟨#[]⟩,.int .i64 0] 65)=W:=⟨_,rfl⟩;rw[hw0] at hX;have HX:Hid (HmBox w w0 S (.slice ao n cap) (.slice ao2 n2 cap2) (.slice ao3 n3 cap3)):=hX;have HW0:Hid ((w.alloc (Obj.cells #[.int .i64 S,.slice ao n cap,.slice ao2 n2 cap2,.slice ao3 n3 cap3] 28)).alloc (Obj.cells #[.int .i64 0,.string ⟨#[]⟩,.int .i64 0] 65)=w0):=hw0;clear hL hH hT hl ho hX hw0;go_enter Tryz.func15,Tryz.ntmps15;go_upto_region 1 with fail;rw[HW0.out];obtain⟨_,⟨b0,b1,b2,b3⟩,_⟩:=HX.out;clear HW0
 go_wp2_with fail
 refine (during_any S ao n cap ao2 n2 cap2 ao3 n3 cap3 a5 n5 c5 Ls Hs Ts o w0 (HLW.out _ HX.out.below) (HHW.out _ HX.out.below) (HTW.out _ HX.out.below) (HoW.out _ HX.out.below)).mono ?_;rintro e w1 ⟨p7,j7,e7,p8,j8,e8,rfl,hDu,hb1⟩;obtain⟨T,hT⟩:∃T,T=cgN S Ls Hs Ts o:=⟨_,rfl⟩;have HT:Hid (T=cgN S Ls Hs Ts o):=hT;rw[←hT] at hDu ⊢;have hX1:=HX.out.later hb1;have hal1:Below w1.heap.size w1 (w1.alloc (Obj.cells #[.slice p7 j7 e7,.slice p8 j8 e8] 105)):=(Below.refl _ _).alloc (Nat.le_refl _) _;have hvc:=vat_new w1 [.slice p7 j7 e7,.slice p8 j8 e8] 105
 change VAt (w1.alloc (Obj.cells #[.slice p7 j7 e7,.slice p8 j8 e8] 105)) _ _ _ at hvc
 have hX2:=hX1.later hal1;obtain⟨w2,hw2⟩:∃W,w1.alloc (Obj.cells #[.slice p7 j7 e7,.slice p8 j8 e8] 105)=W:=⟨_,rfl⟩;obtain⟨bc,hbc⟩:∃bc,w1.heap.size=bc:=⟨_,rfl⟩;rw[hw2] at hal1 hvc hX2;rw[hbc] at hvc;have HX2:Hid (HmBox w w2 S (.slice ao n cap) (.slice ao2 n2 cap2) (.slice ao3 n3 cap3)):=hX2;have HVC:Hid (VAt w2 bc 0 [.slice p7 j7 e7,.slice p8 j8 e8]):=hvc;have HDU:Hid (T=0→LGs w2 0 (.slice p7 j7 e7) (lgF Ls Hs Ts) n3∧LGs w2 0 (.slice p8 j8 e8) (lgF Ls Hs (caT Ts o)) n3):=fun e=>⟨(hDu e).1.later hal1,(hDu e).2.later hal1⟩
 have HW2:Hid (w1.alloc (Obj.cells #[.slice p7 j7 e7,.slice p8 j8 e8] 105)=w2):=hw2;have HBC:Hid (w1.heap.size=bc):=hbc;clear hT hb1 HX b0 b1 b2 b3 hX1 hal1 hvc hX2 hw2 hbc hDu;go_upto_region 2 with fail;rw[HW2.out,HBC.out];clear HW2 HBC;by_cases h0:T=0
 ·have HN0:Hid (cgN S Ls Hs Ts o=0):=HT.out.symm.trans h0;have HDU0:Hid (LGs w2 0 (.slice p7 j7 e7) (lgF Ls Hs Ts) n3∧LGs w2 0 (.slice p8 j8 e8) (lgF Ls Hs (caT Ts o)) n3):=HDU.out h0;subst h0;clear HDU;rw[no_ok rfl];obtain⟨_,⟨b0,b1,b2,b3⟩,_⟩:=HX2.out
  go_wp2_with fail
  refine (wcheck_any S ao n cap ao2 n2 cap2 a4 n4 c4 Ls Hs l _ (HLW.out _ HX2.out.below) (HHW.out _ HX2.out.below) (HlW.out _ HX2.out.below)).mono ?_;rintro e w3 ⟨rfl,hb3⟩;obtain⟨U,hU⟩:∃U,U=wsN S Ls Hs l:=⟨_,rfl⟩;have HU:Hid (U=wsN S Ls Hs l):=hU;rw[←hU];have HX3:Hid (HmBox w w3 S (.slice ao n cap) (.slice ao2 n2 cap2) (.slice ao3 n3 cap3)):=HX2.out.later hb3;have HVC3:Hid (VAt w3 bc 0 [.slice p7 j7 e7,.slice p8 j8 e8]):=HVC.out.later hb3;have HD3:Hid (LGs w3 0 (.slice p7 j7 e7) (lgF Ls Hs Ts) n3∧LGs w3 0 (.slice p8 j8 e8) (lgF Ls Hs (caT Ts o)) n3):=⟨HDU0.out.1.later hb3,HDU0.out.2.later hb3⟩;clear hU hb3 HX2 b0 b1 b2 b3 HVC HDU0;by_cases h5:U=0
  ·have HU0:Hid (wsN S Ls Hs l=0):=HU.out.symm.trans h5;subst h5;rw[no_ok rfl];obtain⟨_,⟨b0,b1,b2,b3⟩,_⟩:=HX3.out;obtain⟨ht,hS,_,_⟩:=cg_ok HN0.out;obtain rfl:S=(n3:Int):=by rw[←hS,HTN.out]
   have hm6:n3≤6:=by have:=(tp_0 ht).1;omega
   have hHG:=(tp_0 ht).2.2.2.2.1;have HFC:Hid (FcAsks w3 bc Hs (fun z h=>pwS Ls Hs Ts (caT Ts o) (Hs.getD z zeO).2 (h:Int))):=by
    intro z hz h h16 W hW;have e:Hs.getD z zeO=Hs[z]:=getO hz
    dsimp only
    rw[e];have hv:=HVC3.out.later hW;exact safe1_any Hs[z].1 Hs[z].2.1 Hs[z].2.2 h bc p7 j7 e7 p8 j8 e8 n3 Ls Hs Ts (caT Ts o) W (hv 0 _ rfl) (hv 1 _ rfl) (HD3.out.1.later hW) (HD3.out.2.later hW) hm6 ht (hHG _ (List.getElem_mem hz)).2 (by unfold hdrB;simp;omega)
   have HNM:Hid (∀h∈Hs,h.1.size≤1000000):=fun h hh=>by
    have:=nm_sml (hHG h hh).1;omega
   clear ht hS hm6 hHG
   go_wp2_with fail
   refine (fbrk_any bc ao2 n2 cap2 a4 n4 c4 Hs _ l _ (HHW.out _ HX3.out.below) (HlW.out _ HX3.out.below) HNM.out HFC.out).mono ?_;rintro e w4 ⟨held,V,rfl,hF,hb4⟩;have HF:Hid (Fb l Hs (fun z h=>pwS Ls Hs Ts (caT Ts o) (Hs.getD z zeO).2 (h:Int)) Hs.length 0 held V):=hF;have HX4:Hid (HmBox w w4 (n3:Int) (.slice ao n cap) (.slice ao2 n2 cap2) (.slice ao3 n3 cap3)):=HX3.out.later hb4;obtain⟨V1,V2,V3⟩:=V
   dsimp only
   have hal:Below w4.heap.size w4 (w4.alloc (Obj.cells #[.int .i64 V1,.string V2,.int .i64 V3] 65)):=(Below.refl _ _).alloc (Nat.le_refl _) _;have hpr:=prbox_new w4 w V1 V2 V3;have hX5:=HX4.out.later hal;obtain⟨w5,hw5⟩:∃W,w4.alloc (Obj.cells #[.int .i64 V1,.string V2,.int .i64 V3] 65)=W:=⟨_,rfl⟩;obtain⟨gp,hgp⟩:∃q,q=w4.heap.size:=⟨_,rfl⟩;rw[hw5] at hal hpr hX5;rw[←hgp] at hpr;have HW5:Hid (w4.alloc (Obj.cells #[.int .i64 V1,.string V2,.int .i64 V3] 65)=w5):=hw5;have HGP:Hid (w4.heap.size=gp):=hgp.symm;have HLP:Hid (w.heap.size+1<gp):=by
    show _<_;rw[hgp];have h1:=bLQ _ _ HX4.out.p.c0;simpa using h1
   have HPR:Hid (PrBox w w5 gp V1 V2 V3):=hpr;have HX5:Hid (HmBox w w5 (n3:Int) (.slice ao n cap) (.slice ao2 n2 cap2) (.slice ao3 n3 cap3)):=hX5;clear hb4 hal hpr hX5 hw5 hgp b0 b1 b2 b3 HX3 hF HFC HD3 HVC3;obtain⟨B,hB⟩:∃B,B=decide (held<l.length):=⟨_,rfl⟩;have HBO:Hid (decide (held<l.length)=B):=hB.symm;rw[←hB];clear hB;go_upto_region 8 with fail;rw[HW5.out,HGP.out];clear HW5 HGP;obtain⟨hB4,_,⟨r0,r1,r2,rf⟩⟩:=HX5.out;have f0:=rf 0;have f1:=rf 1;have f2:=rf 2;have HB4:Hid (Below w.heap.size w w5):=hB4;obtain⟨q0,q1,q2,_⟩:=HPR.out;clear hB4 rf;cases B with
   | true =>
     have hlt:held<l.length:=of_decide_eq_true HBO.out;have HSR:Hid (SfR (n3:Int) Ls Hs Ts o l 9 (V1,V2,V3)):=.inr (.inr ⟨HN0.out,HU0.out,held,HF.out,by rw[if_pos hlt]⟩);clear hlt;go_wp2;refine bodyPost_ret (v:=.tuple #[.agg #[.int .i64 V1,.string V2,.int .i64 V3],.iface 63 (.int .i64 9)]) (by simp[results,Tryz.results15,go_sem, *]) rfl ⟨9,(V1,V2,V3),rfl,HSR.out,below_put3 HB4.out _ (by omega) _ _ _⟩
   | false =>
     have hlt:¬held<l.length:=of_decide_eq_false HBO.out;have hz:(V1,V2,V3)=((0:Int),ByteArray.empty,(0:Int)):=HF.out.no (by have:=HF.out.le;omega);have HSR:Hid (SfR (n3:Int) Ls Hs Ts o l 0 (0,ByteArray.empty,0)):=.inr (.inr ⟨HN0.out,HU0.out,held,by rw[←hz];exact HF.out,by rw[if_neg hlt]⟩);clear hlt hz;go_wp2;refine bodyPost_ret (v:=.tuple #[.agg #[.int .i64 0,.string ⟨#[]⟩,.int .i64 0],.nilIface]) (by simp[results,Tryz.results15,go_sem, *]) rfl ⟨0,(0,ByteArray.empty,0),rfl,HSR.out,below_put3 HB4.out _ (by omega) _ _ _⟩
  rw[no_ne h5];have HSR:Hid (SfR S Ls Hs Ts o l U (0,ByteArray.empty,0)):=.inr (.inl ⟨HN0.out,by rw[←HU.out];exact h5,HU.out,rfl⟩);have HNE:Hid (U≠0):=h5;obtain⟨hB2,_,⟨r0,r1,r2,rf⟩⟩:=HX3.out;have f0:=rf 0;have f1:=rf 1;have f2:=rf 2;have HB2:Hid (Below w.heap.size w w3):=hB2;clear h5 hB2 rf;go_wp2;refine bodyPost_ret (v:=.tuple #[.agg #[.int .i64 0,.string ⟨#[]⟩,.int .i64 0],.iface 63 (.int .i64 U)]) (by simp[results,Tryz.results15,go_sem, *]) rfl ⟨U,(0,ByteArray.empty,0),by rw[no_ne HNE.out];rfl,HSR.out,below_put3 HB2.out _ (by omega) _ _ _⟩
 rw[no_ne h0];have HSR:Hid (SfR S Ls Hs Ts o l T (0,ByteArray.empty,0)):=.inl ⟨by rw[←HT.out];exact h0,HT.out,rfl⟩;have HNE:Hid (T≠0):=h0;obtain⟨hB2,_,⟨r0,r1,r2,rf⟩⟩:=HX2.out;have f0:=rf 0;have f1:=rf 1;have f2:=rf 2;have HB2:Hid (Below w.heap.size w w2):=hB2;clear h0 hB2 rf;go_wp2;refine bodyPost_ret (v:=.tuple #[.agg #[.int .i64 0,.string ⟨#[]⟩,.int .i64 0],.iface 63 (.int .i64 T)]) (by simp[results,Tryz.results15,go_sem, *]) rfl ⟨T,(0,ByteArray.empty,0),by rw[no_ne HNE.out];rfl,HSR.out,below_put3 HB2.out _ (by omega) _ _ _⟩
end
section
open Go.RowKit
def mgD (M:List (Int×SlT))(a:Int):SlT:=(mget intKey.q a M).getD (none,0,0)
theorem getV_sl (o:Option SlT):getV slV (.slice none 0 0) o=slV (o.getD (none,0,0)):=by cases o <;> rfl
theorem mg_put (M:List (Int×SlT))(a b:Int)(x:SlT):mgD (mput intKey.q a x M) b=if b=a then x else mgD M b:=by
 unfold mgD;rw[mget_put intKey.qeq];by_cases h:b=a
 ·rw[if_pos h,if_pos ((intKey.qeq _ _).2 h)];rfl
 rw[if_neg h,if_neg (fun e=>h ((intKey.qeq _ _).1 e))]
theorem opA_app (D:List Op8)(x:Op8)(a:Int):opA (D++[x]) a=if x.w=a then opA D a++[x] else opA D a:=by
 unfold opA;rw[List.filter_append];by_cases h:x.w=a
 ·rw[if_pos h];simp[h]
 rw[if_neg h];simp[h]
structure GM (W:World)(bm B:Nat)(M:List (Int×SlT))(D:List Op8):Prop where
 m:MAt intKey slV W bm M
 o:∀a,NO W B (slV (mgD M a)) (opA D a)
 d:∀a b,a≠b→∀g,(slV (mgD M a)).ownBlock=some g→(slV (mgD M b)).ownBlock≠some g
theorem gm_new (W:World)(bm B:Nat)(h:MAt intKey slV W bm []):GM W bm B [] []:=⟨h,fun a=>NO.nil _ _,fun a b _ g h=>by cases h⟩
theorem NO.sl {w:World}{B:Nat}{v:Value}{L:List Op8}(h:NO w B v L):∃x:SlT,v=slV x:=by
 rcases h.2 with ⟨h3,_⟩ | ⟨g,cap,cur,h3,_⟩
 ·exact⟨(none,0,0),h3⟩
 exact⟨(some ⟨g,0,none⟩,L.length,cap),h3⟩
theorem GM.grown {W W':World}{bm B:Nat}{M:List (Int×SlT)}{D:List Op8}(h:GM W bm B M D){row:Option Nat}(hg:W.grownBy W' row)(hne:∀b,row=some b→b≠bm∧∀a,(slV (mgD M a)).ownBlock≠some b):GM W' bm B M D:=
 ⟨h.m.kept hg (fun e=>(hne bm e.symm).1 rfl),fun a=>(h.o a).kept hg (by
  cases row with
  | none=>exact none_or _
  | some b=>exact .inr fun e=>(hne b rfl).2 a e),h.d⟩
theorem GM.push {W W1 W2 W3:World}{bm B:Nat}{M:List (Int×SlT)}{D:List Op8}(h:GM W bm B M D)(hbm:bm<B){x:Op8}{y:SlT}(hg1:W.grownBy W1 none)
 (ho:NO W2 B (slV y) (opA D x.w++[x])) (hg2:W1.grownBy W2 (slV (mgD M x.w)).ownBlock) (hl:(slV y).ownBlock=(slV (mgD M x.w)).ownBlock∨(slV y).ownBlock=some W1.heap.size)
 (hm:MAt intKey slV W3 bm (mput intKey.q x.w y M)) (hg3:W2.grownBy W3 (some bm)):GM W3 bm B (mput intKey.q x.w y M) (D++[x]):=by
 have hlt:∀a g,(slV (mgD M a)).ownBlock=some g→B≤g∧g<W1.heap.size:=fun a g e=>by
  have:=(h.o a).lt g e;exact⟨this.1,Nat.lt_of_lt_of_le this.2 hg1.size⟩
 refine⟨hm,fun a=>?_,fun a b hab g e1 e2=>?_⟩
 ·rw[mg_put,opA_app];by_cases e:a=x.w
  ·subst e;rw[if_pos rfl,if_pos rfl];exact ho.kept hg3 (.inr fun e=>by
    have:=(ho.lt bm e).1;omega)
  rw[if_neg e,if_neg (fun e2=>e e2.symm)];have h1:=(h.o a).kept hg1 (none_or _);have h2:=h1.kept hg2 (by
   cases hb:(slV (mgD M x.w)).ownBlock with
   | none=>exact none_or _
   | some b=>exact .inr (fun e3=>h.d x.w a (fun e4=>e e4.symm) b hb e3))
  exact h2.kept hg3 (.inr fun e3=>by
   have:=(h2.lt bm e3).1;omega)
 rw[mg_put] at e1 e2;by_cases k1:a=x.w
 ·subst k1;rw[if_pos rfl] at e1;rw[if_neg (fun e=>hab e.symm)] at e2
  rcases hl with hl | hl
  ·rw[hl] at e1;exact h.d _ _ hab g e1 e2
  rw[hl] at e1;have:=(hlt b g e2).2;cases e1;omega
 rw[if_neg k1] at e1;by_cases k2:b=x.w
 ·subst k2;rw[if_pos rfl] at e2
  rcases hl with hl | hl
  ·rw[hl] at e2;exact h.d _ _ hab g e1 e2
  rw[hl] at e2;have:=(hlt a g e1).2;cases e2;omega
 rw[if_neg k2] at e2;exact h.d a b hab g e1 e2
structure TskOK (W:World)(v1 v2 v3 v4:Value)(bm:Nat)(Ls:List LkT)(Hs:List HoT)(Ts:List (List Ru))(ws:List Wi)(D:List Op8):Prop where
 n:NI W v1 v2 v3 Ls Hs Ts
 w:GS wisE W v4 ws
 m:∃M,MAt intKey slV W bm M∧∀a,GS opE W (slV (mgD M a)) (opA D a)
theorem TskOK.later {W W':World}{v1 v2 v3 v4:Value}{bm:Nat}{Ls:List LkT}{Hs:List HoT}{Ts:List (List Ru)}{ws:List Wi}{D:List Op8}(h:TskOK W v1 v2 v3 v4 bm Ls Hs Ts ws D)(hb:Below W.heap.size W W'):TskOK W' v1 v2 v3 v4 bm Ls Hs Ts ws D:=by
 obtain⟨M,h1,h2⟩:=h.m;exact⟨h.n.later hb,h.w.later hb,M,h1.later hb,fun a=>(h2 a).later hb⟩
theorem TskOK.lt {W:World}{v1 v2 v3 v4:Value}{bm:Nat}{Ls:List LkT}{Hs:List HoT}{Ts:List (List Ru)}{ws:List Wi}{D:List Op8}(h:TskOK W v1 v2 v3 v4 bm Ls Hs Ts ws D):bm<W.heap.size:=by
 obtain⟨M,h1,_⟩:=h.m;exact h1.lt
theorem frozLater {W W':World}{g:Nat}{a:Value}(h:∀i,W.frozen? ⟨g,i,none⟩=false)(hc:W.cell? ⟨g,0,none⟩=some a)(hb:Below W.heap.size W W'):∀i,W'.frozen? ⟨g,i,none⟩=false:=
 fun i=>(hb.frozen (p:=⟨g,i,none⟩) (show (⟨g,0,none⟩:Addr).block<W.heap.size from bLQ W ⟨g,0,none⟩ hc)).trans (h i)
theorem cellOff {W:World}{g o j:Nat}{u v:Value}(hne:o≠j)(h:W.cell? ⟨g,o,none⟩=some u):(W.setCell ⟨g,j,none⟩ v).cell? ⟨g,o,none⟩=some u:=by
 rw[World.cell?_setCell_other _ _ _ _ (by simp[hne])];exact h
theorem frozSet {W:World}{g j:Nat}{v:Value}(b i:Nat):(W.setCell ⟨g,j,none⟩ v).frozen? ⟨b,i,none⟩=W.frozen? ⟨b,i,none⟩:=by simp
theorem cellSame {W:World}{g j:Nat}{u v:Value}(h:W.cell? ⟨g,j,none⟩=some u):(W.setCell ⟨g,j,none⟩ v).cell? ⟨g,j,none⟩=some v:=World.cell?_setCell_same _ _ _ h
structure TkB (W:World)(g:Nat)(S:Int)(v1 v2 v3 v4 v5:Value)(all:Int):Prop where
 c0:W.cell? ⟨g,0,none⟩=some (.int .i64 S)
 c1:W.cell? ⟨g,1,none⟩=some v1
 c2:W.cell? ⟨g,2,none⟩=some v2
 c3:W.cell? ⟨g,3,none⟩=some v3
 c4:W.cell? ⟨g,4,none⟩=some v4
 c5:W.cell? ⟨g,5,none⟩=some v5
 c6:W.cell? ⟨g,6,none⟩=some (.int .i64 all)
 f:∀i,W.frozen? ⟨g,i,none⟩=false
section
variable {W W':World}{g:Nat}{S:Int}{v1 v2 v3 v4 v5:Value}{all:Int}
theorem TkB.lt (h:TkB W g S v1 v2 v3 v4 v5 all):g<W.heap.size:=bLQ W ⟨g,0,none⟩ h.c0
theorem TkB.later (h:TkB W g S v1 v2 v3 v4 v5 all)(hb:Below W.heap.size W W'):TkB W' g S v1 v2 v3 v4 v5 all:=
 ⟨cell_later hb h.c0,cell_later hb h.c1,cell_later hb h.c2,cell_later hb h.c3,cell_later hb h.c4,cell_later hb h.c5,cell_later hb h.c6,frozLater h.f h.c0 hb⟩
theorem tkb_new (W:World)(S:Int)(v1 v2 v3 v4 v5:Value)(all:Int)(t:TypeId):TkB (W.alloc (Obj.cells #[.int .i64 S,v1,v2,v3,v4,v5,.int .i64 all] t)) W.heap.size S v1 v2 v3 v4 v5 all:=by
 refine⟨?_,?_,?_,?_,?_,?_,?_,fun i=>by simp⟩ <;> simp
theorem frz_grown {row:Option Nat}{b i:Nat}(hg:W.grownBy W' row)(hl:b<W.heap.size)(hne:some b≠row):W'.frozen? ⟨b,i,none⟩=W.frozen? ⟨b,i,none⟩:=by
 unfold World.frozen?;rw[hg.block b hl hne]
theorem TkB.grown (h:TkB W g S v1 v2 v3 v4 v5 all){row:Option Nat}(hg:W.grownBy W' row)(hne:some g≠row):TkB W' g S v1 v2 v3 v4 v5 all:=
 ⟨hg.cell h.c0 hne,hg.cell h.c1 hne,hg.cell h.c2 hne,hg.cell h.c3 hne,hg.cell h.c4 hne,hg.cell h.c5 hne,hg.cell h.c6 hne,fun i=>by rw[frz_grown hg h.lt hne];exact h.f i⟩
theorem TkB.put (h:TkB W g S v1 v2 v3 v4 v5 all)(b:Int):TkB (W.setCell ⟨g,6,none⟩ (.int .i64 b)) g S v1 v2 v3 v4 v5 b:=
 ⟨cellOff (by decide) h.c0,cellOff (by decide) h.c1,cellOff (by decide) h.c2,cellOff (by decide) h.c3,cellOff (by decide) h.c4,cellOff (by decide) h.c5,cellSame h.c6,fun i=>by rw[frozSet];exact h.f i⟩
end
theorem rd_len (D:List Op8)(s:Nat):∀k,(rnTo D s k).length≤k*D.length
 | 0=>by simp[rnTo]
 | k+1=>by
   have h1:=rd_len D s k;have h2:(opA D ((k+1:Nat):Int)).length≤D.length:=List.length_filter_le _ _;rw[rnTo,List.length_append,Nat.succ_mul];by_cases h:inS s (k+1)=true
   ·rw[if_pos h];omega
   rw[if_neg h];simp only[List.length_nil];omega
theorem pround_any (S:Int)(v1 v2 v3 v4:Value)(bm:Nat)(all:Int)(s:Nat)(Ls:List LkT)(Hs:List HoT)(Ts:List (List Ru))(ws:List Wi)(D:List Op8)(w:World)
 (hT:TskOK w v1 v2 v3 v4 bm Ls Hs Ts ws D) (hs:s<64) (hD:D.length≤1000):
 Calls Tryz.prog 24 #[.agg #[.int .i64 S,v1,v2,v3,v4,.map (some bm),.int .i64 all],.int .i64 (s:Int)] w fun e w'=>∃v,e=.returned v∧NO w' w.heap.size v (rnL D s)∧Below w.heap.size w w':=by
 obtain⟨w1,hw1⟩:∃W,W=w.alloc (Obj.cells #[.int .i64 S,v1,v2,v3,v4,.map (some bm),.int .i64 all] 57):=⟨_,rfl⟩;have hb1:Below w.heap.size w w1:=by rw[hw1];exact (Below.refl _ _).alloc (Nat.le_refl _) _
 have hbx:TkB w1 w.heap.size S v1 v2 v3 v4 (.map (some bm)) all:=by rw[hw1];exact tkb_new w S v1 v2 v3 v4 _ all 57
 have hs1:w1.heap.size=w.heap.size+1:=by rw[hw1];simp
 have HW1:Hid (w1=w.alloc (Obj.cells #[.int .i64 S,v1,v2,v3,v4,.map (some bm),.int .i64 all] 57)):=hw1;have HB1:Hid (Below w.heap.size w w1):=hb1;have HS1:Hid (w1.heap.size=w.heap.size+1):=hs1;have HC5:Hid (∀W,Below w1.heap.size w1 W→W.cell? ⟨w.heap.size,5,none⟩=some (.map (some bm))):=fun W h=>(hbx.later h).c5
 have HTK:Hid (∀W,Below w1.heap.size w1 W→TskOK W v1 v2 v3 v4 bm Ls Hs Ts ws D):=fun W h=>(hT.later hb1).later h
 have HSS:Hid (s<64):=hs;have HDD:Hid (D.length≤1000):=hD;clear hT hb1 hbx hs1 hw1 hs hD;go_enter Tryz.func24,Tryz.ntmps24;go_wp2;rw[←HW1.out]
 go_loopw [5,6] (fun v i wr=>∃a:Nat,1≤a∧a≤7∧i=.int .i64 (a:Int)∧NO wr w1.heap.size v (rnTo D s (a-1))∧Below w1.heap.size w1 wr) (fun _ i _=>7-(intOf i).toNat)
 case atStart=>exact⟨1,by omega,by omega,rfl,NO.nil _ _,Below.refl _ _⟩
 case round =>
  obtain⟨a,ha1,ha7,rfl,hNO,hB⟩:=hrel;obtain⟨wi,hwi⟩:∃X,X=wr:=⟨_,rfl⟩;subst hwi;have HNO:Hid (NO wi w1.heap.size u5 (rnTo D s (a-1))):=hNO;have HB:Hid (Below w1.heap.size w1 wi):=hB;clear hNO hB;by_cases hlt:a≤6
  ·have d1:(a:Int)≤6:=by omega
   have HNX:Hid (rnTo D s a=rnTo D s (a-1)++(if inS s a=true then opA D (a:Int) else [])):=show _=_ by
    obtain⟨k,rfl⟩:∃k,a=k+1:=⟨a-1,by omega⟩;rfl
   go_wp2_with fail
   refine (only_any a wi ha1 hlt).mono ?_;rintro e w2 ⟨rfl,hw2⟩;have hw2:=hw2.symm;subst hw2
   go_wp2_with fail
   refine (setHas_on s a wi HSS.out ha1 hlt).mono ?_;rintro e w2 ⟨rfl,hw2⟩;have hw2:=hw2.symm;subst hw2;obtain⟨T,hT⟩:∃T,T=inS s a:=⟨_,rfl⟩;rw[←hT] at HNX ⊢;clear hT;cases T with
   | false =>
     have HNX2:Hid (rnTo D s a=rnTo D s (a-1)):=HNX.out.trans (by simp);go_wp2;go_roundw
     case rel=>exact⟨a+1,by omega,by omega,by go_num,by rw[show a+1-1=a from rfl,HNX2.out];exact HNO.out,HB.out⟩
     case measure=>simp[intOf];omega
   | true =>
     obtain⟨M,hM,hGO⟩:=(HTK.out wi HB.out).m;have hlk:=run_lookup_M hM 54 46 Tryz.underlying54 (.slice none 0 0) (fun w=>by kernel_rfl) (a:Int) false;rw[getV_sl] at hlk;obtain⟨y,hy⟩:∃y,y=mgD M (a:Int):=⟨_,rfl⟩;have HGO:Hid (GS opE wi (slV y) (opA D (a:Int))):=by rw[hy];exact hGO _
     obtain⟨ay,ny,cy⟩:=y;have hlk2:(Instr.lookup 54 (.map (some bm)) (.int .i64 (a:Int)) false).run Tryz.prog wi=.ok (.slice ay ny cy) wi:=by
      have e:slV (mgD M (a:Int))=.slice ay ny cy:=by rw[←hy];rfl
      rw[←e];exact hlk
     have c5:=HC5.out wi HB.out;have HL1:Hid ((rnTo D s (a-1)).length+(opA D (a:Int)).length≤1000000):=by
      have h1:=rd_len D s (a-1);have h2:(opA D (a:Int)).length≤D.length:=List.length_filter_le _ _;have h3:=HDD.out;have h4:(a-1)*D.length≤6*1000:=Nat.mul_le_mul (by omega) h3;show _≤_;omega
     have HBS:Hid (w1.heap.size≤wi.heap.size):=HB.out.size;clear hM hGO hlk hy
     go_wp2_with (at_builtin;refine wpList_append_ops wi rfl _ _ 46 rfl Tryz.underlying46 w1.heap.size _ rfl _ HNO.out _ rfl _ HGO.out HL1.out HBS.out ?_)
     intro v' w3 hNO3 hg3;have HNO3:Hid (NO w3 w1.heap.size v' (rnTo D s a)):=by
      have e:rnTo D s a=rnTo D s (a-1)++opA D (a:Int):=HNX.out.trans (by simp);rw[e];exact hNO3
     have HB3:Hid (Below w1.heap.size w1 w3):=HB.out.trans (below_grown hg3 HB.out.size (fun b hb=>(HNO.out.lt b hb).1));clear hNO3 hg3 c5;go_wp2;go_roundw
     case rel=>exact⟨a+1,by omega,by omega,by go_num,HNO3.out,HB3.out⟩
     case measure=>simp[intOf];omega
  obtain rfl:a=7:=by omega
  have HBW:Hid (Below w.heap.size w wi):=HB1.out.trans (HB.out.mono HB1.out.size);have HNE:Hid (NO wi w.heap.size u5 (rnL D s)):=HNO.out.mono (by rw[HS1.out];omega);go_wp2;go_ret;exact⟨_,rfl,HNE.out,HBW.out⟩
section
variable (Ls:LkQ)(Hs:HoQ)(As Bs:List (List Ru))
def bsB (w:Wi)(x:ByteArray×(Int×Int))(h:Int):Bool:=(seeL Ls Hs As Bs x.2 h).any fun F => !fiB w x.1 F
def bsH (w:Wi)(x:ByteArray×(Int×Int)):Nat→Int
 | 0 => -1
 | k+1=>if bsH w x k<0 then (if bsB Ls Hs As Bs w x (k:Int) then (k:Int) else -1) else bsH w x k
def bsX (w:Wi)(Xs:HoQ):Nat→Option (Nat×Int)
 | 0=>none
 | k+1=>match bsX w Xs k with
   | some x=>some x
   | none=>if 0≤bsH Ls Hs As Bs w (Xs.getD k zeO) 16 then some (k,bsH Ls Hs As Bs w (Xs.getD k zeO) 16) else none
def bsW (l:List Wi)(Xs:HoQ):Nat→Option (Nat×Nat×Int)
 | 0=>none
 | k+1=>match bsW l Xs k with
   | some x=>some x
   | none=>match bsX Ls Hs As Bs (l.getD k zeW) Xs Xs.length with
     | some p=>some (k,p.1,p.2)
     | none=>none
end
section
variable {Ls:LkQ}{Hs:HoQ}{As Bs:List (List Ru)}
theorem bsH_le {w:Wi}{x:ByteArray×(Int×Int)}{k:Nat}(h:0≤bsH Ls Hs As Bs w x k):∀{n:Nat},k≤n→bsH Ls Hs As Bs w x n=bsH Ls Hs As Bs w x k
 | 0,hn=>by
   obtain rfl:k=0:=by omega
   rfl
 | n+1,hn=>by
   by_cases e:k=n+1
   ·subst e;rfl
   have:=bsH_le h (show k≤n by omega);rw[bsH,if_neg (by rw[this];omega),this]
theorem bsH_no {w:Wi}{x:ByteArray×(Int×Int)}{k:Nat}(h:bsH Ls Hs As Bs w x k<0)(h2:bsB Ls Hs As Bs w x (k:Int)=false):bsH Ls Hs As Bs w x (k+1)<0:=by
 rw[bsH,if_pos h,h2];simp
theorem bsH_yes {w:Wi}{x:ByteArray×(Int×Int)}{k:Nat}(hk:k<16)(h:bsH Ls Hs As Bs w x k<0)(h2:bsB Ls Hs As Bs w x (k:Int)=true):bsH Ls Hs As Bs w x 16=k:=by
 have e:bsH Ls Hs As Bs w x (k+1)=k:=by
  rw[bsH,if_pos h,h2];simp
 rw[bsH_le (k:=k+1) (by rw[e];omega) (by omega),e]
theorem bsH_none {w:Wi}{x:ByteArray×(Int×Int)}:∀{k:Nat},bsH Ls Hs As Bs w x k<0→∀j,j<k→bsB Ls Hs As Bs w x (j:Int)=false
 | 0,_,j,hj=>by omega
 | k+1,h,j,hj=>by
   by_cases e:bsH Ls Hs As Bs w x k<0
   ·cases h2:bsB Ls Hs As Bs w x (k:Int) with
    | false =>
      by_cases ej:j=k
      ·subst ej;exact h2
      exact bsH_none e j (by omega)
    | true =>
      rw[bsH,if_pos e,h2] at h;simp at h;omega
   rw[bsH,if_neg e] at h;exact absurd h e
variable {Xs:HoQ}
theorem bsX_le {w:Wi}{k:Nat}{p:Nat×Int}(h:bsX Ls Hs As Bs w Xs k=some p):∀{n:Nat},k≤n→bsX Ls Hs As Bs w Xs n=some p
 | 0,hn=>by
   obtain rfl:k=0:=by omega
   exact h
 | n+1,hn=>by
   by_cases e:k=n+1
   ·subst e;exact h
   rw[bsX,bsX_le h (show k≤n by omega)]
theorem bsX_yes {w:Wi}{k:Nat}(hk:k<Xs.length)(h:bsX Ls Hs As Bs w Xs k=none)(h2:0≤bsH Ls Hs As Bs w Xs[k] 16):bsX Ls Hs As Bs w Xs Xs.length=some (k,bsH Ls Hs As Bs w Xs[k] 16):=by
 refine bsX_le (k:=k+1) ?_ (by omega);rw[bsX,h];simp only;rw[getO hk,if_pos h2]
theorem bsX_none {w:Wi}:∀{k:Nat},bsX Ls Hs As Bs w Xs k=none→∀j,j<k→∀h:Nat,h<16→bsB Ls Hs As Bs w (Xs.getD j zeO) (h:Int)=false
 | 0,_,j,hj=>by omega
 | k+1,h,j,hj=>by
   rw[bsX] at h;cases e:bsX Ls Hs As Bs w Xs k with
   | some q=>rw[e] at h;cases h
   | none =>
     rw[e] at h;simp only at h
     split at h
     ·cases h
     next h0 =>
     by_cases ej:j=k
     ·subst ej;exact bsH_none (by omega)
     exact bsX_none e j (by omega)
variable {l:List Wi}
theorem bsW_le {k:Nat}{p:Nat×Nat×Int}(h:bsW Ls Hs As Bs l Xs k=some p):∀{n:Nat},k≤n→bsW Ls Hs As Bs l Xs n=some p
 | 0,hn=>by
   obtain rfl:k=0:=by omega
   exact h
 | n+1,hn=>by
   by_cases e:k=n+1
   ·subst e;exact h
   rw[bsW,bsW_le h (show k≤n by omega)]
theorem bsW_yes {k:Nat}(hk:k<l.length)(h:bsW Ls Hs As Bs l Xs k=none){p:Nat×Int}(h2:bsX Ls Hs As Bs l[k] Xs Xs.length=some p):bsW Ls Hs As Bs l Xs l.length=some (k,p.1,p.2):=by
 refine bsW_le (k:=k+1) ?_ (by omega);rw[bsW,h];simp only;rw[getW hk,h2]
theorem bsW_none:∀{k:Nat},bsW Ls Hs As Bs l Xs k=none→∀i,i<k→∀j,j<Xs.length→∀h:Nat,h<16→bsB Ls Hs As Bs (l.getD i zeW) (Xs.getD j zeO) (h:Int)=false
 | 0,_,i,hi=>by omega
 | k+1,h,i,hi=>by
   rw[bsW] at h;cases e:bsW Ls Hs As Bs l Xs k with
   | some q=>rw[e] at h;cases h
   | none =>
     rw[e] at h;simp only at h;cases e2:bsX Ls Hs As Bs (l.getD k zeW) Xs Xs.length with
     | some q=>rw[e2] at h;cases h
     | none =>
       by_cases ei:i=k
       ·subst ei;exact bsX_none e2
       exact bsW_none e i (by omega)
end
section
variable {Ls:LkQ}{Hs:HoQ}{As Bs:List (List Ru)}{Xs:HoQ}{l:List Wi}
theorem bsH_neg {w:Wi}{x:ByteArray×(Int×Int)}:∀{k:Nat},(∀j,j<k→bsB Ls Hs As Bs w x (j:Int)=false)→bsH Ls Hs As Bs w x k<0
 | 0,_=>by simp[bsH]
 | k+1,h=>bsH_no (bsH_neg (fun j hj=>h j (by omega))) (h k (by omega))
theorem bsX_neg {w:Wi}:∀{k:Nat},(∀j,j<k→∀h:Nat,h<16→bsB Ls Hs As Bs w (Xs.getD j zeO) (h:Int)=false)→bsX Ls Hs As Bs w Xs k=none
 | 0,_=>rfl
 | k+1,h=>by
   rw[bsX,bsX_neg (fun j hj=>h j (by omega))];simp only;rw[if_neg];have:=bsH_neg (Ls:=Ls) (Hs:=Hs) (As:=As) (Bs:=Bs) (w:=w) (x:=Xs.getD k zeO) (k:=16) (fun j hj=>h k (by omega) j hj);omega
theorem bsW_neg:∀{k:Nat},(∀i,i<k→∀j,j<Xs.length→∀h:Nat,h<16→bsB Ls Hs As Bs (l.getD i zeW) (Xs.getD j zeO) (h:Int)=false)→bsW Ls Hs As Bs l Xs k=none
 | 0,_=>rfl
 | k+1,h=>by
   rw[bsW,bsW_neg (fun i hi=>h i (by omega))];simp only;rw[bsX_neg (h k (by omega))]
theorem any_same {α:Type}{L M:List α}(h:∀x,x∈L↔x∈M)(p:α→Bool):L.any p=M.any p:=by
 rw[Bool.eq_iff_iff,List.any_eq_true,List.any_eq_true];exact⟨fun ⟨x,h1,h2⟩=>⟨x,(h x).1 h1,h2⟩,fun ⟨x,h1,h2⟩=>⟨x,(h x).2 h1,h2⟩⟩
theorem fb_bs {S:Int}(ht:tpN S Ls Hs=0)(hA:∀s,tbN (taT As s)=0)(hB:∀s,tbN (taT Bs s)=0){held:Nat}{p:Int×ByteArray×Int}(f:Fb l Hs (fun z h=>pwS Ls Hs As Bs (Hs.getD z zeO).2 (h:Int)) Hs.length 0 held p):(bsW Ls Hs As Bs l Hs l.length).isSome=decide (held<l.length)∧prV Hs (bsW Ls Hs As Bs l Hs l.length)=p:=by
 have hb:∀w z (h:Nat),z<Hs.length→badF w (Hs.getD z zeO).1 (pwS Ls Hs As Bs (Hs.getD z zeO).2 (h:Int))=bsB Ls Hs As Bs w (Hs.getD z zeO) (h:Int):=fun w z h hz=>by
  have hsp:spB S (Hs.getD z zeO).2=true:=by
   rw[getO hz];exact ((tp_0 ht).2.2.2.2.1 _ (List.getElem_mem hz)).2
  exact any_same (ps_mem ht hA hB hsp (h:Int)) _
 by_cases hl:held<l.length
 ·obtain⟨z,h,h16,hzh,hz,rfl,hbad,hno⟩:=f.tell hl;have e1:bsH Ls Hs As Bs l[held] Hs[z] 16=(h:Int):=by
   refine bsH_yes h16 (bsH_neg fun j hj=>?_) ?_
   ·have:=hno z j (by omega) (.inr ⟨rfl,hj⟩);rw[hb _ _ _ hz,getW hl,getO hz] at this;exact this
   rw[hb _ _ _ hz,getW hl,getO hz] at hbad;exact hbad
  have e2:bsX Ls Hs As Bs l[held] Hs Hs.length=some (z,(h:Int)):=by
   rw[bsX_yes hz (bsX_neg fun j hj h' hh'=>?_) (by rw[e1];omega),e1];have:=hno j h' hh' (.inl hj);rw[hb _ _ _ (by omega),getW hl] at this;exact this
  have e3:=bsW_yes hl (bsW_neg (Ls:=Ls) (Hs:=Hs) (As:=As) (Bs:=Bs) (Xs:=Hs) fun i hi j hj h' hh'=>by
   have:=f.ok i hi j h' hh' (.inl hj);rw[hb _ _ _ hj] at this;exact this) e2
  rw[e3];exact⟨by simp[hl],rfl⟩
 have he:held=l.length:=by have:=f.le;omega
 have e3:bsW Ls Hs As Bs l Hs l.length=none:=bsW_neg fun i hi j hj h' hh'=>by
  have:=f.ok i (by omega) j h' hh' (.inl hj);rw[hb _ _ _ hj] at this;exact this
 rw[e3,f.no he];exact⟨by simp[hl],rfl⟩
end
structure PlOK (S:Int)(Ls:List LkT)(Hs:List HoT)(As Bs:List (List Ru))(ws:List Wi)(D:List Op8):Prop where
 nt:ntN S Ls Hs As=0
 tw:∀j,twN (As.getD j []) (Bs.getD j [])=0
 ws:wsN S Ls Hs ws=0
 d:D=cdL As Bs As.length
section
variable {S:Int}{Ls:List LkT}{Hs:List HoT}{As Bs:List (List Ru)}{ws:List Wi}{D:List Op8}
theorem PlOK.len (h:PlOK S Ls Hs As Bs ws D):(As.length:Int)=S∧As.length≤6:=by
 obtain⟨h1,h2,_⟩:=nt_0 h.nt;have:=(tp_0 h1).1;exact⟨h2,by omega⟩
theorem PlOK.few (h:PlOK S Ls Hs As Bs ws D):D.length≤144:=by
 have h1:=cd_few h.tw As.length;have h2:=h.len.2;rw[h.d];omega
theorem PlOK.w (h:PlOK S Ls Hs As Bs ws D):∀o∈D,1≤o.w∧o.w≤6:=fun o ho=>by
 rw[h.d] at ho;have:=cd_w o ho;have:=h.len.2;omega
theorem rd_all (As Bs:List (List Ru))(h6:As.length≤6)(t:Nat):rnL (cdL As Bs As.length) t=rnTo (cdL As Bs As.length) t As.length:=by
 have h2:∀k,As.length≤k→rnTo (cdL As Bs As.length) t k=rnTo (cdL As Bs As.length) t As.length:=by
  intro k hk
  induction k with
  | zero=>rw[show As.length=0 by omega]
  | succ k ih =>
    by_cases e:As.length=k+1
    ·rw[e]
    rw[rd_cd,ih (by omega)];simp[show ¬k<As.length by omega]
 exact h2 6 h6
theorem PlOK.ca (h:PlOK S Ls Hs As Bs ws D){s t:Nat}(hd:∀a,1≤a→a≤6→inS t a=true→inS s a=false):caN S (nwT As Bs s) (rnL D t)=0∧caT (nwT As Bs s) (rnL D t)=nwT As Bs (s ||| t):=by
 rw[h.d,rd_all As Bs h.len.2];obtain⟨h1,h2⟩:=ca_rd h.len.1 h.len.2 (fun j _=>h.tw j) hd As.length (Nat.le_refl _);refine⟨h1,List.ext_getElem (by rw[ca_len,nw_len,nw_len]) fun i k1 k2=>?_⟩;have hi:i<As.length:=by rw[nw_len] at k2;exact k2
 have:=h2 i;rw[if_pos hi] at this;simpa[List.getD,k1,k2] using this
theorem rd_le (h6:As.length≤6)(t:Nat):(rnL (cdL As Bs As.length) t).length≤(cdL As Bs As.length).length:=by
 rw[←of_rd (As:=As) (Bs:=Bs) (n:=As.length) (s:=t) (p:=fun x=>inS t x.toNat) h6 (fun a _ _=>by simp)];exact List.length_filter_le _ _
theorem PlOK.nw (h:PlOK S Ls Hs As Bs ws D){s:Nat}:ntN S Ls Hs (nwT As Bs s)=0:=by
 obtain⟨h1,h2⟩:=h.ca (s:=0) (t:=s) (fun a _ _ _=>in_0 a);rw[nw_0] at h1 h2;rw[Nat.zero_or] at h2;rw[←h2];exact nt_ca h.nt h1
theorem PlOK.cg (h:PlOK S Ls Hs As Bs ws D){s t:Nat}(hd:∀a,1≤a→a≤6→inS t a=true→inS s a=false):cgN S Ls Hs (nwT As Bs s) (rnL D t)=0:=by
 refine cg_of h.nw ?_ (h.ca hd).1;have h1:=rd_le (Bs:=Bs) h.len.2 t;have h2:=h.few;rw[h.d] at h2 ⊢;omega
end
def sfB (Ls:List LkT)(Hs:List HoT)(As Bs:List (List Ru))(ws:List Wi)(done s:Nat):Bool:=(bsW Ls Hs (nwT As Bs done) (nwT As Bs (done ||| s)) ws Hs ws.length).isNone
theorem sf_none {S:Int}{Ls:List LkT}{Hs:List HoT}{Ts:List (List Ru)}{o:List Op8}{l:List Wi}{N:Int}{p:Int×ByteArray×Int}(h:SfR S Ls Hs Ts o l N p)(h1:cgN S Ls Hs Ts o=0)(h2:wsN S Ls Hs l=0):N=if (bsW Ls Hs Ts (caT Ts o) l Hs l.length).isNone then 0 else 9:=by
 rcases h with ⟨k1,_,_⟩ | ⟨_,k2,_,_⟩ | ⟨_,_,held,hF,hN⟩
 ·exact absurd h1 k1
 ·exact absurd h2 k2
 obtain⟨ht,_,hA,hB⟩:=cg_ok h1;obtain⟨e1,e2⟩:=fb_bs ht hA hB hF;rw[hN];by_cases hh:held<l.length
 ·rw[if_pos hh];rw[decide_eq_true hh] at e1;cases hb:bsW Ls Hs Ts (caT Ts o) l Hs l.length with
  | none=>rw[hb] at e1;cases e1
  | some x=>rfl
 rw[if_neg hh];rw[decide_eq_false hh] at e1;cases hb:bsW Ls Hs Ts (caT Ts o) l Hs l.length with
 | none=>rfl
 | some x=>rw[hb] at e1;cases e1
theorem isSafe_any (S:Int)(v1 v2 v3 v4:Value)(bm:Nat)(all:Int)(done s:Nat)(Ls:List LkT)(Hs:List HoT)(As Bs:List (List Ru))(ws:List Wi)(D:List Op8)(w:World)
 (hT:TskOK w v1 v2 v3 v4 bm Ls Hs As ws D) (hP:PlOK S Ls Hs As Bs ws D) (hd:done<64) (hs:s<64) (hds:∀a,1≤a→a≤6→inS s a=true→inS done a=false):
 Calls Tryz.prog 26 #[.agg #[.int .i64 S,v1,v2,v3,v4,.map (some bm),.int .i64 all],.int .i64 (done:Int),.int .i64 (s:Int)] w fun e w'=>e=.returned (.bool (sfB Ls Hs As Bs ws done s))∧Below w.heap.size w w':=by
 obtain⟨ao,n,cap,ao2,n2,cap2,ao3,n3,cap3,rfl,rfl,rfl⟩:=hT.n.form;obtain⟨a4,n4,c4,rfl,_⟩:=hT.w.form;obtain⟨w1,hw1⟩:∃W,W=w.alloc (Obj.cells #[.int .i64 S,.slice ao n cap,.slice ao2 n2 cap2,.slice ao3 n3 cap3,.slice a4 n4 c4,.map (some bm),.int .i64 all] 57):=⟨_,rfl⟩;have hb1:Below w.heap.size w w1:=by rw[hw1];exact (Below.refl _ _).alloc (Nat.le_refl _) _
 have hbx:TkB w1 w.heap.size S (.slice ao n cap) (.slice ao2 n2 cap2) (.slice ao3 n3 cap3) (.slice a4 n4 c4) (.map (some bm)) all:=by rw[hw1];exact tkb_new w S _ _ _ _ _ all 57
 have HW1:Hid (w1=w.alloc (Obj.cells #[.int .i64 S,.slice ao n cap,.slice ao2 n2 cap2,.slice ao3 n3 cap3,.slice a4 n4 c4,.map (some bm),.int .i64 all] 57)):=hw1;have HB1:Hid (Below w.heap.size w w1):=hb1;have HTK:Hid (∀W,Below w1.heap.size w1 W→TskOK W (.slice ao n cap) (.slice ao2 n2 cap2) (.slice ao3 n3 cap3) (.slice a4 n4 c4) bm Ls Hs As ws D):=fun W h=>(hT.later hb1).later h
 have HCB:Hid (∀W,Below w1.heap.size w1 W→W.cell? ⟨w.heap.size,0,none⟩=some (.int .i64 S)∧W.cell? ⟨w.heap.size,1,none⟩=some (.slice ao n cap)∧W.cell? ⟨w.heap.size,2,none⟩=some (.slice ao2 n2 cap2)∧W.cell? ⟨w.heap.size,3,none⟩=some (.slice ao3 n3 cap3)∧W.cell? ⟨w.heap.size,4,none⟩=some (.slice a4 n4 c4)∧W.cell? ⟨w.heap.size,5,none⟩=some (.map (some bm))∧W.cell? ⟨w.heap.size,6,none⟩=some (.int .i64 all)):=fun W h=>by
  have k:=hbx.later h;exact⟨k.c0,k.c1,k.c2,k.c3,k.c4,k.c5,k.c6⟩
 have HP:Hid (PlOK S Ls Hs As Bs ws D):=hP;have HR:Hid (∀(t:Nat) W,t<64→Below w1.heap.size w1 W→Calls Tryz.prog 24 #[.agg #[.int .i64 S,.slice ao n cap,.slice ao2 n2 cap2,.slice ao3 n3 cap3,.slice a4 n4 c4,.map (some bm),.int .i64 all],.int .i64 (t:Int)] W fun e w'=>∃a5 n5 c5,e=.returned (.slice a5 n5 c5)∧(∀V,Below w'.heap.size w' V→GS opE V (.slice a5 n5 c5) (rnL D t))∧Below W.heap.size W w'):=fun t W ht hW=>by
  refine (pround_any S _ _ _ _ bm all t Ls Hs As ws D W ((hT.later hb1).later hW) ht (by have:=hP.few;omega)).mono ?_;rintro e w' ⟨v,rfl,hNO,hb⟩;obtain⟨a5,n5,c5,rfl,_⟩:=hNO.gs.form;exact⟨a5,n5,c5,rfl,fun V hV=>(hNO.later hV).gs,hb⟩
 have HAP:Hid (∀W a5 n5 c5,GS opE W (.slice a5 n5 c5) (rnL D done)→Below w1.heap.size w1 W→Calls Tryz.prog 16 #[.agg #[.int .i64 S,.slice ao n cap,.slice ao2 n2 cap2,.slice ao3 n3 cap3],.slice a5 n5 c5] W fun e w'=>∃b1 k1 d1 b2 k2 d2 b3 k3 d3,e=.returned (.tuple #[.agg #[.int .i64 S,.slice b1 k1 d1,.slice b2 k2 d2,.slice b3 k3 d3],.nilIface])∧NA w' W.heap.size (.slice b1 k1 d1) (.slice b2 k2 d2) (.slice b3 k3 d3) Ls Hs (nwT As Bs done)∧Below W.heap.size W w'):=fun W a5 n5 c5 hG hW=>by
  have hn:=((hT.later hb1).later hW).n;have h:=chApply_own S ao n cap ao2 n2 cap2 ao3 n3 cap3 a5 n5 c5 Ls Hs As (rnL D done) W hn.l hn.h hn.t hG;have e0:=hP.cg (s:=0) (t:=done) (fun a _ _ _=>in_0 a);have e1:=(hP.ca (s:=0) (t:=done) (fun a _ _ _=>in_0 a)).2;rw[nw_0] at e0 e1;rw[Nat.zero_or] at e1;rw[e0,e1,no_ok rfl] at h;exact h
 have HDS:Hid (∀a,1≤a→a≤6→inS s a=true→inS done a=false):=hds;have HDL:Hid (done<64∧s<64):=⟨hd,hs⟩;obtain⟨T,hTT⟩:∃T,T=sfB Ls Hs As Bs ws done s:=⟨_,rfl⟩;have HT:Hid (sfB Ls Hs As Bs ws done s=T):=hTT.symm;rw[←hTT];clear hT hb1 hbx hw1 hP hd hs hds hTT;go_enter Tryz.func26,Tryz.ntmps26;go_upto_region 1 with fail;rw[←HW1.out]
 go_cut [7,8] from 9 (fun p e w'=>e=.nilIface∧PN w' p S Ls Hs (nwT As Bs done)∧Below w1.heap.size w1 w')
 case first =>
  go_region_held3 (fun W=>W.cell? ⟨w.heap.size,0,none⟩=some (.int .i64 S)∧W.cell? ⟨w.heap.size,1,none⟩=some (.slice ao n cap)∧W.cell? ⟨w.heap.size,2,none⟩=some (.slice ao2 n2 cap2)∧W.cell? ⟨w.heap.size,3,none⟩=some (.slice ao3 n3 cap3)∧W.cell? ⟨w.heap.size,4,none⟩=some (.slice a4 n4 c4)∧W.cell? ⟨w.heap.size,5,none⟩=some (.map (some bm))∧W.cell? ⟨w.heap.size,6,none⟩=some (.int .i64 all))
   (first | (with_reducible assumption) | (with_reducible exact HCB.out _ (Below.drew (Below.refl _ _))) | (with_reducible exact HCB.out _ (Below.drew ((Below.refl _ _).alloc (Nat.le_refl _) _))) | (with_reducible exact HCB.out _ HBY.out) | (with_reducible exact HCB.out _ (HBY.out.alloc HBY.out.size _)) | (with_reducible exact HCB.out _ HBX.out) | (with_reducible exact HCB.out _ (HBX.out.alloc HBX.out.size _)) | (exact HCB.out _ (below_pn4 HBY.out _ (by first | exact Nat.le_refl _ | exact HBX.out.size) _ _ _ _)))
   (first
    | (go_at_call 24;refine (HR.out done _ HDL.out.1 (by first | exact Below.drew (Below.refl _ _) | exact (Below.drew (Below.refl _ _)).alloc (Nat.le_refl _) _)).mono ?_;rintro e w' ⟨a5,n5,c5,rfl,hG,hb⟩;have HBX:Hid (Below w1.heap.size w1 w'):=(by first | exact fdrew hb | exact falloc hb);have HGX:Hid (∀V,Below w'.heap.size w' V→GS opE V (.slice a5 n5 c5) (rnL D done)):=hG;(try (have HZ:Hid (ZB w' w1.heap.size):=zb_d hb));clear hb hG)
    | (go_at_call 16;refine (HAP.out _ a5 n5 c5 (HGX.out _ (by first | exact Below.refl _ _ | exact (Below.refl _ _).alloc (Nat.le_refl _) _)) (by first | exact HBX.out | exact HBX.out.alloc HBX.out.size _)).mono ?_;rintro e w'' ⟨b1,k1,d1,b2,k2,d2,b3,k3,d3,rfl,hNA,hb⟩;have HNA:Hid (NA w'' _ (.slice b1 k1 d1) (.slice b2 k2 d2) (.slice b3 k3 d3) Ls Hs (nwT As Bs done)):=hNA;have HBY:Hid (Below w1.heap.size w1 w''):=(by first | exact HBX.out.trans (hb.mono HBX.out.size) | exact (HBX.out.alloc HBX.out.size _).trans (hb.mono (HBX.out.alloc HBX.out.size _).size));(try (have hz:=HZ.out.later hb;have hzl:=HZ.out.lt;obtain⟨⟨y0,y1,y2,y3⟩,yf⟩:=hz;have yf0:=yf 0;have yf1:=yf 1;have yf2:=yf 2;have yf3:=yf 3;clear yf));(try (have hz:=zb_a hb;obtain⟨⟨y0,y1,y2,y3⟩,yf⟩:=hz;have yf0:=yf 0;have yf1:=yf 1;have yf2:=yf 2;have yf3:=yf 3;clear yf));clear hb hNA))
  all_goals (go_wp2_with fail;go_meet)
  all_goals first
   | exact⟨rfl,pn_new _ HNA.out,HBY.out.alloc HBY.out.size _⟩
   | exact⟨rfl,pn_put HNA.out (by first | exact hzl | simp) ⟨y0,y1,y2,y3⟩,below_pn4 HBY.out _ (by first | exact Nat.le_refl _ | exact HBX.out.size) _ _ _ _⟩
 case rest =>
  obtain⟨rfl,⟨ba,b1,k1,d1,b2,k2,d2,b3,k3,d3,rfl,hba⟩,hbw⟩:=hcut;obtain⟨w2,hw2⟩:∃X,X=wc:=⟨_,rfl⟩;subst hw2;obtain⟨N,hN⟩:∃N:Int,N=if sfB Ls Hs As Bs ws done s then 0 else 9:=⟨_,rfl⟩
  have HN:Hid (N=if T then 0 else 9):=by rw[HT.out] at hN;exact hN
  have HB12:Hid (Below w1.heap.size w1 w2):=hbw;have HMK:Hid (∀W,Below w2.heap.size w2 W→W.cell? ⟨w.heap.size,0,none⟩=some (.int .i64 S)∧W.cell? ⟨w.heap.size,1,none⟩=some (.slice ao n cap)∧W.cell? ⟨w.heap.size,2,none⟩=some (.slice ao2 n2 cap2)∧W.cell? ⟨w.heap.size,3,none⟩=some (.slice ao3 n3 cap3)∧W.cell? ⟨w.heap.size,4,none⟩=some (.slice a4 n4 c4)∧W.cell? ⟨w.heap.size,5,none⟩=some (.map (some bm))∧W.cell? ⟨w.heap.size,6,none⟩=some (.int .i64 all)∧W.cell? ⟨ba,0,none⟩=some (.int .i64 S)∧W.cell? ⟨ba,1,none⟩=some (.slice b1 k1 d1)∧W.cell? ⟨ba,2,none⟩=some (.slice b2 k2 d2)∧W.cell? ⟨ba,3,none⟩=some (.slice b3 k3 d3)):=fun W hW=>by
   obtain⟨x0,x1,x2,x3,x4,x5,x6⟩:=HCB.out W (hbw.trans (hW.mono hbw.size));obtain⟨y0,y1,y2,y3⟩:=(hba.later hW).c;exact⟨x0,x1,x2,x3,x4,x5,x6,y0,y1,y2,y3⟩
  have HRS:Hid (∀W,Below w2.heap.size w2 W→Calls Tryz.prog 24 #[.agg #[.int .i64 S,.slice ao n cap,.slice ao2 n2 cap2,.slice ao3 n3 cap3,.slice a4 n4 c4,.map (some bm),.int .i64 all],.int .i64 (s:Int)] W fun e w'=>∃a5 n5 c5,e=.returned (.slice a5 n5 c5)∧GS opE w' (.slice a5 n5 c5) (rnL D s)∧Below w2.heap.size w2 w'):=fun W hW=>by
   refine (HR.out s W HDL.out.2 (hbw.trans (hW.mono hbw.size))).mono ?_;rintro e w' ⟨a5,n5,c5,rfl,hG,hb⟩;exact⟨a5,n5,c5,rfl,hG _ (Below.refl _ _),hW.trans (hb.mono hW.size)⟩
  have HSF:Hid (∀W a5 n5 c5,GS opE W (.slice a5 n5 c5) (rnL D s)→Below w2.heap.size w2 W→Calls Tryz.prog 15 #[.agg #[.int .i64 S,.slice b1 k1 d1,.slice b2 k2 d2,.slice b3 k3 d3],.slice a5 n5 c5,.slice a4 n4 c4] W fun e w'=>∃p1 p2 p3,e=.returned (.tuple #[.agg #[.int .i64 p1,.string p2,.int .i64 p3],noV N])∧Below w2.heap.size w2 w'):=fun W a5 n5 c5 hG hW=>by
   have hn:=hba.later hW;refine (safe_any S b1 k1 d1 b2 k2 d2 b3 k3 d3 a5 n5 c5 a4 n4 c4 Ls Hs (nwT As Bs done) (rnL D s) ws W hn.l hn.h hn.t hG (HTK.out W (hbw.trans (hW.mono hbw.size))).w).mono ?_;rintro e w' ⟨N',p,rfl,hSR,hb⟩;have e1:=sf_none hSR (HP.out.cg HDS.out) HP.out.ws;rw[(HP.out.ca HDS.out).2] at e1;have e2:N'=N:=e1.trans hN.symm;exact⟨p.1,p.2.1,p.2.2,by rw[e2],hW.trans (hb.mono hW.size)⟩
  clear hba hbw hN HCB HR HAP;go_upto_region 4 with fail
  go_cut [8] from 9 (fun e w'=>e=noV N∧Below w2.heap.size w2 w')
  case first =>
   go_region_held3 (fun W=>W.cell? ⟨w.heap.size,0,none⟩=some (.int .i64 S)∧W.cell? ⟨w.heap.size,1,none⟩=some (.slice ao n cap)∧W.cell? ⟨w.heap.size,2,none⟩=some (.slice ao2 n2 cap2)∧W.cell? ⟨w.heap.size,3,none⟩=some (.slice ao3 n3 cap3)∧W.cell? ⟨w.heap.size,4,none⟩=some (.slice a4 n4 c4)∧W.cell? ⟨w.heap.size,5,none⟩=some (.map (some bm))∧W.cell? ⟨w.heap.size,6,none⟩=some (.int .i64 all)∧W.cell? ⟨ba,0,none⟩=some (.int .i64 S)∧W.cell? ⟨ba,1,none⟩=some (.slice b1 k1 d1)∧W.cell? ⟨ba,2,none⟩=some (.slice b2 k2 d2)∧W.cell? ⟨ba,3,none⟩=some (.slice b3 k3 d3))
    (first | (with_reducible assumption) | (with_reducible exact HMK.out _ (Below.drew (Below.refl _ _))) | (with_reducible exact HMK.out _ HBY.out) | (with_reducible exact HMK.out _ HBX.out))
    (first
     | (go_at_call 24;refine (HRS.out _ (Below.drew (Below.refl _ _))).mono ?_;rintro e w' ⟨a5,n5,c5,rfl,hG,hb⟩;have HBX:Hid (Below w2.heap.size w2 w'):=hb;have HGX:Hid (GS opE w' (.slice a5 n5 c5) (rnL D s)):=hG;clear hb hG)
     | (go_at_call 15;refine (HSF.out _ a5 n5 c5 HGX.out HBX.out).mono ?_;rintro e w'' ⟨p1,p2,p3,rfl,hb⟩;have HBY:Hid (Below w2.heap.size w2 w''):=hb;clear hb))
   all_goals (go_wp2_with fail;go_meet)
   all_goals exact⟨rfl,HBY.out⟩
  case rest =>
   obtain⟨rfl,hb3⟩:=hcut;have HBW:Hid (Below w.heap.size w wc):=HB1.out.trans ((HB12.out.trans (hb3.mono HB12.out.size)).mono HB1.out.size);clear hb3;cases T with
   | true =>
     have h0:N=0:=HN.out.trans (by simp);rw[no_ok h0];go_wp2;go_ret;exact⟨rfl,HBW.out⟩
   | false =>
     have h0:N=9:=HN.out.trans (by simp);rw[no_ne (by rw[h0];decide)];go_wp2;go_ret;exact⟨rfl,HBW.out⟩
end
end Go.Proofs.YtiokpmlhmlcojaaGreat
