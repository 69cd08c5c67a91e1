/- Contracts and facts on the way to PlanNothing, joined into one text: ChangeFresh, ChangeApply, GenTake, ChangeBN, NetMath2, LineMath, NetMath3, WishMath, StWish, SlHost, HostHas, WishCon, WishCheck. -/
import Derived.Test.YtiokpmlhmlcojaaGreatPlanNothingP4
namespace Go.Proofs.YtiokpmlhmlcojaaGreat
set_option linter.unusedSimpArgs false
set_option linter.unusedVariables false
set_option maxHeartbeats 16000000
set_option maxRecDepth 100000
section
open Go.RowKit
structure WB (W:World)(g:Nat)(S:Int)(v1 v2 v3:Value):Prop where
 c:NeBox W g S v1 v2 v3
 f:∀c,W.frozen? ⟨g,c,none⟩=false
section
variable {W W':World}{g:Nat}{S:Int}{v1 v2 v3:Value}
theorem WB.lt (h:WB W g S v1 v2 v3):g<W.heap.size:=bLQ W ⟨g,0,none⟩ h.c.1
theorem WB.grown {row:Option Nat}(h:WB W g S v1 v2 v3)(hg:W.grownBy W' row)(hne:some g≠row):WB W' g S v1 v2 v3:=
 ⟨h.c.grown hg hne,fun c=>(World.frozen?_of_block (hg.block g h.lt hne)).trans (h.f c)⟩
theorem WB.later (h:WB W g S v1 v2 v3)(hb:Below W.heap.size W W'):WB W' g S v1 v2 v3:=h.grown (grown_below hb) (by simp)
theorem wb_new (w:World)(S:Int)(v1 v2 v3:Value)(t:TypeId):WB (w.alloc (Obj.cells #[.int .i64 S,v1,v2,v3] t)) w.heap.size S v1 v2 v3:=by
 refine⟨nebox_new w S v1 v2 v3 t,fun c=>?_⟩;have h:=heap_alloc_new w (Obj.cells #[.int .i64 S,v1,v2,v3] t);simp only[World.frozen?,h];simp
theorem WB.set1 (h:WB W g S v1 v2 v3)(x:Value):WB (W.setCell ⟨g,1,none⟩ x) g S x v2 v3:=
 ⟨⟨(World.cell?_setCell_other _ _ _ _ (by simp)).trans h.c.1,World.cell?_setCell_same _ _ _ h.c.2.1,(World.cell?_setCell_other _ _ _ _ (by simp)).trans h.c.2.2.1,(World.cell?_setCell_other _ _ _ _ (by simp)).trans h.c.2.2.2⟩,fun c=>by rw[World.frozen?_setCell];exact h.f c⟩
theorem WB.set2 (h:WB W g S v1 v2 v3)(x:Value):WB (W.setCell ⟨g,2,none⟩ x) g S v1 x v3:=
 ⟨⟨(World.cell?_setCell_other _ _ _ _ (by simp)).trans h.c.1,(World.cell?_setCell_other _ _ _ _ (by simp)).trans h.c.2.1,World.cell?_setCell_same _ _ _ h.c.2.2.1,(World.cell?_setCell_other _ _ _ _ (by simp)).trans h.c.2.2.2⟩,fun c=>by rw[World.frozen?_setCell];exact h.f c⟩
theorem WB.set3 (h:WB W g S v1 v2 v3)(x:Value):WB (W.setCell ⟨g,3,none⟩ x) g S v1 v2 x:=
 ⟨⟨(World.cell?_setCell_other _ _ _ _ (by simp)).trans h.c.1,(World.cell?_setCell_other _ _ _ _ (by simp)).trans h.c.2.1,(World.cell?_setCell_other _ _ _ _ (by simp)).trans h.c.2.2.1,World.cell?_setCell_same _ _ _ h.c.2.2.2⟩,fun c=>by rw[World.frozen?_setCell];exact h.f c⟩
theorem NeBox.off {b i:Nat}{x:Value}(h:NeBox W g S v1 v2 v3)(hne:b≠g):NeBox (W.setCell ⟨b,i,none⟩ x) g S v1 v2 v3:=h.grown (grown_set W b i x) (by simp;omega)
theorem WB.off {b i:Nat}{x:Value}(h:WB W g S v1 v2 v3)(hne:b≠g):WB (W.setCell ⟨b,i,none⟩ x) g S v1 v2 v3:=h.grown (grown_set W b i x) (by simp;omega)
end
structure FB (W:World)(B:Nat)(S:Int)(v1 v2 v3:Value)(s:Int)(u1 u2 u3:Value):Prop where
 n:NeBox W B S v1 v2 v3
 r:WB W (B+1) 0 (.slice none 0 0) (.slice none 0 0) (.slice none 0 0)
 o:WB W (B+1+1) s u1 u2 u3
section
variable {W W':World}{B:Nat}{S:Int}{v1 v2 v3:Value}{s:Int}{u1 u2 u3:Value}
theorem FB.lt (h:FB W B S v1 v2 v3 s u1 u2 u3):B+1+1<W.heap.size:=h.o.lt
theorem FB.grown {row:Option Nat}(h:FB W B S v1 v2 v3 s u1 u2 u3)(hg:W.grownBy W' row)(hr:∀g,row=some g→B+1+1+1≤g):FB W' B S v1 v2 v3 s u1 u2 u3:=
 ⟨h.n.grown hg (fun e=>by have:=hr _ e.symm;omega),h.r.grown hg (fun e=>by have:=hr _ e.symm;omega),h.o.grown hg (fun e=>by have:=hr _ e.symm;omega)⟩
theorem FB.later (h:FB W B S v1 v2 v3 s u1 u2 u3)(hb:Below W.heap.size W W'):FB W' B S v1 v2 v3 s u1 u2 u3:=h.grown (grown_below hb) (fun g hg=>by cases hg)
theorem FB.set1 (h:FB W B S v1 v2 v3 s u1 u2 u3)(x:Value):FB (W.setCell ⟨B+1+1,1,none⟩ x) B S v1 v2 v3 s x u2 u3:=⟨h.n.off (by omega),h.r.off (by omega),h.o.set1 x⟩
theorem FB.set2 (h:FB W B S v1 v2 v3 s u1 u2 u3)(x:Value):FB (W.setCell ⟨B+1+1,2,none⟩ x) B S v1 v2 v3 s u1 x u3:=⟨h.n.off (by omega),h.r.off (by omega),h.o.set2 x⟩
theorem FB.set3 (h:FB W B S v1 v2 v3 s u1 u2 u3)(x:Value):FB (W.setCell ⟨B+1+1,3,none⟩ x) B S v1 v2 v3 s u1 u2 x:=⟨h.n.off (by omega),h.r.off (by omega),h.o.set3 x⟩
theorem fb_new (w:World)(S:Int)(v1 v2 v3:Value)(t:TypeId):FB (((w.alloc (Obj.cells #[.int .i64 S,v1,v2,v3] t)).alloc (Obj.cells #[.int .i64 0,.slice none 0 0,.slice none 0 0,.slice none 0 0] t)).alloc (Obj.cells #[.int .i64 S,.slice none 0 0,.slice none 0 0,.slice none 0 0] t)) w.heap.size S v1 v2 v3 S (.slice none 0 0) (.slice none 0 0) (.slice none 0 0):=by
 obtain⟨h1,h2⟩:=nn_new w S v1 v2 v3 0 (.slice none 0 0) (.slice none 0 0) (.slice none 0 0) t;have r0:=wb_new (w.alloc (Obj.cells #[.int .i64 S,v1,v2,v3] t)) 0 (.slice none 0 0) (.slice none 0 0) (.slice none 0 0) t;rw[World.size_alloc] at r0;have o0:=wb_new ((w.alloc (Obj.cells #[.int .i64 S,v1,v2,v3] t)).alloc (Obj.cells #[.int .i64 0,.slice none 0 0,.slice none 0 0,.slice none 0 0] t)) S (.slice none 0 0) (.slice none 0 0) (.slice none 0 0) t;rw[World.size_alloc,World.size_alloc] at o0;exact⟨h1.later ((Below.refl _ _).alloc (Nat.le_refl _) _),r0.later ((Below.refl _ _).alloc (Nat.le_refl _) _),o0⟩
end
theorem lnkPt1 {W:World}{a1:Option Addr}{n1 c1:Nat}{L1:LkQ}(t:TypeId)(h1:GS lnkE W (.slice a1 n1 c1) L1):lnkPt (W.alloc (.cells #[.slice a1 n1 c1] t)) W.heap.size 0 [L1]:=by
 have hb:Below W.heap.size W (W.alloc (.cells #[.slice a1 n1 c1] t)):=(Below.refl _ _).alloc (Nat.le_refl _) _;intro i hi
 match i,hi with
 | 0,_=>exact⟨a1,n1,c1,by simp,h1.later hb⟩
theorem fdrew {w w':World}(hb:Below w.drew.heap.size w.drew w'):Below w.heap.size w w':=(Below.drew (Below.refl _ _)).trans hb
theorem falloc {w w':World}{o:Obj}(hb:Below (w.drew.alloc o).heap.size (w.drew.alloc o) w'):Below w.heap.size w w':=((Below.drew (Below.refl _ _)).alloc (Nat.le_refl _) o).trans (hb.mono (by simp))
theorem row_kept {w w1 w2:World}{B e s n:Nat}{v:Value}{xs:List Value}(h:w.ownsRow B e s v n xs)(hb:Below w.heap.size w w1){row:Option Nat}(hg:w1.grownBy w2 row)(hr:v.ownBlock=none∨v.ownBlock≠row){b i:Nat}{x:Value}(hB:b<B):(w2.setCell ⟨b,i,none⟩ x).ownsRow B e s v n xs:=
 ((h.kept (grown_below hb) (none_or _)).kept hg hr).kept (grown_set w2 b i x) (.inr fun e=>by have:=(h.lt b e).1;omega)
theorem vat_sl {W:World}{g q:Nat}{y:SlT}(h:W.cell? ⟨g,q,none⟩=some (slV y)):VAt W g q (slE.c y):=by
 intro j u hu;obtain rfl:j=0:=by
  have:=(List.getElem?_eq_some_iff.1 hu).1;have e:(slE.c y).length=1:=rfl;omega
 have e4:slV y=u:=Option.some.inj hu;rw[Nat.add_zero,←e4];exact h
theorem fresh_any (S:Int)(ao:Option Addr)(n cap:Nat)(ao2:Option Addr)(n2 cap2:Nat)(ao3:Option Addr)(n3 cap3:Nat)(Ls:LkQ)(Hs:HoQ)(Ts:List (List Ru))(w:World)
 (hL:GS lnkE w (.slice ao n cap) Ls) (hH:GS hstE w (.slice ao2 n2 cap2) Hs) (hT:TS w (.slice ao3 n3 cap3) Ts) (hN:ntN S Ls Hs Ts=0):
 Calls Tryz.prog 36 #[.agg #[.int .i64 S,.slice ao n cap,.slice ao2 n2 cap2,.slice ao3 n3 cap3]] w fun e w'=>∃b1 k1 d1 b2 k2 d2 b3 k3 d3 vs,e=.returned (.agg #[.int .i64 S,.slice b1 k1 d1,.slice b2 k2 d2,.slice b3 k3 d3])∧w'.ownsRow w.heap.size 78 4 (.slice b1 k1 d1) Ls.length (cellsG lnkE Ls)∧w'.ownsRow w.heap.size 33 3 (.slice b2 k2 d2) Hs.length (cellsG hstE Hs)∧TR 39 w' 0 w.heap.size (.slice b3 k3 d3) vs Ts∧Below w.heap.size w w':=by
 obtain⟨t1,t2,t3⟩:=nt_0 hN;have HTP:Hid (tpN S Ls Hs=0):=t1;obtain⟨htp1,⟨htp2,htp3⟩,_⟩:=tp_0 t1;have HLL:Hid ([Ls].flatten.length≤1000):=by
  show _≤_;simp only[List.flatten_cons,List.flatten_nil,List.append_nil];omega
 have HOK:Hid (∀k,k<Ts.length→(Ts.getD k []).length≤12):=fun k hk=>(tb_iff.1 (t3 k hk)).1
 have HFB:=fb_new w S (.slice ao n cap) (.slice ao2 n2 cap2) (.slice ao3 n3 cap3) 28;have hb3:Below w.heap.size w (((w.alloc (Obj.cells #[.int .i64 S,.slice ao n cap,.slice ao2 n2 cap2,.slice ao3 n3 cap3] 28)).alloc (Obj.cells #[.int .i64 0,.slice none 0 0,.slice none 0 0,.slice none 0 0] 28)).alloc (Obj.cells #[.int .i64 S,.slice none 0 0,.slice none 0 0,.slice none 0 0] 28)):=(((Below.refl _ _).alloc (Nat.le_refl _) _).alloc (by simp) _).alloc (by simp;omega) _;obtain⟨_,_,_,e,gn,gn2,gn3,ga⟩:=hH.form;cases e;obtain⟨_,_,_,e,hn,hn2,hn3,ha⟩:=hT.form;cases e;have HN2:Hid (Hs.length=n2):=gn;have HA2:Hid (0<n2→∃g o,ao2=some ⟨g,o,none⟩∧GAt hstE w g o Hs∧cap2≤maxLen):=ga;have HN3:Hid (Ts.length=n3):=hn;have HA3:Hid (0<n3→∃g o,ao3=some ⟨g,o,none⟩∧TAt w g o Ts∧cap3≤maxLen):=ha;have h28:n2≤8:=by omega
 have h36:n3≤6:=by omega
 have HPT:Hid (lnkPt ((((w.alloc (Obj.cells #[.int .i64 S,.slice ao n cap,.slice ao2 n2 cap2,.slice ao3 n3 cap3] 28)).alloc (Obj.cells #[.int .i64 0,.slice none 0 0,.slice none 0 0,.slice none 0 0] 28)).alloc (Obj.cells #[.int .i64 S,.slice none 0 0,.slice none 0 0,.slice none 0 0] 28)).alloc (Obj.cells #[.slice ao n cap] 22)) (w.heap.size+1+1+1) 0 [Ls]):=by
  have h:=lnkPt1 22 (hL.later hb3);simp only[World.size_alloc] at h;exact h
 have HB3:Hid (Below w.heap.size w (((w.alloc (Obj.cells #[.int .i64 S,.slice ao n cap,.slice ao2 n2 cap2,.slice ao3 n3 cap3] 28)).alloc (Obj.cells #[.int .i64 0,.slice none 0 0,.slice none 0 0,.slice none 0 0] 28)).alloc (Obj.cells #[.int .i64 S,.slice none 0 0,.slice none 0 0,.slice none 0 0] 28))):=hb3;have HFB0:Hid (FB _ w.heap.size S (.slice ao n cap) (.slice ao2 n2 cap2) (.slice ao3 n3 cap3) S (.slice none 0 0) (.slice none 0 0) (.slice none 0 0)):=HFB;clear hL hH hT hN t1 t2 t3 htp1 htp2 htp3 HFB hb3 gn gn2 gn3 ga hn hn2 hn3 ha;go_enter Tryz.func36,Tryz.ntmps36
 go_wp2_with fail
 refine (lnk_concat _ 0 1 1 [Ls] _ rfl (by omega) HPT.out HLL.out).mono ?_;rintro e w5 ⟨v,rfl,hown,hb⟩;have hbB:Below (w.heap.size+1+1+1) (((w.alloc (Obj.cells #[.int .i64 S,.slice ao n cap,.slice ao2 n2 cap2,.slice ao3 n3 cap3] 28)).alloc (Obj.cells #[.int .i64 0,.slice none 0 0,.slice none 0 0,.slice none 0 0] 28)).alloc (Obj.cells #[.int .i64 S,.slice none 0 0,.slice none 0 0,.slice none 0 0] 28)) w5:=((Below.refl _ _).alloc (by simp) _).trans (hb.mono (by simp));have hown2:w5.ownsRow (w.heap.size+1+1+1) 78 4 v Ls.length (cellsG lnkE Ls):=by
  have h:=own_mono hown (B':=w.heap.size+1+1+1) (by simp);simp only[List.flatten_cons,List.flatten_nil,List.append_nil] at h;exact h
 obtain⟨b1,m1,d1,rfl⟩:∃b1 m1 d1,v=.slice b1 m1 d1:=by
  obtain⟨a,c,h⟩:=own_form hown2;exact⟨a,_,c,h⟩
 have HF5:FB w5 w.heap.size S (.slice ao n cap) (.slice ao2 n2 cap2) (.slice ao3 n3 cap3) S (.slice none 0 0) (.slice none 0 0) (.slice none 0 0):=HFB0.out.later (by have h:=hbB;simpa only[World.size_alloc] using h);have HB6:Hid (Below w.heap.size w (w5.setCell ⟨w.heap.size+1+1,1,none⟩ (.slice b1 m1 d1))):=(HB3.out.trans (hbB.mono (by omega))).setCell (p:=⟨w.heap.size+1+1,1,none⟩) (show w.heap.size≤w.heap.size+1+1 by omega) _;have HF6:Hid (FB (w5.setCell ⟨w.heap.size+1+1,1,none⟩ (.slice b1 m1 d1)) w.heap.size S (.slice ao n cap) (.slice ao2 n2 cap2) (.slice ao3 n3 cap3) S (.slice b1 m1 d1) (.slice none 0 0) (.slice none 0 0)):=HF5.set1 _;have HL6:Hid ((w5.setCell ⟨w.heap.size+1+1,1,none⟩ (.slice b1 m1 d1)).ownsRow (w.heap.size+1+1+1) 78 4 (.slice b1 m1 d1) Ls.length (cellsG lnkE Ls)):=hown2.kept (grown_set w5 _ _ _) (.inr fun e=>by have:=(hown2.lt _ e).1;omega);obtain⟨p0,p1,p2,p3⟩:=HF5.n;obtain⟨q0,q1,q2,q3⟩:=HF5.o.c;have hlt5:=HF5.lt;have hlt50:w.heap.size<w5.heap.size:=by omega
 have f1:=HF5.o.f 1;clear HPT HB3 HFB0 hown hb hbB hown2 HF5;go_wp2
 go_loopw [24] (fun i wr=>∃(k:Nat) (u2:Value),k≤n2∧i=.int .i64 k∧FB wr w.heap.size S (.slice ao n cap) (.slice ao2 n2 cap2) (.slice ao3 n3 cap3) S (.slice b1 m1 d1) u2 (.slice none 0 0)∧wr.ownsRow (w.heap.size+1+1+1) 33 3 u2 (Hs.take k).length (cellsG hstE (Hs.take k))∧wr.ownsRow (w.heap.size+1+1+1) 78 4 (.slice b1 m1 d1) Ls.length (cellsG lnkE Ls)∧Below w.heap.size w wr) (fun i _=>n2-(intOf i).toNat)
 case atStart=>exact⟨0,_,by omega,rfl,HF6.out,World.ownsRow_nil _ _ _ _,HL6.out,HB6.out⟩
 case round =>
  obtain⟨k,u2,hk,rfl,hF,hO,hLk,hB⟩:=hrel;clear HF6 HL6 HB6 p0 p1 p2 p3 q0 q1 q2 q3 hlt5 hlt50 f1;obtain⟨a5,m5,c5,rfl⟩:∃b1 m1 d1,u2=.slice b1 m1 d1:=by
   obtain⟨a,c,h⟩:=own_form hO;exact⟨a,_,c,h⟩
  have HB:Hid (Below w.heap.size w wr):=hB;have HF:Hid (FB wr w.heap.size S (.slice ao n cap) (.slice ao2 n2 cap2) (.slice ao3 n3 cap3) S (.slice b1 m1 d1) (.slice a5 m5 c5) (.slice none 0 0)):=hF;have HO:Hid (wr.ownsRow (w.heap.size+1+1+1) 33 3 (.slice a5 m5 c5) (Hs.take k).length (cellsG hstE (Hs.take k))):=hO;have HLK:Hid (wr.ownsRow (w.heap.size+1+1+1) 78 4 (.slice b1 m1 d1) Ls.length (cellsG lnkE Ls)):=hLk;have hltB:=hF.lt;have HLT:Hid (w.heap.size+1+1<wr.heap.size):=hltB;clear hO hLk;by_cases hlt:k<n2
  ·obtain⟨g,og,hao,hc,_⟩:=HA2.out (by omega);subst hao;obtain⟨y0,y1,y2,hkl,hHk,r0,r1,r2⟩:=hst_at (hc.later hB) HN2.out hlt;have HSZ:Hid (y0.size≤1000000):=by
    show _≤_;have h:=(tp_0 HTP.out).2.2.2.2.1 Hs[k] (List.getElem_mem hkl);rw[hHk] at h;have h2:=h.1;simp only[nmB,Bool.and_eq_true,decide_eq_true_eq] at h2;omega
   have kb0:(0:Int)≤(k:Int):=by omega
   have kb1:(k:Int)<(n2:Int):=by omega
   have HTK:Hid (Hs.take (k+1)=Hs.take k++[(y0,(y1,y2))]):=by
    show _=_;rw[List.take_succ_eq_append_getElem hkl,hHk]
   obtain⟨q0,q1,q2,q3⟩:=hF.o.c;have f2:=hF.o.f 2;obtain⟨j1,hj,hy0,hy1,hy2⟩:=info_parts hst_info;have HI1:Hid (Tryz.prog.info? 33=some j1):=hj;have HI2:Hid (j1.zero=some (.agg #[.string ByteArray.empty,.int .i64 0,.int .i64 0])):=hy0;have HI3:Hid (j1.size=3):=hy1;have HI4:Hid (j1.bytes=32):=hy2;obtain⟨wi,hwi⟩:∃W,W=wr.alloc (Obj.cells #[.string y0,.int .i64 y1,.int .i64 y2] 33):=⟨_,rfl⟩;have hbi:Below wr.heap.size wr wi:=by rw[hwi];exact (Below.refl _ _).alloc (Nat.le_refl _) _
   have HWI:Hid (wi.heap.size=wr.heap.size+1):=by
    show _=_;rw[hwi,World.size_alloc]
   have HKH:Hid (∀W,Below wi.heap.size wi W→W.cell? ⟨wr.heap.size,0,none⟩=some (.string y0)∧W.cell? ⟨wr.heap.size,1,none⟩=some (.int .i64 y1)∧W.cell? ⟨wr.heap.size,2,none⟩=some (.int .i64 y2)):=fun W hW=>by
    have h:=hst_new wr y0 y1 y2 33;rw[←hwi] at h;have h2:=hst_cells (h.later hW);simpa only[Nat.zero_add] using h2
   have HKF:Hid (∀W,Below wi.heap.size wi W→FB W w.heap.size S (.slice ao n cap) (.slice (some ⟨g,og,none⟩) n2 cap2) (.slice ao3 n3 cap3) S (.slice b1 m1 d1) (.slice a5 m5 c5) (.slice none 0 0)):=fun W hW=>(HF.out.later hbi).later hW
   have HKO:Hid (∀W,Below wi.heap.size wi W→W.ownsRow (w.heap.size+1+1+1) 33 3 (.slice a5 m5 c5) (Hs.take k).length (cellsG hstE (Hs.take k))):=fun W hW=>own_below (own_below HO.out hbi) hW
   have HOB:Hid (∀b,(Value.slice a5 m5 c5).ownBlock=some b→w.heap.size+1+1+1≤b∧b<wr.heap.size):=fun b hb=>HO.out.lt b hb
   have HLV1:Hid ((Hs.take k).length+1≤maxLen):=by
    show _≤_;rw[List.length_take];unfold maxLen;omega
   have HLV2:Hid (((Hs.take k).length+1)*32≤140737488355328):=by
    show _≤_;rw[List.length_take];omega
   have HFIN:Hid (∀w' w2 v5,Below wi.heap.size wi w'→w'.grownBy w2 (Value.slice a5 m5 c5).ownBlock→w2.ownsRow (w.heap.size+1+1+1) 33 3 v5 (Hs.take (k+1)).length (cellsG hstE (Hs.take (k+1))) →
    FB (w2.setCell ⟨w.heap.size+1+1,2,none⟩ v5) w.heap.size S (.slice ao n cap) (.slice (some ⟨g,og,none⟩) n2 cap2) (.slice ao3 n3 cap3) S (.slice b1 m1 d1) v5 (.slice none 0 0)∧(w2.setCell ⟨w.heap.size+1+1,2,none⟩ v5).ownsRow (w.heap.size+1+1+1) 33 3 v5 (Hs.take (k+1)).length (cellsG hstE (Hs.take (k+1)))∧(w2.setCell ⟨w.heap.size+1+1,2,none⟩ v5).ownsRow (w.heap.size+1+1+1) 78 4 (.slice b1 m1 d1) Ls.length (cellsG lnkE Ls)∧Below w.heap.size w (w2.setCell ⟨w.heap.size+1+1,2,none⟩ v5)):=by
    intro w' w2 v5 h1 h2 h3;have hb1:Below wr.heap.size wr w':=hbi.trans (h1.mono hbi.size);refine⟨((HKF.out w' h1).grown h2 (fun b hb=>(HOB.out b hb).1)).set2 v5,h3.kept (grown_set _ _ _ _) (.inr fun e=>by have:=(h3.lt _ e).1;omega),row_kept HLK.out hb1 h2 (own_apart HLK.out HO.out (by decide)) (by omega),?_⟩;have hb2:Below w.heap.size w w':=HB.out.trans (hb1.mono HB.out.size);exact (hb2.grown h2 hb2.size (fun b hb=>by have:=(HOB.out b hb).1;omega)).setCell (p:=⟨w.heap.size+1+1,2,none⟩) (show w.heap.size≤w.heap.size+1+1 by omega) _
   clear hc hB hHk hF hj hy0 hy1 hy2;go_upto_region 7 with fail;rw[←hwi];have HDR:Hid (Below wi.heap.size wi wi.drew):=Below.drew (Below.refl _ _);have k2:=(HKF.out wi (Below.refl _ _)).o.c.2.2.1;have kf2:=(HKF.out wi (Below.refl _ _)).o.f 2;clear hwi r0 r1 r2 q0 q1 q2 q3 f2;obtain⟨i0,i1,i2⟩:=HKH.out wi (Below.refl _ _)
   go_region_law (first
    | ((refine step_append_blk (E:=hstE) _ (by rfl) _ _ 23 33 (by rfl) Tryz.underlying23 j1 _ 32 HI1.out HI2.out HI3.out HI4.out hst_zero (w.heap.size+1+1+1) (.slice a5 m5 c5) (by rfl) (Hs.take k) (HKO.out _ HBY.out) w'.heap.size 0 1 (by rfl) (y0,(y1,y2)) (hst_new w' y0 y1 y2 33) HLV1.out HLV2.out ?_ ?_;(focus (have:=HBY.out.size;have:=HWI.out;have:=HLT.out;omega));intro v5 w5 ho5 hg5 hb5;rw[←HTK.out] at ho5;obtain⟨a6,m6,c6,rfl⟩:∃b1 m1 d1,v5=Value.slice b1 m1 d1:=(by obtain⟨a,c,h⟩:=own_form ho5;exact⟨a,_,c,h⟩);have HG:Hid _:=HFIN.out _ _ _ HBY.out hg5 ho5;have z2:=((HKF.out _ HBY.out).grown hg5 (fun b hb=>(HOB.out b hb).1)).o.c.2.2.1;have zf2:=((HKF.out _ HBY.out).grown hg5 (fun b hb=>(HOB.out b hb).1)).o.f 2;clear ho5 hg5 hb5))
    | (go_simp;go_at_call 53;refine (clone_any y0 _ HSZ.out).mono ?_;rintro e w' ⟨rfl,hb⟩;have HBX:Hid (Below wi.heap.size wi w'):=fdrew hb;have HBY:Hid (Below wi.heap.size wi (w'.alloc (Obj.cells #[.string y0,.int .i64 y1,.int .i64 y2] 33))):=HBX.out.alloc HBX.out.size _;have x2:=(HKF.out w' HBX.out).o.c.2.2.1;have xlt:=(HKF.out w' HBX.out).o.lt;obtain⟨x4,x5,x6⟩:=HKH.out w' HBX.out;clear hb;dsimp only))
   all_goals (clear k2 kf2 i0 i1 i2;go_wp2)
   all_goals go_roundw
   all_goals first
    | (simp[intOf];omega)
    | exact⟨k+1,_,by omega,by go_num,HG.out⟩
  obtain rfl:k=n2:=by omega
  have HO2:Hid (wr.ownsRow (w.heap.size+1+1+1) 33 3 (.slice a5 m5 c5) Hs.length (cellsG hstE Hs)):=by
   have h:=HO.out;rw[←HN2.out,List.take_length] at h;exact h
  obtain⟨p0,p1,p2,p3⟩:=hF.n;have hlt0:w.heap.size<wr.heap.size:=by omega
  clear hF hB HO HA2 HN2 HTP h28;go_wp2
  go_loopw [45] (fun i wr=>∃(j:Nat) (u3:Value) (vs:List SlT),j≤n3∧i=.int .i64 j∧FB wr w.heap.size S (.slice ao n cap) (.slice ao2 k cap2) (.slice ao3 n3 cap3) S (.slice b1 m1 d1) (.slice a5 m5 c5) u3∧TR 39 wr 0 (w.heap.size+1+1+1) u3 vs (Ts.take j)∧wr.ownsRow (w.heap.size+1+1+1) 33 3 (.slice a5 m5 c5) Hs.length (cellsG hstE Hs)∧wr.ownsRow (w.heap.size+1+1+1) 78 4 (.slice b1 m1 d1) Ls.length (cellsG lnkE Ls)∧Below w.heap.size w wr) (fun i _=>n3-(intOf i).toNat)
  case atStart=>exact⟨0,_,[],by omega,rfl,HF.out,tr_nil _ _ _ _,HO2.out,HLK.out,HB.out⟩
  case round =>
   obtain⟨j,u3,vs,hk,rfl,hF,hTR,hO,hLk,hB⟩:=hrel;clear HF HO2 HLK HB HLT p0 p1 p2 p3 hlt0 hltB;obtain⟨a7,m7,c7,rfl⟩:∃b1 m1 d1,u3=.slice b1 m1 d1:=by
    obtain⟨a,c,h⟩:=own_form hTR.ov;exact⟨a,_,c,h⟩
   have HB:Hid (Below w.heap.size w wr):=hB;have HF:Hid (FB wr w.heap.size S (.slice ao n cap) (.slice ao2 k cap2) (.slice ao3 n3 cap3) S (.slice b1 m1 d1) (.slice a5 m5 c5) (.slice a7 m7 c7)):=hF;have HO:Hid (wr.ownsRow (w.heap.size+1+1+1) 33 3 (.slice a5 m5 c5) Hs.length (cellsG hstE Hs)):=hO;have HLK:Hid (wr.ownsRow (w.heap.size+1+1+1) 78 4 (.slice b1 m1 d1) Ls.length (cellsG lnkE Ls)):=hLk;have HTR:Hid (TR 39 wr 0 (w.heap.size+1+1+1) (.slice a7 m7 c7) vs (Ts.take j)):=hTR;have hltB:=hF.lt;have HLT:Hid (w.heap.size+1+1<wr.heap.size):=hltB;clear hO hLk;by_cases hlt:j<n3
   ·obtain⟨g,og,hao,hc,_⟩:=HA3.out (by omega);subst hao;have hjl:j<Ts.length:=by rw[HN3.out];exact hlt
    obtain⟨a4,n4,c4,r0,hs⟩:=(hc.later hB) j hjl;have HSR:Hid (SR wr (.slice a4 n4 c4) Ts[j]):=hs;have HL12:Hid ([Ts[j]].flatten.length≤1000):=by
     have h:=HOK.out j hjl;rw[getT hjl] at h;show _≤_;simp only[List.flatten_cons,List.flatten_nil,List.append_nil];omega
    have HTK:Hid (Ts.take (j+1)=Ts.take j++[Ts[j]]):=List.take_succ_eq_append_getElem hjl;have kb0:(0:Int)≤(j:Int):=by omega
    have kb1:(j:Int)<(n3:Int):=by omega
    have q3:=hF.o.c.2.2.2;have f3:=hF.o.f 3;obtain⟨j1,hj,hy0,hy1,hy2⟩:=info_parts ta_info;have HI1:Hid (Tryz.prog.info? 39=some j1):=hj;have HI2:Hid (j1.zero=some (.slice none 0 0)):=hy0;have HI3:Hid (j1.size=1):=hy1;have HI4:Hid (j1.bytes=24):=hy2;have HVL:Hid (vs.length≤6):=by
     show _≤_;rw[hTR.lv,List.length_take];omega
    have HLV1:Hid (vs.length+1≤maxLen):=by
     have:=HVL.out;show _≤_;unfold maxLen;omega
    have HLV2:Hid ((vs.length+1)*24≤140737488355328):=by
     have:=HVL.out;show _≤_;omega
    have HKF:Hid (∀W,Below wr.heap.size wr W→FB W w.heap.size S (.slice ao n cap) (.slice ao2 k cap2) (.slice (some ⟨g,og,none⟩) n3 cap3) S (.slice b1 m1 d1) (.slice a5 m5 c5) (.slice a7 m7 c7)):=fun W hW=>HF.out.later hW
    have HKO:Hid (∀W,Below wr.heap.size wr W→W.ownsRow (w.heap.size+1+1+1) 39 1 (.slice a7 m7 c7) vs.length (cellsG slE vs)):=fun W hW=>own_below HTR.out.ov hW
    have HOB:Hid (∀b,(Value.slice a7 m7 c7).ownBlock=some b→w.heap.size+1+1+1≤b∧b<wr.heap.size):=fun b hb=>HTR.out.ov.lt b hb
    have HFIN:Hid (∀w' w2 v5 x,Below wr.heap.size wr w'→SR w' (slV x) Ts[j]→(∀b,b<wr.heap.size→offB x b)→w'.grownBy w2 (Value.slice a7 m7 c7).ownBlock→w2.ownsRow (w.heap.size+1+1+1) 39 1 v5 (vs++[x]).length (cellsG slE (vs++[x]))→(v5.ownBlock=(Value.slice a7 m7 c7).ownBlock∨v5.ownBlock=some w'.heap.size) →
     ∃(u3:Value) (vs:List SlT),FB (w2.setCell ⟨w.heap.size+1+1,3,none⟩ v5) w.heap.size S (.slice ao n cap) (.slice ao2 k cap2) (.slice (some ⟨g,og,none⟩) n3 cap3) S (.slice b1 m1 d1) (.slice a5 m5 c5) u3∧TR 39 (w2.setCell ⟨w.heap.size+1+1,3,none⟩ v5) 0 (w.heap.size+1+1+1) u3 vs (Ts.take (j+1))∧(w2.setCell ⟨w.heap.size+1+1,3,none⟩ v5).ownsRow (w.heap.size+1+1+1) 33 3 (.slice a5 m5 c5) Hs.length (cellsG hstE Hs)∧(w2.setCell ⟨w.heap.size+1+1,3,none⟩ v5).ownsRow (w.heap.size+1+1+1) 78 4 (.slice b1 m1 d1) Ls.length (cellsG lnkE Ls)∧Below w.heap.size w (w2.setCell ⟨w.heap.size+1+1,3,none⟩ v5)):=by
     intro w' w2 v5 x h1 hx hox h2 h3 h4;refine⟨v5,vs++[x],((HKF.out w' h1).grown h2 (fun b hb=>(HOB.out b hb).1)).set3 v5,?_,row_kept HO.out h1 h2 (own_apart HO.out HTR.out.ov (by decide)) (by omega),row_kept HLK.out h1 h2 (own_apart HLK.out HTR.out.ov (by decide)) (by omega),?_⟩
     ·have ht:=(HTR.out.later h1).push hx (fun b hb=>hox b (HOB.out b hb).2) (fun b _ hb=>hox b (by have:=HLT.out;omega)) h2 h3 h4;rw[HTK.out];exact ht.grown (grown_set w2 _ _ _) (Nat.zero_le _) (by omega)
     have hb2:Below w.heap.size w w':=HB.out.trans (h1.mono HB.out.size);exact (hb2.grown h2 hb2.size (fun b hb=>by have:=(HOB.out b hb).1;omega)).setCell (p:=⟨w.heap.size+1+1,3,none⟩) (show w.heap.size≤w.heap.size+1+1 by omega) _
    clear hc hB hF hj hy0 hy1 hy2 hs hTR;go_upto_region 12 with fail;clear r0
    go_region_law (first
     | ((refine step_append_blk (E:=slE) _ (by rfl) _ _ 26 39 (by rfl) Tryz.underlying26 j1 _ 24 HI1.out HI2.out HI3.out HI4.out (by rfl) (w.heap.size+1+1+1) (.slice a7 m7 c7) (by rfl) vs (HKO.out _ HBY.out) w'.heap.size 0 1 (by rfl) (a6,n6,c6) HVA.out HLV1.out HLV2.out ?_ ?_;(focus (have:=HBY.out.size;have:=HLT.out;omega));intro v5 w5 ho5 hg5 hb5;have HG:Hid _:=HFIN.out _ _ _ _ HBY.out HSX.out HOFF.out hg5 ho5 hb5;have z2:=((HKF.out _ HBY.out).grown hg5 (fun b hb=>(HOB.out b hb).1)).o.c.2.2.2;have zf2:=((HKF.out _ HBY.out).grown hg5 (fun b hb=>(HOB.out b hb).1)).o.f 3;obtain⟨a8,m8,c8,rfl⟩:∃b1 m1 d1,v5=Value.slice b1 m1 d1:=(by obtain⟨a,c,h⟩:=own_form ho5;exact⟨a,_,c,h⟩);clear ho5 hg5 hb5))
     | (go_simp;go_at_call 62;refine (concat_any _ 0 1 1 [Ts[j]] _ rfl (by omega) (pat1 39 (HSR.out.later (Below.drew (Below.refl _ _)))) HL12.out).mono ?_;rintro e w' ⟨u,rfl,hown,hb⟩;have HBX:Hid (Below wr.heap.size wr w'):=falloc hb;have hNR:NR w' wr.heap.size u Ts[j]:=(NR.of hown (by simp)).mono (by simp);obtain⟨⟨a6,n6,c6⟩,hx,hoff⟩:=hNR.sl;replace hx:u=Value.slice a6 n6 c6:=hx;subst hx;have HOFF:Hid (∀b,b<wr.heap.size→offB (a6,n6,c6) b):=hoff;have HBY:Hid (Below wr.heap.size wr (w'.alloc (Obj.cells #[.slice a6 n6 c6] 39))):=HBX.out.alloc HBX.out.size _;have HSX:Hid (SR (w'.alloc (Obj.cells #[.slice a6 n6 c6] 39)) (slV (a6,n6,c6)) Ts[j]):=hNR.sr.later ((Below.refl _ _).alloc (Nat.le_refl _) _);have HVA:Hid (VAt (w'.alloc (Obj.cells #[.slice a6 n6 c6] 39)) w'.heap.size 0 (slE.c (a6,n6,c6))):=vat_sl (by simp[slV]);have x2:=(HKF.out w' HBX.out).o.c.2.2.2;have xlt:=(HKF.out w' HBX.out).o.lt;clear hb hown hoff hNR;dsimp only))
    all_goals (clear q3 f3;go_wp2)
    all_goals go_roundw
    all_goals first
     | (simp[intOf];omega)
     | (obtain⟨u3,vs2,hG⟩:=HG.out;exact⟨j+1,u3,vs2,by omega,by go_num,hG⟩)
   obtain rfl:j=n3:=by omega
   have HTE:Hid (TR 39 wr 0 (w.heap.size+1+1+1) (.slice a7 m7 c7) vs Ts):=by
    have h:=HTR.out;rw[←HN3.out,List.take_length] at h;exact h
   obtain⟨q0,q1,q2,q3⟩:=hF.o.c;obtain⟨s0,s1,s2,s3⟩:=hF.r.c;have hlt1:=hF.r.lt;have f0:=hF.r.f 0;have f1:=hF.r.f 1;have f2:=hF.r.f 2;have f3:=hF.r.f 3;clear hF hTR hB;go_wp2;refine bodyPost_ret (v:=.agg #[.int .i64 S,.slice b1 m1 d1,.slice a5 m5 c5,.slice a7 m7 c7]) (by simp[results,Tryz.results36,go_sem, *]) rfl ?_;have hgp:=grown_put4 wr (w.heap.size+1) (.int .i64 S) (.slice b1 m1 d1) (.slice a5 m5 c5) (.slice a7 m7 c7);exact⟨_,_,_,_,_,_,_,_,_,vs,rfl,own_mono (HLK.out.kept hgp (.inr fun e=>by have:=(HLK.out.lt _ e).1;omega)) (by omega),own_mono (HO.out.kept hgp (.inr fun e=>by have:=(HO.out.lt _ e).1;omega)) (by omega),(HTE.out.grown hgp (Nat.zero_le _) (by omega)).mono (by omega),below_pn4 HB.out (w.heap.size+1) (by omega) _ _ _ _⟩
structure LB (W:World)(B:Nat)(S:Int)(v1 v2 v3:Value)(O:Nat)(u1 u2 u3:Value)(Ls:LkQ)(Hs:HoQ)(vs:List SlT)(Ts:List (List Ru)):Prop where
 ab:AB W B S v1 v2 v3
 o:NeBox W O S u1 u2 u3
 tr:TR 39 W 0 (B+2) u3 vs Ts
 ls:W.ownsRow (B+2) 78 4 u1 Ls.length (cellsG lnkE Ls)
 hs:W.ownsRow (B+2) 33 3 u2 Hs.length (cellsG hstE Hs)
 ro:u3.ownBlock≠some O
 bo:B+2≤O
theorem LB.later {W W':World}{B:Nat}{S:Int}{v1 v2 v3:Value}{O:Nat}{u1 u2 u3:Value}{Ls:LkQ}{Hs:HoQ}{vs:List SlT}{Ts:List (List Ru)}(h:LB W B S v1 v2 v3 O u1 u2 u3 Ls Hs vs Ts)(hb:Below W.heap.size W W'):LB W' B S v1 v2 v3 O u1 u2 u3 Ls Hs vs Ts:=
 ⟨h.ab.later hb,h.o.later hb,h.tr.later hb,own_below h.ls hb,own_below h.hs hb,h.ro,h.bo⟩
theorem LB.put {W:World}{B:Nat}{S:Int}{v1 v2 v3:Value}{O:Nat}{u1 u2:Value}{g n cap i:Nat}{Ls:LkQ}{Hs:HoQ}{vs:List SlT}{Ts:List (List Ru)}(h:LB W B S v1 v2 v3 O u1 u2 (.slice (some ⟨g,0,none⟩) n cap) Ls Hs vs Ts){x:SlT}{L:List Ru}(hx:SR W (slV x) L)(hox:offB x g)(hoz:∀b,b<B+2→offB x b):
 LB (W.setCell ⟨g,i,none⟩ (slV x)) B S v1 v2 v3 O u1 u2 (.slice (some ⟨g,0,none⟩) n cap) Ls Hs (vs.set i x) (Ts.set i L):=by
 have hg:=(h.tr.ov.lt g rfl).1;have hgs:=grown_set W g i (slV x);refine⟨h.ab.grown hgs (fun b hb=>by cases hb;exact hg),h.o.grown hgs (fun e=>h.ro e.symm),h.tr.put hx hox (fun b _ hb=>hoz b hb),h.ls.kept hgs ?_,h.hs.kept hgs ?_,h.ro,h.bo⟩
 ·exact own_apart h.ls h.tr.ov (by decide)
 exact own_apart h.hs h.tr.ov (by decide)
structure NA (W:World)(B:Nat)(v1 v2 v3:Value)(Ls:LkQ)(Hs:HoQ)(Ts:List (List Ru)):Prop where
 l:W.ownsRow B 78 4 v1 Ls.length (cellsG lnkE Ls)
 h:W.ownsRow B 33 3 v2 Hs.length (cellsG hstE Hs)
 t:∃vs,TR 39 W 0 B v3 vs Ts
theorem NA.nil (W:World)(B:Nat):NA W B (.slice none 0 0) (.slice none 0 0) (.slice none 0 0) [] [] []:=⟨World.ownsRow_nil _ _ _ _,World.ownsRow_nil _ _ _ _,[],tr_nil _ _ _ _⟩
theorem NA.gs {W:World}{B:Nat}{v1 v2 v3:Value}{Ls:LkQ}{Hs:HoQ}{Ts:List (List Ru)}(h:NA W B v1 v2 v3 Ls Hs Ts):GS lnkE W v1 Ls∧GS hstE W v2 Hs∧TS W v3 Ts:=by
 obtain⟨vs,ht⟩:=h.t;exact⟨own_GS (E:=lnkE) h.l,own_GS (E:=hstE) h.h,ht.ts⟩
theorem NA.put {W W':World}{B b:Nat}{v1 v2 v3:Value}{Ls:LkQ}{Hs:HoQ}{Ts:List (List Ru)}(h:NA W B v1 v2 v3 Ls Hs Ts)(hg:W.grownBy W' (some b))(hb:b<B):NA W' B v1 v2 v3 Ls Hs Ts:=by
 obtain⟨vs,ht⟩:=h.t;exact⟨h.l.kept hg (.inr fun e=>by have:=(h.l.lt _ e).1;omega),h.h.kept hg (.inr fun e=>by have:=(h.h.lt _ e).1;omega),vs,ht.grown hg (Nat.zero_le _) hb⟩
theorem chApply_own (S:Int)(ao:Option Addr)(n cap:Nat)(ao2:Option Addr)(n2 cap2:Nat)(ao3:Option Addr)(n3 cap3:Nat)(a4:Option Addr)(n4 c4:Nat)(Ls:LkQ)(Hs:HoQ)(Ts:List (List Ru))(l:List Op8)(w:World)
 (hL:GS lnkE w (.slice ao n cap) Ls) (hH:GS hstE w (.slice ao2 n2 cap2) Hs) (hT:TS w (.slice ao3 n3 cap3) Ts) (hl:GS opE w (.slice a4 n4 c4) l):
 Calls Tryz.prog 16 #[.agg #[.int .i64 S,.slice ao n cap,.slice ao2 n2 cap2,.slice ao3 n3 cap3],.slice a4 n4 c4] w fun e w'=>∃b1 k1 d1 b2 k2 d2 b3 k3 d3,e=.returned (.tuple #[.agg #[.int .i64 (nvS (cgN S Ls Hs Ts l) S),.slice b1 k1 d1,.slice b2 k2 d2,.slice b3 k3 d3],noV (cgN S Ls Hs Ts l)])∧NA w' w.heap.size (.slice b1 k1 d1) (.slice b2 k2 d2) (.slice b3 k3 d3) (nvL (cgN S Ls Hs Ts l) Ls) (nvL (cgN S Ls Hs Ts l) Hs) (nvL (cgN S Ls Hs Ts l) (caT Ts l))∧Below w.heap.size w w':=by
 have hb0:Below w.heap.size w ((w.alloc (Obj.cells #[.int .i64 S,.slice ao n cap,.slice ao2 n2 cap2,.slice ao3 n3 cap3] 28)).alloc (Obj.cells #[.int .i64 0,.slice none 0 0,.slice none 0 0,.slice none 0 0] 28)):=((Below.refl _ _).alloc (Nat.le_refl _) _).alloc (by simp) _;have HAB0:=ab_new w S (.slice ao n cap) (.slice ao2 n2 cap2) (.slice ao3 n3 cap3) 28;have HB0:Hid (Below w.heap.size w ((w.alloc (Obj.cells #[.int .i64 S,.slice ao n cap,.slice ao2 n2 cap2,.slice ao3 n3 cap3] 28)).alloc (Obj.cells #[.int .i64 0,.slice none 0 0,.slice none 0 0,.slice none 0 0] 28))):=hb0;obtain⟨_,_,_,e,hn,hn2,hn3,ha⟩:=hl.form;cases e;have HN:Hid (l.length=n4):=hn;have HA:Hid (0<n4→∃g o,a4=some ⟨g,o,none⟩∧GAt opE w g o l∧c4≤maxLen):=ha;have HLW:Hid (∀W,Below w.heap.size w W→GS lnkE W (.slice ao n cap) Ls∧GS hstE W (.slice ao2 n2 cap2) Hs∧TS W (.slice ao3 n3 cap3) Ts):=fun W h=>⟨hL.later h,hH.later h,hT.later h⟩
 have n63:n4≤9223372036854775807:=by unfold maxLen at hn2;omega
 obtain⟨X,hX⟩:∃X,X=cgN S Ls Hs Ts l:=⟨_,rfl⟩;have HX:Hid (X=cgN S Ls Hs Ts l):=hX;rw[←hX];clear hL hH hT hl hn hn2 ha hb0 hX;go_enter Tryz.func16,Tryz.ntmps16
 go_wp2_with fail
 refine (ncheck_any S ao n cap ao2 n2 cap2 ao3 n3 cap3 Ls Hs Ts _ (HLW.out _ HB0.out).1 (HLW.out _ HB0.out).2.1 (HLW.out _ HB0.out).2.2).mono ?_;rintro e w1 ⟨rfl,hb1⟩;obtain⟨C,hC⟩:∃C,C=ntN S Ls Hs Ts:=⟨_,rfl⟩;have HC:Hid (C=ntN S Ls Hs Ts):=hC;rw[←hC];have HB1:Hid (Below w.heap.size w w1):=HB0.out.trans (hb1.mono HB0.out.size);have HAB1:Hid (AB w1 w.heap.size S (.slice ao n cap) (.slice ao2 n2 cap2) (.slice ao3 n3 cap3)):=HAB0.later hb1;clear hC hb1 HAB0 HB0;obtain⟨q0,q1,q2,q3⟩:=HAB1.out.r;obtain⟨p0,p1,p2,p3⟩:=HAB1.out.n;have hlt1:=HAB1.out.lt;have hlt0:w.heap.size<w1.heap.size:=by omega
 have f0:=HAB1.out.f 0;have f1:=HAB1.out.f 1;have f2:=HAB1.out.f 2;have f3:=HAB1.out.f 3;by_cases hC0:C=0
 ·subst hC0;rw[no_ok rfl];by_cases h200:200<n4
  ·have HX4:Hid (X=4):=by
    show _=_;rw[HX.out,cgN,if_pos HC.out.symm,if_pos (by rw[HN.out];exact h200)]
   have e4:decide ((200:Int)<(n4:Int))=true:=by simp;omega
   go_wp2;refine bodyPost_ret (v:=.tuple #[.agg #[.int .i64 0,.slice none 0 0,.slice none 0 0,.slice none 0 0],.iface 63 (.int .i64 4)]) (by simp[results,Tryz.results16,go_sem, *]) rfl ?_;rw[HX4.out];exact⟨_,_,_,_,_,_,_,_,_,by rw[nvS,if_neg (by decide)];rfl,by rw[nvL,nvL,nvL,if_neg (by decide),if_neg (by decide),if_neg (by decide)];exact NA.nil _ _,below_pn4 HB1.out (w.heap.size+1) (by omega) _ _ _ _⟩
  have HXC:Hid (X=caN S Ts l):=by
   show _=_;rw[HX.out,cgN,if_pos HC.out.symm,if_neg (by rw[HN.out];exact h200)]
  have e4:decide ((200:Int)<(n4:Int))=false:=by simp;omega
  have HOK:Hid (tsOk Ts):=ok_ts (nt_0 HC.out.symm).2.2;have HSL:Hid ((Ts.length:Int)=S):=(nt_0 HC.out.symm).2.1;have hS6:1≤S∧S≤6:=(tp_0 (nt_0 HC.out.symm).1).1;clear h200
  go_wp2_with fail
  refine (fresh_any S ao n cap ao2 n2 cap2 ao3 n3 cap3 Ls Hs Ts w1 (HLW.out _ HB1.out).1 (HLW.out _ HB1.out).2.1 (HLW.out _ HB1.out).2.2 HC.out.symm).mono ?_;rintro e w2 ⟨b1,k1,d1,b2,k2,d2,b3,k3,d3,vs,rfl,ho1,ho2,hTR,hb2⟩;obtain⟨g,rfl,hk3⟩:∃g,b3=some ⟨g,0,none⟩∧k3=Ts.length:=by
   have hlv:=hTR.lv;have hts:=HSL.out
   rcases hTR.ov.2 with ⟨h,h0⟩ | ⟨g,cap',_,h,_⟩
   ·omega
   simp only[Value.slice.injEq] at h;exact⟨g,h.1,by omega⟩
  have HK3:Hid (k3=Ts.length):=hk3;have HKS:Hid ((k3:Int)=S):=by
   show _=_;rw[hk3];exact HSL.out
  have HO:Hid (w2.heap.size=w2.heap.size):=rfl;have hgl:=hTR.ov.lt g rfl;have HLB:Hid (LB (w2.alloc (Obj.cells #[.int .i64 S,.slice b1 k1 d1,.slice b2 k2 d2,.slice (some ⟨g,0,none⟩) k3 d3] 28)) w.heap.size S (.slice ao n cap) (.slice ao2 n2 cap2) (.slice ao3 n3 cap3) w2.heap.size (.slice b1 k1 d1) (.slice b2 k2 d2) (.slice (some ⟨g,0,none⟩) k3 d3) Ls Hs vs Ts):=by
   have hba:Below w2.heap.size w2 (w2.alloc (Obj.cells #[.int .i64 S,.slice b1 k1 d1,.slice b2 k2 d2,.slice (some ⟨g,0,none⟩) k3 d3] 28)):=(Below.refl _ _).alloc (Nat.le_refl _) _;exact⟨(HAB1.out.later hb2).later hba,nebox_new w2 S _ _ _ 28,(hTR.mono hlt1).later hba,own_below (own_mono ho1 hlt1) hba,own_below (own_mono ho2 hlt1) hba,fun e=>by have e2:some g=some w2.heap.size:=e;simp at e2;omega,Nat.le_trans hlt1 hb2.size⟩
  have HBL:Hid (Below w.heap.size w (w2.alloc (Obj.cells #[.int .i64 S,.slice b1 k1 d1,.slice b2 k2 d2,.slice (some ⟨g,0,none⟩) k3 d3] 28))):=(HB1.out.trans (hb2.mono HB1.out.size)).alloc (Nat.le_trans HB1.out.size hb2.size) _;have hlt2:w.heap.size+1<w2.heap.size:=Nat.lt_of_lt_of_le hlt1 hb2.size;clear ho1 ho2 hTR hb2 hgl HB1 HAB1 q0 q1 q2 q3 p0 p1 p2 p3 f0 f1 f2 f3 hk3 hlt0 hlt1
  generalize hO:w2.heap.size=O at *
  go_wp2
  go_loopw [27] (fun i wr=>∃(k:Nat) (vs:List SlT),k≤n4∧i=.int .i64 k∧caN S Ts (l.take k)=0∧LB wr w.heap.size S (.slice ao n cap) (.slice ao2 n2 cap2) (.slice ao3 n3 cap3) O (.slice b1 k1 d1) (.slice b2 k2 d2) (.slice (some ⟨g,0,none⟩) k3 d3) Ls Hs vs (caT Ts (l.take k))∧Below w.heap.size w wr) (fun i _=>n4-(intOf i).toNat)
  case atStart=>exact⟨0,vs,by omega,rfl,rfl,HLB.out,HBL.out⟩
  case round =>
   obtain⟨k,vs,hk,rfl,hca,hLB,hB⟩:=hrel;clear HLB HBL;have HB:Hid (Below w.heap.size w wr):=hB;have HCA:Hid (caN S Ts (l.take k)=0):=hca;obtain⟨Tk,hTk⟩:∃T,T=caT Ts (l.take k):=⟨_,rfl⟩;have HTK:Hid (Tk=caT Ts (l.take k)):=hTk;rw[←hTk] at hLB;have HLB:Hid (LB wr w.heap.size S (.slice ao n cap) (.slice ao2 n2 cap2) (.slice ao3 n3 cap3) O (.slice b1 k1 d1) (.slice b2 k2 d2) (.slice (some ⟨g,0,none⟩) k3 d3) Ls Hs vs Tk):=hLB;have HTkL:Hid (Tk.length=k3):=by
    show _=_;rw[hTk,ca_len,HK3.out]
   have HOKk:Hid (tsOk Tk):=by
    rw[hTk];exact ca_right HOK.out hca
   have hlt1:=hLB.ab.lt;have hlt0:w.heap.size<wr.heap.size:=by omega
   have hltO:O<wr.heap.size:=bLQ _ _ hLB.o.1;have hneO:O≠w.heap.size+1:=by have:=hLB.bo;omega
   obtain⟨o0,o1,o2,o3⟩:=hLB.o;obtain⟨q0,q1,q2,q3⟩:=hLB.ab.r;have f0:=hLB.ab.f 0;have f1:=hLB.ab.f 1;have f2:=hLB.ab.f 2;have f3:=hLB.ab.f 3;clear hca hTk hLB;by_cases hlt:k<n4
   ·obtain⟨gl,ol,hao,hc,_⟩:=HA.out (by omega);subst hao;obtain⟨y0,ya,p,m,b,q,s,v,hkl,hLk,r0,r1,r2,r3,r4,r5,r6,r7⟩:=op_at (hc.later hB) HN.out hlt;have HLK:Hid (l[k]=⟨y0,ya,⟨p,m,b,q,s,v⟩⟩):=hLk;have HCAT:Hid (caN S Ts l=caN S Tk (⟨y0,ya,⟨p,m,b,q,s,v⟩⟩ :: l.drop (k+1))):=by
     show _=_;rw[HTK.out,←hLk,ca_split hkl HCA.out]
    have kb0:(0:Int)≤(k:Int):=by omega
    have kb1:(k:Int)<(n4:Int):=by omega
    have HOB:=op_new wr y0 ya p m b q s v 83;have HBA:Hid (Below wr.heap.size wr (wr.alloc (Obj.cells #[.int .i64 y0,.bool ya,.int .i64 p,.int .i64 m,.int .i64 b,.int .i64 q,.int .i64 s,.int .i64 v] 83))):=(Below.refl _ _).alloc (Nat.le_refl _) _;clear hLk hB hc
    go_wp2_with fail
    refine (isSwitch_any S y0 _).mono ?_;rintro e wx ⟨rfl,hbx⟩;have HBr:Hid (Below wr.heap.size wr wx):=HBA.out.trans (hbx.mono HBA.out.size);have HBX:Hid (Below w.heap.size w wx):=HB.out.trans (HBr.out.mono HB.out.size);have HLX:Hid (LB wx w.heap.size S (.slice ao n cap) (.slice ao2 n2 cap2) (.slice ao3 n3 cap3) O (.slice b1 k1 d1) (.slice b2 k2 d2) (.slice (some ⟨g,0,none⟩) k3 d3) Ls Hs vs Tk):=HLB.out.later HBr.out;have HOX:Hid (VAt wx wr.heap.size 0 (opE.c ⟨y0,ya,⟨p,m,b,q,s,v⟩⟩)):=HOB.later hbx;have hltw:wr.heap.size<wx.heap.size:=bLQ _ _ (op_cells HOX.out).1;clear hbx HBA HOB q0 q1 q2 q3 f0 f1 f2 f3 o0 o1 o2 o3 r0 r1 r2 r3 r4 r5 r6 r7 HLB HB hlt0 hlt1 hltO;have hlt1:=HLX.out.ab.lt;have hlt0:w.heap.size<wx.heap.size:=by omega
    have hltO:O<wx.heap.size:=bLQ _ _ HLX.out.o.1;obtain⟨o0,o1,o2,o3⟩:=HLX.out.o;obtain⟨q0,q1,q2,q3⟩:=HLX.out.ab.r;have f0:=HLX.out.ab.f 0;have f1:=HLX.out.ab.f 1;have f2:=HLX.out.ab.f 2;have f3:=HLX.out.ab.f 3;cases hsw:swB S y0
    ·have HX1:Hid (X=1):=by
      show _=_;rw[HXC.out,HCAT.out,caN,hsw];rfl
     go_wp2;refine bodyPost_ret (v:=.tuple #[.agg #[.int .i64 0,.slice none 0 0,.slice none 0 0,.slice none 0 0],.iface 63 (.int .i64 1)]) (by simp[results,Tryz.results16,go_sem, *]) rfl ?_;rw[HX1.out];exact⟨_,_,_,_,_,_,_,_,_,by rw[nvS,if_neg (by decide)];rfl,by rw[nvL,nvL,nvL,if_neg (by decide),if_neg (by decide),if_neg (by decide)];exact NA.nil _ _,below_pn4 HBX.out (w.heap.size+1) (by omega) _ _ _ _⟩
    have hw:=sw_of.1 hsw;obtain⟨i,hi⟩:∃i:Nat,y0=(i:Int)+1:=⟨(y0-1).toNat,by omega⟩;have HI:Hid (y0=(i:Int)+1):=hi;have hiN:i<k3:=by have:=HKS.out;omega
    have iw:IntKind.i64.wrap (y0-1)=(i:Int):=by rw[IntKind.wrap_i64];omega
    have iw2:wrap64 (y0-1)=(i:Int):=by unfold wrap64;omega
    have ib0:(0:Int)≤(i:Int):=by omega
    have ib1:(i:Int)<(k3:Int):=by omega
    have HTA:Hid (taT Tk y0=Tk.getD i []):=by
     show _=_;rw[taT]
     congr 1
     omega
    have HXI:Hid (X=if doN (taT Tk y0) ya ⟨p,m,b,q,s,v⟩=0 then caN S (Tk.set i (doL (taT Tk y0) ya ⟨p,m,b,q,s,v⟩)) (l.drop (k+1)) else doN (taT Tk y0) ya ⟨p,m,b,q,s,v⟩):=by
     show _=_;have e7:(y0-1).toNat=i:=by have:=HI.out;omega
     rw[HXC.out,HCAT.out,caN,hsw,if_pos rfl,e7]
    obtain⟨x,hx1,hx2,hx3,hx0,hx4,hx5⟩:=HLX.out.tr.at (i:=i) (by rw[HTkL.out];exact hiN);clear hx0;obtain⟨a5,n5,c5⟩:=x;have HSR:Hid (SR wx (.slice a5 n5 c5) (taT Tk y0)):=by
     rw[HTA.out];exact hx2
    have hx1':wx.cell? ⟨g,i,none⟩=some (.slice a5 n5 c5):=hx1;have HDO:Hid (∀W,Below wx.heap.size wx W→Calls Tryz.prog 38 #[.slice a5 n5 c5,.bool ya,.agg #[.int .i64 p,.int .i64 m,.int .i64 b,.int .i64 q,.int .i64 s,.int .i64 v]] W fun e w'=>∃u,e=.returned (.tuple #[u,noV (doN (taT Tk y0) ya ⟨p,m,b,q,s,v⟩)])∧NR w' wx.heap.size u (doL (taT Tk y0) ya ⟨p,m,b,q,s,v⟩)∧Below wx.heap.size wx w'):=fun W hW=>by
     refine (do_own a5 n5 c5 ya p m b q s v _ W (HSR.out.later hW)).mono ?_;rintro e w' ⟨u,h1,h2,h3⟩;exact⟨u,h1,h2.mono hW.size,hW.trans (h3.mono hW.size)⟩
    have HMK:Hid (∀W,Below wx.heap.size wx W→Below wx.heap.size wx W∧W.cell? ⟨O,3,none⟩=some (.slice (some ⟨g,0,none⟩) k3 d3)∧W.cell? ⟨g,i,none⟩=some (.slice a5 n5 c5)∧W.cell? ⟨wr.heap.size,0,none⟩=some (.int .i64 y0)∧W.cell? ⟨wr.heap.size,1,none⟩=some (.bool ya)∧W.cell? ⟨wr.heap.size,2,none⟩=some (.int .i64 p)∧W.cell? ⟨wr.heap.size,3,none⟩=some (.int .i64 m)∧W.cell? ⟨wr.heap.size,4,none⟩=some (.int .i64 b)∧W.cell? ⟨wr.heap.size,5,none⟩=some (.int .i64 q)∧W.cell? ⟨wr.heap.size,6,none⟩=some (.int .i64 s)∧W.cell? ⟨wr.heap.size,7,none⟩=some (.int .i64 v)):=by
     intro W hW;obtain⟨c0,c1,c2,c3,c4,c5,c6,c7⟩:=op_cells (HOX.out.later hW);simp only[Nat.zero_add] at c0 c1 c2 c3 c4 c5 c6 c7;exact⟨hW,cell_later hW HLX.out.o.2.2.2,cell_later hW hx1',c0,c1,c2,c3,c4,c5,c6,c7⟩
    go_upto_region 12 with fail;clear q0 q1 q2 q3 f0 f1 f2 f3 o0 o1 o2 o3 hx1 hx2 hx3 hx4 hlt0 hlt1 hltO hsw hi hw
    go_cut [10,11,27] from 27 to 66 (fun t e ix w'=>ix=.int .i64 (k:Int)∧e=noV (doN (taT Tk y0) ya ⟨p,m,b,q,s,v⟩)∧NR w' wx.heap.size t (doL (taT Tk y0) ya ⟨p,m,b,q,s,v⟩)∧Below wx.heap.size wx w')
    case first =>
     go_region_held3 (fun W=>Below wx.heap.size wx W∧W.cell? ⟨O,3,none⟩=some (.slice (some ⟨g,0,none⟩) k3 d3)∧W.cell? ⟨g,i,none⟩=some (.slice a5 n5 c5)∧W.cell? ⟨wr.heap.size,0,none⟩=some (.int .i64 y0)∧W.cell? ⟨wr.heap.size,1,none⟩=some (.bool ya)∧W.cell? ⟨wr.heap.size,2,none⟩=some (.int .i64 p)∧W.cell? ⟨wr.heap.size,3,none⟩=some (.int .i64 m)∧W.cell? ⟨wr.heap.size,4,none⟩=some (.int .i64 b)∧W.cell? ⟨wr.heap.size,5,none⟩=some (.int .i64 q)∧W.cell? ⟨wr.heap.size,6,none⟩=some (.int .i64 s)∧W.cell? ⟨wr.heap.size,7,none⟩=some (.int .i64 v))
      (first | assumption | exact HMK.out _ (Below.drew (Below.refl _ _)) | exact HMK.out _ HBD.out)
      (first | (go_at_call 38;refine (HDO.out _ (by first | exact Below.drew (Below.refl _ _) | exact Below.refl _ _)).mono ?_;rintro e w' ⟨u,rfl,hG,hb⟩;have HBD:Hid (Below wx.heap.size wx w'):=hb;have HGD:Hid (NR w' wx.heap.size u (doL (taT Tk y0) ya ⟨p,m,b,q,s,v⟩)):=hG;clear hb hG))
     all_goals (go_wp2_with fail;go_meet)
     all_goals exact⟨rfl,rfl,HGD.out,HBD.out⟩
    case rest =>
     obtain⟨rfl,rfl,hG,hb3⟩:=hcut;have HB3:Hid (Below w.heap.size w wc):=HBX.out.trans (hb3.mono HBX.out.size);have HL3:Hid (LB wc w.heap.size S (.slice ao n cap) (.slice ao2 n2 cap2) (.slice ao3 n3 cap3) O (.slice b1 k1 d1) (.slice b2 k2 d2) (.slice (some ⟨g,0,none⟩) k3 d3) Ls Hs vs Tk):=HLX.out.later hb3;obtain⟨_,_,_,d0,d1_,d2_,d3_,d4,d5,d6,d7⟩:=HMK.out wc hb3;have hltw3:wr.heap.size<wc.heap.size:=bLQ _ _ d0;obtain⟨⟨a6,n6,c6⟩,hx,hoff⟩:=hG.sl
     replace hx:_=Value.slice a6 n6 c6:=hx
     subst hx;have HG3:Hid (SR wc (slV (a6,n6,c6)) (doL (taT Tk y0) ya ⟨p,m,b,q,s,v⟩)):=hG.sr;have HOFF:Hid (∀b,b<wx.heap.size→offB (a6,n6,c6) b):=hoff;obtain⟨D,hD⟩:∃c,c=doN (taT Tk y0) ya ⟨p,m,b,q,s,v⟩:=⟨_,rfl⟩;have HD:Hid (D=doN (taT Tk y0) ya ⟨p,m,b,q,s,v⟩):=hD;rw[←hD];have HWX:Hid (w.heap.size+2≤wx.heap.size):=HLX.out.ab.lt;clear hb3 hG hD hoff HMK HDO HLX HBX;have hlt1:=HL3.out.ab.lt;have hlt0:w.heap.size<wc.heap.size:=by omega
     have hltO:O<wc.heap.size:=bLQ _ _ HL3.out.o.1;obtain⟨o0,o1,o2,o3⟩:=HL3.out.o;obtain⟨q0,q1,q2,q3⟩:=HL3.out.ab.r;have f0:=HL3.out.ab.f 0;have f1:=HL3.out.ab.f 1;have f2:=HL3.out.ab.f 2;have f3:=HL3.out.ab.f 3;by_cases h0:D=0
     ·subst h0;rw[no_ok rfl];obtain⟨yx,hy1,hy2,hy3,hy0,hy4,hy5⟩:=HL3.out.tr.at (i:=i) (by rw[HTkL.out];exact hiN);clear hy0 hy2;have HL4:Hid (LB (wc.setCell ⟨g,i,none⟩ (.slice a6 n6 c6)) w.heap.size S (.slice ao n cap) (.slice ao2 n2 cap2) (.slice ao3 n3 cap3) O (.slice b1 k1 d1) (.slice b2 k2 d2) (.slice (some ⟨g,0,none⟩) k3 d3) Ls Hs (vs.set i (a6,n6,c6)) (caT Ts (l.take (k+1)))):=by
       have:=HL3.out.put (i:=i) (x:=(a6,n6,c6)) HG3.out (HOFF.out g hx5) (fun b h2=>HOFF.out b (by have:=HWX.out;omega));rw[(cs_take hkl HCA.out).2,←HTK.out,HLK.out,caT,caT];have e7:(y0-1).toNat=i:=by have:=HI.out;omega
       rw[e7];exact this
      have HCA4:Hid (caN S Ts (l.take (k+1))=0):=by
       show _=_;rw[(cs_take hkl HCA.out).1,←HTK.out,HLK.out,caN];show (if swB S y0=true then (if doN (taT Tk y0) ya ⟨p,m,b,q,s,v⟩=0 then _ else _) else _)=_;rw[if_pos (sw_of.2 ⟨by have:=HI.out;omega,by have:=HI.out;have:=HKS.out;omega⟩),←HD.out,if_pos rfl,caN]
      have HB4:Hid (Below w.heap.size w (wc.setCell ⟨g,i,none⟩ (.slice a6 n6 c6))):=HB3.out.setCell (p:=⟨g,i,none⟩) (show w.heap.size≤g by omega) _;go_wp2;go_roundw
      case rel=>exact⟨k+1,vs.set i (a6,n6,c6),by omega,by go_num,HCA4.out,HL4.out,HB4.out⟩
      case measure=>simp[intOf];omega
     have HNZ:Hid (D≠0):=h0;have HXD:Hid (X=D):=by
      show _=_;rw[HXI.out,←HD.out,if_neg h0]
     rw[no_ne h0];clear h0;go_wp2;refine bodyPost_ret (v:=.tuple #[.agg #[.int .i64 0,.slice none 0 0,.slice none 0 0,.slice none 0 0],.iface 63 (.int .i64 D)]) (by simp[results,Tryz.results16,go_sem, *]) rfl ?_;rw[HXD.out];exact⟨_,_,_,_,_,_,_,_,_,by rw[nvS,if_neg (HNZ.out),no_ne HNZ.out],by rw[nvL,nvL,nvL,if_neg (HNZ.out),if_neg (HNZ.out),if_neg (HNZ.out)];exact NA.nil _ _,below_pn4 HB3.out (w.heap.size+1) (by omega) _ _ _ _⟩
   obtain rfl:k=n4:=by omega
   have HX0:Hid (X=0):=by
    show _=_;have:=HCA.out;rw[←HN.out,List.take_length] at this;rw[HXC.out,this]
   have HTE:Hid (Tk=caT Ts l):=by
    show _=_;rw[HTK.out,←HN.out,List.take_length]
   clear hB;go_wp2;refine bodyPost_ret (v:=.tuple #[.agg #[.int .i64 S,.slice b1 k1 d1,.slice b2 k2 d2,.slice (some ⟨g,0,none⟩) k3 d3],.nilIface]) (by simp[results,Tryz.results16,go_sem, *]) rfl ?_;rw[HX0.out];have hgp:=grown_put4 wr (w.heap.size+1) (.int .i64 S) (.slice b1 k1 d1) (.slice b2 k2 d2) (.slice (some ⟨g,0,none⟩) k3 d3);have hBE:=below_pn4 HB.out (w.heap.size+1) (by omega) (.int .i64 S) (.slice b1 k1 d1) (.slice b2 k2 d2) (.slice (some ⟨g,0,none⟩) k3 d3);have hTE:=(HLB.out.tr.grown hgp (Nat.zero_le _) (by omega)).mono (B':=w.heap.size) (by omega);rw[HTE.out] at hTE;exact⟨_,_,_,_,_,_,_,_,_,rfl,⟨own_mono (HLB.out.ls.kept hgp (.inr fun e=>by have:=(HLB.out.ls.lt _ e).1;omega)) (by omega),own_mono (HLB.out.hs.kept hgp (.inr fun e=>by have:=(HLB.out.hs.lt _ e).1;omega)) (by omega),vs,hTE⟩,hBE⟩
 have HNZ:Hid (C≠0):=hC0;have HXC:Hid (X=C):=by
  show _=_;rw[HX.out,cgN,←HC.out,if_neg hC0]
 rw[no_ne hC0];clear hC0;go_wp2;refine bodyPost_ret (v:=.tuple #[.agg #[.int .i64 0,.slice none 0 0,.slice none 0 0,.slice none 0 0],.iface 63 (.int .i64 C)]) (by simp[results,Tryz.results16,go_sem, *]) rfl ?_;rw[HXC.out];exact⟨_,_,_,_,_,_,_,_,_,by rw[nvS,if_neg (HNZ.out),no_ne HNZ.out],by rw[nvL,nvL,nvL,if_neg (HNZ.out),if_neg (HNZ.out),if_neg (HNZ.out)];exact NA.nil _ _,below_pn4 HB1.out (w.heap.size+1) (by omega) _ _ _ _⟩
theorem chApply_any (S:Int)(ao:Option Addr)(n cap:Nat)(ao2:Option Addr)(n2 cap2:Nat)(ao3:Option Addr)(n3 cap3:Nat)(a4:Option Addr)(n4 c4:Nat)(Ls:LkQ)(Hs:HoQ)(Ts:List (List Ru))(l:List Op8)(w:World)
 (hL:GS lnkE w (.slice ao n cap) Ls) (hH:GS hstE w (.slice ao2 n2 cap2) Hs) (hT:TS w (.slice ao3 n3 cap3) Ts) (hl:GS opE w (.slice a4 n4 c4) l):
 Calls Tryz.prog 16 #[.agg #[.int .i64 S,.slice ao n cap,.slice ao2 n2 cap2,.slice ao3 n3 cap3],.slice a4 n4 c4] w fun e w'=>∃b1 k1 d1 b2 k2 d2 b3 k3 d3,e=.returned (.tuple #[.agg #[.int .i64 (nvS (cgN S Ls Hs Ts l) S),.slice b1 k1 d1,.slice b2 k2 d2,.slice b3 k3 d3],noV (cgN S Ls Hs Ts l)])∧GS lnkE w' (.slice b1 k1 d1) (nvL (cgN S Ls Hs Ts l) Ls)∧GS hstE w' (.slice b2 k2 d2) (nvL (cgN S Ls Hs Ts l) Hs)∧TS w' (.slice b3 k3 d3) (nvL (cgN S Ls Hs Ts l) (caT Ts l))∧Below w.heap.size w w':=
 (chApply_own S ao n cap ao2 n2 cap2 ao3 n3 cap3 a4 n4 c4 Ls Hs Ts l w hL hH hT hl).mono fun e w' ⟨b1,k1,d1,b2,k2,d2,b3,k3,d3,e1,e2,e3⟩=>⟨b1,k1,d1,b2,k2,d2,b3,k3,d3,e1,e2.gs.1,e2.gs.2.1,e2.gs.2.2,e3⟩
theorem GS.take {α:Type}{E:Enc α}{W:World}{ao:Option Addr}{n cap c:Nat}{L:List α}(h:GS E W (.slice ao n cap) L)(hc:c≤n):GS E W (.slice ao c cap) (L.take c):=by
 rcases h with ⟨ao',cap',e,rfl⟩ | ⟨g,o,cap',e,h1,h2,h3⟩
 ·simp only[Value.slice.injEq] at e;obtain⟨rfl,rfl,rfl⟩:=e;obtain rfl:c=0:=by omega
  exact .inl ⟨_,_,rfl,by simp⟩
 simp only[Value.slice.injEq] at e;obtain⟨rfl,rfl,rfl⟩:=e;have e1:(L.take c).length=c:=by rw[List.length_take];omega
 exact .inr ⟨g,o,cap,by rw[e1],by rw[e1];omega,h2,h3.take c⟩
theorem GS.drop {α:Type}{E:Enc α}{W:World}{g o n cap c:Nat}{L:List α}(h:GS E W (.slice (some ⟨g,o,none⟩) n cap) L)(hc:c≤n):GS E W (.slice (some ⟨g,o+c*E.n,none⟩) (n-c) (cap-c)) (L.drop c):=by
 rcases h with ⟨ao',cap',e,rfl⟩ | ⟨g',o',cap',e,h1,h2,h3⟩
 ·simp only[Value.slice.injEq] at e;obtain⟨rfl,rfl,rfl⟩:=e;obtain rfl:c=0:=by omega
  exact .inl ⟨_,_,rfl,by simp⟩
 simp only[Value.slice.injEq,Option.some.injEq,Addr.mk.injEq,and_true] at e;obtain⟨⟨rfl,rfl⟩,rfl,rfl⟩:=e;have e1:(L.drop c).length=L.length-c:=List.length_drop;exact .inr ⟨g,o+c*E.n,cap-c,by rw[e1],by rw[e1];omega,Nat.le_trans (Nat.sub_le _ _) h2,h3.drop c⟩
structure BN (W:World)(b:Nat)(S:Int)(v1 v2 v3:Value)(Ls:LkQ)(Hs:HoQ)(Ts:List (List Ru)):Prop where
 c:NeBox W b S v1 v2 v3
 l:GS lnkE W v1 Ls
 h:GS hstE W v2 Hs
 t:TS W v3 Ts
theorem BN.later {W W':World}{b:Nat}{S:Int}{v1 v2 v3:Value}{Ls:LkQ}{Hs:HoQ}{Ts:List (List Ru)}(h:BN W b S v1 v2 v3 Ls Hs Ts)(hb:Below W.heap.size W W'):BN W' b S v1 v2 v3 Ls Hs Ts:=⟨h.c.later hb,h.l.later hb,h.h.later hb,h.t.later hb⟩
theorem BN.lt {W:World}{b:Nat}{S:Int}{v1 v2 v3:Value}{Ls:LkQ}{Hs:HoQ}{Ts:List (List Ru)}(h:BN W b S v1 v2 v3 Ls Hs Ts):b<W.heap.size:=bLQ W ⟨b,0,none⟩ h.c.1
def PN (W:World)(p:Value)(S:Int)(Ls:LkQ)(Hs:HoQ)(Ts:List (List Ru)):Prop:=
 ∃b ao n cap ao2 n2 cap2 ao3 n3 cap3,p=.pointer (some ⟨b,0,none⟩)∧BN W b S (.slice ao n cap) (.slice ao2 n2 cap2) (.slice ao3 n3 cap3) Ls Hs Ts
theorem bn_new {w:World}{S:Int}{v1 v2 v3:Value}{Ls:LkQ}{Hs:HoQ}{Ts:List (List Ru)}(t:TypeId)(h1:GS lnkE w v1 Ls)(h2:GS hstE w v2 Hs)(h3:TS w v3 Ts):BN (w.alloc (Obj.cells #[.int .i64 S,v1,v2,v3] t)) w.heap.size S v1 v2 v3 Ls Hs Ts:=by
 have hb:Below w.heap.size w (w.alloc (Obj.cells #[.int .i64 S,v1,v2,v3] t)):=(Below.refl _ _).alloc (Nat.le_refl _) _;exact⟨nebox_new w S v1 v2 v3 t,h1.later hb,h2.later hb,h3.later hb⟩
theorem balloc4 {w w':World}{a b c d:Value}{t:TypeId}(hb:Below (w.drew.alloc (Obj.cells #[a,b,c,d] t)).heap.size (w.drew.alloc (Obj.cells #[a,b,c,d] t)) w'):(w'.cell? ⟨w.heap.size,0,none⟩=some a∧w'.cell? ⟨w.heap.size,1,none⟩=some b∧w'.cell? ⟨w.heap.size,2,none⟩=some c∧w'.cell? ⟨w.heap.size,3,none⟩=some d)∧∀i,w'.frozen? ⟨w.heap.size,i,none⟩=false:=by
 have h:=vat_new w.drew [a,b,c,d] t;have hl:w.heap.size<(w.drew.alloc (Obj.cells #[a,b,c,d] t)).heap.size:=by simp
 refine⟨⟨cell_later hb (h 0 _ rfl),cell_later hb (h 1 _ rfl),cell_later hb (h 2 _ rfl),cell_later hb (h 3 _ rfl)⟩,fun i=>(hb.frozen (p:=⟨w.heap.size,i,none⟩) hl).trans ?_⟩;have h2:=heap_alloc_new w.drew (Obj.cells #[a,b,c,d] t);have e:w.drew.heap.size=w.heap.size:=rfl;rw[e] at h2;simp only[World.frozen?,h2];simp
theorem put4_cells {W:World}{g:Nat}{a b c d u v x y:Value}(k:W.cell? ⟨g,0,none⟩=some u∧W.cell? ⟨g,1,none⟩=some v∧W.cell? ⟨g,2,none⟩=some x∧W.cell? ⟨g,3,none⟩=some y):(put4 W g a b c d).cell? ⟨g,0,none⟩=some a∧(put4 W g a b c d).cell? ⟨g,1,none⟩=some b∧(put4 W g a b c d).cell? ⟨g,2,none⟩=some c∧(put4 W g a b c d).cell? ⟨g,3,none⟩=some d:=by
 obtain⟨k0,k1,k2,k3⟩:=k;unfold put4;have o:∀(W:World) (i j:Nat) (x:Value),i≠j→(W.setCell ⟨g,i,none⟩ x).cell? ⟨g,j,none⟩=W.cell? ⟨g,j,none⟩:=fun W i j x h=>World.cell?_setCell_other _ _ _ _ (by intro e;exact h (by injection e))
 refine⟨?_,?_,?_,?_⟩
 ·rw[o _ _ _ _ (by decide),o _ _ _ _ (by decide),o _ _ _ _ (by decide)];exact World.cell?_setCell_same _ _ _ k0
 ·rw[o _ _ _ _ (by decide),o _ _ _ _ (by decide)];exact World.cell?_setCell_same _ _ _ (by rw[o _ _ _ _ (by decide)];exact k1)
 ·rw[o _ _ _ _ (by decide)];exact World.cell?_setCell_same _ _ _ (by rw[o _ _ _ _ (by decide),o _ _ _ _ (by decide)];exact k2)
 exact World.cell?_setCell_same _ _ _ (by rw[o _ _ _ _ (by decide),o _ _ _ _ (by decide),o _ _ _ _ (by decide)];exact k3)
theorem pn_new {W:World}{B:Nat}{S:Int}{a1:Option Addr}{k1 d1:Nat}{a2:Option Addr}{k2 d2:Nat}{a3:Option Addr}{k3 d3:Nat}{Ls:LkQ}{Hs:HoQ}{Ts:List (List Ru)}(t:TypeId)(h:NA W B (.slice a1 k1 d1) (.slice a2 k2 d2) (.slice a3 k3 d3) Ls Hs Ts):
 PN (W.alloc (Obj.cells #[.int .i64 S,.slice a1 k1 d1,.slice a2 k2 d2,.slice a3 k3 d3] t)) (.pointer (some ⟨W.heap.size,0,none⟩)) S Ls Hs Ts:=⟨_,_,_,_,_,_,_,_,_,_,rfl,bn_new t h.gs.1 h.gs.2.1 h.gs.2.2⟩
theorem pn_put {W:World}{B g:Nat}{S:Int}{a1:Option Addr}{k1 d1:Nat}{a2:Option Addr}{k2 d2:Nat}{a3:Option Addr}{k3 d3:Nat}{Ls:LkQ}{Hs:HoQ}{Ts:List (List Ru)}{x y z u:Value}(h:NA W B (.slice a1 k1 d1) (.slice a2 k2 d2) (.slice a3 k3 d3) Ls Hs Ts)(hg:g<B)(k:W.cell? ⟨g,0,none⟩=some u∧W.cell? ⟨g,1,none⟩=some x∧W.cell? ⟨g,2,none⟩=some y∧W.cell? ⟨g,3,none⟩=some z):
 PN (put4 W g (.int .i64 S) (.slice a1 k1 d1) (.slice a2 k2 d2) (.slice a3 k3 d3)) (.pointer (some ⟨g,0,none⟩)) S Ls Hs Ts:=by
 have h2:=(h.put (grown_put4 W g (.int .i64 S) (.slice a1 k1 d1) (.slice a2 k2 d2) (.slice a3 k3 d3)) hg).gs;exact⟨_,_,_,_,_,_,_,_,_,_,rfl,put4_cells k,h2.1,h2.2.1,h2.2.2⟩
def ZB (W:World)(g:Nat):Prop:=(W.cell? ⟨g,0,none⟩=some (.int .i64 0)∧W.cell? ⟨g,1,none⟩=some (.slice none 0 0)∧W.cell? ⟨g,2,none⟩=some (.slice none 0 0)∧W.cell? ⟨g,3,none⟩=some (.slice none 0 0))∧∀i,W.frozen? ⟨g,i,none⟩=false
theorem ZB.lt {W:World}{g:Nat}(h:ZB W g):g<W.heap.size:=bLQ W ⟨g,0,none⟩ h.1.1
theorem ZB.later {W W':World}{g:Nat}(h:ZB W g)(hb:Below W.heap.size W W'):ZB W' g:=⟨⟨cell_later hb h.1.1,cell_later hb h.1.2.1,cell_later hb h.1.2.2.1,cell_later hb h.1.2.2.2⟩,fun i=>(hb.frozen (p:=⟨g,i,none⟩) h.lt).trans (h.2 i)⟩
theorem zb_d {w w':World}{t:TypeId}(hb:Below (w.drew.alloc (Obj.cells #[.int .i64 0,.slice none 0 0,.slice none 0 0,.slice none 0 0] t)).heap.size (w.drew.alloc (Obj.cells #[.int .i64 0,.slice none 0 0,.slice none 0 0,.slice none 0 0] t)) w'):ZB w' w.heap.size:=balloc4 hb
theorem zb_a {w w':World}{t:TypeId}(hb:Below (w.alloc (Obj.cells #[.int .i64 0,.slice none 0 0,.slice none 0 0,.slice none 0 0] t)).heap.size (w.alloc (Obj.cells #[.int .i64 0,.slice none 0 0,.slice none 0 0,.slice none 0 0] t)) w'):ZB w' w.heap.size:=
 have h:=wb_new w 0 (.slice none 0 0) (.slice none 0 0) (.slice none 0 0) t
 ZB.later (W:=w.alloc (Obj.cells #[.int .i64 0,.slice none 0 0,.slice none 0 0,.slice none 0 0] t)) ⟨h.c,h.f⟩ hb
section
variable {Ls:LkQ}{Hs:HoQ}{Ts:List (List Ru)}
def atH (l:HpQ)(i:Nat):(Int×Int)×Int:=l.getD i zeH
def enE (Ls:LkQ)(Hs:HoQ)(Ts:List (List Ru))(l:HpQ)(p:(Int×Int)×Int):(Int×ByteArray) ⊕ ((Int×Int)×Int):=goE Ls Hs (taT Ts p.1.1) l p
theorem la_at (l:HpQ):laH l=atH l (l.length-1):=rfl
theorem at_app (l:HpQ)(p:(Int×Int)×Int):atH (l++[p]) l.length=p:=by simp[atH,List.getD]
theorem fo_s (n:Nat)(l:HpQ):foF Ls Hs Ts (n+1) l=match enE Ls Hs Ts l (laH l) with | .inl e=>(e.1,e.2,l) | .inr p=>foF Ls Hs Ts n (l++[p]):=rfl
end
def lnTo:Nat→LkQ
 | 0=>[]
 | k+1=>lnTo k++[(((k:Int)+1,2),((k:Int)+1+1,1))]
theorem ln_len (k:Nat):(lnTo k).length=k:=by
 induction k with
 | zero=>rfl
 | succ k ih=>simp[lnTo,ih]
def lnH (n:Int):HoQ:=[(⟨#[97]⟩,(1,3)),(⟨#[98]⟩,(n,4))]
theorem aph_fin:∀s v h:Fin 16,(bits .andNot .i64 ((v:Nat):Int) ((s:Nat):Int)==0)=true→hdrB (apV ((s:Nat):Int) ((v:Nat):Int) ((h:Nat):Int))=true:=by decide +kernel
theorem ap_hdr {p m b o s v h:Int}(hr:apN p m b o s v h=0):hdrB (apR p m b o s v h)=true:=by
 obtain⟨h1,h2,_,_⟩:=ap_yes hr;obtain⟨g1,_,g3⟩:=ru_ok h1;obtain⟨_,hs,hv⟩:=ru_in g1;obtain⟨s',rfl⟩:=small hs;obtain⟨v',rfl⟩:=small hv;obtain⟨h',rfl⟩:=small (hdr_of h2);simp only[ruSet,Bool.and_eq_true] at g3;rw[apR,if_pos hr];exact aph_fin s' v' h' g3.1
section
variable {S:Int}{Ls:LkQ}{Hs:HoQ}{Ts:List (List Ru)}
theorem st_hdr {p o:(Int×Int)×Int}(h:stO Ts p=some o):hdrB o.2=true∧o.1.1=p.1.1:=by
 unfold stO stT at h
 split at h
 ·split at h
  ·next hr =>
   cases h;exact⟨ap_hdr hr,rfl⟩
  cases h
 cases h
theorem peer_sp (ht:tpN S Ls Hs=0){s p:Int×Int}(h:peerO Ls s=some p):spB S p=true:=(tp_0 ht).2.2.1 p (peer_in h).2
end
structure Wi where
 k:Int
 f:ByteArray
 t:ByteArray
 v:Int
def zeW:Wi:=⟨0,ByteArray.empty,ByteArray.empty,0⟩
def abW (w:Wi)(n:ByteArray):Bool:=(w.k==4) || (w.f==n)
def thW (w:Wi)(F:Int×ByteArray×HpQ):Bool:=(F.1==1)&&(F.2.1==w.t)
def haW (v:Int)(l:HpQ):Bool:=l.any fun h=>h.1.1==v
def fiB (w:Wi)(n:ByteArray)(F:Int×ByteArray×HpQ):Bool:=
 if abW w n then (if w.k=1 then thW w F else if w.k=2 then !thW w F else if w.k=3 then (!thW w F || haW w.v F.2.2) else if w.k=4 then !(F.1==4) else true) else true
def wkB (k:Int):Bool:=decide (1≤k)&&decide (k≤4)
def viB (w:Wi)(S:Int):Bool:=(w.k != 3) || swB S w.v
def nlB (w:Wi):Bool:=(w.f==ByteArray.empty)&&(w.t==ByteArray.empty)
def hoB (Hs:HoQ)(n:ByteArray):Bool:=Hs.any fun h=>h.1==n
def veB (w:Wi):Bool:=(w.k != 3)&&(w.v != 0)
def woN (S:Int)(Hs:HoQ)(w:Wi):Int:=
 if !wkB w.k || (!viB w S || veB w) then 1 else if w.k=4 then (if nlB w then 0 else 3) else if hoB Hs w.f&&hoB Hs w.t then 0 else 5
def wsTo (S:Int)(Hs:HoQ)(l:List Wi):Nat→Int
 | 0=>0
 | k+1=>if wsTo S Hs l k=0 then woN S Hs (l.getD k zeW) else wsTo S Hs l k
def wsN (S:Int)(Ls:LkQ)(Hs:HoQ)(l:List Wi):Int:=
 if tpN S Ls Hs=0 then (if 8<l.length then 4 else wsTo S Hs l l.length) else tpN S Ls Hs
theorem ws_le {S:Int}{Hs:HoQ}{l:List Wi}{k:Nat}(h:wsTo S Hs l k≠0):∀{n:Nat},k≤n→wsTo S Hs l n=wsTo S Hs l k
 | 0,hn=>by
   obtain rfl:k=0:=by omega
   rfl
 | n+1,hn=>by
   by_cases e:k=n+1
   ·subst e;rfl
   have:=ws_le h (show k≤n by omega);rw[wsTo,if_neg (by rw[this];exact h),this]
theorem getW {l:List Wi}{k:Nat}(hk:k<l.length):l.getD k zeW=l[k]:=by simp[List.getD,hk]
section
variable (Ls:LkQ)(Hs:HoQ)(Ts:List (List Ru))
def brB (w:Wi)(x:ByteArray×(Int×Int))(h:Int):Bool := !fiB w x.1 (frF Ls Hs Ts x.2 h)
def brH (w:Wi)(x:ByteArray×(Int×Int)):Nat→Int
 | 0 => -1
 | k+1=>if brH w x k<0 then (if brB Ls Hs Ts w x (k:Int) then (k:Int) else -1) else brH w x k
def zeO:ByteArray×(Int×Int):=(ByteArray.empty,(0,0))
def brX (w:Wi)(Xs:HoQ):Nat→Option (Nat×Int)
 | 0=>none
 | k+1=>match brX w Xs k with
   | some x=>some x
   | none=>if 0≤brH Ls Hs Ts w (Xs.getD k zeO) 16 then some (k,brH Ls Hs Ts w (Xs.getD k zeO) 16) else none
def brW (l:List Wi)(Xs:HoQ):Nat→Option (Nat×Nat×Int)
 | 0=>none
 | k+1=>match brW l Xs k with
   | some x=>some x
   | none=>match brX Ls Hs Ts (l.getD k zeW) Xs Xs.length with
     | some p=>some (k,p.1,p.2)
     | none=>none
end
section
variable {Ls:LkQ}{Hs:HoQ}{Ts:List (List Ru)}
theorem brH_le {w:Wi}{x:ByteArray×(Int×Int)}{k:Nat}(h:0≤brH Ls Hs Ts w x k):∀{n:Nat},k≤n→brH Ls Hs Ts w x n=brH Ls Hs Ts w x k
 | 0,hn=>by
   obtain rfl:k=0:=by omega
   rfl
 | n+1,hn=>by
   by_cases e:k=n+1
   ·subst e;rfl
   have:=brH_le h (show k≤n by omega);rw[brH,if_neg (by rw[this];omega),this]
theorem brH_no {w:Wi}{x:ByteArray×(Int×Int)}{k:Nat}(h:brH Ls Hs Ts w x k<0)(h2:brB Ls Hs Ts w x (k:Int)=false):brH Ls Hs Ts w x (k+1)<0:=by
 rw[brH,if_pos h,h2];simp
theorem brH_yes {w:Wi}{x:ByteArray×(Int×Int)}{k:Nat}(hk:k<16)(h:brH Ls Hs Ts w x k<0)(h2:brB Ls Hs Ts w x (k:Int)=true):brH Ls Hs Ts w x 16=k:=by
 have e:brH Ls Hs Ts w x (k+1)=k:=by
  rw[brH,if_pos h,h2];simp
 rw[brH_le (k:=k+1) (by rw[e];omega) (by omega),e]
variable {Xs:HoQ}
theorem brX_le {w:Wi}{k:Nat}{p:Nat×Int}(h:brX Ls Hs Ts w Xs k=some p):∀{n:Nat},k≤n→brX Ls Hs Ts w Xs n=some p
 | 0,hn=>by
   obtain rfl:k=0:=by omega
   exact h
 | n+1,hn=>by
   by_cases e:k=n+1
   ·subst e;exact h
   rw[brX,brX_le h (show k≤n by omega)]
theorem getO {Xs:HoQ}{k:Nat}(hk:k<Xs.length):Xs.getD k zeO=Xs[k]:=by simp[List.getD,hk]
theorem brX_yes {w:Wi}{k:Nat}(hk:k<Xs.length)(h:brX Ls Hs Ts w Xs k=none)(h2:0≤brH Ls Hs Ts w Xs[k] 16):brX Ls Hs Ts w Xs Xs.length=some (k,brH Ls Hs Ts w Xs[k] 16):=by
 refine brX_le (k:=k+1) ?_ (by omega);rw[brX,h];simp only;rw[getO hk,if_pos h2]
variable {l:List Wi}
theorem brW_le {k:Nat}{p:Nat×Nat×Int}(h:brW Ls Hs Ts l Xs k=some p):∀{n:Nat},k≤n→brW Ls Hs Ts l Xs n=some p
 | 0,hn=>by
   obtain rfl:k=0:=by omega
   exact h
 | n+1,hn=>by
   by_cases e:k=n+1
   ·subst e;exact h
   rw[brW,brW_le h (show k≤n by omega)]
theorem brW_yes {k:Nat}(hk:k<l.length)(h:brW Ls Hs Ts l Xs k=none){p:Nat×Int}(h2:brX Ls Hs Ts l[k] Xs Xs.length=some p):brW Ls Hs Ts l Xs l.length=some (k,p.1,p.2):=by
 refine brW_le (k:=k+1) ?_ (by omega);rw[brW,h];simp only;rw[getW hk,h2]
end
def prV (Hs:HoQ):Option (Nat×Nat×Int)→Int×ByteArray×Int
 | none=>(0,ByteArray.empty,0)
 | some p=>((p.1:Int),(Hs.getD p.2.1 zeO).1,p.2.2)
def wiN (S:Int)(Ls:LkQ)(Hs:HoQ)(Ts:List (List Ru))(l:List Wi):Int:=
 if ntN S Ls Hs Ts=0 then (if wsN S Ls Hs l=0 then (if (brW Ls Hs Ts l Hs l.length).isSome then 9 else 0) else wsN S Ls Hs l) else ntN S Ls Hs Ts
def wiV (S:Int)(Ls:LkQ)(Hs:HoQ)(Ts:List (List Ru))(l:List Wi):Int×ByteArray×Int:=
 if ntN S Ls Hs Ts=0∧wsN S Ls Hs l=0 then prV Hs (brW Ls Hs Ts l Hs l.length) else (0,ByteArray.empty,0)
end
section
open Go.ChangeShapes Go.WideShapes Go.ChangeAt Go.RowKit Go.Joins
def wisE:Enc (Wi) where
 c:=fun x=>[.int .i64 x.k,.string x.f,.string x.t,.int .i64 x.v]
 n:=4
 len:=fun _=>rfl
 pos:=by decide
 one:=by
  intro x u hu;simp at hu
  rcases hu with rfl | rfl | rfl | rfl <;> rfl
theorem wis_cells {w:World}{g o:Nat}{x0:Int}{x1 x2:ByteArray}{x3:Int}(h:VAt w g o (wisE.c ⟨x0,x1,x2,x3⟩)):w.cell? ⟨g,o,none⟩=some (.int .i64 x0)∧w.cell? ⟨g,o+1,none⟩=some (.string x1)∧w.cell? ⟨g,o+2,none⟩=some (.string x2)∧w.cell? ⟨g,o+3,none⟩=some (.int .i64 x3):=
 ⟨h 0 _ rfl,h 1 _ rfl,h 2 _ rfl,h 3 _ rfl⟩
theorem wis_at {w:World}{g o:Nat}{L:List (Wi)}(h:GAt wisE w g o L){n k:Nat}(hn:L.length=n)(hk:k<n):
 ∃(x0:Int) (x1:ByteArray) (x2:ByteArray) (x3:Int) (hl:k<L.length),L[k]=⟨x0,x1,x2,x3⟩∧w.cell? ⟨g,o+k*4,none⟩=some (.int .i64 x0)∧w.cell? ⟨g,o+k*4+1,none⟩=some (.string x1)∧w.cell? ⟨g,o+k*4+2,none⟩=some (.string x2)∧w.cell? ⟨g,o+k*4+3,none⟩=some (.int .i64 x3):=
 have hl:k<L.length:=by omega
 ⟨_,_,_,_,hl,rfl,wis_cells (h k hl)⟩
end
section
open Go.RowKit
def hstAsks (w:World)(f:FuncId)(c:Value)(P:ByteArray×(Int×Int)→Bool):Prop:=
 ∀(x0:ByteArray) (x1:Int) (x2:Int) (W:World),Below w.heap.size w W→Calls Tryz.prog f #[.agg #[.string x0,.int .i64 x1,.int .i64 x2],c] W fun e w'=>e=.returned (.bool (P (x0,(x1,x2))))∧Below W.heap.size W w'
theorem hstAsks.later {w w':World}{f:FuncId}{c:Value}{P:ByteArray×(Int×Int)→Bool}(h:hstAsks w f c P)(hb:Below w.heap.size w w'):hstAsks w' f c P:=
 fun x0 x1 x2 W hW=>h x0 x1 x2 W (hb.trans (hW.mono hb.size))
theorem hst_idxF (ao:Option Addr)(n cap:Nat)(f:FuncId)(c:Value)(P:ByteArray×(Int×Int)→Bool)(L:HoQ)(w:World)(hn:L.length=n)(hn2:n≤maxLen)(ha:0<n→∃g o,ao=some ⟨g,o,none⟩∧GAt hstE w g o L∧cap≤maxLen)(he:∀args w,(callFunc f args).run Tryz.prog w=.ok (.enter f args) w)(hf:hstAsks w f c P):
 Calls Tryz.prog 87 #[.slice ao n cap,.func (Fn.func f) #[] #[c]] w fun e w'=>e=.returned (.int .i64 (ixG P L))∧Below w.heap.size w w':=by
 have HN:Hid (L.length=n):=hn;have HF:Hid (hstAsks w f c P):=hf;have HA:Hid (0<n→∃g o,ao=some ⟨g,o,none⟩∧GAt hstE w g o L∧cap≤maxLen):=ha;unfold maxLen at hn2;clear hn hf ha;go_enter Tryz.func87,Tryz.ntmps87;go_wp2
 go_loopw [8] (fun i wr=>∃k:Nat,k≤n∧i=.int .i64 k∧(L.take k).any P=false∧Below w.heap.size w wr)
  (fun i _=>n-(intOf i).toNat)
 case atStart=>exact⟨0,by omega,rfl,by simp,Below.refl _ _⟩
 case round =>
  obtain⟨k,hk,rfl,hno,hB⟩:=hrel;have HB:Hid (Below w.heap.size w wr):=hB;have HNO:Hid ((L.take k).any P=false):=hno;clear hno;by_cases hlt:k<n
  ·obtain⟨g,o,hao,hc,_⟩:=HA.out (by omega);subst hao;obtain⟨x0,x1,x2,hkl,hL,q0,q1,q2⟩:=hst_at (hc.later hB) HN.out hlt;have HL:Hid (L[k]=(x0,(x1,x2))):=hL;clear hL hB;cases ho:P (x0,(x1,x2))
   ·go_wp2_with fail
    refine (HF.out x0 x1 x2 _ HB.out).mono ?_;rintro e w1 ⟨rfl,hb1⟩;rw[ho];have HB1:=HB.out.trans (hb1.mono HB.out.size);clear hb1;go_wp2;go_roundw
    case rel=>exact⟨k+1,by omega,by go_num,any_nextG hkl HNO.out (by rw[HL.out];exact ho),HB1⟩
    case measure=>simp[intOf];omega
   go_wp2_with fail
   refine (HF.out x0 x1 x2 _ HB.out).mono ?_;rintro e w1 ⟨rfl,hb1⟩;rw[ho];go_wp2;go_ret;exact⟨by rw[ixG_hit hkl HNO.out (by rw[HL.out];exact ho)];rfl,HB.out.trans (hb1.mono HB.out.size)⟩
  obtain rfl:k=n:=by omega
  go_wp2;go_ret;exact⟨by have:=HNO.out;rw[←HN.out,List.take_length] at this;rw[ixG_no this];rfl,HB.out⟩
theorem hst_hasF (ao:Option Addr)(n cap:Nat)(f:FuncId)(c:Value)(P:ByteArray×(Int×Int)→Bool)(L:HoQ)(w:World)(hn:L.length=n)(hn2:n≤maxLen)(ha:0<n→∃g o,ao=some ⟨g,o,none⟩∧GAt hstE w g o L∧cap≤maxLen)(he:∀args w,(callFunc f args).run Tryz.prog w=.ok (.enter f args) w)(hf:hstAsks w f c P):
 Calls Tryz.prog 101 #[.slice ao n cap,.func (Fn.func f) #[] #[c]] w fun e w'=>e=.returned (.bool (L.any P))∧Below w.heap.size w w':=by
 rw[←ixG_any];obtain⟨x,hx⟩:∃x,x=ixG P L:=⟨_,rfl⟩;have HX:Hid (x=ixG P L):=hx;rw[←hx];clear hx;go_enter Tryz.func101,Tryz.ntmps101
 go_wp2_with fail
 refine (hst_idxF ao n cap f c P L _ hn hn2 ha he hf).mono ?_;rintro e w1 ⟨rfl,hb1⟩;rw[←HX.out];go_wp2;go_ret;exact⟨rfl,hb1⟩
theorem emp_lst (s:ByteArray):s.toList.isEmpty=(s==ByteArray.empty):=by
 have e:ByteArray.empty.toList=[]:=by rw[Lib.toList_data];rfl
 rw[beq_toListBytes,e];cases h:s.toList with
 | nil=>rfl
 | cons a l=>rfl
def WiBox (W:World)(g:Nat)(k:Int)(f t:ByteArray)(v:Int):Prop:=W.cell? ⟨g,0,none⟩=some (.int .i64 k)∧W.cell? ⟨g,1,none⟩=some (.string f)∧W.cell? ⟨g,2,none⟩=some (.string t)∧W.cell? ⟨g,3,none⟩=some (.int .i64 v)
theorem wibox_new (w:World)(k:Int)(f t:ByteArray)(v:Int)(T:TypeId):WiBox (w.alloc (Obj.cells #[.int .i64 k,.string f,.string t,.int .i64 v] T)) w.heap.size k f t v:=by
 refine⟨?_,?_,?_,?_⟩ <;> simp
theorem WiBox.later {W W':World}{g:Nat}{k:Int}{f t:ByteArray}{v:Int}(h:WiBox W g k f t v)(hb:Below W.heap.size W W'):WiBox W' g k f t v:=
 ⟨cell_later hb h.1,cell_later hb h.2.1,cell_later hb h.2.2.1,cell_later hb h.2.2.2⟩
theorem WiBox.lt {W:World}{g:Nat}{k:Int}{f t:ByteArray}{v:Int}(h:WiBox W g k f t v):g<W.heap.size:=bLQ _ _ h.1
theorem isWhat_any (k:Int)(w:World):
 Calls Tryz.prog 75 #[.int .i64 k] w fun e w'=>e=.returned (.bool (wkB k))∧Below w.heap.size w w':=by
 by_cases h1:1≤k
 ·by_cases h2:k≤4
  ·have e:wkB k=true:=by simp[wkB,h1,h2]
   rw[e];clear e;go_enter Tryz.func75,Tryz.ntmps75;go_wp2;go_ret;exact⟨rfl,Below.refl _ _⟩
  have e:wkB k=false:=by simp[wkB,h2]
  rw[e];clear e;go_enter Tryz.func75,Tryz.ntmps75;go_wp2;go_ret;exact⟨rfl,Below.refl _ _⟩
 have e:wkB k=false:=by simp[wkB,h1]
 rw[e];clear e;go_enter Tryz.func75,Tryz.ntmps75;go_wp2;go_ret;exact⟨rfl,Below.refl _ _⟩
theorem isAbout_any (k:Int)(f t:ByteArray)(v:Int)(m:ByteArray)(w:World):
 Calls Tryz.prog 51 #[.agg #[.int .i64 k,.string f,.string t,.int .i64 v],.string m] w fun e w'=>e=.returned (.bool (abW ⟨k,f,t,v⟩ m))∧Below w.heap.size w w':=by
 have HB0:Hid (Below w.heap.size w (w.alloc (Obj.cells #[.int .i64 k,Value.string f,Value.string t,.int .i64 v] 125))):=(Below.refl _ _).alloc (Nat.le_refl _) _;by_cases h:k=4
 ·subst h;rw[show abW ⟨4,f,t,v⟩ m=true from rfl];go_enter Tryz.func51,Tryz.ntmps51;go_wp2;go_ret;exact⟨rfl,HB0.out⟩
 have e:abW ⟨k,f,t,v⟩ m=(k==4 || f.toList==m.toList):=by rw[abW,←beq_toListBytes]
 rw[e];clear e;go_enter Tryz.func51,Tryz.ntmps51;go_wp2;go_ret;exact⟨rfl,HB0.out⟩
theorem isNameless_any (k:Int)(f t:ByteArray)(v:Int)(w:World):
 Calls Tryz.prog 77 #[.agg #[.int .i64 k,.string f,.string t,.int .i64 v]] w fun e w'=>e=.returned (.bool (nlB ⟨k,f,t,v⟩))∧Below w.heap.size w w':=by
 have HB0:Hid (Below w.heap.size w (w.alloc (Obj.cells #[.int .i64 k,Value.string f,Value.string t,.int .i64 v] 125))):=(Below.refl _ _).alloc (Nat.le_refl _) _;cases hf:(f==ByteArray.empty)
 ·have e:nlB ⟨k,f,t,v⟩=false:=by simp[nlB,hf]
  rw[e];rw[←emp_lst] at hf;clear e;go_enter Tryz.func77,Tryz.ntmps77;go_wp2;go_ret;exact⟨rfl,HB0.out⟩
 have e:nlB ⟨k,f,t,v⟩=t.toList.isEmpty:=by simp[nlB,hf,emp_lst]
 rw[e];rw[←emp_lst] at hf;clear e;cases ht:t.toList.isEmpty
 ·go_enter Tryz.func77,Tryz.ntmps77;go_wp2;go_ret;exact⟨rfl,HB0.out⟩
 go_enter Tryz.func77,Tryz.ntmps77;go_wp2;go_ret;exact⟨rfl,HB0.out⟩
theorem isVia_any (k:Int)(f t:ByteArray)(v S:Int)(w:World):
 Calls Tryz.prog 76 #[.agg #[.int .i64 k,.string f,.string t,.int .i64 v],.int .i64 S] w fun e w'=>e=.returned (.bool (viB ⟨k,f,t,v⟩ S))∧Below w.heap.size w w':=by
 have HB0:Hid (Below w.heap.size w (w.alloc (Obj.cells #[.int .i64 k,Value.string f,Value.string t,.int .i64 v] 125))):=(Below.refl _ _).alloc (Nat.le_refl _) _;by_cases h:k=3
 ·subst h;rw[show viB ⟨3,f,t,v⟩ S=swB S v from rfl];go_enter Tryz.func76,Tryz.ntmps76
  go_wp2_with fail
  refine (isSwitch_any S v _).mono ?_;rintro e w1 ⟨rfl,hb1⟩;go_wp2;go_ret;exact⟨rfl,HB0.out.trans (hb1.mono HB0.out.size)⟩
 have e:viB ⟨k,f,t,v⟩ S=true:=by simp[viB,h]
 rw[e];clear e;go_enter Tryz.func76,Tryz.ntmps76;go_wp2;go_ret;exact⟨rfl,HB0.out⟩
theorem isHost1_any (n:ByteArray)(x0 x1:Int)(B:Nat)(m:ByteArray)(w:World)(h0:w.cell? ⟨B,0,none⟩=some (.string m)):
 Calls Tryz.prog 102 #[.agg #[.string n,.int .i64 x0,.int .i64 x1],.pointer (some ⟨B,0,none⟩)] w fun e w'=>e=.returned (.bool (n==m))∧Below w.heap.size w w':=by
 have hlt:B<w.heap.size:=bLQ _ _ h0;have HB0:Hid (Below w.heap.size w (w.alloc (Obj.cells #[Value.string n,.int .i64 x0,.int .i64 x1] 33))):=(Below.refl _ _).alloc (Nat.le_refl _) _;rw[beq_toListBytes];go_enter Tryz.func102,Tryz.ntmps102;go_wp2;go_ret;exact⟨rfl,HB0.out⟩
theorem isHost1_asks (B:Nat)(m:ByteArray)(w:World)(h0:w.cell? ⟨B,0,none⟩=some (.string m)):hstAsks w 102 (.pointer (some ⟨B,0,none⟩)) (fun h=>h.1==m):=
 fun n x0 x1 W hW=>isHost1_any n x0 x1 B m W (cell_later hW h0)
theorem isHost_any (S:Int)(v1:Value)(ao2:Option Addr)(n2 cap2:Nat)(Hs:HoQ)(m:ByteArray)(w:World)(hv1:v1.oneCell'=true)(hH:GS hstE w (.slice ao2 n2 cap2) Hs):
 Calls Tryz.prog 78 #[.agg #[.int .i64 S,v1,.slice ao2 n2 cap2],.string m] w fun e w'=>e=.returned (.bool (hoB Hs m))∧Below w.heap.size w w':=by
 have e1:(w.alloc (Obj.cells #[.int .i64 S,v1,.slice ao2 n2 cap2] 25)).heap.size=w.heap.size+1:=by simp
 have hb1:Below w.heap.size w (w.alloc (Obj.cells #[.int .i64 S,v1,.slice ao2 n2 cap2] 25)):=(Below.refl _ _).alloc (Nat.le_refl _) _;have ht:=tbox_new w S v1 (.slice ao2 n2 cap2) 25;obtain⟨w0,hw0⟩:∃W,W=w.alloc (Obj.cells #[.int .i64 S,v1,.slice ao2 n2 cap2] 25):=⟨_,rfl⟩;rw[←hw0] at e1 hb1 ht;have hb2:Below w0.heap.size w0 (w0.alloc (Obj.cells #[.string m] 9)):=(Below.refl _ _).alloc (Nat.le_refl _) _;have hm:=vat_new w0 [.string m] 9;have ht2:=ht.later hb2;have hB2:=hb1.trans (hb2.mono hb1.size);obtain⟨w2,hw2⟩:∃W,W=w0.alloc (Obj.cells #[.string m] 9):=⟨_,rfl⟩;have hm2:VAt w2 w0.heap.size 0 [.string m]:=by rw[hw2];exact hm
 rw[←hw2] at ht2 hB2;rw[e1] at hm2;have m0:w2.cell? ⟨w.heap.size+1,0,none⟩=some (.string m):=hm2 0 _ rfl;obtain⟨b0,b1,b2⟩:=ht2;have HW:Hid ((w.alloc (Obj.cells #[.int .i64 S,v1,.slice ao2 n2 cap2] 25)).alloc (Obj.cells #[.string m] 9)=w2):=by
  show _=_;rw[hw2,hw0]
 have HB2:Hid (Below w.heap.size w w2):=hB2;obtain⟨_,_,_,eH,hHn,hHm,_,hHa⟩:=hH.form;cases eH;have HHN:Hid (Hs.length=n2):=hHn;have HHM:Hid (n2≤maxLen):=hHm;have HHA:Hid (0<n2→∃g o,ao2=some ⟨g,o,none⟩∧GAt hstE w2 g o Hs∧cap2≤maxLen):=fun h=>by
  obtain⟨g,o,k1,k2,k3⟩:=hHa h;exact⟨g,o,k1,k2.later hB2,k3⟩
 have HM0:Hid (w2.cell? ⟨w.heap.size+1,0,none⟩=some (.string m)):=m0;clear hb1 ht hw0 hb2 hm hw2 hm2 hB2 hHn hHm hHa hH e1 m0;go_enter Tryz.func78,Tryz.ntmps78;go_upto_region 1 with fail;rw[HW.out];clear HW
 go_wp2_with fail
 refine (hst_hasF ao2 n2 cap2 _ _ (fun h=>h.1==m) Hs _ HHN.out HHM.out HHA.out (enters_of Tryz.func102 (by kernel_rfl) rfl) (isHost1_asks _ m _ HM0.out)).mono ?_;rintro e w3 ⟨rfl,hb3⟩;rw[show (Hs.any fun h=>h.1==m)=hoB Hs m from rfl];go_wp2;go_ret;exact⟨rfl,HB2.out.trans (hb3.mono HB2.out.size)⟩
structure CBox (w W:World)(S:Int)(v1 v2:Value)(k:Int)(f t:ByteArray)(v:Int):Prop where
 below:Below w.heap.size w W
 b:TBox W w.heap.size S v1 v2
 x:WiBox W (w.heap.size+1) k f t v
theorem cbox_new (w:World)(S:Int)(v1 v2:Value)(k:Int)(f t:ByteArray)(v:Int):CBox w ((w.alloc (Obj.cells #[.int .i64 S,v1,v2] 25)).alloc (Obj.cells #[.int .i64 k,.string f,.string t,.int .i64 v] 125)) S v1 v2 k f t v:=by
 have e1:(w.alloc (Obj.cells #[.int .i64 S,v1,v2] 25)).heap.size=w.heap.size+1:=by simp
 have hb:∀(W:World) (o:Obj),Below W.heap.size W (W.alloc o):=fun W o=>(Below.refl _ _).alloc (Nat.le_refl _) _
 have hn:=(tbox_new w S v1 v2 25).later (hb _ (Obj.cells #[.int .i64 k,.string f,.string t,.int .i64 v] 125));have hB:=((Below.refl w.heap.size w).alloc (Nat.le_refl _) (Obj.cells #[.int .i64 S,v1,v2] 25)).alloc (by rw[e1];omega) (Obj.cells #[.int .i64 k,.string f,.string t,.int .i64 v] 125)
 generalize w.alloc (Obj.cells #[.int .i64 S,v1,v2] 25)=X at e1 hn hB
 have hr:=wibox_new X k f t v 125;rw[e1] at hr;exact⟨hB,hn,hr⟩
theorem CBox.later {w W W':World}{S:Int}{v1 v2:Value}{k:Int}{f t:ByteArray}{v:Int}(h:CBox w W S v1 v2 k f t v)(hb:Below W.heap.size W W'):CBox w W' S v1 v2 k f t v:=
 ⟨h.below.trans (hb.mono h.below.size),h.b.later hb,h.x.later hb⟩
theorem checkOne_any (S:Int)(ao:Option Addr)(n cap:Nat)(ao2:Option Addr)(n2 cap2:Nat)(Hs:HoQ)(k:Int)(f t:ByteArray)(v:Int)(w:World)(hH:GS hstE w (.slice ao2 n2 cap2) Hs):
 Calls Tryz.prog 47 #[.agg #[.int .i64 S,.slice ao n cap,.slice ao2 n2 cap2],.agg #[.int .i64 k,.string f,.string t,.int .i64 v]] w fun e w'=>e=.returned (noV (woN S Hs ⟨k,f,t,v⟩))∧Below w.heap.size w w':=by
 have hX:=cbox_new w S (.slice ao n cap) (.slice ao2 n2 cap2) k f t v;obtain⟨w0,hw0⟩:∃W,(w.alloc (Obj.cells #[.int .i64 S,.slice ao n cap,.slice ao2 n2 cap2] 25)).alloc (Obj.cells #[.int .i64 k,.string f,.string t,.int .i64 v] 125)=W:=⟨_,rfl⟩;rw[hw0] at hX;have HX:Hid (CBox w w0 S (.slice ao n cap) (.slice ao2 n2 cap2) k f t v):=hX;have HW0:Hid ((w.alloc (Obj.cells #[.int .i64 S,.slice ao n cap,.slice ao2 n2 cap2] 25)).alloc (Obj.cells #[.int .i64 k,.string f,.string t,.int .i64 v] 125)=w0):=hw0;have HH:Hid (∀W,Below w.heap.size w W→GS hstE W (.slice ao2 n2 cap2) Hs):=fun W hb=>hH.later hb
 obtain⟨R,hR⟩:∃R,R=woN S Hs ⟨k,f,t,v⟩:=⟨_,rfl⟩;rw[←hR];obtain⟨Q,hQ⟩:∃q,q=(!wkB k || (!viB ⟨k,f,t,v⟩ S || veB ⟨k,f,t,v⟩)):=⟨_,rfl⟩;have HR:Hid (R=if Q then 1 else if k=4 then (if nlB ⟨k,f,t,v⟩ then 0 else 3) else if hoB Hs f&&hoB Hs t then 0 else 5):=by
  show _=_;rw[hR,hQ];rfl
 have HQ:Hid ((!wkB k || (!viB ⟨k,f,t,v⟩ S || veB ⟨k,f,t,v⟩))=Q):=hQ.symm;clear hX hw0 hH hR hQ;go_enter Tryz.func47,Tryz.ntmps47;go_upto_region 1 with fail;rw[HW0.out];obtain⟨_,⟨b0,b1,b2⟩,x0,x1,x2,x3⟩:=HX.out;clear HW0
 go_cut [25] from 5 to 26 (fun c w'=>c=.bool Q∧Below w0.heap.size w0 w')
 case first =>
  go_wp2_with fail
  refine (isWhat_any k _).mono ?_;rintro e w1 ⟨rfl,hb1⟩;obtain⟨WK,hWK⟩:∃q,q=wkB k:=⟨_,rfl⟩;have HQ1:Hid ((!WK || (!viB ⟨k,f,t,v⟩ S || veB ⟨k,f,t,v⟩))=Q):=by
   show _=_;rw[hWK];exact HQ.out
  rw[←hWK];have HB1:Hid (Below w0.heap.size w0 w1):=hb1;have HX1:Hid (CBox w w1 S (.slice ao n cap) (.slice ao2 n2 cap2) k f t v):=HX.out.later hb1;clear hWK hb1 HQ b0 b1 b2 x0 x1 x2 x3;obtain⟨_,⟨b0,b1,b2⟩,x0,x1,x2,x3⟩:=HX1.out;cases WK with
  | false =>
    have hq:=HQ1.out;simp only[Bool.not_false,Bool.true_or] at hq;subst hq
    go_wp2_with fail
    go_meet
    exact⟨rfl,HB1.out⟩
  | true =>
    go_wp2_with fail
    refine (isVia_any k f t v S _).mono ?_;rintro e w2 ⟨rfl,hb2⟩;obtain⟨VI,hVI⟩:∃q,q=viB ⟨k,f,t,v⟩ S:=⟨_,rfl⟩;have HQ2:Hid ((!VI || veB ⟨k,f,t,v⟩)=Q):=by
     show _=_;rw[hVI];have:=HQ1.out;simpa using this
    rw[←hVI];have HB2:Hid (Below w0.heap.size w0 w2):=HB1.out.trans (hb2.mono HB1.out.size);have HX2:Hid (CBox w w2 S (.slice ao n cap) (.slice ao2 n2 cap2) k f t v):=HX1.out.later hb2;clear hVI hb2 HQ1 b0 b1 b2 x0 x1 x2 x3;obtain⟨_,⟨b0,b1,b2⟩,x0,x1,x2,x3⟩:=HX2.out;cases VI with
    | false =>
      have hq:=HQ2.out;simp only[Bool.not_false,Bool.true_or] at hq;subst hq
      go_wp2_with fail
      go_meet
      exact⟨rfl,HB2.out⟩
    | true =>
      by_cases k3:k=3
      ·subst k3;have hq:false=Q:=HQ2.out;subst hq
       go_wp2_with fail
       go_meet
       exact⟨rfl,HB2.out⟩
      have hq:(k != 3&&v != 0)=Q:=HQ2.out;subst hq
      go_wp2_with fail
      go_meet
      exact⟨rfl,HB2.out⟩
 case rest =>
 obtain⟨rfl,hbc⟩:=hcut;have HXc:Hid (CBox w wc S (.slice ao n cap) (.slice ao2 n2 cap2) k f t v):=HX.out.later hbc;clear hbc HX b0 b1 b2 x0 x1 x2 x3;obtain⟨hBc,⟨b0,b1,b2⟩,x0,x1,x2,x3⟩:=HXc.out;have HBc:Hid (Below w.heap.size w wc):=hBc;clear hBc;cases Q with
 | true =>
   have HR1:Hid (R=1):=by
    show _=_;rw[HR.out,if_pos rfl]
   go_wp2;go_ret;exact⟨by rw[HR1.out];rfl,HBc.out⟩
 | false =>
   by_cases k4:k=4
   ·subst k4;obtain⟨NL,hNL⟩:∃q,q=nlB ⟨4,f,t,v⟩:=⟨_,rfl⟩;have HR1:Hid (R=if NL then 0 else 3):=by
     show _=_;rw[HR.out,if_neg (by decide),if_pos rfl,hNL]
    have HNL:Hid (nlB ⟨4,f,t,v⟩=NL):=hNL.symm;clear hNL HR
    go_wp2_with fail
    refine (isNameless_any 4 f t v _).mono ?_;rintro e w2 ⟨rfl,hb2⟩;rw[HNL.out];have HB2:Hid (Below w.heap.size w w2):=HBc.out.trans (hb2.mono HBc.out.size);clear hb2;cases NL with
    | false =>
      go_wp2;go_ret;exact⟨by rw[HR1.out];rfl,HB2.out⟩
    | true =>
      go_wp2;go_ret;exact⟨by rw[HR1.out];rfl,HB2.out⟩
   obtain⟨HF,hHF⟩:∃q,q=hoB Hs f:=⟨_,rfl⟩;obtain⟨HT,hHT⟩:∃q,q=hoB Hs t:=⟨_,rfl⟩;have HR1:Hid (R=if HF&&HT then 0 else 5):=by
    show _=_;rw[HR.out,if_neg (by decide),if_neg k4,hHF,hHT]
   have HHF:Hid (hoB Hs f=HF):=hHF.symm;have HHT:Hid (hoB Hs t=HT):=hHT.symm;clear hHF hHT HR
   go_wp2_with fail
   refine (isHost_any S (.slice ao n cap) ao2 n2 cap2 Hs f _ rfl (HH.out _ HBc.out)).mono ?_;rintro e w2 ⟨rfl,hb2⟩;rw[HHF.out];have HX2:Hid (CBox w w2 S (.slice ao n cap) (.slice ao2 n2 cap2) k f t v):=HXc.out.later hb2;clear hb2 HHF HBc b0 b1 b2 x0 x1 x2 x3;obtain⟨hB2,⟨b0,b1,b2⟩,x0,x1,x2,x3⟩:=HX2.out;have HB2:Hid (Below w.heap.size w w2):=hB2;clear hB2;cases HF with
   | false =>
     go_wp2;go_ret;exact⟨by rw[HR1.out];rfl,HB2.out⟩
   | true =>
     go_wp2_with fail
     refine (isHost_any S (.slice ao n cap) ao2 n2 cap2 Hs t _ rfl (HH.out _ HB2.out)).mono ?_;rintro e w3 ⟨rfl,hb3⟩;rw[HHT.out];have HB3:Hid (Below w.heap.size w w3):=HB2.out.trans (hb3.mono HB2.out.size);clear hb3;cases HT with
     | false =>
       go_wp2;go_ret;exact⟨by rw[HR1.out];rfl,HB3.out⟩
     | true =>
       go_wp2;go_ret;exact⟨by rw[HR1.out];rfl,HB3.out⟩
theorem wcheck_any (S:Int)(ao:Option Addr)(n cap:Nat)(ao2:Option Addr)(n2 cap2:Nat)(a4:Option Addr)(n4 c4:Nat)(Ls:LkQ)(Hs:HoQ)(l:List Wi)(w:World)
 (hL:GS lnkE w (.slice ao n cap) Ls) (hH:GS hstE w (.slice ao2 n2 cap2) Hs) (hl:GS wisE w (.slice a4 n4 c4) l):
 Calls Tryz.prog 27 #[.agg #[.int .i64 S,.slice ao n cap,.slice ao2 n2 cap2],.slice a4 n4 c4] w fun e w'=>e=.returned (noV (wsN S Ls Hs l))∧Below w.heap.size w w':=by
 have hX:=tbox_new w S (.slice ao n cap) (.slice ao2 n2 cap2) 25;have hB0:Below w.heap.size w (w.alloc (Obj.cells #[.int .i64 S,.slice ao n cap,.slice ao2 n2 cap2] 25)):=(Below.refl _ _).alloc (Nat.le_refl _) _;obtain⟨w0,hw0⟩:∃W,w.alloc (Obj.cells #[.int .i64 S,.slice ao n cap,.slice ao2 n2 cap2] 25)=W:=⟨_,rfl⟩;rw[hw0] at hX hB0;have HX:Hid (TBox w0 w.heap.size S (.slice ao n cap) (.slice ao2 n2 cap2)):=hX;have HW0:Hid (w.alloc (Obj.cells #[.int .i64 S,.slice ao n cap,.slice ao2 n2 cap2] 25)=w0):=hw0;have HB0:Hid (Below w.heap.size w w0):=hB0;have HLW:Hid (∀W,Below w.heap.size w W→GS lnkE W (.slice ao n cap) Ls):=fun W hb=>hL.later hb
 have HHW:Hid (∀W,Below w.heap.size w W→GS hstE W (.slice ao2 n2 cap2) Hs):=fun W hb=>hH.later hb
 obtain⟨_,_,_,e5,hGn,hGm,_,hGa⟩:=hl.form;cases e5;have HGN:Hid (l.length=n4):=hGn;have HGA:Hid (0<n4→∃g o,a4=some ⟨g,o,none⟩∧GAt wisE w g o l∧c4≤maxLen):=hGa;obtain⟨R,hR⟩:∃R,R=wsN S Ls Hs l:=⟨_,rfl⟩;have HR:Hid (R=wsN S Ls Hs l):=hR;rw[←hR];have hn4:n4≤maxLen:=hGm;unfold maxLen at hn4;clear hX hB0 hw0 hL hH hl hGn hGm hGa hR;go_enter Tryz.func27,Tryz.ntmps27;go_upto_region 1 with fail;rw[HW0.out];obtain⟨b0,b1,b2⟩:=HX.out;clear HW0
 go_wp2_with fail
 refine (check_any S ao n cap ao2 n2 cap2 Ls Hs _ (HLW.out _ HB0.out) (HHW.out _ HB0.out)).mono ?_;rintro e w1 ⟨rfl,hb1⟩;obtain⟨T,hT⟩:∃T,T=tpN S Ls Hs:=⟨_,rfl⟩;have HT:Hid (T=tpN S Ls Hs):=hT;rw[←hT];have HB1:Hid (Below w.heap.size w w1):=HB0.out.trans (hb1.mono HB0.out.size);have HX1:Hid (TBox w1 w.heap.size S (.slice ao n cap) (.slice ao2 n2 cap2)):=HX.out.later hb1;clear hT hb1 b0 b1 b2 HX;by_cases h0:T=0
 ·have HR1:Hid (R=if 8<l.length then 4 else wsTo S Hs l l.length):=by
   show _=_;rw[HR.out,wsN,if_pos (HT.out.symm.trans h0)]
  subst h0;rw[no_ok rfl];by_cases h8:8<n4
  ·have HR2:Hid (R=4):=by
    show _=_;rw[HR1.out,if_pos (by rw[HGN.out];exact h8)]
   have h8':(8:Int)<(n4:Int):=by omega
   go_wp2;go_ret;exact⟨by rw[HR2.out];rfl,HB1.out⟩
  have HR2:Hid (R=wsTo S Hs l n4):=by
   show _=_;rw[HR1.out,if_neg (by rw[HGN.out];exact h8),HGN.out]
  have h8':¬(8:Int)<(n4:Int):=by omega
  clear HR HR1;go_wp2
  go_loopw [20] (fun i wr=>∃j:Nat,j≤n4∧i=.int .i64 j∧wsTo S Hs l j=0∧Below w1.heap.size w1 wr) (fun i _=>n4-(intOf i).toNat)
  case atStart=>exact⟨0,by omega,rfl,rfl,Below.refl _ _⟩
  case round =>
   obtain⟨j,hj,rfl,hno,hB⟩:=hrel;have HB:Hid (Below w1.heap.size w1 wr):=hB;have HBw:Hid (Below w.heap.size w wr):=HB1.out.trans (hB.mono HB1.out.size);have HNO:Hid (wsTo S Hs l j=0):=hno;have HXr:Hid (TBox wr w.heap.size S (.slice ao n cap) (.slice ao2 n2 cap2)):=HX1.out.later hB;clear hno hB;by_cases hlt:j<n4
   ·obtain⟨g,o,hao,hc,_⟩:=HGA.out (by omega);subst hao;obtain⟨y0,y1,y2,y3,hkl,hLk,q0,q1,q2,q3⟩:=wis_at (hc.later HBw.out) HGN.out hlt;obtain⟨N,hN⟩:∃q,q=woN S Hs ⟨y0,y1,y2,y3⟩:=⟨_,rfl⟩;have HN:Hid (woN S Hs ⟨y0,y1,y2,y3⟩=N):=hN.symm;have HST:Hid (wsTo S Hs l (j+1)=N):=by
     show _=_;rw[wsTo,if_pos HNO.out,getW hkl,hLk,←hN]
    have hba:Below wr.heap.size wr (wr.alloc (Obj.cells #[.int .i64 y0,Value.string y1,Value.string y2,.int .i64 y3] 125)):=(Below.refl _ _).alloc (Nat.le_refl _) _;have HBA:Hid (Below wr.heap.size wr (wr.alloc (Obj.cells #[.int .i64 y0,Value.string y1,Value.string y2,.int .i64 y3] 125))):=hba;obtain⟨b0,b1,b2⟩:=HXr.out;have hlw:w.heap.size<wr.heap.size:=bLQ _ _ b0;clear hc hLk hN hba
    go_wp2_with fail
    refine (checkOne_any S ao n cap ao2 n2 cap2 Hs y0 y1 y2 y3 _ (HHW.out _ (HBw.out.trans (HBA.out.mono HBw.out.size)))).mono ?_;rintro e w3 ⟨rfl,hb3⟩;rw[HN.out];have HB3:Hid (Below w1.heap.size w1 w3):=(HB.out.trans (HBA.out.mono HB.out.size)).trans (hb3.mono (HB.out.trans (HBA.out.mono HB.out.size)).size);clear hb3 HBA b0 b1 b2 q0 q1 q2 q3 hlw HXr HB;by_cases hN0:N=0
    ·subst hN0;rw[no_ok rfl];go_wp2;go_roundw
     case rel=>exact⟨j+1,by omega,by go_num,HST.out,HB3.out⟩
     case measure=>simp[intOf];omega
    rw[no_ne hN0];have HR3:Hid (R=N):=by
     show _=_;rw[HR2.out,ws_le (k:=j+1) (by rw[HST.out];exact hN0) (by omega),HST.out]
    have HNN:Hid (N≠0):=hN0;clear hN0;go_wp2;go_ret;exact⟨by rw[HR3.out,no_ne HNN.out];rfl,HB1.out.trans (HB3.out.mono HB1.out.size)⟩
   obtain rfl:j=n4:=by omega
   have HR3:Hid (R=0):=by
    show _=_;rw[HR2.out,HNO.out]
   go_wp2;go_ret;exact⟨by rw[HR3.out,no_ok rfl];rfl,HBw.out⟩
 rw[no_ne h0];have HR1:Hid (R=T):=by
  show _=_;rw[HR.out,wsN,if_neg (by rw[←HT.out];exact h0),HT.out]
 have HNN:Hid (T≠0):=h0;clear h0;go_wp2;go_ret;exact⟨by rw[HR1.out,no_ne HNN.out];rfl,HB1.out⟩
end
end Go.Proofs.YtiokpmlhmlcojaaGreat
