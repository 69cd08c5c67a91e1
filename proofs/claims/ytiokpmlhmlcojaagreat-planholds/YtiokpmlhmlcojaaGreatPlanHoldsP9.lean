/- Contracts and facts on the way to PlanHolds, joined into one text: WishHold, MixWalk1, MixWalk2, MixWalk3, MixWalk4, MixWalk5, MixWalk6. -/
import Derived.Test.YtiokpmlhmlcojaaGreatPlanHoldsP8
namespace Go.Proofs.YtiokpmlhmlcojaaGreat
set_option linter.unusedSimpArgs false
set_option linter.unusedVariables false
set_option maxHeartbeats 16000000
set_option maxRecDepth 100000
section
open Go.RowKit Go.Shelf
attribute [local go_sem] Oper.semAt_some
def FaBox (W:World)(g:Nat)(a:Int)(b:ByteArray)(c:Value):Prop:=W.cell? ⟨g,0,none⟩=some (.int .i64 a)∧W.cell? ⟨g,1,none⟩=some (.string b)∧W.cell? ⟨g,2,none⟩=some c
theorem FaBox.later {W W':World}{g:Nat}{a:Int}{b:ByteArray}{c:Value}(h:FaBox W g a b c)(hb:Below W.heap.size W W'):FaBox W' g a b c:=
 ⟨cell_later hb h.1,cell_later hb h.2.1,cell_later hb h.2.2⟩
theorem fabox_new (w:World)(a:Int)(b:ByteArray)(c:Value)(T:TypeId):FaBox (w.alloc (Obj.cells #[.int .i64 a,.string b,c] T)) w.heap.size a b c:=by
 refine⟨?_,?_,?_⟩ <;> simp
def FtV (A:World)(args:Array Value)(x:Ft):Prop:=∃ao n cap,args=#[.agg #[.int .i64 x.1,.string x.2.1,.slice ao n cap]]∧GS hopE A (.slice ao n cap) x.2.2
theorem GS.kb {α:Type}{E:Enc α}{W W':World}{v:Value}{L:List α}{p:Nat→Prop}(h:GS E W v L)(hk:Kb p W W')(hp:∀q u,W.cell? q=some u→p q.block):GS E W' v L:=by
 rcases h with ⟨ao',cap',e,rfl⟩ | ⟨g,o,cap',e,h1,h2,h3⟩
 ·exact .inl ⟨ao',cap',e,rfl⟩
 exact .inr ⟨g,o,cap',e,h1,h2,fun i hi j u hu=>hk.at (h3 i hi j u hu) (hp _ _ (h3 i hi j u hu))⟩
theorem holding1_any (a:Int)(b:ByteArray)(ao:Option Addr)(n cap:Nat)(l:HpQ)(g1 g2:Nat)(k:Int)(f t:ByteArray)(v:Int)(m:ByteArray)(w:World)(hl:GS hopE w (.slice ao n cap) l)(h1:w.cell? ⟨g1,0,none⟩=some (.string m))(h2:FaBox w g2 a b (.slice ao n cap)):
 Calls Tryz.prog 83 #[.agg #[.int .i64 k,.string f,.string t,.int .i64 v],.pointer (some ⟨g1,0,none⟩),.pointer (some ⟨g2,0,none⟩)] w fun e w'=>e=.returned (.bool (!fiB ⟨k,f,t,v⟩ m (a,b,l)))∧Below w.heap.size w w':=by
 have hb0:Below w.heap.size w (w.alloc (Obj.cells #[.int .i64 k,.string f,.string t,.int .i64 v] 125)):=(Below.refl _ _).alloc (Nat.le_refl _) _;have hl0:=hl.later hb0;have hx0:=wibox_new w k f t v 125;have hs0:=cell_later hb0 h1;have hf0:=h2.later hb0;obtain⟨w0,hw0⟩:∃W,w.alloc (Obj.cells #[.int .i64 k,.string f,.string t,.int .i64 v] 125)=W:=⟨_,rfl⟩;rw[hw0] at hb0 hl0 hx0 hs0 hf0;have HW0:Hid (w.alloc (Obj.cells #[.int .i64 k,.string f,.string t,.int .i64 v] 125)=w0):=hw0;have HB0:Hid (Below w.heap.size w w0):=hb0;have HL0:Hid (GS hopE w0 (.slice ao n cap) l):=hl0;obtain⟨x0,x1,x2,x3⟩:=hx0;obtain⟨f0,f1,f2⟩:=hf0;obtain⟨R,hR⟩:∃R,R=fiB ⟨k,f,t,v⟩ m (a,b,l):=⟨_,rfl⟩;have HR:Hid (fiB ⟨k,f,t,v⟩ m (a,b,l)=R):=hR.symm;rw[←hR];clear hb0 hl0 hl h1 h2 hw0 hR;go_enter Tryz.func83,Tryz.ntmps83;go_upto_region 1 with fail;rw[HW0.out];clear HW0
 go_wp2_with fail
 refine (fits_any k f t v m a b ao n cap l _ HL0.out).mono ?_;rintro e w1 ⟨rfl,hb1⟩;rw[HR.out];go_wp2;go_ret;exact⟨rfl,HB0.out.trans (hb1.mono HB0.out.size)⟩
structure HB (w W:World)(v:Value)(m:ByteArray)(k:Nat):Prop where
 below:Below w.heap.size w W
 l:Boxed W w.heap.size 29 v
 m:Boxed W (w.heap.size+1) 9 (.string m)
 n:Boxed W (w.heap.size+1+1) 3 (.int .i64 k)
theorem HB.kb {w W W':World}{v:Value}{m:ByteArray}{k:Nat}{p:Nat→Prop}(h:HB w W v m k)(hk:Kb p W W')(hp:∀b,b<w.heap.size+3→p b):HB w W' v m k:=
 ⟨h.below.trans (hk.below (by have:=h.l.lt;omega) (fun b hb=>hp b (by omega))),hk.boxed h.l (hp _ (by omega)),hk.boxed h.m (hp _ (by omega)),hk.boxed h.n (hp _ (by omega))⟩
theorem HB.put {w W:World}{v:Value}{m:ByteArray}{k:Nat}(h:HB w W v m k)(j:Nat):HB w (W.setCell ⟨w.heap.size+1+1,0,none⟩ (.int .i64 j)) v m j:=
 ⟨h.below.setCell (p:=⟨w.heap.size+1+1,0,none⟩) (show w.heap.size≤w.heap.size+1+1 by omega) _,h.l.other (by omega) _,h.m.other (by omega) _,h.n.set _⟩
theorem holding_in (n:Nat)(h4:4≤n)(a4:Option Addr)(n4 c4:Nat)(l:List Wi)(m:ByteArray)(gi:Nat)(lb:Array Value)(L:List Ft)(n₀:Nat)(w:World)
 (hl:GS wisE w (.slice a4 n4 c4) l) (eg:∀args w,(callFunc gi args).run Tryz.prog w=.ok (.enter gi args) w) (hit:ItF Tryz.prog gi lb FtV n₀ L w) (hn₀:n₀≤w.heap.size):
 CallsIn Fence.wide n Tryz.prog 52 #[.slice a4 n4 c4,.string m,.func (.func gi) #[] lb] w fun e W'=>e=.returned (.int .i64 (hwN l m L))∧Below w.heap.size w W':=by
 have h1:1≤n:=by omega
 have h2:1≤n-1-1:=by omega
 obtain⟨_,_,_,e5,hGn,hGm,hGc,hGa⟩:=hl.form;cases e5;have HLW:Hid (∀W,Below w.heap.size w W→GS wisE W (.slice a4 n4 c4) l):=fun W hb=>hl.later hb
 have HGN:Hid (l.length=n4):=hGn;have HCAP:Hid (n4≤c4):=hGc;refine callsIn_of_wp_marks Tryz.func52 rfl trivial ?_ rfl;simp only[Tryz.ntmps52,List.size_toArray,List.length_cons,List.length_nil,Nat.reduceAdd,Nat.reduceSub,Array.replicate_succ,Array.replicate_zero,List.push_toArray,List.append_toArray,List.nil_append,List.cons_append];clear hGa hGm hGc hGn hl
 gi_wp2
 have bL:=Boxed.new w 29 (.slice a4 n4 c4);have bM:=Boxed.new (w.alloc (.cells #[.slice a4 n4 c4] 29)) 9 (.string m);have bN:=Boxed.new ((w.alloc (.cells #[.slice a4 n4 c4] 29)).alloc (.cells #[.string m] 9)) 3 (.int .i64 n4);simp only[World.size_alloc] at bM bN;have hB0:Below w.heap.size w (((w.alloc (.cells #[.slice a4 n4 c4] 29)).alloc (.cells #[.string m] 9)).alloc (.cells #[.int .i64 n4] 3)):=(((Below.refl _ w).alloc (Nat.le_refl _) _).alloc (by simp) _).alloc (by simp;omega) _;have hH0:HB w (((w.alloc (.cells #[.slice a4 n4 c4] 29)).alloc (.cells #[.string m] 9)).alloc (.cells #[.int .i64 n4] 3)) (.slice a4 n4 c4) m (hwTo l m L 0):=⟨hB0,(bL.alloc _).alloc _,bM.alloc _,by rw[show hwTo l m L 0=n4 from HGN.out];exact bN⟩;have hsz:(((w.alloc (.cells #[.slice a4 n4 c4] 29)).alloc (.cells #[.string m] 9)).alloc (.cells #[.int .i64 n4] 3)).heap.size=w.heap.size+3:=by simp
 obtain⟨W0,hW0⟩:∃W0,((w.alloc (.cells #[.slice a4 n4 c4] 29)).alloc (.cells #[.string m] 9)).alloc (.cells #[.int .i64 n4] 3)=W0:=⟨_,rfl⟩;rw[hW0] at hB0 hH0 hsz ⊢;clear hW0 bL bM bN;refine wpIn_rangeFunc_it h1 (gf:=gi) (lb:=lb) rfl eg (Vl:=FtV) (n₀:=n₀) (L:=L) (w0:=w) hit (hB0.mono hn₀) (by omega) (fun A args x hx=>by obtain⟨_,_,_,rfl,_⟩:=hx;rfl)
  (fun k X W=>HB w W (.slice a4 n4 c4) m (hwTo l m L k)∧∀b,¬X b) (fun c W=>c=.exit 0∧HB w W (.slice a4 n4 c4) m (hwN l m L))
  (fun k X A h b hx=>absurd hx (h.2 b))
  (fun k X A A' h hk=>⟨h.1.kb hk (fun b hb=>.inl (by omega)),h.2⟩)
  (fun c A A' h hk=>⟨h.1,h.2.kb hk (fun b hb=>.inl (by omega))⟩)
  ⟨hH0,fun b h=>h⟩ ?round ?done ?stop
 case round =>
  rintro l' k X Y x args W hl' hBW ⟨hI,hX⟩ hLk ⟨ao,nn,cap,rfl,hG⟩ hY hnl;obtain⟨xa,xb,xl⟩:=x;rw[hsz] at hl' hBW;have hwN2:hwTo l m L (k+1)=hwS l m (xa,xb,xl) (hwTo l m L k):=by
   rw[hwTo]
   congr 1
   simp[List.getD,hLk]
  have hkL:k<L.length:=by
   obtain⟨h,_⟩:=List.getElem?_eq_some_iff.1 hLk;exact h
  obtain⟨N,hN⟩:∃N,N=hwTo l m L k:=⟨_,rfl⟩;have hNle:N≤n4:=by
   rw[hN,←HGN.out];exact hwTo_le L k
  rw[←hN] at hI hwN2;have HNK:Hid (hwTo l m L k=N):=hN.symm;have HN2:Hid (hwTo l m L (k+1)=hwS l m (xa,xb,xl) N):=hwN2;clear hN hwN2;have hcap:=HCAP.out
  dsimp only at hG
  gi_wp2
  refine⟨(Kb.refl _ _).alloc _,fun W2 hk2=>?_⟩;have hBA:Below W.heap.size W (W.alloc (Obj.cells #[.int .i64 xa,.string xb,.slice ao nn cap] 98)):=(Below.refl _ _).alloc (Nat.le_refl _) _;have hfb:=fabox_new W xa xb (.slice ao nn cap) 98;have hnl2:∀q u,(W.alloc (Obj.cells #[.int .i64 xa,.string xb,.slice ao nn cap] 98)).cell? q=some u→q.block≠l':=by
   intro q u hq e;have hlt:q.block<W.heap.size:=by rw[e,hl'];omega
   have h:=(hBA.cell (p:=q) hlt).symm.trans hq;rw[hnl q e] at h;cases h
  have hG2:=(hG.later hBA).kb hk2 hnl2;have hf2:FaBox W2 W.heap.size xa xb (.slice ao nn cap):=⟨hk2.at hfb.1 (hnl2 _ _ hfb.1),hk2.at hfb.2.1 (hnl2 _ _ hfb.2.1),hk2.at hfb.2.2 (hnl2 _ _ hfb.2.2)⟩;have hI2:HB w W2 (.slice a4 n4 c4) m N:=(hI.kb (Kb.of_below hBA (fun b hb _=>hb):Kb (fun _=>True) _ _) (fun _ _=>trivial)).kb hk2 (fun b hb=>by omega);have HI2:Hid (HB w W2 (.slice a4 n4 c4) m N):=hI2;have HGT:Hid (GS wisE W2 (.slice a4 N c4) (l.take N)):=(HLW.out W2 hI2.below).take hNle;obtain⟨_,_,_,e6,hTn,hTm,_,hTa⟩:=HGT.out.form;cases e6;have HASK:Hid (wi2Asks W2 83 (.pointer (some ⟨w.heap.size+1,0,none⟩)) (.pointer (some ⟨W.heap.size,0,none⟩)) (fun u => !fiB u m (xa,xb,xl))):=fun y0 y1 y2 y3 W3 hb3=>holding1_any xa xb ao nn cap xl _ _ y0 y1 y2 y3 m W3 (hG2.later hb3) (cell_later hb3 hI2.m.cell) (hf2.later hb3)
  obtain⟨z,hz⟩:∃z,z=ixG (fun u => !fiB u m (xa,xb,xl)) (l.take N):=⟨_,rfl⟩;have HZ:Hid (ixG (fun u => !fiB u m (xa,xb,xl)) (l.take N)=z):=hz.symm;have HTN:Hid ((l.take N).length=N):=hTn;have HTM:Hid (N≤maxLen):=hTm;have HTA:Hid (0<N→∃g o,a4=some ⟨g,o,none⟩∧GAt wisE W2 g o (l.take N)∧c4≤maxLen):=hTa;have hlc:=hI2.l.cell;have hmc:=hI2.m.cell;have hnc:=hI2.n.cell;have nb0:(0:Int)≤(N:Int):=by omega
  have nb1:(N:Int)≤(c4:Int):=by omega
  have nb2:(N:Int)≤(n4:Int):=by omega
  clear hz hTn hTm hTa hG2 hf2 hI2 hfb hnl2 hI hG hk2 hX
  gi_wp2_with fail
  refine⟨trivial,(CallsIn.inRound _ (callsIn_wide.2 (wi2_idxF a4 N c4 _ _ _ (fun u => !fiB u m (xa,xb,xl)) (l.take N) _ HTN.out HTM.out HTA.out (enters_of Tryz.func83 (by kernel_rfl) rfl) HASK.out))).mono ?_⟩;rintro e W3 ⟨rfl,hb3⟩;rw[HZ.out];have hI3:HB w W3 (.slice a4 n4 c4) m N:=HI2.out.kb (Kb.of_below hb3 (fun b hb _=>hb):Kb (fun _=>True) _ _) (fun _ _=>trivial);have HI3:Hid (HB w W3 (.slice a4 n4 c4) m N):=hI3;have HK3:Hid (Kb (fun b=>b<n₀∨b=W0.heap.size∨b=l'∨Y b) W2 W3):=Kb.of_below hb3 (fun b hb _=>hb);have hlc:=hI3.l.cell;have hmc:=hI3.m.cell;have hnc:=hI3.n.cell;have hnf:=hI3.n.frozen;have HNP:Hid (¬(w.heap.size+1+1<n₀∨w.heap.size+1+1=W0.heap.size∨w.heap.size+1+1=l'∨Y (w.heap.size+1+1))):=by
   rintro (h | h | h | h)
   ·omega
   ·omega
   ·omega
   have:=(hY _ h).1;omega
  have HXN:Hid (∀I:Prop,I→∃X':Nat→Prop,(I∧∀b,¬X' b)∧∀b,X' b→X b∨W.heap.size≤b):=fun I h=>⟨fun _=>False,⟨h,fun _ h=>h⟩,fun _ h=>h.elim⟩
  clear hb3 hI3;by_cases hz0:0≤z
  ·obtain⟨z',rfl⟩:∃z':Nat,z=(z':Int):=⟨z.toNat,by omega⟩;have HS:Hid (hwTo l m L (k+1)=z'):=by
    show _=_;rw[HN2.out,hwS,HZ.out,if_neg (by omega)];simp
   clear hz0;by_cases h0:z'=0
   ·subst h0;have HL0:Hid (hwN l m L=0):=hwTo_zero HS.out (by omega)
    gi_wp2
    exact⟨HK3.out.setCell (fun _=>HNP.out) _,rfl,by rw[HL0.out];exact HI3.out.put 0⟩
   have e0:((z':Int)==0)=false:=by simp;omega
   clear h0
   gi_wp2
   exact⟨HK3.out.setCell (fun _=>HNP.out) _,HXN.out _ (by rw[HS.out];exact HI3.out.put z')⟩
  have HS:Hid (hwTo l m L (k+1)=N):=by
   show _=_;rw[HN2.out,hwS,HZ.out,if_pos (by omega)]
  have ez:decide (0≤z)=false:=by simpa using hz0
  by_cases h0:N=0
  ·subst h0;have HL0:Hid (hwN l m L=0):=hwTo_zero HS.out (by omega)
   gi_wp2
   exact⟨HK3.out,rfl,by rw[HL0.out];exact HI3.out⟩
  have e0:((N:Int)==0)=false:=by simp;omega
  clear h0
  gi_wp2
  exact⟨HK3.out,HXN.out _ (by rw[HS.out];exact HI3.out)⟩
 case done =>
  rintro X W ⟨hI,_⟩ hK;have hc:=hI.n.cell;have HBW:Hid (Below w.heap.size w W):=hI.below;clear hI
  gi_wp2
  refine⟨by simp,.inl ⟨_,_,rfl,run_takeDeferred hK,?_⟩⟩;exact⟨_,results_tmp rfl _ _ _,rfl,HBW.out.trans (belowK_b (w:=w) (Nat.le_refl _) W _ _ _ (by omega) hK rfl rfl)⟩
 case stop =>
  rintro c W ⟨rfl,hI⟩ hK;have hc:=hI.n.cell;have HBW:Hid (Below w.heap.size w W):=hI.below;clear hI
  gi_wp2
  refine⟨by simp,.inl ⟨_,_,rfl,run_takeDeferred hK,?_⟩⟩;exact⟨_,results_tmp rfl _ _ _,rfl,HBW.out.trans (belowK_b (w:=w) (Nat.le_refl _) W _ _ _ (by omega) hK rfl rfl)⟩
theorem holding_any (a4:Option Addr)(n4 c4:Nat)(l:List Wi)(m:ByteArray)(gi:Nat)(lb:Array Value)(L:List Ft)(n₀:Nat)(w:World)
 (hl:GS wisE w (.slice a4 n4 c4) l) (eg:∀args w,(callFunc gi args).run Tryz.prog w=.ok (.enter gi args) w) (hit:ItF Tryz.prog gi lb FtV n₀ L w) (hn₀:n₀≤w.heap.size):
 Calls Tryz.prog 52 #[.slice a4 n4 c4,.string m,.func (.func gi) #[] lb] w fun e W'=>e=.returned (.int .i64 (hwN l m L))∧Below w.heap.size w W':=
 (callsIn_wide (n:=4)).1 (holding_in 4 (by omega) a4 n4 c4 l m gi lb L n₀ w hl eg hit hn₀)
end
section
open Go.RowKit Go.Shelf
attribute [local go_sem] Oper.semAt_some
theorem own_kb {W W':World}{B e size n:Nat}{v:Value}{xs:List Value}{p:Nat→Prop}(h:W.ownsRow B e size v n xs)(hk:Kb p W W')(hp:∀g,v.ownBlock=some g→p g):W'.ownsRow B e size v n xs:=by
 refine⟨h.1,?_⟩
 rcases h.2 with ⟨rfl,rfl⟩ | ⟨g,cap,cur,rfl,h1,hg,h2⟩
 ·exact .inl ⟨rfl,rfl⟩
 exact .inr ⟨g,cap,cur,rfl,h1,(hk.block g (Array.getElem?_eq_some_iff.1 hg).1 (hp g rfl)).trans hg,h2⟩
def HK (W:World)(bk:Nat)(l:HpQ):Prop:=W.ownsRow 0 101 3 (.slice (some ⟨bk,0,none⟩) l.length 24) l.length (cellsG hopE l)
theorem HK.kb {W W':World}{bk:Nat}{l:HpQ}{p:Nat→Prop}(h:HK W bk l)(hk:Kb p W W')(hp:p bk):HK W' bk l:=own_kb h hk (fun g e=>by cases e;exact hp)
theorem HK.lt {W:World}{bk:Nat}{l:HpQ}(h:HK W bk l):bk<W.heap.size:=(World.ownsRow.lt h bk rfl).2
theorem HK.gs {W:World}{bk:Nat}{l:HpQ}(h:HK W bk l):GS hopE W (.slice (some ⟨bk,0,none⟩) l.length 24) l:=own_GS (E:=hopE) h
theorem HK.pre {W:World}{bk:Nat}{l:HpQ}{p:(Int×Int)×Int}(h:HK W bk (l++[p])):HK W bk l:=by
 have hc:cellsG hopE (l++[p])=cellsG hopE l++hopE.c p:=by rw[cellsG_app,cellsG_one]
 have hl:(cellsG hopE l).length=l.length*3:=cellsG_len (E:=hopE) l;unfold HK at *;refine⟨hl,?_⟩
 rcases h.2 with ⟨h,_⟩ | ⟨g,cap,cur,e,h1,hg,h2,h3,h4,h5⟩
 ·simp at h
 simp only[Value.slice.injEq,Option.some.injEq,Addr.mk.injEq,and_true,true_and] at e;obtain⟨rfl,_,rfl⟩:=e;refine .inr ⟨bk,24,cur,rfl,h1,hg,by rw[List.length_append] at h2;simp at h2;omega,h3,h4,?_⟩;rw[hc] at h5;have e2:=congrArg (List.take (l.length*3)) h5;rw[List.take_take,←hl,List.take_left,hl,List.length_append] at e2;rw[show min (l.length*3) ((l.length+[p].length)*3)=l.length*3 by rw[List.length_singleton];omega] at e2;exact e2
def metV (met:Nat→Bool):Value:=.agg #[.bool (met 0),.bool (met 1),.bool (met 2),.bool (met 3),.bool (met 4),.bool (met 5)]
theorem la_hdr {Ls:LkQ}{Hs:HoQ}{Ts:List (List Ru)}{l:HpQ}(h:(lgA Ls Hs Ts l).1=0):hdrB (lgA Ls Hs Ts l).2.2.2=true:=by
 unfold lgA at *;obtain⟨e,h0,_⟩:=af_0 h;rw[e];cases h1:stT (taT Ts (laH l).1.1) (laH l) with
 | none=>rw[lg_2 h1] at h0;cases h0
 | some q =>
   cases ha:atO Hs q.1 with
   | some m=>rw[lg_1 h1 ha] at h0;cases h0
   | none =>
     cases hp:peerO Ls q.1 with
     | none=>rw[lg_3 h1 ha hp] at h0;cases h0
     | some s =>
       rw[lg_0 h1 ha hp];exact (st_hdr (Ts:=Ts) (p:=laH l) h1).1
structure MCx (l lo n₀:Nat)(J:Nat→(Nat→Prop)→World→Prop)(Jx:World→Prop)(L:List Ft)(w:World)(vo vy:Value)(m:Nat)(Ls:LkQ)(Hs:HoQ)(As Bs:List (List Ru)):Prop where
 nlo:n₀≤lo
 m6:m≤6
 tp:tpN (m:Int) Ls Hs=0
 old:∀A,Below n₀ w A→LGs A 0 vo (fun (a h:Nat)=>lgT Ls Hs (taT As ((a:Int)+1)) (((a:Int)+1,0),(h:Int))) m
 yng:∀A,Below n₀ w A→LGs A 0 vy (fun (a h:Nat)=>lgT Ls Hs (taT Bs ((a:Int)+1)) (((a:Int)+1,0),(h:Int))) m
 lt:∀k X A,J k X A→∀b,X b→b<A.heap.size
 ab:∀k X A A',J k X A→Kb (fun b=>b<lo∨X b) A A'→J k X A'
 ax:∀A A',Jx A→Kb (fun _=>True) A A'→Jx A'
 yi:∀k X A args x (Y:Nat→Prop),J k X A→L[k]?=some x→FtV A args x→lo≤A.heap.size→(∀b,Y b→lo≤b∧¬X b)→YieldAt Fence.wide 0 Tryz.prog l args A fun e A' =>
  (e=.returned (.bool true)∧(∃X',J (k+1) X' A'∧∀b,X' b→X b∨A.heap.size≤b)∧Kb (fun b=>b<n₀∨Y b) A A')∨(e=.returned (.bool false)∧Jx A'∧Kb (fun b=>b<n₀∨Y b) A A')
def WkR (J:Nat→(Nat→Prop)→World→Prop)(Jx:World→Prop)(X:Nat→Prop)(k bk:Nat)(l:HpQ)(A:World):Bool→World→Prop
 | true,A'=>(∃X',J k X' A'∧∀b,X' b→X b∨A.heap.size≤b)∧HK A' bk l
 | false,A'=>Jx A'
def WkP (n₀:Nat)(J:Nat→(Nat→Prop)→World→Prop)(Jx:World→Prop)(X Y:Nat→Prop)(k bk:Nat)(l:HpQ)(A:World)(r:Bool)(A':World):Prop:=
 WkR J Jx X k bk l A r A'∧Kb (fun b=>b<n₀∨(Y b∧b≠bk)) A A'
structure WkI (lo n₀:Nat)(J:Nat→(Nat→Prop)→World→Prop)(w:World)(X Y:Nat→Prop)(k bk:Nat)(lst:HpQ)(A:World):Prop where
 b:Below n₀ w A
 s:lo≤A.heap.size
 j:J k X A
 y:∀b,Y b→lo≤b∧b<A.heap.size∧¬X b
 yb:Y bk
 h:HK A bk lst
def Nxt (L:List Ft)(k:Nat)(M:List Ft):Prop:=∀i x,M[i]?=some x→L[k+i]?=some x
theorem Nxt.left {L:List Ft}{k:Nat}{M N:List Ft}(h:Nxt L k (M++N)):Nxt L k M:=fun i x hi=>h i x (by rw[List.getElem?_append_left (List.getElem?_eq_some_iff.1 hi).1];exact hi)
theorem Nxt.right {L:List Ft}{k:Nat}{M N:List Ft}(h:Nxt L k (M++N)):Nxt L (k+M.length) N:=fun i x hi=>by
 have:=h (M.length+i) x (by rw[List.getElem?_append_right (by omega)];simpa using hi)
 rwa [←Nat.add_assoc] at this
section
variable {l lo n₀:Nat}{J:Nat→(Nat→Prop)→World→Prop}{Jx:World→Prop}{L:List Ft}{w:World}{vo vy:Value}{m:Nat}{Ls:LkQ}{Hs:HoQ}{As Bs:List (List Ru)}
theorem WkI.later {X Y:Nat→Prop}{k bk:Nat}{lst:HpQ}{A A':World}(cx:MCx l lo n₀ J Jx L w vo vy m Ls Hs As Bs)(h:WkI lo n₀ J w X Y k bk lst A)(hb:Below A.heap.size A A'):WkI lo n₀ J w X (fun b=>Y b∨(A.heap.size≤b∧b<A'.heap.size)) k bk lst A':=by
 have hk:Kb (fun _=>True) A A':=Kb.of_below hb (fun b hb _=>hb);refine⟨h.b.trans (hb.mono (Nat.le_trans cx.nlo h.s)),Nat.le_trans h.s hb.size,cx.ab _ _ _ _ h.j (hk.mono (fun _ _ _=>trivial)),fun b hy=>?_,.inl h.yb,h.h.kb hk trivial⟩
 rcases hy with hy | ⟨h1,h2⟩
 ·have:=h.y b hy;exact⟨this.1,Nat.lt_of_lt_of_le this.2.1 hb.size,this.2.2⟩
 refine⟨Nat.le_trans h.s h1,h2,fun hx=>?_⟩;have:=cx.lt _ _ _ h.j b hx;omega
theorem WkP.back {X Y:Nat→Prop}{k bk:Nat}{lst:HpQ}{A A1 A':World}{r:Bool}(hb:Below A.heap.size A A1)(h:WkP n₀ J Jx X (fun b=>Y b∨(A.heap.size≤b∧b<A1.heap.size)) k bk lst A1 r A'):WkP n₀ J Jx X Y k bk lst A r A':=by
 obtain⟨h,h4⟩:=h;refine⟨?_,(Kb.of_below hb (fun b hb' _=>hb')).trans (h4.mono (fun b _ h=>h.imp id (fun h=>⟨.inl h.1,h.2⟩)))⟩;cases r with
 | false=>exact h
 | true =>
   obtain⟨⟨X',h1,h2⟩,h3⟩:=h;exact⟨⟨X',h1,fun b hx=>(h2 b hx).imp id (fun h=>Nat.le_trans hb.size h)⟩,h3⟩
end
def WkOK (l lo n₀:Nat)(J:Nat→(Nat→Prop)→World→Prop)(Jx:World→Prop)(L:List Ft)(w:World)(vo vy:Value)(m:Nat)(Ls:LkQ)(Hs:HoQ)(As Bs:List (List Ru))(n:Nat):Prop:=
 ∀ (A:World) (k:Nat) (X Y:Nat→Prop) (bk:Nat) (lst:HpQ) (met:Nat→Bool),lst.length+n=25→1≤n→0<lst.length→WkI lo n₀ J w X Y k bk lst A→spB (m:Int) (laH lst).1=true→hdrB (laH lst).2=true→Nxt L k (pwL Ls Hs As Bs n lst met) →
   Calls Tryz.prog 60 #[.agg #[vo,vy],.slice (some ⟨bk,0,none⟩) lst.length 24,metV met,.func (.yield l) #[] #[]] A fun e A'=>∃r,e=.returned (.bool r)∧WkP n₀ J Jx X Y (k+(pwL Ls Hs As Bs n lst met).length) bk lst A r A'
def TkOK (l lo n₀:Nat)(J:Nat→(Nat→Prop)→World→Prop)(Jx:World→Prop)(L:List Ft)(w:World)(vo vy:Value)(m:Nat)(Ls:LkQ)(Hs:HoQ)(As Bs:List (List Ru))(n:Nat):Prop:=
 ∀ (A:World) (k:Nat) (X Y:Nat→Prop) (bk:Nat) (lst:HpQ) (met:Nat→Bool) (g:Lg),lst.length+n=24→0<lst.length→WkI lo n₀ J w X Y k bk lst A→(∃Ts,g=lgA Ls Hs Ts lst)→Nxt L k (tkL (pwL Ls Hs As Bs n) g lst met) →
   Calls Tryz.prog 90 #[.agg #[vo,vy],legV g,.slice (some ⟨bk,0,none⟩) lst.length 24,metV met,.func (.yield l) #[] #[]] A fun e A'=>∃r,e=.returned (.bool r)∧WkP n₀ J Jx X Y (k+(tkL (pwL Ls Hs As Bs n) g lst met).length) bk lst A r A'
theorem step_append_fits {P:Program}{α:Type}{E:Enc α}(w:World){ops:Array Oper}{o:Oper}{a:Act}{K:Act→World→Prop}{Q:Exit→Act→World→Prop}{X:Prop}(hgd:o.guard=none)(s x:Operand)(t e:TypeId)
 (ho:o.op=.call { callee:=.builtin .append,args:=#[s,x],argTypes:=#[t,t] }) (ht:P.underlying t=some (.slice e)) (i:TypeInfo) (hi:P.info? e=some i)
 (hsize:i.size=E.n) (base g cap:Nat) (L:List α) (hs:a.eval s=.slice (some ⟨g,0,none⟩) L.length cap) (hown:w.ownsRow base e E.n (.slice (some ⟨g,0,none⟩) L.length cap) L.length (cellsG E L)) (g2 q c:Nat) (hx:a.eval x=.slice (some ⟨g2,q,none⟩) 1 c) (y:α) (hM:VAt w g2 q (E.c y))
 (hroom:L.length+1≤cap)
 (h:∀w',w'.ownsRow base e E.n (.slice (some ⟨g,0,none⟩) (L.length+1) cap) (L.length+1) (cellsG E (L++[y]))→w.grownBy w' (some g)→K (a.put o.dst (.slice (some ⟨g,0,none⟩) (L.length+1) cap)) w'):
 if Region.wanted o (yielded ops a.tmps)=true then Oper.wp P o a w K Q else X:=by
 have hw:Region.wanted o (yielded ops a.tmps)=true:=by simp[Region.wanted,hgd]
 rw[if_pos hw];obtain⟨w',hrun,r1,r2⟩:=run_append_fits (P:=P) w base t o.type e i E.n ht hi hsize g L.length cap (cellsG E L) hown ⟨g2,q,none⟩ 1 c (E.c y) (by rw[E.len];simp) (fun j u hj=>by rw[Addr.add_lit];exact hM j u hj) (E.one y) hroom;unfold Oper.wp;simp[execOp,ho,resolve,invoke,builtin,hs,hx,hrun,Result.andThen];refine h w' ?_ r2;rw[cellsG_app,cellsG_one];exact r1
end
section
open Go.RowKit Go.Shelf
attribute [local go_sem] Oper.semAt_some
structure TB (A W:World)(vo vy:Value)(g:Lg)(met:Nat→Bool):Prop where
 below:Below A.heap.size A W
 size:W.heap.size=A.heap.size+3
 x0:W.cell? ⟨A.heap.size,0,none⟩=some vo
 x1:W.cell? ⟨A.heap.size,1,none⟩=some vy
 g0:W.cell? ⟨A.heap.size+1,0,none⟩=some (.int .i64 g.1)
 g1:W.cell? ⟨A.heap.size+1,1,none⟩=some (.string g.2.1)
 g2:W.cell? ⟨A.heap.size+1,2,none⟩=some (.int .i64 g.2.2.1.1)
 g3:W.cell? ⟨A.heap.size+1,3,none⟩=some (.int .i64 g.2.2.1.2)
 g4:W.cell? ⟨A.heap.size+1,4,none⟩=some (.int .i64 g.2.2.2)
 m0:W.cell? ⟨A.heap.size+1+1,0,none⟩=some (.bool (met 0))
 m1:W.cell? ⟨A.heap.size+1+1,1,none⟩=some (.bool (met 1))
 m2:W.cell? ⟨A.heap.size+1+1,2,none⟩=some (.bool (met 2))
 m3:W.cell? ⟨A.heap.size+1+1,3,none⟩=some (.bool (met 3))
 m4:W.cell? ⟨A.heap.size+1+1,4,none⟩=some (.bool (met 4))
 m5:W.cell? ⟨A.heap.size+1+1,5,none⟩=some (.bool (met 5))
def tbox (A:World)(vo vy:Value)(a:Int)(b:ByteArray)(c d e:Int)(q0 q1 q2 q3 q4 q5:Bool):World:=((A.alloc (Obj.cells #[vo,vy] 105)).alloc (Obj.cells #[.int .i64 a,.string b,.int .i64 c,.int .i64 d,.int .i64 e] 137)).alloc (Obj.cells #[.bool q0,.bool q1,.bool q2,.bool q3,.bool q4,.bool q5] 143)
theorem tb_new (A:World)(vo vy:Value)(g:Lg)(met:Nat→Bool):TB A (tbox A vo vy g.1 g.2.1 g.2.2.1.1 g.2.2.1.2 g.2.2.2 (met 0) (met 1) (met 2) (met 3) (met 4) (met 5)) vo vy g met:=by
 have hb:∀(W:World) (o:Obj),Below W.heap.size W (W.alloc o):=fun W o=>(Below.refl _ _).alloc (Nat.le_refl _) _
 unfold tbox;have e1:(A.alloc (Obj.cells #[vo,vy] 105)).heap.size=A.heap.size+1:=by simp
 have h1:=vat_new A [vo,vy] 105;have hB1:=hb A (Obj.cells #[vo,vy] 105)
 generalize A.alloc (Obj.cells #[vo,vy] 105)=A1 at e1 h1 hB1
 have e2:(A1.alloc (Obj.cells #[.int .i64 g.1,.string g.2.1,.int .i64 g.2.2.1.1,.int .i64 g.2.2.1.2,.int .i64 g.2.2.2] 137)).heap.size=A.heap.size+1+1:=by simp[e1]
 have h2:=vat_new A1 [.int .i64 g.1,.string g.2.1,.int .i64 g.2.2.1.1,.int .i64 g.2.2.1.2,.int .i64 g.2.2.2] 137;have hB2:=hb A1 (Obj.cells #[.int .i64 g.1,.string g.2.1,.int .i64 g.2.2.1.1,.int .i64 g.2.2.1.2,.int .i64 g.2.2.2] 137);rw[e1] at h2
 generalize A1.alloc (Obj.cells #[.int .i64 g.1,.string g.2.1,.int .i64 g.2.2.1.1,.int .i64 g.2.2.1.2,.int .i64 g.2.2.2] 137)=A2 at e2 h2 hB2
 have e3:(A2.alloc (Obj.cells #[.bool (met 0),.bool (met 1),.bool (met 2),.bool (met 3),.bool (met 4),.bool (met 5)] 143)).heap.size=A.heap.size+3:=by simp[e2]
 have h3:=vat_new A2 [.bool (met 0),.bool (met 1),.bool (met 2),.bool (met 3),.bool (met 4),.bool (met 5)] 143;have hB3:=hb A2 (Obj.cells #[.bool (met 0),.bool (met 1),.bool (met 2),.bool (met 3),.bool (met 4),.bool (met 5)] 143);rw[e2] at h3;have k1:=(h1.later hB2).later hB3;have k2:=h2.later hB3;exact⟨(hB1.trans (hB2.mono (by omega))).trans (hB3.mono (by omega)),e3,k1 0 _ rfl,k1 1 _ rfl,k2 0 _ rfl,k2 1 _ rfl,k2 2 _ rfl,k2 3 _ rfl,k2 4 _ rfl,h3 0 _ rfl,h3 1 _ rfl,h3 2 _ rfl,h3 3 _ rfl,h3 4 _ rfl,h3 5 _ rfl⟩
section
variable {l lo n₀:Nat}{J:Nat→(Nat→Prop)→World→Prop}{Jx:World→Prop}{L:List Ft}{w:World}{vo vy:Value}{m:Nat}{Ls:LkQ}{Hs:HoQ}{As Bs:List (List Ru)}
theorem take_end (cx:MCx l lo n₀ J Jx L w vo vy m Ls Hs As Bs)(nn:Nat)(hn:3≤nn)(A:World)(k:Nat)(X Y:Nat→Prop)(bk:Nat)(lst:HpQ)(met:Nat→Bool)(g:Lg)(hI:WkI lo n₀ J w X Y k bk lst A)(hg:g.1≠0)(hL:L[k]?=some (g.1,g.2.1,lst)):
 CallsIn Fence.wide nn Tryz.prog 90 #[.agg #[vo,vy],legV g,.slice (some ⟨bk,0,none⟩) lst.length 24,metV met,.func (.yield l) #[] #[]] A fun e A'=>∃r,e=.returned (.bool r)∧WkP n₀ J Jx X Y (k+1) bk lst A r A':=by
 have h1:1≤nn:=by omega
 have hT:=tb_new A vo vy g met;obtain⟨a,b,⟨c,d⟩,e⟩:=g;unfold legV metV
 dsimp only at hT hg hL ⊢
 obtain⟨A1,hA1⟩:∃W,tbox A vo vy a b c d e (met 0) (met 1) (met 2) (met 3) (met 4) (met 5)=W:=⟨_,rfl⟩;rw[hA1] at hT;have hI1:=hI.later cx hT.below;obtain⟨q,hq⟩:∃q,q=lst.length:=⟨_,rfl⟩;have hy:=yield_any (m':=nn-1) (cx.yi k X A1 #[.agg #[.int .i64 a,.string b,.slice (some ⟨bk,0,none⟩) q 24]] (a,b,lst) _ hI1.j hL ⟨_,_,_,rfl,by rw[hq];exact hI1.h.gs⟩ hI1.s (fun x hx=>⟨(hI1.y x hx).1,(hI1.y x hx).2.2⟩));obtain⟨fn,tmps,assign,body,hyr,hR⟩:=hy;have HI1:Hid (WkI lo n₀ J w X (fun b=>Y b∨(A.heap.size≤b∧b<A1.heap.size)) k bk lst A1):=hI1;have HT:Hid (TB A A1 vo vy (a,b,((c,d),e)) met):=hT;have ea:(a != 0)=true:=by simp[hg]
 rw[←hq];refine callsIn_of_wp Tryz.func90 rfl trivial ?_ rfl;simp only[Tryz.ntmps90,List.size_toArray,List.length_cons,List.length_nil,Nat.reduceAdd,Nat.reduceSub,Array.replicate_succ,Array.replicate_zero,List.push_toArray,List.append_toArray,List.nil_append,List.cons_append];clear hI1 hI hL hq hg hT;subst hA1;unfold tbox at hyr hR
 gi_wp2
 refine hR.mono ?_;rintro e5 A2 (⟨rfl,⟨X',hJ,hX⟩,hk⟩ | ⟨rfl,hJx,hk⟩)
 ·have HP:Hid (WkP n₀ J Jx X Y (k+1) bk lst A true A2):=by
   exact WkP.back HT.out.below ⟨⟨⟨X',hJ,hX⟩,HI1.out.h.kb hk (.inr HI1.out.yb)⟩,hk.mono (fun b _ h=>h.imp id (fun h=>h.1))⟩
  clear hJ hX hk
  gi_wp2
  go_ret;exact⟨true,rfl,HP.out⟩
 have HP:Hid (WkP n₀ J Jx X Y (k+1) bk lst A false A2):=WkP.back HT.out.below ⟨hJx,hk.mono (fun b _ h=>h.imp id (fun h=>h.1))⟩;clear hJx hk
 gi_wp2
 go_ret;exact⟨false,rfl,HP.out⟩
end
end
section
open Go.RowKit Go.Shelf
theorem hk_of {W:World}{bk:Nat}{l:HpQ}{p:(Int×Int)×Int}(h:W.ownsRow 0 101 hopE.n (.slice (some ⟨bk,0,none⟩) (l.length+1) 24) (l.length+1) (cellsG hopE (l++[p]))):HK W bk (l++[p]):=by
 unfold HK;rw[List.length_append,List.length_singleton];exact h
section
variable {l lo n₀:Nat}{J:Nat→(Nat→Prop)→World→Prop}{Jx:World→Prop}{L:List Ft}{w:World}{vo vy:Value}{m:Nat}{Ls:LkQ}{Hs:HoQ}{As Bs:List (List Ru)}
theorem WkI.hop {X Y:Nat→Prop}{k bk:Nat}{lst:HpQ}{A W:World}(cx:MCx l lo n₀ J Jx L w vo vy m Ls Hs As Bs)(h:WkI lo n₀ J w X Y k bk lst A)(hk:Kb (fun b=>b≠bk) A W){p:(Int×Int)×Int}(hh:HK W bk (lst++[p])):WkI lo n₀ J w X Y k bk (lst++[p]) W:=by
 have hbk:=h.y bk h.yb;have hnl:=cx.nlo;refine⟨h.b.trans (hk.below (by have:=h.s;omega) (fun b hb=>by omega)),Nat.le_trans h.s hk.size,cx.ab _ _ _ _ h.j (hk.mono (fun b _ hx=>?_)),fun b hy=>?_,h.yb,hh⟩
 ·intro e;subst e
  rcases hx with hx | hx
  ·omega
  exact hbk.2.2 hx
 have:=h.y b hy;exact⟨this.1,Nat.lt_of_lt_of_le this.2.1 hk.size,this.2.2⟩
theorem WkP.hop {X Y:Nat→Prop}{k bk:Nat}{lst:HpQ}{A W A':World}{r:Bool}{p:(Int×Int)×Int}(hn:n₀≤bk)(hk:Kb (fun b=>b≠bk) A W)(h:WkP n₀ J Jx X Y k bk (lst++[p]) W r A'):WkP n₀ J Jx X Y k bk lst A r A':=by
 obtain⟨h,h4⟩:=h;refine⟨?_,(hk.mono (fun b _ h=>?_)).trans h4⟩
 ·cases r with
  | false=>exact h
  | true =>
    obtain⟨⟨X',h1,h2⟩,h3⟩:=h;exact⟨⟨X',h1,fun b hx=>(h2 b hx).imp id (fun h=>Nat.le_trans hk.size h)⟩,h3.pre⟩
 rcases h with h | h
 ·omega
 exact h.2
theorem take_on (cx:MCx l lo n₀ J Jx L w vo vy m Ls Hs As Bs)(n:Nat)(hW:WkOK l lo n₀ J Jx L w vo vy m Ls Hs As Bs n)(A:World)(k:Nat)(X Y:Nat→Prop)(bk:Nat)(lst:HpQ)(met:Nat→Bool)(c d e:Int)(b:ByteArray)(hlen:lst.length+n=24)(hn1:1≤n)(hI:WkI lo n₀ J w X Y k bk lst A)(hsp:spB (m:Int) (c,d)=true)(hhd:hdrB e=true)(hL:Nxt L k (pwL Ls Hs As Bs n (lst++[((c,d),e)]) met)):
 Calls Tryz.prog 90 #[.agg #[vo,vy],.agg #[.int .i64 0,.string b,.int .i64 c,.int .i64 d,.int .i64 e],.slice (some ⟨bk,0,none⟩) lst.length 24,metV met,.func (.yield l) #[] #[]] A fun e' A'=>∃r,e'=.returned (.bool r)∧WkP n₀ J Jx X Y (k+(pwL Ls Hs As Bs n (lst++[((c,d),e)]) met).length) bk lst A r A':=by
 have hT:=tb_new A vo vy (0,b,((c,d),e)) met
 dsimp only at hT
 obtain⟨A1,hA1⟩:∃W,tbox A vo vy 0 b c d e (met 0) (met 1) (met 2) (met 3) (met 4) (met 5)=W:=⟨_,rfl⟩;rw[hA1] at hT;have hI1:=hI.later cx hT.below;have hbk:=hI.y bk hI.yb;obtain⟨N,hN⟩:∃N,N=(pwL Ls Hs As Bs n (lst++[((c,d),e)]) met).length:=⟨_,rfl⟩;rw[←hN];have HWK:Hid (∀W,Kb (fun b=>b≠bk) A1 W→HK W bk (lst++[((c,d),e)])→Calls Tryz.prog 60 #[.agg #[vo,vy],.slice (some ⟨bk,0,none⟩) (lst.length+1) 24,.agg #[.bool (met 0),.bool (met 1),.bool (met 2),.bool (met 3),.bool (met 4),.bool (met 5)],.func (.yield l) #[] #[]] W fun e A'=>∃r,e=.returned (.bool r)∧WkP n₀ J Jx X Y (k+N) bk lst A r A'∧Kb (fun b=>A.heap.size≤b∧b<A1.heap.size) W A'):=fun W hk hh=>by
  have h:=hW W k X _ bk (lst++[((c,d),e)]) met (by rw[List.length_append,List.length_singleton];omega) hn1 (by rw[List.length_append];simp) (hI1.hop cx hk hh) (by rw[la_app];exact hsp) (by rw[la_app];exact hhd) hL;rw[←hN,List.length_append,List.length_singleton] at h;refine h.mono ?_;rintro e' A' ⟨r,rfl,hP⟩;exact⟨r,rfl,WkP.back hT.below (WkP.hop (Nat.le_trans cx.nlo hbk.1) hk hP),hP.2.mono (fun b _ h=>.inr ⟨.inr h,by omega⟩)⟩
 have HSW:Hid (∀W,Kb (fun b=>A.heap.size≤b∧b<A1.heap.size) A1 W→W.cell? ⟨A.heap.size,0,none⟩=some vo∧W.cell? ⟨A.heap.size,1,none⟩=some vy∧W.cell? ⟨A.heap.size+1,2,none⟩=some (.int .i64 c)∧W.cell? ⟨A.heap.size+1,3,none⟩=some (.int .i64 d)∧W.cell? ⟨A.heap.size+1,4,none⟩=some (.int .i64 e)∧W.cell? ⟨A.heap.size+1+1,0,none⟩=some (.bool (met 0))∧W.cell? ⟨A.heap.size+1+1,1,none⟩=some (.bool (met 1))∧W.cell? ⟨A.heap.size+1+1,2,none⟩=some (.bool (met 2))∧W.cell? ⟨A.heap.size+1+1,3,none⟩=some (.bool (met 3))∧W.cell? ⟨A.heap.size+1+1,4,none⟩=some (.bool (met 4))∧W.cell? ⟨A.heap.size+1+1,5,none⟩=some (.bool (met 5))):=fun W hk=>by
  have hsz:=hT.size;have a0:A.heap.size≤A.heap.size∧A.heap.size<A1.heap.size:=by omega
  have a1:A.heap.size≤A.heap.size+1∧A.heap.size+1<A1.heap.size:=by omega
  have a2:A.heap.size≤A.heap.size+1+1∧A.heap.size+1+1<A1.heap.size:=by omega
  exact⟨hk.at hT.x0 a0,hk.at hT.x1 a0,hk.at hT.g2 a1,hk.at hT.g3 a1,hk.at hT.g4 a1,hk.at hT.m0 a2,hk.at hT.m1 a2,hk.at hT.m2 a2,hk.at hT.m3 a2,hk.at hT.m4 a2,hk.at hT.m5 a2⟩
 have HOW:Hid (∀W,Kb (fun _=>True) A1 W→W.ownsRow 0 101 hopE.n (.slice (some ⟨bk,0,none⟩) lst.length 24) lst.length (cellsG hopE lst)):=fun W hk=>hI1.h.kb hk trivial
 have HRM:Hid (lst.length+1≤24):=by show _≤_;omega
 have HA1:Hid (((A.alloc (Obj.cells #[vo,vy] 105)).alloc (Obj.cells #[.int .i64 0,.string b,.int .i64 c,.int .i64 d,.int .i64 e] 137)).alloc (Obj.cells #[.bool (met 0),.bool (met 1),.bool (met 2),.bool (met 3),.bool (met 4),.bool (met 5)] 143)=A1):=hA1;have HNB:Hid (∀b,b<A1.heap.size→(A.heap.size≤b∧b<A1.heap.size)→b≠bk):=fun b _ h=>by omega
 obtain⟨_,hsz,x0,x1,g0,g1,g2,g3,g4,m0,m1,m2,m3,m4,m5⟩:=hT;have hlA:A.heap.size<A1.heap.size:=by omega
 have hlA1:A.heap.size+1<A1.heap.size:=by omega
 have hlA2:A.heap.size+1+1<A1.heap.size:=by omega
 dsimp only at g0 g1 g2 g3 g4
 unfold metV;obtain⟨j0,hj,hy0,hy1,hy2⟩:=info_parts hop_info;clear hW hlen hn1 hI hI1 hsp hhd hL hA1 hN hbk hsz;go_enter Tryz.func90,Tryz.ntmps90;go_upto_region 1 with fail;rw[HA1.out];clear HA1;go_upto_region 3 with fail
 go_region_held3 (fun W=>W.cell? ⟨A.heap.size,0,none⟩=some vo∧W.cell? ⟨A.heap.size,1,none⟩=some vy∧W.cell? ⟨A.heap.size+1,2,none⟩=some (.int .i64 c)∧W.cell? ⟨A.heap.size+1,3,none⟩=some (.int .i64 d)∧W.cell? ⟨A.heap.size+1,4,none⟩=some (.int .i64 e)∧W.cell? ⟨A.heap.size+1+1,0,none⟩=some (.bool (met 0))∧W.cell? ⟨A.heap.size+1+1,1,none⟩=some (.bool (met 1))∧W.cell? ⟨A.heap.size+1+1,2,none⟩=some (.bool (met 2))∧W.cell? ⟨A.heap.size+1+1,3,none⟩=some (.bool (met 3))∧W.cell? ⟨A.heap.size+1+1,4,none⟩=some (.bool (met 4))∧W.cell? ⟨A.heap.size+1+1,5,none⟩=some (.bool (met 5)))
  (first | (with_reducible assumption) | (with_reducible exact HSW.out _ (Kb.refl _ _).drew) | (with_reducible exact HSW.out _ ((Kb.refl _ _).drew.alloc _)) | (with_reducible exact HSW.out _ ((Kb.refl _ _).alloc _).drew) | (with_reducible exact HSW.out _ HK4.out) | (with_reducible exact HSW.out _ HK6.out))
  (first
   | (refine step_append_fits (E:=hopE) _ (by rfl) _ _ 96 101 (by rfl) Tryz.underlying96 j0 hj hy1 0 bk 24 lst (by rfl) (HOW.out _ ?_) _ 0 1 (by rfl) ((c,d),e) ?_ HRM.out ?_;(focus (first | exact (Kb.refl _ _).drew | exact (Kb.refl _ _).drew.alloc _ | exact ((Kb.refl _ _).alloc _).drew));(focus (exact hop_new A1 c d e _));intro w5 ho5 hg5;have HK5:Hid (Kb (fun b=>b≠bk) A1 w5):=(Kb.grown (by first | exact ((Kb.refl _ _).alloc _).drew | exact (Kb.refl _ _).drew.alloc _) hg5 (fun r er _ h=>h (by cases er;rfl)));have HK4:Hid (Kb (fun b=>A.heap.size≤b∧b<A1.heap.size) A1 w5):=(HK5.out.mono HNB.out);have HH5:Hid (HK w5 bk (lst++[((c,d),e)])):=(hk_of ho5);clear ho5 hg5)
   | (go_at_call 60;refine (HWK.out _ HK5.out HH5.out).mono ?_;rintro e6 w6 ⟨r,rfl,hP,hq6⟩;have HP:Hid (WkP n₀ J Jx X Y (k+N) bk lst A r w6):=hP;have HK6:Hid (Kb (fun b=>A.heap.size≤b∧b<A1.heap.size) A1 w6):=(HK4.out.trans hq6);clear hP hq6))
 all_goals go_wp2
 all_goals go_ret
 all_goals exact⟨_,rfl,HP.out⟩
end
section
variable {l lo n₀:Nat}{J:Nat→(Nat→Prop)→World→Prop}{Jx:World→Prop}{L:List Ft}{w:World}{vo vy:Value}{m:Nat}{Ls:LkQ}{Hs:HoQ}{As Bs:List (List Ru)}
theorem take_ok (cx:MCx l lo n₀ J Jx L w vo vy m Ls Hs As Bs)(n:Nat)(hW:1≤n→WkOK l lo n₀ J Jx L w vo vy m Ls Hs As Bs n):TkOK l lo n₀ J Jx L w vo vy m Ls Hs As Bs n:=by
 rintro A k X Y bk lst met g hlen h0 hI ⟨Ts,rfl⟩ hL;by_cases hg:(lgA Ls Hs Ts lst).1=0
 ·have h24:=la_24 hg;have e:tkL (pwL Ls Hs As Bs n) (lgA Ls Hs Ts lst) lst met=pwL Ls Hs As Bs n (lst++[(lgA Ls Hs Ts lst).2.2]) met:=by rw[tkL,if_pos hg]
  rw[e] at hL ⊢;have hsp:=la_sp cx.tp hg;have hhd:=la_hdr hg;unfold legV;clear e
  generalize lgA Ls Hs Ts lst=G at hg hL hsp hhd ⊢
  obtain⟨a,b,⟨c,d⟩,e'⟩:=G
  dsimp only at hg hL hsp hhd ⊢
  subst hg;exact take_on cx n (hW (by omega)) A k X Y bk lst met c d e' b hlen (by omega) hI hsp hhd hL
 have e:tkL (pwL Ls Hs As Bs n) (lgA Ls Hs Ts lst) lst met=[((lgA Ls Hs Ts lst).1,(lgA Ls Hs Ts lst).2.1,lst)]:=by rw[tkL,if_neg hg]
 rw[e] at hL ⊢;exact (callsIn_wide (n:=3)).1 (take_end cx 3 (by omega) A k X Y bk lst met _ hI hg (hL 0 _ rfl))
theorem lgs_at {W:World}{B:Nat}{v:Value}{f:Nat→Nat→Lg}{m a h:Nat}(hl:LGs W B v f m)(ha:a<m)(hh:h<16):∃g o cap ga oa ca,v=.slice (some ⟨g,o,none⟩) m cap∧W.cell? ⟨g,o+a,none⟩=some (.slice (some ⟨ga,oa,none⟩) 16 ca)∧W.cell? ⟨ga,oa+h*5,none⟩=some (.int .i64 (f a h).1)∧W.cell? ⟨ga,oa+h*5+1,none⟩=some (.string (f a h).2.1)∧W.cell? ⟨ga,oa+h*5+2,none⟩=some (.int .i64 (f a h).2.2.1.1)∧W.cell? ⟨ga,oa+h*5+3,none⟩=some (.int .i64 (f a h).2.2.1.2)∧W.cell? ⟨ga,oa+h*5+4,none⟩=some (.int .i64 (f a h).2.2.2):=by
 obtain⟨vs,h1,h2⟩:=hl;obtain⟨u,hu,h3⟩:=h2 a ha;have hG:=own_GS (E:=legE) (L:=(List.range 16).map (f a)) (by rw[List.length_map,List.length_range];exact h3);obtain⟨ao,n,ca,rfl,hn,_,_,hA⟩:=hG.form;have hn2:n=16:=by rw[←hn];simp
 subst hn2;obtain⟨ga,oa,rfl,hga,_⟩:=hA (by omega)
 rcases h1.2 with ⟨rfl,h⟩ | ⟨g,cap,cur,rfl,_,hg,_,_,hcs,ht⟩
 ·omega
 refine⟨g,0,cap,ga,oa,ca,rfl,?_,?_⟩
 ·have:=World.ownsRow.cellAt h1 a (by omega);rw[Nat.zero_add,this];exact hu
 have h5:=leg_cells (x0:=(f a h).1) (x1:=(f a h).2.1) (x2:=(f a h).2.2.1.1) (x3:=(f a h).2.2.1.2) (x4:=(f a h).2.2.2) (by
  have:=hga h (by simpa using hh);rw[show ((List.range 16).map (f a))[h]'(by simpa using hh)=f a h by simp] at this;exact this:VAt W ga (oa+h*5) (legE.c ((f a h).1,(f a h).2.1,(((f a h).2.2.1.1,(f a h).2.2.1.2),(f a h).2.2.2))))
 exact h5
theorem WkI.next {X Y:Nat→Prop}{k k2 bk:Nat}{lst:HpQ}{A A':World}(cx:MCx l lo n₀ J Jx L w vo vy m Ls Hs As Bs)(h:WkI lo n₀ J w X Y k bk lst A)(hp:WkP n₀ J Jx X Y k2 bk lst A true A'):∃X',WkI lo n₀ J w X' Y k2 bk lst A'∧∀b,X' b→X b∨A.heap.size≤b:=by
 obtain⟨⟨⟨X',h1,h2⟩,h3⟩,h4⟩:=hp;have hnl:=cx.nlo;refine⟨X',⟨h.b.trans (h4.below (by have:=h.s;omega) (fun b hb=>.inl hb)),Nat.le_trans h.s h4.size,h1,fun b hy=>?_,h.yb,h3⟩,h2⟩;have q:=h.y b hy;refine⟨q.1,Nat.lt_of_lt_of_le q.2.1 h4.size,fun hx=>?_⟩
 rcases h2 b hx with hx | hx
 ·exact q.2.2 hx
 omega
theorem WkI.set {X Y:Nat→Prop}{k bk b i:Nat}{lst:HpQ}{A:World}{u:Value}(cx:MCx l lo n₀ J Jx L w vo vy m Ls Hs As Bs)(h:WkI lo n₀ J w X Y k bk lst A)(hb:Y b)(hne:b≠bk):WkI lo n₀ J w X Y k bk lst (A.setCell ⟨b,i,none⟩ u):=by
 have q:=h.y b hb;have hnl:=cx.nlo;have hk:∀{p:Nat→Prop},¬p b→Kb p A (A.setCell ⟨b,i,none⟩ u):=fun hp=>(Kb.refl _ _).setCell (q:=⟨b,i,none⟩) (fun _=>hp) u
 have hs:A.heap.size≤(A.setCell ⟨b,i,none⟩ u).heap.size:=(hk (p:=fun _=>False) (fun h=>h)).size;refine⟨h.b.trans ((hk (p:=fun x=>x≠b) (fun h=>h rfl)).below (by have:=h.s;omega) (fun x hx=>by omega)),Nat.le_trans h.s hs,cx.ab _ _ _ _ h.j (hk ?_),fun x hx=>?_,h.yb,h.h.kb (hk (p:=fun x=>x≠b) (fun h=>h rfl)) (fun e=>hne e.symm)⟩
 ·rintro (h' | h')
  ·omega
  exact q.2.2 h'
 have:=h.y x hx;exact⟨this.1,Nat.lt_of_lt_of_le this.2.1 hs,this.2.2⟩
structure QB (A W:World)(vo vy:Value)(met:Nat→Bool)(x y h:Int):Prop where
 x0:W.cell? ⟨A.heap.size,0,none⟩=some vo
 x1:W.cell? ⟨A.heap.size,1,none⟩=some vy
 m:∀i,i<6→W.cell? ⟨A.heap.size+1,i,none⟩=some (.bool (met i))
 mf:∀i,W.frozen? ⟨A.heap.size+1,i,none⟩=false
 h0:W.cell? ⟨A.heap.size+1+1,0,none⟩=some (.int .i64 x)
 h1:W.cell? ⟨A.heap.size+1+1,1,none⟩=some (.int .i64 y)
 h2:W.cell? ⟨A.heap.size+1+1,2,none⟩=some (.int .i64 h)
theorem QB.kb {A W W':World}{vo vy:Value}{met:Nat→Bool}{x y h:Int}{p:Nat→Prop}(q:QB A W vo vy met x y h)(hk:Kb p W W')(hp:∀b,A.heap.size≤b→b<A.heap.size+3→p b):QB A W' vo vy met x y h:=
 ⟨hk.at q.x0 (hp _ (Nat.le_refl _) (by simp)),hk.at q.x1 (hp _ (Nat.le_refl _) (by simp)),fun i hi=>hk.at (q.m i hi) (hp _ (Nat.le_add_right _ _) (by simp)),fun i=>(hk.frozen (q:=⟨A.heap.size+1,i,none⟩) (show (⟨A.heap.size+1,0,none⟩:Addr).block<W.heap.size from bLQ W ⟨A.heap.size+1,0,none⟩ (q.m 0 (by omega))) (hp _ (Nat.le_add_right _ _) (by simp))).trans (q.mf i),hk.at q.h0 (hp _ (by simp;omega) (by simp)),hk.at q.h1 (hp _ (by simp;omega) (by simp)),hk.at q.h2 (hp _ (by simp;omega) (by simp))⟩
def qbox (A:World)(vo vy:Value)(q0 q1 q2 q3 q4 q5:Bool)(x y h:Int):World:=((A.alloc (Obj.cells #[vo,vy] 105)).alloc (Obj.cells #[.bool q0,.bool q1,.bool q2,.bool q3,.bool q4,.bool q5] 143)).alloc (Obj.cells #[.int .i64 x,.int .i64 y,.int .i64 h] 101)
theorem qb_new (A:World)(vo vy:Value)(met:Nat→Bool)(x y h:Int):QB A (qbox A vo vy (met 0) (met 1) (met 2) (met 3) (met 4) (met 5) x y h) vo vy met x y h∧Below A.heap.size A (qbox A vo vy (met 0) (met 1) (met 2) (met 3) (met 4) (met 5) x y h)∧(qbox A vo vy (met 0) (met 1) (met 2) (met 3) (met 4) (met 5) x y h).heap.size=A.heap.size+3:=by
 have hb:∀(W:World) (o:Obj),Below W.heap.size W (W.alloc o):=fun W o=>(Below.refl _ _).alloc (Nat.le_refl _) _
 unfold qbox;have e1:(A.alloc (Obj.cells #[vo,vy] 105)).heap.size=A.heap.size+1:=by simp
 have k1:=vat_new A [vo,vy] 105;have hB1:=hb A (Obj.cells #[vo,vy] 105)
 generalize A.alloc (Obj.cells #[vo,vy] 105)=A1 at e1 k1 hB1
 have e2:(A1.alloc (Obj.cells #[.bool (met 0),.bool (met 1),.bool (met 2),.bool (met 3),.bool (met 4),.bool (met 5)] 143)).heap.size=A.heap.size+1+1:=by simp[e1]
 have k2:=vat_new A1 [.bool (met 0),.bool (met 1),.bool (met 2),.bool (met 3),.bool (met 4),.bool (met 5)] 143;have f2:=froz_new2 A1 #[.bool (met 0),.bool (met 1),.bool (met 2),.bool (met 3),.bool (met 4),.bool (met 5)] 143;have hB2:=hb A1 (Obj.cells #[.bool (met 0),.bool (met 1),.bool (met 2),.bool (met 3),.bool (met 4),.bool (met 5)] 143);rw[e1] at k2 f2;have l2:A.heap.size+1<(A1.alloc (Obj.cells #[.bool (met 0),.bool (met 1),.bool (met 2),.bool (met 3),.bool (met 4),.bool (met 5)] 143)).heap.size:=by rw[e2];omega
 generalize A1.alloc (Obj.cells #[.bool (met 0),.bool (met 1),.bool (met 2),.bool (met 3),.bool (met 4),.bool (met 5)] 143)=A2 at e2 k2 f2 hB2 l2
 have e3:(A2.alloc (Obj.cells #[.int .i64 x,.int .i64 y,.int .i64 h] 101)).heap.size=A.heap.size+3:=by simp[e2]
 have k3:=vat_new A2 [.int .i64 x,.int .i64 y,.int .i64 h] 101;have hB3:=hb A2 (Obj.cells #[.int .i64 x,.int .i64 y,.int .i64 h] 101);rw[e2] at k3;have j1:=(k1.later hB2).later hB3;have j2:=k2.later hB3;refine⟨⟨j1 0 _ rfl,j1 1 _ rfl,fun i hi=>?_,fun i=>(hB3.frozen (p:=⟨A.heap.size+1,i,none⟩) l2).trans (f2 i),k3 0 _ rfl,k3 1 _ rfl,k3 2 _ rfl⟩,(hB1.trans (hB2.mono (by omega))).trans (hB3.mono (by omega)),e3⟩
 match i,hi with
 | 0,_=>exact j2 0 _ rfl
 | 1,_=>exact j2 1 _ rfl
 | 2,_=>exact j2 2 _ rfl
 | 3,_=>exact j2 3 _ rfl
 | 4,_=>exact j2 4 _ rfl
 | 5,_=>exact j2 5 _ rfl
theorem QB.meet {A W:World}{vo vy:Value}{met:Nat→Bool}{x y h:Int}(q:QB A W vo vy met x y h){a:Nat}(ha:a<6):QB A (W.setCell ⟨A.heap.size+1,a,none⟩ (.bool true)) vo vy (mtS met a) x y h:=by
 have o:∀(g j:Nat),(g,j)≠(A.heap.size+1,a)→(W.setCell ⟨A.heap.size+1,a,none⟩ (.bool true)).cell? ⟨g,j,none⟩=W.cell? ⟨g,j,none⟩:=fun g j hne=>World.cell?_setCell_other _ _ _ _ (by intro e;injection e with e1 e2;exact hne (by rw[e1,e2]))
 refine⟨?_,?_,fun i hi=>?_,fun i=>?_,?_,?_,?_⟩
 ·rw[o _ _ (by simp)];exact q.x0
 ·rw[o _ _ (by simp)];exact q.x1
 ·unfold mtS;by_cases e:i=a
  ·subst e;rw[if_pos rfl];exact World.cell?_setCell_same _ _ _ (q.m i hi)
  rw[if_neg e,o _ _ (by simp[e])];exact q.m i hi
 ·rw[World.frozen?_setCell];exact q.mf i
 ·rw[o _ _ (by simp)];exact q.h0
 ·rw[o _ _ (by simp)];exact q.h1
 rw[o _ _ (by simp)];exact q.h2
end
theorem LegAt.kb {W W':World}{g:Nat}{a:Int}{b:ByteArray}{c d e:Int}{p:Nat→Prop}(h:LegAt W g a b c d e)(hk:Kb p W W')(hp:p g):LegAt W' g a b c d e:=⟨hk.at h.1 hp,hk.at h.2.1 hp,hk.at h.2.2.1 hp,hk.at h.2.2.2.1 hp,hk.at h.2.2.2.2 hp⟩
theorem LegAt.lt {W:World}{g:Nat}{a:Int}{b:ByteArray}{c d e:Int}(h:LegAt W g a b c d e):g<W.heap.size:=bLQ W ⟨g,0,none⟩ h.1
theorem legB_eq {g o:Int×ByteArray×((Int×Int)×Int)}(h:legB g o=true):g=o:=by
 obtain⟨a,b,⟨c,d⟩,e⟩:=g;obtain⟨a',b',⟨c',d'⟩,e'⟩:=o;simp only[legB,Bool.and_eq_true,ba_eq,beq_iff_eq] at h;obtain⟨rfl,rfl,rfl,rfl,rfl⟩:=h;rfl
theorem legB_same (g:Int×ByteArray×((Int×Int)×Int)):legB g g=true:=by
 obtain⟨a,b,⟨c,d⟩,e⟩:=g;have e:(b==b)=true:=ba_eq.2 rfl;simp[legB,e]
section
variable {l lo n₀:Nat}{J:Nat→(Nat→Prop)→World→Prop}{Jx:World→Prop}{L:List Ft}{w:World}{vo vy:Value}{m:Nat}{Ls:LkQ}{Hs:HoQ}{As Bs:List (List Ru)}
theorem walk_ok (cx:MCx l lo n₀ J Jx L w vo vy m Ls Hs As Bs)(n:Nat)(hT:TkOK l lo n₀ J Jx L w vo vy m Ls Hs As Bs n):WkOK l lo n₀ J Jx L w vo vy m Ls Hs As Bs (n+1):=by
 intro A k X Y bk lst met hlen hn1 h0 hI hsp hhd hL;obtain⟨_,_,_,e5,hGn,_,_,hGa⟩:=hI.h.gs.form;cases e5;obtain⟨g5,o5,hao5,hc5,_⟩:=hGa h0;simp only[Option.some.injEq,Addr.mk.injEq,and_true] at hao5;obtain⟨rfl,rfl⟩:=hao5;obtain⟨p0,p1,p2,hkl,hLk,c0,c1,c2⟩:=hop_at hc5 rfl (show lst.length-1<lst.length by omega);have hla:laH lst=((p0,p1),p2):=by
  have e:laH lst=lst[lst.length-1]:=by
   unfold laH;simp[List.getD,hkl]
  rw[e,hLk]
 rw[hla] at hsp hhd;have hsp2:=sp_of hsp;simp only at hsp2 hhd;have hhd2:0≤p2∧p2<16:=by simpa[hdrB] using hhd
 obtain⟨a,rfl⟩:∃a:Nat,p0=(a:Int)+1:=⟨(p0-1).toNat,by omega⟩;obtain⟨h,rfl⟩:∃h:Nat,p2=(h:Int):=⟨p2.toNat,by omega⟩;have ham:a<m:=by omega
 have ha6:a<6:=by have:=cx.m6;omega
 have hh16:h<16:=by omega
 have hsx:sxH lst=a:=by unfold sxH;rw[hla];simp
 obtain⟨q,hq⟩:∃q,q=lst.length:=⟨_,rfl⟩;obtain⟨gY,hgY⟩:∃g,g=lgA Ls Hs Bs lst:=⟨_,rfl⟩;obtain⟨gO,hgO⟩:∃g,g=lgA Ls Hs As lst:=⟨_,rfl⟩;have HAFT:Hid (∀(Ts:List (List Ru)) (W:World),HK W bk lst→Calls Tryz.prog 57 #[legV (lgT Ls Hs (taT Ts ((a:Int)+1)) (((a:Int)+1,0),(h:Int))),.slice (some ⟨bk,0,none⟩) lst.length 24] W fun e w'=>e=.returned (legV (lgA Ls Hs Ts lst))∧Below W.heap.size W w'):=fun Ts W hW=>by
  have h1:=after_any (lgT Ls Hs (taT Ts ((a:Int)+1)) (((a:Int)+1,0),(h:Int))) (some ⟨bk,0,none⟩) lst.length 24 lst W hW.gs;have e1:lgA Ls Hs Ts lst=afL (lgT Ls Hs (taT Ts ((a:Int)+1)) (((a:Int)+1,0),(h:Int))) lst:=by
   unfold lgA;rw[hla];rfl
  rw[e1];exact h1
 have HAY:=HAFT.out Bs;have HAO:=HAFT.out As;rw[←hgY] at HAY;rw[←hgO] at HAO;clear HAFT;obtain⟨hQ,hB3,hS3⟩:=qb_new A vo vy met ((a:Int)+1) p1 (h:Int);obtain⟨A3,hA3⟩:∃W,qbox A vo vy (met 0) (met 1) (met 2) (met 3) (met 4) (met 5) ((a:Int)+1) p1 (h:Int)=W:=⟨_,rfl⟩;rw[hA3] at hQ hB3 hS3;have hI3:=hI.later cx hB3;obtain⟨gy,oy,cy,gy2,oy2,cy2,rfl,ty,Y0,Y1,Y2,Y3,Y4⟩:=lgs_at (cx.yng A3 hI3.b) ham hh16;obtain⟨go,oo,co,go2,oo2,co2,rfl,tO,O0,O1,O2,O3,O4⟩:=lgs_at (cx.old A3 hI3.b) ham hh16;obtain⟨bY,hbY⟩:∃b,b=lgT Ls Hs (taT Bs ((a:Int)+1)) (((a:Int)+1,0),(h:Int)):=⟨_,rfl⟩;obtain⟨bO,hbO⟩:∃b,b=lgT Ls Hs (taT As ((a:Int)+1)) (((a:Int)+1,0),(h:Int)):=⟨_,rfl⟩;rw[←hbY] at Y0 Y1 Y2 Y3 Y4 HAY;rw[←hbO] at O0 O1 O2 O3 O4 HAO;clear hbY hbO;obtain⟨u0,u1,⟨u2,u3⟩,u4⟩:=bY;obtain⟨v0,v1,⟨v2,v3⟩,v4⟩:=bO
 dsimp only at Y0 Y1 Y2 Y3 Y4 O0 O1 O2 O3 O4
 have hbk:=hI.y bk hI.yb;have HEY:Hid (∃Ts,gY=lgA Ls Hs Ts lst):=⟨_,hgY⟩;have HEO:Hid (∃Ts,gO=lgA Ls Hs Ts lst):=⟨_,hgO⟩;have HPW:Hid (pwL Ls Hs As Bs (n+1) lst met=if met a=true then tkL (pwL Ls Hs As Bs n) gY lst met else tkL (pwL Ls Hs As Bs n) gO lst met++(if gY=gO then [] else tkL (pwL Ls Hs As Bs n) gY lst (mtS met a))):=by
  show _=_;rw[pwL,hsx,hgY,hgO]
 have HT:Hid (TkOK l lo n₀ J Jx L w (.slice (some ⟨go,oo,none⟩) m co) (.slice (some ⟨gy,oy,none⟩) m cy) m Ls Hs As Bs n):=hT;have HL:Hid (Nxt L k (pwL Ls Hs As Bs (n+1) lst met)):=hL;have HLEN:Hid (lst.length+n=24∧0<lst.length):=⟨by omega,h0⟩;have HI:Hid (WkI lo n₀ J w X Y k bk lst A):=hI;have HBK:Hid (lo≤bk∧bk<A.heap.size):=⟨hbk.1,hbk.2.1⟩;have HLO:Hid (n₀≤lo∧lo≤A.heap.size):=⟨cx.nlo,hI.s⟩;have HB3:Hid (Below A.heap.size A A3):=hB3;have HQ:Hid (QB A A3 (.slice (some ⟨go,oo,none⟩) m co) (.slice (some ⟨gy,oy,none⟩) m cy) met ((a:Int)+1) p1 (h:Int)):=hQ;have HS3:Hid (A3.heap.size=A.heap.size+3):=hS3;have HH3:Hid (HK A3 bk lst):=hI3.h;obtain⟨y0,y1,⟨y2,y3⟩,y4⟩:=gY;obtain⟨o0,o1,⟨o2,o3⟩,o4⟩:=gO;unfold legV at HAY HAO
 dsimp only at HAY HAO
 rw[←hq] at HAY HAO c0 c1 c2;have HAYW:Hid (∀W,Below A3.heap.size A3 W→Calls Tryz.prog 57 #[.agg #[.int .i64 u0,.string u1,.int .i64 u2,.int .i64 u3,.int .i64 u4],.slice (some ⟨bk,0,none⟩) q 24] W fun e w'=>e=.returned (.agg #[.int .i64 y0,.string y1,.int .i64 y2,.int .i64 y3,.int .i64 y4])∧Below W.heap.size W w'):=fun W hb=>HAY W (own_below hI3.h hb)
 have HAOW:Hid (∀W,Below A3.heap.size A3 W→Calls Tryz.prog 57 #[.agg #[.int .i64 v0,.string v1,.int .i64 v2,.int .i64 v3,.int .i64 v4],.slice (some ⟨bk,0,none⟩) q 24] W fun e w'=>e=.returned (.agg #[.int .i64 o0,.string o1,.int .i64 o2,.int .i64 o3,.int .i64 o4])∧Below W.heap.size W w'):=fun W hb=>HAO W (own_below hI3.h hb)
 have HSY:Hid (∀W,Below A3.heap.size A3 W→W.cell? ⟨A.heap.size,1,none⟩=some (.slice (some ⟨gy,oy,none⟩) m cy)∧W.cell? ⟨gy,oy+a,none⟩=some (.slice (some ⟨gy2,oy2,none⟩) 16 cy2)∧W.cell? ⟨A.heap.size+1+1,2,none⟩=some (.int .i64 (h:Int))∧W.cell? ⟨gy2,oy2+h*5,none⟩=some (.int .i64 u0)∧W.cell? ⟨gy2,oy2+h*5+1,none⟩=some (.string u1)∧W.cell? ⟨gy2,oy2+h*5+2,none⟩=some (.int .i64 u2)∧W.cell? ⟨gy2,oy2+h*5+3,none⟩=some (.int .i64 u3)∧W.cell? ⟨gy2,oy2+h*5+4,none⟩=some (.int .i64 u4)):=fun W hb=>⟨cell_later hb hQ.x1,cell_later hb ty,cell_later hb hQ.h2,cell_later hb Y0,cell_later hb Y1,cell_later hb Y2,cell_later hb Y3,cell_later hb Y4⟩
 have HSO:Hid (∀W,Below A3.heap.size A3 W→W.cell? ⟨A.heap.size,0,none⟩=some (.slice (some ⟨go,oo,none⟩) m co)∧W.cell? ⟨go,oo+a,none⟩=some (.slice (some ⟨go2,oo2,none⟩) 16 co2)∧W.cell? ⟨A.heap.size+1+1,2,none⟩=some (.int .i64 (h:Int))∧W.cell? ⟨go2,oo2+h*5,none⟩=some (.int .i64 v0)∧W.cell? ⟨go2,oo2+h*5+1,none⟩=some (.string v1)∧W.cell? ⟨go2,oo2+h*5+2,none⟩=some (.int .i64 v2)∧W.cell? ⟨go2,oo2+h*5+3,none⟩=some (.int .i64 v3)∧W.cell? ⟨go2,oo2+h*5+4,none⟩=some (.int .i64 v4)):=fun W hb=>⟨cell_later hb hQ.x0,cell_later hb tO,cell_later hb hQ.h2,cell_later hb O0,cell_later hb O1,cell_later hb O2,cell_later hb O3,cell_later hb O4⟩
 have HA3:Hid (((A.alloc (Obj.cells #[.slice (some ⟨go,oo,none⟩) m co,.slice (some ⟨gy,oy,none⟩) m cy] 105)).alloc (Obj.cells #[.bool (met 0),.bool (met 1),.bool (met 2),.bool (met 3),.bool (met 4),.bool (met 5)] 143)).alloc (Obj.cells #[.int .i64 ((a:Int)+1),.int .i64 p1,.int .i64 (h:Int)] 101)=A3):=hA3;have HQL:Hid (lst.length=q):=hq.symm;obtain⟨N,hN⟩:∃N,N=(pwL Ls Hs As Bs (n+1) lst met).length:=⟨_,rfl⟩;have HN:Hid ((pwL Ls Hs As Bs (n+1) lst met).length=N):=hN.symm;rw[←hq,←hN];have hq1:0<q:=by omega
 have hq24:q≤24:=by omega
 have hmi:IntKind.i64.wrap ((q:Int)-1)=((q-1:Nat):Int):=by
  rw[show (q:Int)-1=((q-1:Nat):Int) by omega];exact wrap_small (by omega) (by omega)
 have mb0:(0:Int)≤((q-1:Nat):Int):=by omega
 have mb1:((q-1:Nat):Int)<(q:Int):=by omega
 have hwa:IntKind.i64.wrap (a:Int)=(a:Int):=wrap_small (by omega) (by omega);have hwa2:IntKind.i64.wrap ((a:Int)+1-1)=(a:Int):=by rw[show (a:Int)+1-1=(a:Int) by omega];exact hwa
 have ab0:(0:Int)≤(a:Int):=by omega
 have ab1:(a:Int)<(m:Int):=by omega
 have ab6:(a:Int)<6:=by omega
 have hb0:(0:Int)≤(h:Int):=by omega
 have hb1:(h:Int)<16:=by omega
 have hlg:bk<A.heap.size:=hbk.2.1;simp only[Nat.zero_add] at c0 c1 c2;unfold metV;clear hT hlen hn1 h0 hI hsp hhd hL hGn hGa hc5 hkl hLk hla hsp2 hhd2 hsx HAY HAO hgY hgO hI3 hA3 hq hN hbk hQ hB3 hS3 ty tO Y0 Y1 Y2 Y3 Y4 O0 O1 O2 O3 O4;go_enter Tryz.func60,Tryz.ntmps60;go_upto_region 2 with fail;rw[HA3.out];clear HA3 c0 c1 c2;obtain⟨x0,x1,mm,mf,q0,q1,q2⟩:=HQ.out;clear mm mf;go_upto_region 3 with fail;obtain⟨s0,s1,s2,s3,s4,s5,s6,s7⟩:=HSY.out A3 (Below.refl _ _);have hlA:A.heap.size<A3.heap.size:=bLQ _ _ x0;have hlA2:A.heap.size+1+1<A3.heap.size:=bLQ _ _ q0;have hly:gy<A3.heap.size:=bLQ _ _ s1;have hly2:gy2<A3.heap.size:=bLQ _ _ s3;clear x0 q0 q1
 go_cut [11] from 23 (fun p w'=>∃g,p=.pointer (some ⟨g,0,none⟩)∧(LegAt w' g y0 y1 y2 y3 y4∧A3.heap.size≤g)∧Below A3.heap.size A3 w')
 case first =>
  go_region_held3 (fun W=>W.cell? ⟨A.heap.size,1,none⟩=some (.slice (some ⟨gy,oy,none⟩) m cy)∧W.cell? ⟨gy,oy+a,none⟩=some (.slice (some ⟨gy2,oy2,none⟩) 16 cy2)∧W.cell? ⟨A.heap.size+1+1,2,none⟩=some (.int .i64 (h:Int))∧W.cell? ⟨gy2,oy2+h*5,none⟩=some (.int .i64 u0)∧W.cell? ⟨gy2,oy2+h*5+1,none⟩=some (.string u1)∧W.cell? ⟨gy2,oy2+h*5+2,none⟩=some (.int .i64 u2)∧W.cell? ⟨gy2,oy2+h*5+3,none⟩=some (.int .i64 u3)∧W.cell? ⟨gy2,oy2+h*5+4,none⟩=some (.int .i64 u4))
   (first | (with_reducible assumption) | (with_reducible exact HSY.out _ (Below.drew (Below.refl _ _))) | (with_reducible exact HSY.out _ ((Below.drew (Below.refl _ _)).alloc (Nat.le_refl _) _)) | (with_reducible exact HSY.out _ ((Below.refl _ _).alloc (Nat.le_refl _) _).drew) | (with_reducible exact HSY.out _ HBX.out) | (with_reducible exact HSY.out _ (HBX.out.alloc HBX.out.size _)) | (with_reducible exact HSY.out _ (below_5 HBX.out _ (Nat.le_refl _) _ _ _ _ _)))
   (first
    | (go_at_call 57;refine (HAYW.out _ (by first | exact Below.drew (Below.refl _ _) | exact (Below.drew (Below.refl _ _)).alloc (Nat.le_refl _) _)).mono ?_;rintro e w' ⟨rfl,hb⟩;have HBX:Hid (Below A3.heap.size A3 w'):=(by first | exact bdrew hb | exact balloc hb);(try (have hbc:=zl_d hb;obtain⟨⟨z0,z1,z2,z3,z4⟩,zf⟩:=hbc;have zf0:=zf 0;have zf1:=zf 1;have zf2:=zf 2;have zf3:=zf 3;have zf4:=zf 4;clear zf));clear hb))
  all_goals (go_wp2_with fail;go_meet)
  all_goals refine⟨_,rfl,?_⟩
  all_goals first
   | (with_reducible exact⟨⟨lat_new _ _ _ _ _ _ _,HBX.out.size⟩,HBX.out.alloc HBX.out.size _⟩)
   | (with_reducible exact⟨⟨lat_5 (lat_of z0 z1 z2 z3 z4) _ _ _ _ _,Nat.le_refl _⟩,below_5 HBX.out _ (Nat.le_refl _) _ _ _ _ _⟩)
 case rest =>
  obtain⟨g4,rfl,⟨hL4,hg4⟩,hbw⟩:=hcut;obtain⟨w4,hw4⟩:∃X,X=wc:=⟨_,rfl⟩;subst hw4;have HB34:Hid (Below A3.heap.size A3 w4):=hbw;have HB4:Hid (Below A.heap.size A w4):=HB3.out.trans (hbw.mono HB3.out.size);have HQ4:Hid (QB A w4 (.slice (some ⟨go,oo,none⟩) m co) (.slice (some ⟨gy,oy,none⟩) m cy) met ((a:Int)+1) p1 (h:Int)):=HQ.out.kb (Kb.of_below hbw (fun b hb _=>hb):Kb (fun _=>True) _ _) (fun _ _ _=>trivial);have HL4:Hid (LegAt w4 g4 y0 y1 y2 y3 y4):=hL4;have HG4:Hid (A.heap.size+3≤g4):=by
   show _≤_;have:=HS3.out;omega
  clear s0 s1 s2 s3 s4 s5 s6 s7 hlA hlA2 hly hly2 x1 q2 hL4 hg4 hbw HSY HAYW;obtain⟨x0,x1,mm,mf,q0,q1,q2⟩:=HQ4.out;obtain⟨b,hb⟩:∃b,b=met a:=⟨_,rfl⟩;have HMA:Hid (met a=b):=hb.symm;have ma:w4.cell? ⟨A.heap.size+1,a,none⟩=some (.bool b):=by rw[hb];exact mm a ha6
  have hlm:A.heap.size+1<w4.heap.size:=bLQ _ _ ma;clear hb;cases b with
  | true =>
    have HTK:Hid (Calls Tryz.prog 90 #[.agg #[.slice (some ⟨go,oo,none⟩) m co,.slice (some ⟨gy,oy,none⟩) m cy],.agg #[.int .i64 y0,.string y1,.int .i64 y2,.int .i64 y3,.int .i64 y4],.slice (some ⟨bk,0,none⟩) q 24,.agg #[.bool (met 0),.bool (met 1),.bool (met 2),.bool (met 3),.bool (met 4),.bool (met 5)],.func (.yield l) #[] #[]] w4 fun e A'=>∃r,e=.returned (.bool r)∧WkP n₀ J Jx X Y (k+N) bk lst A r A'):=by
     have e1:pwL Ls Hs As Bs (n+1) lst met=tkL (pwL Ls Hs As Bs n) (y0,y1,((y2,y3),y4)) lst met:=by rw[HPW.out,if_pos HMA.out]
     have hx:=HT.out w4 k X _ bk lst met (y0,y1,((y2,y3),y4)) HLEN.out.1 HLEN.out.2 (HI.out.later cx HB4.out) HEY.out (by rw[←e1];exact HL.out);rw[←e1,HN.out,HQL.out] at hx;refine hx.mono ?_;rintro e A' ⟨r,rfl,hP⟩;exact⟨r,rfl,hP.back HB4.out⟩
    have m0:=mm 0 (by omega);have m1:=mm 1 (by omega);have m2:=mm 2 (by omega);have m3:=mm 3 (by omega);have m4:=mm 4 (by omega);have m5:=mm 5 (by omega);obtain⟨d0,d1,d2,d3,d4⟩:=HL4.out;clear mm mf
    go_wp2_with fail
    refine HTK.out.mono ?_;rintro e w5 ⟨r,rfl,hP⟩;have HP:Hid (WkP n₀ J Jx X Y (k+N) bk lst A r w5):=hP;clear hP;go_wp2;go_ret;exact⟨r,rfl,HP.out⟩
  | false =>
    have HSO4:Hid (∀W,Below w4.heap.size w4 W→W.cell? ⟨A.heap.size,0,none⟩=some (.slice (some ⟨go,oo,none⟩) m co)∧W.cell? ⟨go,oo+a,none⟩=some (.slice (some ⟨go2,oo2,none⟩) 16 co2)∧W.cell? ⟨A.heap.size+1+1,2,none⟩=some (.int .i64 (h:Int))∧W.cell? ⟨go2,oo2+h*5,none⟩=some (.int .i64 v0)∧W.cell? ⟨go2,oo2+h*5+1,none⟩=some (.string v1)∧W.cell? ⟨go2,oo2+h*5+2,none⟩=some (.int .i64 v2)∧W.cell? ⟨go2,oo2+h*5+3,none⟩=some (.int .i64 v3)∧W.cell? ⟨go2,oo2+h*5+4,none⟩=some (.int .i64 v4)):=fun W hb=>HSO.out W (HB34.out.trans (hb.mono HB34.out.size))
    have HAO4:Hid (∀W,Below w4.heap.size w4 W→Calls Tryz.prog 57 #[.agg #[.int .i64 v0,.string v1,.int .i64 v2,.int .i64 v3,.int .i64 v4],.slice (some ⟨bk,0,none⟩) q 24] W fun e w'=>e=.returned (.agg #[.int .i64 o0,.string o1,.int .i64 o2,.int .i64 o3,.int .i64 o4])∧Below W.heap.size W w'):=fun W hb=>HAOW.out W (HB34.out.trans (hb.mono HB34.out.size))
    obtain⟨s0,s1,s2,s3,s4,s5,s6,s7⟩:=HSO4.out w4 (Below.refl _ _);have hlA:A.heap.size<w4.heap.size:=bLQ _ _ x0;have hlA2:A.heap.size+1+1<w4.heap.size:=bLQ _ _ q0;have hly:go<w4.heap.size:=bLQ _ _ s1;have hly2:go2<w4.heap.size:=bLQ _ _ s3;clear x0 x1 mm mf q0 q1 q2 HSO HAOW;go_upto_region 6 with fail;clear ma
    go_cut [12] from 43 (fun p w'=>∃g,p=.pointer (some ⟨g,0,none⟩)∧(LegAt w' g o0 o1 o2 o3 o4∧w4.heap.size≤g)∧Below w4.heap.size w4 w')
    case first =>
     go_region_held3 (fun W=>W.cell? ⟨A.heap.size,0,none⟩=some (.slice (some ⟨go,oo,none⟩) m co)∧W.cell? ⟨go,oo+a,none⟩=some (.slice (some ⟨go2,oo2,none⟩) 16 co2)∧W.cell? ⟨A.heap.size+1+1,2,none⟩=some (.int .i64 (h:Int))∧W.cell? ⟨go2,oo2+h*5,none⟩=some (.int .i64 v0)∧W.cell? ⟨go2,oo2+h*5+1,none⟩=some (.string v1)∧W.cell? ⟨go2,oo2+h*5+2,none⟩=some (.int .i64 v2)∧W.cell? ⟨go2,oo2+h*5+3,none⟩=some (.int .i64 v3)∧W.cell? ⟨go2,oo2+h*5+4,none⟩=some (.int .i64 v4))
      (first | (with_reducible assumption) | (with_reducible exact HSO4.out _ (Below.drew (Below.refl _ _))) | (with_reducible exact HSO4.out _ ((Below.drew (Below.refl _ _)).alloc (Nat.le_refl _) _)) | (with_reducible exact HSO4.out _ ((Below.refl _ _).alloc (Nat.le_refl _) _).drew) | (with_reducible exact HSO4.out _ HBX.out) | (with_reducible exact HSO4.out _ (HBX.out.alloc HBX.out.size _)) | (with_reducible exact HSO4.out _ (below_5 HBX.out _ (Nat.le_refl _) _ _ _ _ _)))
      (first
       | (go_at_call 57;refine (HAO4.out _ (by first | exact Below.drew (Below.refl _ _) | exact (Below.drew (Below.refl _ _)).alloc (Nat.le_refl _) _)).mono ?_;rintro e w' ⟨rfl,hb⟩;have HBX:Hid (Below w4.heap.size w4 w'):=(by first | exact bdrew hb | exact balloc hb);(try (have hbc:=zl_d hb;obtain⟨⟨z0,z1,z2,z3,z4⟩,zf⟩:=hbc;have zf0:=zf 0;have zf1:=zf 1;have zf2:=zf 2;have zf3:=zf 3;have zf4:=zf 4;clear zf));clear hb))
     all_goals (go_wp2_with fail;go_meet)
     all_goals refine⟨_,rfl,?_⟩
     all_goals first
      | (with_reducible exact⟨⟨lat_new _ _ _ _ _ _ _,HBX.out.size⟩,HBX.out.alloc HBX.out.size _⟩)
      | (with_reducible exact⟨⟨lat_5 (lat_of z0 z1 z2 z3 z4) _ _ _ _ _,Nat.le_refl _⟩,below_5 HBX.out _ (Nat.le_refl _) _ _ _ _ _⟩)
    case rest =>
     obtain⟨g5,rfl,⟨hL5,hg5⟩,hbw⟩:=hcut;obtain⟨w5,hw5⟩:∃X,X=wc:=⟨_,rfl⟩;subst hw5;have HB5:Hid (Below A.heap.size A w5):=HB4.out.trans (hbw.mono HB4.out.size);have HQ5:Hid (QB A w5 (.slice (some ⟨go,oo,none⟩) m co) (.slice (some ⟨gy,oy,none⟩) m cy) met ((a:Int)+1) p1 (h:Int)):=HQ4.out.kb (Kb.of_below hbw (fun b hb _=>hb):Kb (fun _=>True) _ _) (fun _ _ _=>trivial);have HY5:Hid (LegAt w5 g4 y0 y1 y2 y3 y4):=HL4.out.later hbw;have HO5:Hid (LegAt w5 g5 o0 o1 o2 o3 o4):=hL5;have HG5:Hid (A.heap.size+3≤g5):=by
      show _≤_;have h1:=HG4.out;have h2:=HL4.out.lt;omega
     clear s0 s1 s2 s3 s4 s5 s6 s7 hlA hlA2 hly hly2 hlm hL5 hg5 hbw HSO4 HAO4 HQ4 HL4;obtain⟨x0,x1,mm,mf,q0,q1,q2⟩:=HQ5.out;have m0:=mm 0 (by omega);have m1:=mm 1 (by omega);have m2:=mm 2 (by omega);have m3:=mm 3 (by omega);have m4:=mm 4 (by omega);have m5:=mm 5 (by omega);obtain⟨d0,d1,d2,d3,d4⟩:=HO5.out;obtain⟨No,hNo⟩:∃N,N=(tkL (pwL Ls Hs As Bs n) (o0,o1,((o2,o3),o4)) lst met).length:=⟨_,rfl⟩;have e1:pwL Ls Hs As Bs (n+1) lst met=tkL (pwL Ls Hs As Bs n) (o0,o1,((o2,o3),o4)) lst met++(if (y0,y1,((y2,y3),y4))=(o0,o1,((o2,o3),o4)) then [] else tkL (pwL Ls Hs As Bs n) (y0,y1,((y2,y3),y4)) lst (mtS met a)):=by rw[HPW.out,if_neg (by rw[HMA.out];simp)]
     have HE1:Hid (pwL Ls Hs As Bs (n+1) lst met=tkL (pwL Ls Hs As Bs n) (o0,o1,((o2,o3),o4)) lst met++(if (y0,y1,((y2,y3),y4))=(o0,o1,((o2,o3),o4)) then [] else tkL (pwL Ls Hs As Bs n) (y0,y1,((y2,y3),y4)) lst (mtS met a))):=e1;have HNO:Hid ((tkL (pwL Ls Hs As Bs n) (o0,o1,((o2,o3),o4)) lst met).length=No):=hNo.symm;have HTK:Hid (Calls Tryz.prog 90 #[.agg #[.slice (some ⟨go,oo,none⟩) m co,.slice (some ⟨gy,oy,none⟩) m cy],.agg #[.int .i64 o0,.string o1,.int .i64 o2,.int .i64 o3,.int .i64 o4],.slice (some ⟨bk,0,none⟩) q 24,.agg #[.bool (met 0),.bool (met 1),.bool (met 2),.bool (met 3),.bool (met 4),.bool (met 5)],.func (.yield l) #[] #[]] w5 fun e A'=>∃r,e=.returned (.bool r)∧WkP n₀ J Jx X (fun b=>Y b∨(A.heap.size≤b∧b<w5.heap.size)) (k+No) bk lst w5 r A'):=by
      have hl:=HL.out;rw[e1] at hl;have hx:=HT.out w5 k X _ bk lst met (o0,o1,((o2,o3),o4)) HLEN.out.1 HLEN.out.2 (HI.out.later cx HB5.out) HEO.out hl.left;rw[HQL.out,←hNo] at hx;exact hx
     clear mm mf hNo e1
     go_wp2_with fail
     refine HTK.out.mono ?_;rintro e w6 ⟨r,rfl,hP⟩;have HP:Hid (WkP n₀ J Jx X (fun b=>Y b∨(A.heap.size≤b∧b<w5.heap.size)) (k+No) bk lst w5 r w6):=hP;clear hP x0 x1 q0 q1 q2 m0 m1 m2 m3 m4 m5 d0 d1 d2 d3 d4;cases r with
     | false =>
       have HPF:Hid (WkP n₀ J Jx X Y (k+N) bk lst A false w6):=by
        have hx:=HP.out.back HB5.out;exact⟨hx.1,hx.2⟩
       go_wp2;go_ret;exact⟨false,rfl,HPF.out⟩
     | true =>
       obtain⟨X1,hI6,hX1⟩:=(HI.out.later cx HB5.out).next cx HP.out;have HI6:Hid (WkI lo n₀ J w X1 (fun b=>Y b∨(A.heap.size≤b∧b<w5.heap.size)) (k+No) bk lst w6):=hI6;have HX1:Hid (∀b,X1 b→X b∨w5.heap.size≤b):=hX1;have hbx:∀b,A.heap.size≤b→b<w5.heap.size→b<n₀∨((Y b∨(A.heap.size≤b∧b<w5.heap.size))∧b≠bk):=fun b h1 h2=>.inr ⟨.inr ⟨h1,h2⟩,by have:=HBK.out;omega⟩
       have hs5:A.heap.size+3≤w5.heap.size:=by
        have:=HG4.out;have:=HY5.out.lt;omega
       have HQ6:Hid (QB A w6 (.slice (some ⟨go,oo,none⟩) m co) (.slice (some ⟨gy,oy,none⟩) m cy) met ((a:Int)+1) p1 (h:Int)):=HQ5.out.kb HP.out.2 (fun b h1 h2=>hbx b h1 (by omega));have HY6:Hid (LegAt w6 g4 y0 y1 y2 y3 y4):=HY5.out.kb HP.out.2 (hbx g4 (by have:=HG4.out;omega) HY5.out.lt);have HO6:Hid (LegAt w6 g5 o0 o1 o2 o3 o4):=HO5.out.kb HP.out.2 (hbx g5 (by have:=HG5.out;omega) HO5.out.lt);have HYM:Hid (Y (A.heap.size+1)∨(A.heap.size≤A.heap.size+1∧A.heap.size+1<w5.heap.size)):=.inr ⟨by omega,by omega⟩;obtain⟨c,hc⟩:∃c,c=legB (y0,y1,((y2,y3),y4)) (o0,o1,((o2,o3),o4)):=⟨_,rfl⟩;have HC:Hid (legB (y0,y1,((y2,y3),y4)) (o0,o1,((o2,o3),o4))=c):=hc.symm;obtain⟨d0,d1,d2,d3,d4⟩:=HY6.out;obtain⟨f0,f1,f2,f3,f4⟩:=HO6.out;clear hI6 hX1 hbx hc hs5;go_upto_region 9 with fail
       go_cut [63] from 61 (fun v w'=>v=.bool c∧w'=w6)
       case first =>
        rcases leg_ways y0 y1 y2 y3 y4 o0 o1 o2 o3 o4 with ⟨e0,e⟩ | ⟨e0,e1,e⟩ | ⟨e0,e1,e2,e⟩ | ⟨e0,e1,e2,e3,e⟩ | ⟨e0,e1,e2,e3,e4,e⟩ | ⟨e0,e1,e2,e3,e4,e⟩
        all_goals
         rw[HC.out] at e;have HE:Hid (c=_):=e;clear e
         go_wp2_with fail
         go_meet
         exact⟨by rw[HE.out],rfl⟩
       case rest =>
        obtain⟨rfl,hwc⟩:=hcut;have hwc2:=hwc.symm;clear hwc;subst hwc2;clear d0 d1 d2 d3 d4 f0 f1 f2 f3 f4;cases c with
        | true =>
          have HPT:Hid (WkP n₀ J Jx X Y (k+N) bk lst A true w6):=by
           have e2:N=No:=by
            rw[←HN.out,HE1.out,if_pos (legB_eq HC.out),List.append_nil,HNO.out]
           rw[e2];exact HP.out.back HB5.out
          go_wp2;go_ret;exact⟨true,rfl,HPT.out⟩
        | false =>
          have hne:¬(y0,y1,((y2,y3),y4))=(o0,o1,((o2,o3),o4)):=fun e=>by
           have h1:=HC.out;rw[e,legB_same] at h1;cases h1
          have hQ7:=HQ6.out.meet ha6;have hI7:=HI6.out.set (i:=a) (u:=.bool true) cx HYM.out (by have:=HBK.out;omega);have hY7:LegAt (w6.setCell ⟨A.heap.size+1,a,none⟩ (.bool true)) g4 y0 y1 y2 y3 y4:=HY6.out.kb (p:=fun b=>b≠A.heap.size+1) ((Kb.refl _ _).setCell (q:=⟨A.heap.size+1,a,none⟩) (fun _ h=>h rfl) _) (by have:=HG4.out;omega);have hK7:Kb (fun b=>b<n₀∨(Y b∧b≠bk)) w6 (w6.setCell ⟨A.heap.size+1,a,none⟩ (.bool true)):=(Kb.refl _ _).setCell (q:=⟨A.heap.size+1,a,none⟩) (fun _ h=>by
           rcases h with h | h
           ·have h1:=HLO.out;simp only at h;omega
           have h1:=(HI.out.y _ h.1).2.1;simp only at h1;omega) _
          obtain⟨w7,hw7⟩:∃W,w6.setCell ⟨A.heap.size+1,a,none⟩ (.bool true)=W:=⟨_,rfl⟩;rw[hw7] at hQ7 hI7 hY7 hK7;have HW7:Hid (w6.setCell ⟨A.heap.size+1,a,none⟩ (.bool true)=w7):=hw7;have HTK2:Hid (Calls Tryz.prog 90 #[.agg #[.slice (some ⟨go,oo,none⟩) m co,.slice (some ⟨gy,oy,none⟩) m cy],.agg #[.int .i64 y0,.string y1,.int .i64 y2,.int .i64 y3,.int .i64 y4],.slice (some ⟨bk,0,none⟩) q 24,.agg #[.bool (mtS met a 0),.bool (mtS met a 1),.bool (mtS met a 2),.bool (mtS met a 3),.bool (mtS met a 4),.bool (mtS met a 5)],.func (.yield l) #[] #[]] w7 fun e A'=>∃r,e=.returned (.bool r)∧WkP n₀ J Jx X Y (k+N) bk lst A r A'):=by
           have hl:=HL.out;rw[HE1.out,if_neg hne] at hl;have hr:=hl.right;rw[HNO.out] at hr;have hx:=HT.out w7 (k+No) X1 _ bk lst (mtS met a) (y0,y1,((y2,y3),y4)) HLEN.out.1 HLEN.out.2 hI7 HEY.out hr;have e2:k+No+(tkL (pwL Ls Hs As Bs n) (y0,y1,((y2,y3),y4)) lst (mtS met a)).length=k+N:=by
            rw[←HN.out,HE1.out,if_neg hne,List.length_append,HNO.out];omega
           rw[HQL.out,e2] at hx;refine hx.mono ?_;rintro e A' ⟨r,rfl,hR,hK⟩;refine⟨r,rfl,?_,?_⟩
           ·cases r with
            | false=>exact hR
            | true =>
              obtain⟨⟨X2,j1,j2⟩,j3⟩:=hR;refine⟨⟨X2,j1,fun b hb=>?_⟩,j3⟩;have z1:=HB5.out.size;have z2:=HP.out.2.size;have z3:=hK7.size
              rcases j2 b hb with hb | hb
              ·rcases HX1.out b hb with hb | hb
               ·exact .inl hb
               exact .inr (by omega)
              exact .inr (by omega)
           exact (((Kb.of_below HB5.out (fun b hb' _=>hb')).trans (HP.out.2.mono (fun b _ h=>h.imp id (fun h=>⟨.inl h.1,h.2⟩)))).trans hK7).trans (hK.mono (fun b _ h=>h.imp id (fun h=>⟨.inl h.1,h.2⟩)))
          have ma:w6.cell? ⟨A.heap.size+1,a,none⟩=some (.bool (met a)):=HQ6.out.m a ha6;have hlm6:A.heap.size+1<w6.heap.size:=bLQ _ _ ma;have mfa:w6.frozen? ⟨A.heap.size+1,a,none⟩=false:=HQ6.out.mf a;obtain⟨x0,x1,mm,mf,q0,q1,q2⟩:=hQ7;have m0:=mm 0 (by omega);have m1:=mm 1 (by omega);have m2:=mm 2 (by omega);have m3:=mm 3 (by omega);have m4:=mm 4 (by omega);have m5:=mm 5 (by omega);obtain⟨e0,e1,e2,e3,e4⟩:=hY7;clear mm mf hw7 hne hI7 hK7;go_upto_region 12 with fail;rw[HW7.out];clear HW7 ma mfa
          go_wp2_with fail
          refine HTK2.out.mono ?_;rintro e w8 ⟨r,rfl,hP8⟩;have HP8:Hid (WkP n₀ J Jx X Y (k+N) bk lst A r w8):=hP8;clear hP8;go_wp2;go_ret;exact⟨r,rfl,HP8.out⟩
end
section
variable {l lo n₀:Nat}{J:Nat→(Nat→Prop)→World→Prop}{Jx:World→Prop}{L:List Ft}{w:World}{vo vy:Value}{m:Nat}{Ls:LkQ}{Hs:HoQ}{As Bs:List (List Ru)}
theorem walk_all (cx:MCx l lo n₀ J Jx L w vo vy m Ls Hs As Bs):∀n,1≤n→WkOK l lo n₀ J Jx L w vo vy m Ls Hs As Bs n
 | 0,h=>by omega
 | n+1,_=>walk_ok cx n (take_ok cx n (fun h=>walk_all cx n h))
end
theorem hk_one {W:World}{bk:Nat}{p:(Int×Int)×Int}(h:W.ownsRow 0 101 hopE.n (.slice (some ⟨bk,0,none⟩) (([]:HpQ).length+1) 24) (([]:HpQ).length+1) (cellsG hopE ([]++[p]))):HK W bk [p]:=h
theorem fates1_it (vo vy:Value)(m:Nat)(Ls:LkQ)(Hs:HoQ)(As Bs:List (List Ru))(bx bi:Nat)(c d e:Int)(w:World)
 (hx0:w.cell? ⟨bx,0,none⟩=some vo) (hx1:w.cell? ⟨bx,1,none⟩=some vy) (hi0:w.cell? ⟨bi,0,none⟩=some (.int .i64 c)) (hi1:w.cell? ⟨bi,1,none⟩=some (.int .i64 d)) (hi2:w.cell? ⟨bi,2,none⟩=some (.int .i64 e))
 (hm:m≤6) (ht:tpN (m:Int) Ls Hs=0) (ho:LGs w 0 vo (fun (a h:Nat)=>lgT Ls Hs (taT As ((a:Int)+1)) (((a:Int)+1,0),(h:Int))) m) (hy:LGs w 0 vy (fun (a h:Nat)=>lgT Ls Hs (taT Bs ((a:Int)+1)) (((a:Int)+1,0),(h:Int))) m) (hsp:spB (m:Int) (c,d)=true) (hhd:hdrB e=true):
 ItF Tryz.prog 59 #[.pointer (some ⟨bx,0,none⟩),.pointer (some ⟨bi,0,none⟩)] FtV w.heap.size (pwS Ls Hs As Bs (c,d) e) w:=by
 intro l J Jx W hW hn h0 hlt hab hax hY;have cx:MCx l W.heap.size w.heap.size J Jx (pwS Ls Hs As Bs (c,d) e) w vo vy m Ls Hs As Bs:=⟨hn,hm,ht,fun A hA=>ho.later hA,fun A hA=>hy.later hA,hlt,hab,hax,hY⟩;have HSW:Hid (∀V,Below w.heap.size w V→V.cell? ⟨bx,0,none⟩=some vo∧V.cell? ⟨bx,1,none⟩=some vy∧V.cell? ⟨bi,0,none⟩=some (.int .i64 c)∧V.cell? ⟨bi,1,none⟩=some (.int .i64 d)∧V.cell? ⟨bi,2,none⟩=some (.int .i64 e)):=fun V hV=>⟨cell_later hV hx0,cell_later hV hx1,cell_later hV hi0,cell_later hV hi1,cell_later hV hi2⟩
 have HSK:Hid (∀V,Kb (fun _=>True) W V→V.cell? ⟨bx,0,none⟩=some vo∧V.cell? ⟨bx,1,none⟩=some vy∧V.cell? ⟨bi,0,none⟩=some (.int .i64 c)∧V.cell? ⟨bi,1,none⟩=some (.int .i64 d)∧V.cell? ⟨bi,2,none⟩=some (.int .i64 e)):=fun V hk=>HSW.out V (hW.trans (hk.below hn (fun _ _=>trivial)))
 have HMX:Hid (24≤maxLen):=by show _≤_;unfold maxLen;omega
 have HWW:Hid (Below w.heap.size w W):=hW;have HNN:Hid (w.heap.size≤W.heap.size):=hn;have HWK:Hid (∀(V:World) (bk:Nat),Kb (fun _=>True) W V→W.heap.size≤bk→HK V bk [((c,d),e)]→Calls Tryz.prog 60 #[.agg #[vo,vy],.slice (some ⟨bk,0,none⟩) 1 24,.agg #[.bool false,.bool false,.bool false,.bool false,.bool false,.bool false],.func (.yield l) #[] #[]] V fun e' A'=>∃r,e'=.returned (.bool r)∧((∃X,J (pwS Ls Hs As Bs (c,d) e).length X A')∨Jx A')∧Below w.heap.size w A'):=fun V bk hk hb hh=>by
  have hI:WkI W.heap.size w.heap.size J w (fun _=>False) (fun b=>W.heap.size≤b∧b<V.heap.size) 0 bk [((c,d),e)] V:=⟨hW.trans (hk.below (by omega) (fun _ _=>trivial)),hk.size,hab _ _ _ _ h0 (hk.mono (fun _ _ _=>trivial)),fun b hb=>⟨hb.1,hb.2,fun h=>h⟩,⟨hb,hh.lt⟩,hh⟩;have h:=walk_all cx 24 (by omega) V 0 _ _ bk [((c,d),e)] (fun _=>false) rfl (by omega) (by simp) hI hsp hhd (fun i x hx=>by rw[Nat.zero_add];exact hx);refine h.mono ?_;rintro e' A' ⟨r,rfl,hR,hK⟩;refine⟨r,rfl,?_,hI.b.trans (hK.below (by have:=hk.size;omega) (fun b hb=>.inl hb))⟩;cases r with
  | false=>exact .inr hR
  | true =>
    obtain⟨⟨X',j1,_⟩,_⟩:=hR;rw[Nat.zero_add] at j1;exact .inl ⟨X',j1⟩
 obtain⟨s0,s1,s2,s3,s4⟩:=HSW.out W hW;have hlx:bx<W.heap.size:=bLQ _ _ s0;have hli:bi<W.heap.size:=bLQ _ _ s2;obtain⟨j0,hj,hy0,hy1,hy2⟩:=info_parts hop_info;obtain⟨MC,hMC,hmk⟩:∃MC:Array Value,MC.size=24*3∧∀V:World,(Instr.makeSlice 96 (.int .i64 0) (.int .i64 24)).run Tryz.prog V=.ok (.slice (some ⟨V.heap.size,0,none⟩) 0 24) (V.alloc (.cells MC 101)):=by
  refine⟨madeCells (Value.agg #[.int .i64 0,.int .i64 0,.int .i64 0]).cells (24*3),size_madeCells _ _,fun V=>?_⟩;have h:=run_make (P:=Tryz.prog) V 96 101 j0 (.agg #[.int .i64 0,.int .i64 0,.int .i64 0]) Tryz.underlying96 hj hy0 .i64 .i64 0 24 (by decide) (by decide) (by rw[hy2];decide) (by decide);rw[hy1] at h;exact h
 have hal:∀(V:World) (o:Obj),Kb (fun _=>True) V (V.alloc o):=fun V o=>(Kb.refl _ _).alloc o
 have HOM1:Hid (∀o:Obj,((W.alloc (.cells MC 101)).alloc o).ownsRow 0 101 hopE.n (.slice (some ⟨W.heap.size,0,none⟩) 0 24) 0 (cellsG hopE [])):=fun o=>own_kb (World.ownsRow_made W MC 24 (Nat.zero_le _) HMX.out hMC) (hal _ o) (fun _ _=>trivial)
 have HOM2:Hid (∀o:Obj,((W.alloc o).alloc (.cells MC 101)).ownsRow 0 101 hopE.n (.slice (some ⟨W.heap.size+1,0,none⟩) 0 24) 0 (cellsG hopE [])):=fun o=>by
  have h:=World.ownsRow_made (base:=0) (e:=101) (size:=3) (W.alloc o) MC 24 (Nat.zero_le _) HMX.out hMC;rw[World.size_alloc] at h;exact h
 have HVM1:Hid (VAt ((W.alloc (.cells MC 101)).alloc (.cells #[.int .i64 c,.int .i64 d,.int .i64 e] 101)) (W.heap.size+1) 0 (hopE.c ((c,d),e))):=by
  have h:=hop_new (W.alloc (.cells MC 101)) c d e 101;rw[World.size_alloc] at h;exact h
 have HVM2:Hid (VAt ((W.alloc (.cells #[.int .i64 c,.int .i64 d,.int .i64 e] 101)).alloc (.cells MC 101)) W.heap.size 0 (hopE.c ((c,d),e))):=(hop_new W c d e 101).later ((Below.refl _ _).alloc (Nat.le_refl _) _);clear hMC hal;show Calls Tryz.prog 59 #[.func (.yield l) #[] #[],.pointer (some ⟨bx,0,none⟩),.pointer (some ⟨bi,0,none⟩)] W _;clear cx hx0 hx1 hi0 hi1 hi2 ho hy hW hn h0 hlt hab hax hY hsp hhd ht hm;go_enter Tryz.func59,Tryz.ntmps59;go_upto_region 0 with fail
 go_region_held3 (fun V=>V.cell? ⟨bx,0,none⟩=some vo∧V.cell? ⟨bx,1,none⟩=some vy∧V.cell? ⟨bi,0,none⟩=some (.int .i64 c)∧V.cell? ⟨bi,1,none⟩=some (.int .i64 d)∧V.cell? ⟨bi,2,none⟩=some (.int .i64 e))
  (first | (with_reducible assumption) | (with_reducible exact HSK.out _ (Kb.refl _ _).drew) | (with_reducible exact HSK.out _ ((Kb.refl _ _).drew.alloc _)) | (with_reducible exact HSK.out _ ((Kb.refl _ _).alloc _).drew) | (with_reducible exact HSK.out _ (((Kb.refl _ _).alloc _).alloc _).drew) | (with_reducible exact HSK.out _ (((Kb.refl _ _).drew.alloc _).alloc _)) | (with_reducible exact HSK.out _ (((Kb.refl _ _).alloc _).drew.alloc _)) | (with_reducible exact HSK.out _ HK5.out) | (with_reducible exact HSW.out _ HB6.out))
  (first
   | (refine step_append_fits (E:=hopE) _ (by rfl) _ _ 96 101 (by rfl) Tryz.underlying96 j0 hj hy1 0 (W.heap.size) 24 [] (by rfl) ?_ (W.heap.size+1) 0 1 (by rfl) ((c,d),e) ?_ (by decide) ?_;(focus (exact HOM1.out _));(focus (exact HVM1.out));intro w5 ho5 hg5;have HK5:Hid (Kb (fun _=>True) W w5):=(Kb.grown (by first | exact (((Kb.refl _ _).alloc _).alloc _).drew | exact (((Kb.refl _ _).drew.alloc _).alloc _) | exact ((Kb.refl _ _).alloc _).drew.alloc _) hg5 (fun r er hr _=>by cases er;omega));have HBK5:Hid (W.heap.size≤W.heap.size):=(by show _≤_;omega);have HH5:Hid (HK w5 (W.heap.size) [((c,d),e)]):=(hk_one ho5);clear ho5 hg5)
   | (refine step_append_fits (E:=hopE) _ (by rfl) _ _ 96 101 (by rfl) Tryz.underlying96 j0 hj hy1 0 (W.heap.size+1) 24 [] (by rfl) ?_ (W.heap.size) 0 1 (by rfl) ((c,d),e) ?_ (by decide) ?_;(focus (exact HOM2.out _));(focus (exact HVM2.out));intro w5 ho5 hg5;have HK5:Hid (Kb (fun _=>True) W w5):=(Kb.grown (by first | exact (((Kb.refl _ _).alloc _).alloc _).drew | exact (((Kb.refl _ _).drew.alloc _).alloc _) | exact ((Kb.refl _ _).alloc _).drew.alloc _) hg5 (fun r er hr _=>by cases er;omega));have HBK5:Hid (W.heap.size≤W.heap.size+1):=(by show _≤_;omega);have HH5:Hid (HK w5 (W.heap.size+1) [((c,d),e)]):=(hk_one ho5);clear ho5 hg5)
   | (go_at_call 60;refine (HWK.out _ _ HK5.out HBK5.out HH5.out).mono ?_;rintro e6 w6 ⟨r,rfl,hP,hB6⟩;have HP:Hid ((∃X,J (pwS Ls Hs As Bs (c,d) e).length X w6)∨Jx w6):=hP;have HB6:Hid (Below w.heap.size w w6):=hB6;clear hP hB6))
 all_goals go_wp2
 all_goals go_end0
 all_goals exact⟨⟨_,rfl⟩,HP.out⟩
end
end Go.Proofs.YtiokpmlhmlcojaaGreat
