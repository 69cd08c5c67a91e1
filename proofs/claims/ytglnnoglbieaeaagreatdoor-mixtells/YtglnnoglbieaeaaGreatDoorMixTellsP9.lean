/- Contracts and facts on the way to MixTells, joined into one text: TopoWhere, MixSeen, SlWish, BrokenBox, MixBroken, WishCheck, MixSafe, RefPutMath. -/
import Derived.Test.YtglnnoglbieaeaaGreatDoorMixTellsP8
namespace Go.Proofs.YtglnnoglbieaeaaGreatDoor
set_option linter.unusedSimpArgs false
set_option linter.unusedVariables false
set_option maxHeartbeats 16000000
set_option maxRecDepth 100000
section
open Go.RowKit
theorem where1_any (n:ByteArray)(x0 x1:Int)(B:Nat)(m:ByteArray)(w:World)(h0:w.cell? ⟨B,0,none⟩=some (.string m)):
 Calls Tryz.prog 50 #[.agg #[.string n,.int .i64 x0,.int .i64 x1],.pointer (some ⟨B,0,none⟩)] w fun e w'=>e=.returned (.bool (n==m))∧Below w.heap.size w w':=by
 have hlt:B<w.heap.size:=World.block_lt_of_cell? _ _ h0;have HB0:Hid (Below w.heap.size w (w.alloc (Obj.cells #[Value.string n,.int .i64 x0,.int .i64 x1] 41))):=(Below.refl _ _).alloc (Nat.le_refl _) _;rw[beq_toListBytes];go_enter Tryz.func50,Tryz.ntmps50;go_wp2;go_ret;exact⟨rfl,HB0.out⟩
theorem where1_asks (B:Nat)(m:ByteArray)(w:World)(h0:w.cell? ⟨B,0,none⟩=some (.string m)):hstAsks w 50 (.pointer (some ⟨B,0,none⟩)) (fun h=>h.1==m):=
 fun n x0 x1 W hW=>where1_any n x0 x1 B m W (cell_later hW h0)
def wbox (w:World)(S:Int)(v1 v2:Value)(m:ByteArray):World:=((w.alloc (Obj.cells #[.int .i64 S,v1,v2] 25)).alloc (Obj.cells #[.string m] 9)).alloc (Obj.cells #[.int .i64 0,.int .i64 0] 39)
structure WBox (w W:World)(S:Int)(v1 v2:Value)(m:ByteArray):Prop where
 below:Below w.heap.size w W
 t:TBox W w.heap.size S v1 v2
 s:W.cell? ⟨w.heap.size+1,0,none⟩=some (.string m)
 r0:W.cell? ⟨w.heap.size+1+1,0,none⟩=some (.int .i64 0)
 r1:W.cell? ⟨w.heap.size+1+1,1,none⟩=some (.int .i64 0)
 f:∀i,W.frozen? ⟨w.heap.size+1+1,i,none⟩=false
theorem froz_new (w:World)(cs:Array Value)(t:TypeId)(k:Nat):(w.alloc (.cells cs t)).frozen? ⟨w.heap.size,k,none⟩=false:=by simp
theorem wbox_new (w:World)(S:Int)(v1 v2:Value)(m:ByteArray):WBox w (wbox w S v1 v2 m) S v1 v2 m:=by
 have e1:(w.alloc (Obj.cells #[.int .i64 S,v1,v2] 25)).heap.size=w.heap.size+1:=by simp
 have e2:((w.alloc (Obj.cells #[.int .i64 S,v1,v2] 25)).alloc (Obj.cells #[.string m] 9)).heap.size=w.heap.size+1+1:=by simp
 have hb:∀(W:World) (o:Obj),Below W.heap.size W (W.alloc o):=fun W o=>(Below.refl _ _).alloc (Nat.le_refl _) _
 have hs:=(vat_new (w.alloc (Obj.cells #[.int .i64 S,v1,v2] 25)) [.string m] 9).later (hb _ (Obj.cells #[.int .i64 0,.int .i64 0] 39));rw[e1] at hs;have hr:=vat_new ((w.alloc (Obj.cells #[.int .i64 S,v1,v2] 25)).alloc (Obj.cells #[.string m] 9)) [.int .i64 0,.int .i64 0] 39;rw[e2] at hr;have hf:=froz_new ((w.alloc (Obj.cells #[.int .i64 S,v1,v2] 25)).alloc (Obj.cells #[.string m] 9)) #[.int .i64 0,.int .i64 0] 39;rw[e2] at hf;exact⟨(((Below.refl _ _).alloc (Nat.le_refl _) _).alloc (by rw[e1];omega) _).alloc (by rw[e2];omega) _,((tbox_new w S v1 v2 25).later (hb _ _)).later (hb _ _),hs 0 _ rfl,hr 0 _ rfl,hr 1 _ rfl,hf⟩
theorem WBox.later {w W W':World}{S:Int}{v1 v2:Value}{m:ByteArray}(h:WBox w W S v1 v2 m)(hb:Below W.heap.size W W'):WBox w W' S v1 v2 m:=
 ⟨h.below.trans (hb.mono h.below.size),h.t.later hb,cell_later hb h.s,cell_later hb h.r0,cell_later hb h.r1,fun i=>(hb.frozen (p:=⟨w.heap.size+1+1,i,none⟩) (show (⟨w.heap.size+1+1,0,none⟩:Addr).block<W.heap.size from World.block_lt_of_cell? W ⟨w.heap.size+1+1,0,none⟩ h.r0)).trans (h.f i)⟩
theorem below_two {w W:World}(h:Below w.heap.size w W)(g:Nat)(hg:w.heap.size≤g)(u v:Value):Below w.heap.size w ((W.setCell ⟨g,0,none⟩ u).setCell ⟨g,1,none⟩ v):=(h.setCell (p:=⟨g,0,none⟩) hg u).setCell (p:=⟨g,1,none⟩) hg v
theorem where_any (S:Int)(ao:Option Addr)(n cap:Nat)(ao2:Option Addr)(n2 cap2:Nat)(Ls:List ((Int×Int)×(Int×Int)))(Hs:List (ByteArray×(Int×Int)))(m:ByteArray)(w:World)
 (hL:GS lnkE w (.slice ao n cap) Ls) (hH:GS hstE w (.slice ao2 n2 cap2) Hs):
 Calls Tryz.prog 24 #[.agg #[.int .i64 S,.slice ao n cap,.slice ao2 n2 cap2],.string m] w fun e w'=>e=.returned (.tuple #[.agg #[.int .i64 (weV S Ls Hs m).1,.int .i64 (weV S Ls Hs m).2],noV (weN S Ls Hs m)])∧Below w.heap.size w w':=by
 have hX:=wbox_new w S (.slice ao n cap) (.slice ao2 n2 cap2) m;obtain⟨R,hR⟩:∃R,R=weN S Ls Hs m:=⟨_,rfl⟩;have HR:Hid (R=weN S Ls Hs m):=hR;obtain⟨V1,hV1⟩:∃V,V=(weV S Ls Hs m).1:=⟨_,rfl⟩;have HV1:Hid (V1=(weV S Ls Hs m).1):=hV1;obtain⟨V2,hV2⟩:∃V,V=(weV S Ls Hs m).2:=⟨_,rfl⟩;have HV2:Hid (V2=(weV S Ls Hs m).2):=hV2;rw[←hR,←hV1,←hV2];have HL2:Hid (GS lnkE (wbox w S (.slice ao n cap) (.slice ao2 n2 cap2) m) (.slice ao n cap) Ls):=hL.later hX.below;have HH2:Hid (GS hstE (wbox w S (.slice ao n cap) (.slice ao2 n2 cap2) m) (.slice ao2 n2 cap2) Hs):=hH.later hX.below;have HX:Hid (WBox w (wbox w S (.slice ao n cap) (.slice ao2 n2 cap2) m) S (.slice ao n cap) (.slice ao2 n2 cap2) m):=hX;clear hR hV1 hV2 hX hL hH;go_enter Tryz.func24,Tryz.ntmps24
 go_wp2_with fail
 refine (check_any S ao n cap ao2 n2 cap2 Ls Hs _ HL2.out HH2.out).mono ?_;rintro e w1 ⟨rfl,hb1⟩;obtain⟨T,hT⟩:∃T,T=tpN S Ls Hs:=⟨_,rfl⟩;have HT:Hid (T=tpN S Ls Hs):=hT;rw[←hT];have hX1:=HX.out.later hb1;have HX1:Hid (WBox w w1 S (.slice ao n cap) (.slice ao2 n2 cap2) m):=hX1;have HH1:Hid (GS hstE w1 (.slice ao2 n2 cap2) Hs):=HH2.out.later hb1;obtain⟨_,⟨b0,b1,b2⟩,s0,r0,r1,f⟩:=hX1;have f0:=f 0;have f1:=f 1;clear hT hb1 HX HL2 HH2 f;by_cases h0:T=0
 ·subst h0;rw[no_ok rfl];have HK:Hid (hstAsks w1 50 (.pointer (some ⟨w.heap.size+1,0,none⟩)) (fun h=>h.1==m)):=where1_asks _ m w1 s0;obtain⟨_,_,_,e2,hHn,hHm,_,hHa⟩:=HH1.out.form;cases e2;have HHN:Hid (Hs.length=n2):=hHn;have HHM:Hid (n2≤maxLen):=hHm;have HHA:Hid (0<n2→∃g o,ao2=some ⟨g,o,none⟩∧GAt hstE w1 g o Hs∧cap2≤maxLen):=hHa;clear hHn hHm hHa s0 r0 r1 f0 f1
  go_wp2_with fail
  refine (hst_idxF ao2 n2 cap2 _ _ (fun h=>h.1==m) Hs _ HHN.out HHM.out HHA.out (enters_of Tryz.func50 (by kernel_rfl) rfl) HK.out).mono ?_;rintro e w2 ⟨rfl,hb2⟩;have hX2:=HX1.out.later hb2;have HB3:Hid (Below w.heap.size w w2):=hX2.below;have HHA2:Hid (0<n2→∃g o,ao2=some ⟨g,o,none⟩∧GAt hstE w2 g o Hs∧cap2≤maxLen):=fun h=>by
   obtain⟨g,o,e1,e2,e3⟩:=HHA.out h;exact⟨g,o,e1,e2.later hb2,e3⟩
  obtain⟨_,⟨b0,b1,b2⟩,s0,r0,r1,f⟩:=hX2;have f0:=f 0;have f1:=f 1;clear hb2 HHA HX1 f
  rcases where_ix Hs m with ⟨hi,ho⟩ | ⟨k,hk,hi,ho⟩
  ·rw[hi];have HR5:Hid (R=5):=by
    show _=_;rw[HR.out,weN,if_pos HT.out.symm,ho];rfl
   have HV5:Hid (V1=0∧V2=0):=by
    have h5:=HR5.out;have e:weV S Ls Hs m=(0,0):=by rw[weV,←HR.out,h5,if_neg (by decide)]
    exact⟨by rw[HV1.out,e],by rw[HV2.out,e]⟩
   clear hi ho;go_wp2;refine bodyPost_ret (v:=.tuple #[.agg #[.int .i64 0,.int .i64 0],.iface 85 (.int .i64 5)]) (by simp[results,Tryz.results24,go_sem, *]) rfl ⟨by rw[HR5.out,HV5.out.1,HV5.out.2];rfl,below_two HB3.out _ (by omega) _ _⟩
  rw[hi];have HR0:Hid (R=0):=by
   show _=_;rw[HR.out,weN,if_pos HT.out.symm,ho];rfl
  have hlt:k<n2:=by rw[←HHN.out];exact hk
  obtain⟨g,o,hao,hc,_⟩:=HHA2.out (by omega);subst hao;obtain⟨y0,y1,y2,hkl,hHk,q0,q1,q2⟩:=hst_at hc HHN.out hlt;have HV0:Hid (V1=y1∧V2=y2):=by
   have h5:=HR0.out;have e:weV S Ls Hs m=(y1,y2):=by rw[weV,←HR.out,h5,if_pos rfl,ho,Option.getD_some,hHk]
   exact⟨by rw[HV1.out,e],by rw[HV2.out,e]⟩
  have kb0:(0:Int)≤(k:Int):=by omega
  have kb1:(k:Int)<(n2:Int):=by omega
  have hk0:¬(k:Int)<0:=by omega
  clear hi ho hHk hc HHA2;go_wp2;refine bodyPost_ret (v:=.tuple #[.agg #[.int .i64 y1,.int .i64 y2],.nilIface]) (by simp[results,Tryz.results24,go_sem, *]) rfl ⟨by rw[HR0.out,HV0.out.1,HV0.out.2];rfl,below_two HB3.out _ (by omega) _ _⟩
 rw[no_ne h0];have HR2:Hid (R=T):=by
  show _=_;rw[HR.out,weN,←HT.out,if_neg h0]
 have HV5:Hid (V1=0∧V2=0):=by
  have h2:=HR2.out;have e:weV S Ls Hs m=(0,0):=by rw[weV,←HR.out,h2,if_neg h0]
  exact⟨by rw[HV1.out,e],by rw[HV2.out,e]⟩
 have HN0:Hid (T≠0):=h0;clear h0;go_wp2;refine bodyPost_ret (v:=.tuple #[.agg #[.int .i64 0,.int .i64 0],.iface 85 (.int .i64 T)]) (by simp[results,Tryz.results24,go_sem, *]) rfl ⟨by rw[HR2.out,HV5.out.1,HV5.out.2,no_ne HN0.out],below_two HX1.out.below _ (by omega) _ _⟩
end
section
open Go.RowKit Go.Shelf
attribute [local go_sem] Oper.semAt_some
theorem fate_info:(Tryz.prog.info? 77).map (fun i=>(i.zero,i.size,i.bytes))=some (some (.agg #[.int .i64 0,.string ⟨#[]⟩,.slice none 0 0]),3,48):=by kernel_rfl
theorem seen_in (n:Nat)(h4:4≤n)(S:Int)(ao:Option Addr)(n1 cap:Nat)(ao2:Option Addr)(n2 cap2:Nat)(ao3:Option Addr)(n3 cap3:Nat)(a4:Option Addr)(n4 c4:Nat)(Ls:List ((Int×Int)×(Int×Int)))(Hs:List (ByteArray×(Int×Int)))(Ts:List (List Ru))(l:List Op8)(m:ByteArray)(h:Int)(w:World)
 (hL:GS lnkE w (.slice ao n1 cap) Ls) (hH:GS hstE w (.slice ao2 n2 cap2) Hs) (hT:TS w (.slice ao3 n3 cap3) Ts) (hl:GS opE w (.slice a4 n4 c4) l):
 CallsIn Fence.wide n Tryz.prog 9 #[.agg #[.int .i64 S,.slice ao n1 cap,.slice ao2 n2 cap2,.slice ao3 n3 cap3],.slice a4 n4 c4,.string m,.int .i64 h] w fun e W'=>∃a5 n5 c5,e=.returned (.tuple #[.slice a5 n5 c5,noV (snN S Ls Hs Ts l m h)])∧FTs W' (.slice a5 n5 c5) (snL S Ls Hs Ts l m h)∧Below w.heap.size w W':=by
 have h1:1≤n:=by omega
 have h2:1≤n-1-1:=by omega
 have HLW:Hid (∀W,Below w.heap.size w W→GS lnkE W (.slice ao n1 cap) Ls):=fun W hb=>hL.later hb
 have HHW:Hid (∀W,Below w.heap.size w W→GS hstE W (.slice ao2 n2 cap2) Hs):=fun W hb=>hH.later hb
 have HTW:Hid (∀W,Below w.heap.size w W→TS W (.slice ao3 n3 cap3) Ts):=fun W hb=>hT.later hb
 have HlW:Hid (∀W,Below w.heap.size w W→GS opE W (.slice a4 n4 c4) l):=fun W hb=>hl.later hb
 have HTN:Hid (Ts.length=n3):=hT.len;clear hL hH hT hl;refine callsIn_of_wp_marks Tryz.func9 rfl trivial ?_ rfl;simp only[Tryz.ntmps9,List.size_toArray,List.length_cons,List.length_nil,Nat.reduceAdd,Nat.reduceSub,Array.replicate_succ,Array.replicate_zero,List.push_toArray,List.append_toArray,List.nil_append,List.cons_append]
 gi_wp2_with fail
 have hA0:Below w.heap.size w (w.alloc (Obj.cells #[.int .i64 S,.slice ao n1 cap,.slice ao2 n2 cap2,.slice ao3 n3 cap3] 28)):=(Below.refl _ w).alloc (Nat.le_refl _) _;have hne:=nebox_new w S (.slice ao n1 cap) (.slice ao2 n2 cap2) (.slice ao3 n3 cap3) 28;obtain⟨w0,hw0⟩:∃W,w.alloc (Obj.cells #[.int .i64 S,.slice ao n1 cap,.slice ao2 n2 cap2,.slice ao3 n3 cap3] 28)=W:=⟨_,rfl⟩;rw[hw0] at hA0 hne ⊢;have HA0:Hid (Below w.heap.size w w0):=hA0;refine⟨trivial,(callsIn_wide.2 (during_any S ao n1 cap ao2 n2 cap2 ao3 n3 cap3 a4 n4 c4 Ls Hs Ts l w0 (HLW.out _ hA0) (HHW.out _ hA0) (HTW.out _ hA0) (HlW.out _ hA0))).mono ?_⟩;rintro e w1 ⟨p7,j7,e7,p8,j8,e8,rfl,hDu,hb1⟩;have hB1:Below w.heap.size w w1:=hA0.trans (hb1.mono hA0.size);have HNE1:Hid (NeBox w1 w.heap.size S (.slice ao n1 cap) (.slice ao2 n2 cap2) (.slice ao3 n3 cap3)):=hne.later hb1;have HB1:Hid (Below w.heap.size w w1):=hB1;obtain⟨N,hN⟩:∃N,N=cgN S Ls Hs Ts l:=⟨_,rfl⟩;have HN:Hid (cgN S Ls Hs Ts l=N):=hN.symm;rw[←hN] at hDu ⊢;have HDU:Hid (DuQ N w1 0 (.slice p7 j7 e7) (.slice p8 j8 e8) Ls Hs Ts l n3):=hDu;clear hne hA0 hb1 hB1 hw0 hDu hN HA0;by_cases h0:N=0
 ·subst h0;rw[no_ok rfl];obtain⟨b0,b1,b2,b3⟩:=HNE1.out;have hlw:w.heap.size<w1.heap.size:=World.block_lt_of_cell? _ _ b0;have nw:w.heap.size≠w1.heap.size:=by omega
  gi_wp2_with fail
  have hal1:Below w1.heap.size w1 (w1.alloc (Obj.cells #[.slice p7 j7 e7,.slice p8 j8 e8] 80)):=(Below.refl _ _).alloc (Nat.le_refl _) _;have hvc:=vat_new w1 [.slice p7 j7 e7,.slice p8 j8 e8] 80;obtain⟨w2,hw2⟩:∃W,w1.alloc (Obj.cells #[.slice p7 j7 e7,.slice p8 j8 e8] 80)=W:=⟨_,rfl⟩
  change VAt (w1.alloc (Obj.cells #[.slice p7 j7 e7,.slice p8 j8 e8] 80)) _ _ _ at hvc
  rw[hw2] at hal1 hvc ⊢;obtain⟨bc,hbc⟩:∃bc,w1.heap.size=bc:=⟨_,rfl⟩;rw[hbc] at hvc ⊢;have HB2:Hid (Below w.heap.size w w2):=HB1.out.trans (hal1.mono HB1.out.size);refine⟨trivial,(callsIn_wide.2 (where_any S ao n1 cap ao2 n2 cap2 Ls Hs m w2 (HLW.out _ HB2.out) (HHW.out _ HB2.out))).mono ?_⟩;rintro e w3 ⟨rfl,hb3⟩;have HB3:Hid (Below w.heap.size w w3):=HB2.out.trans (hb3.mono HB2.out.size);have hvc3:=hvc.later hb3;have HD3:Hid (LGs w3 0 (.slice p7 j7 e7) (lgF Ls Hs Ts) n3∧LGs w3 0 (.slice p8 j8 e8) (lgF Ls Hs (caT Ts l)) n3):=by
   obtain⟨g1,g2⟩:=HDU.out rfl;exact⟨(g1.later hal1).later hb3,(g2.later hal1).later hb3⟩
  obtain⟨M,hM⟩:∃M,M=weN S Ls Hs m:=⟨_,rfl⟩;have HM:Hid (weN S Ls Hs m=M):=hM.symm;obtain⟨⟨y1,y2⟩,hy⟩:∃y,y=weV S Ls Hs m:=⟨_,rfl⟩;have HY:Hid (weV S Ls Hs m=(y1,y2)):=hy.symm;rw[←hM,←hy]
  dsimp only
  have c0:=hvc3 0 _ rfl;have c1:=hvc3 1 _ rfl;rw[Nat.zero_add] at c0 c1;have hlc:bc<w3.heap.size:=World.block_lt_of_cell? _ _ c0;clear b0 b1 b2 b3 hlw nw hal1 hvc hvc3 hb3 hM hy hw2 hbc HNE1 HDU HB1;by_cases hm0:M=0
  ·subst hm0;rw[no_ok rfl];have nc:bc≠w3.heap.size:=by omega
   gi_wp2_with fail
   refine⟨trivial,(callsIn_wide.2 (isHeader_any h _)).mono ?_⟩;rintro e w4 ⟨rfl,rfl⟩;cases hh:hdrB h with
   | false =>
     have HH0:Hid (hdrB h=false):=hh;clear hh
     gi_wp2
     obtain⟨e1,e2⟩:=sn_3 HN.out HM.out HH0.out;exact⟨.tuple #[.slice none 0 0,.iface 85 (.int .i64 1)],by simp[results,Tryz.results9,go_sem],none,0,0,by rw[e1,no_ne (by decide)],by rw[e2];exact⟨[],GS.nil _,rfl,fun z hz=>by cases hz⟩,HB3.out.trans (((Below.refl _ _).alloc (Nat.le_refl _) _).mono HB3.out.size)⟩
   | true =>
     have HH0:Hid (hdrB h=true):=hh;clear hh
     gi_wp2_with fail
     have hB:∀(W:World) (o:Obj),Below W.heap.size W (W.alloc o):=fun W o=>(Below.refl _ _).alloc (Nat.le_refl _) _
     obtain⟨wq,hwq⟩:∃W,w3.alloc (Obj.cells #[.int .i64 y1,.int .i64 y2] 39)=W:=⟨_,rfl⟩;have hbq:Below w3.heap.size w3 wq:=by rw[←hwq];exact hB _ _
     have hsq:wq.heap.size=w3.heap.size+1:=by rw[←hwq];simp
     rw[hwq,←hsq];obtain⟨q,hq⟩:∃q,wq.heap.size=q:=⟨_,rfl⟩;have HBQ:Hid (Below w.heap.size w wq):=HB3.out.trans (hbq.mono HB3.out.size);have HDQ:Hid (LGs wq 0 (.slice p7 j7 e7) (lgF Ls Hs Ts) n3∧LGs wq 0 (.slice p8 j8 e8) (lgF Ls Hs (caT Ts l)) n3):=⟨HD3.out.1.later hbq,HD3.out.2.later hbq⟩;have HWQ:Hid (w.heap.size≤q):=by show _≤_;rw[←hq];exact HBQ.out.size
     clear hwq hbq hsq HD3 HB3 c0 c1 hlc nc;refine⟨trivial,(callsIn_wide.2 (fates_val (.slice p7 j7 e7) (.slice p8 j8 e8) y1 y2 h _)).mono ?_⟩;rintro e w5 ⟨rfl,hw5⟩;have hox:=Boxed.new wq 34 (.slice none 0 0);obtain⟨wr,hwr⟩:∃W,wq.alloc (Obj.cells #[.slice none 0 0] 34)=W:=⟨_,rfl⟩;have hbr:Below wq.heap.size wq wr:=by rw[←hwr];exact hB _ _
     have hsr:wr.heap.size=q+1:=by rw[←hwr,World.size_alloc,hq]
     rw[hwr,hq] at hox;rw[hwr] at hw5;rw[hwr,hq,hsr];have hx1:=(vat_new wr [.slice p7 j7 e7,.slice p8 j8 e8] 80).later (hB (wr.alloc (.cells #[.slice p7 j7 e7,.slice p8 j8 e8] 80)) (.cells #[.int .i64 y1,.int .i64 y2,.int .i64 h] 74));have hx2:=vat_new (wr.alloc (.cells #[.slice p7 j7 e7,.slice p8 j8 e8] 80)) [.int .i64 y1,.int .i64 y2,.int .i64 h] 74;rw[World.size_alloc] at hx2;have hb5:Below wr.heap.size wr w5:=by
      rw[hw5];exact ((Below.refl _ _).alloc (Nat.le_refl _) _).alloc (by simp) _
     have hs5:w5.heap.size=q+3:=by rw[hw5];simp[hsr]
     change VAt ((wr.alloc (.cells #[.slice p7 j7 e7,.slice p8 j8 e8] 80)).alloc (.cells #[.int .i64 y1,.int .i64 y2,.int .i64 h] 74)) _ _ _ at hx1
     change VAt ((wr.alloc (.cells #[.slice p7 j7 e7,.slice p8 j8 e8] 80)).alloc (.cells #[.int .i64 y1,.int .i64 y2,.int .i64 h] 74)) _ _ _ at hx2
     rw[←hw5,hsr] at hx1 hx2;obtain⟨ht,hS,hA,hBs⟩:=cg_ok HN.out;have hsp:spB S (y1,y2)=true:=by rw[←HY.out];exact we_sp ht HM.out
     obtain rfl:S=(n3:Int):=by rw[←hS,HTN.out]
     have hm6:n3≤6:=by have:=(tp_0 ht).1;omega
     have hbq5:Below wq.heap.size wq w5:=hbr.trans (hb5.mono hbr.size);have hit:=fates2_it (.slice p7 j7 e7) (.slice p8 j8 e8) n3 Ls Hs Ts (caT Ts l) (q+1) (q+1+1) y1 y2 h wq w5 hbq5 (hx1 0 _ rfl) (hx1 1 _ rfl) (hx2 0 _ rfl) (hx2 1 _ rfl) (hx2 2 _ rfl) hm6 ht HDQ.out.1 HDQ.out.2 hsp HH0.out;rw[hq] at hit;obtain⟨L,hLd⟩:∃L,L=pwS Ls Hs Ts (caT Ts l) (y1,y2) h:=⟨_,rfl⟩;rw[←hLd] at hit;have HB5:Hid (Below w.heap.size w w5):=HBQ.out.trans (hbq5.mono HBQ.out.size);have hbx:Boxed w5 q 34 (.slice none 0 0):=(hb5.block q (by omega)).trans hox;have hsm:∀x∈L,x.2.1.size≤1000000∧x.2.2.length<25∧0<x.2.2.length:=fun x hx=>ps_small ht (by rw[hLd] at hx;exact hx)
     have HSM:Hid (∀x∈L,x.2.1.size≤1000000∧x.2.2.length<25∧0<x.2.2.length):=hsm;have HLL:Hid (L.length≤16777216∧0<L.length):=by
      show _∧_;rw[hLd];exact⟨ps_le _ _,ps_some ht hA hBs hsp h⟩
     have HSO:Hid (∀D:List Ft,D.Perm L→D.Pairwise (fun a b=>faL b a=false)→D=seeL Ls Hs Ts (caT Ts l) (y1,y2) h):=fun D h1 h2=>ps_sorted ht hA hBs hsp h (by rw[←hLd];exact h1) h2
     have HS5:Hid (w5.heap.size=q+3):=hs5;clear hw5 hwr hLd hq hs5 hsr hx1 hx2 hox hbr hb5 hbq5 hsm hsp hA hBs hS ht hm6 hB
     gi_wp2_with fail
     refine wpIn_rangeFunc_itG h1 (gf:=51) (lb:=#[.pointer (some ⟨q+1,0,none⟩),.pointer (some ⟨q+1+1,0,none⟩)]) rfl (enters_of Tryz.func51 (by kernel_rfl) rfl) (Vl:=FtV) (n₁:=w5.heap.size) (n₀:=q) (L:=L) (w0:=w5) hit (Below.refl _ _) (Nat.le_refl _) (by have:=HS5.out;omega) (fun A args x hx=>by obtain⟨_,_,_,rfl,_⟩:=hx;rfl)
      (SeI w (w5.heap.size+2) q L) (fun _ _=>False)
      (fun k X A h b hx=>h.2.1 b hx)
      (fun k X A A' h hk=>h.kb hk (.inl (by have:=HS5.out;omega)) (fun b hb=>.inl (by have:=HWQ.out;have:=HS5.out;omega)) (fun b hb=>.inr hb))
      (fun c A A' h _=>h)
      ⟨HB5.out,fun b hb=>hb.elim,.slice none 0 0,[],hbx,World.ownsRow_nil _ _ _ _,rfl,fun g e=>(by cases e),fun z hz=>(by cases hz)⟩ ?round ?done ?stop
     case round =>
      rintro l' k X Y x args W hl' hBW hI hLk ⟨ao5,nn,cap5,rfl,hG⟩ hY hnl;obtain⟨xa,xb,xl⟩:=x;have hxm:=HSM.out _ (List.mem_of_getElem? hLk)
      dsimp only at hG hxm
      have hkL:k<L.length:=(List.getElem?_eq_some_iff.1 hLk).1
      gi_wp2
      refine⟨(Kb.refl _ _).alloc _,fun W2 hk2=>?_⟩;have hs5:=HS5.out;have hBA:Below W.heap.size W (W.alloc (Obj.cells #[.int .i64 xa,.string xb,.slice ao5 nn cap5] 77)):=(Below.refl _ _).alloc (Nat.le_refl _) _;have hfb:=fabox_new W xa xb (.slice ao5 nn cap5) 77;have hnl2:∀p u,(W.alloc (Obj.cells #[.int .i64 xa,.string xb,.slice ao5 nn cap5] 77)).cell? p=some u→p.block≠l':=by
       intro p u hp e;have hlt:p.block<W.heap.size:=by rw[e,hl'];omega
       have h:=(hBA.cell (p:=p) hlt).symm.trans hp;rw[hnl p e] at h;cases h
      have hG2:=(hG.later hBA).kb hk2 hnl2;have hf2:FaBox W2 W.heap.size xa xb (.slice ao5 nn cap5):=⟨hk2.at hfb.1 (hnl2 _ _ hfb.1),hk2.at hfb.2.1 (hnl2 _ _ hfb.2.1),hk2.at hfb.2.2 (hnl2 _ _ hfb.2.2)⟩;have hWW:W.heap.size<W2.heap.size:=World.block_lt_of_cell? _ _ hf2.1;have hX0:=hI.2.1;have hI2:SeI w (w5.heap.size+2) q L k X W2:=(hI.kb (Kb.of_below hBA (fun b hb _=>hb):Kb (fun _=>True) _ _) trivial (fun _ _=>trivial) (fun _ _=>trivial)).kb hk2 (by omega) (fun b hb=>by have:=HWQ.out;omega) (fun b hb=>by have:=(hX0 b hb).1;omega);obtain⟨hBw,hXb,v,Z,hqb,hov,hmz,hvx,hzs⟩:=hI2;have hlen:nn=xl.length:=hG2.len.symm;have hZk:Z.length≤16777216:=by
       have h1:(Z.map Prod.fst).length=(L.take k).length:=by rw[hmz]
       have h2:=HLL.out.1;rw[List.length_map,List.length_take] at h1;omega
      obtain⟨i0,hi,hz0,hz1,hz2⟩:=info_parts fate_info;have H5:Hid (∀V,Below W2.heap.size W2 V→Calls Tryz.prog 27 #[.string xb] V fun e w'=>e=.returned (.string xb)∧Below V.heap.size V w'):=fun V _=>clone_any xb V hxm.1
      have H8:Hid (∀V,Below W2.heap.size W2 V→Calls Tryz.prog 28 #[.slice ao5 nn cap5] V fun e w'=>∃(ya:Option Addr) (yn yc:Nat),e=.returned (.slice ya yn yc)∧w'.ownsRow V.heap.size 74 hopE.n (.slice ya yn yc) xl.length (cellsG hopE xl)∧Below V.heap.size V w'):=fun V hb=>(hclone_any ao5 nn cap5 xl V (hG2.later hb) (by omega) (by omega)).mono (by
       rintro e w' ⟨⟨ya,yn,yc⟩,rfl,h1,h2⟩;exact⟨ya,yn,yc,rfl,h1,h2⟩)
      have HQ:Hid (∀V,Below W2.heap.size W2 V→V.cell? ⟨q,0,none⟩=some v):=fun V hb=>cell_later hb hqb.cell
      have HFB:Hid (∀V,Below W2.heap.size W2 V→V.cell? ⟨W.heap.size,0,none⟩=some (.int .i64 xa)∧V.cell? ⟨W.heap.size,1,none⟩=some (.string xb)∧V.cell? ⟨W.heap.size,2,none⟩=some (.slice ao5 nn cap5)):=fun V hb=>hf2.later hb
      have HOV:Hid (∀V,Below W2.heap.size W2 V→V.ownsRow (w5.heap.size+2) 77 ftE.n v Z.length (cellsG ftE Z)):=fun V hb=>own_below hov hb
      have HL1:Hid (Z.length+1≤maxLen):=by show _≤_;unfold maxLen;omega
      have HL2:Hid ((Z.length+1)*48≤140737488355328):=by show _≤_;omega
      have HBA:Hid (w5.heap.size+2≤W2.heap.size):=by show _≤_;omega
      have HPUSH:Hid (∀(V:World) (ya:Option Addr) (yn yc:Nat) (v9:Value) (w9:World),Below W2.heap.size W2 V→V.ownsRow W2.heap.size 74 hopE.n (.slice ya yn yc) xl.length (cellsG hopE xl)→w9.ownsRow (w5.heap.size+2) 77 ftE.n v9 (Z++[((xa,xb,xl),(ya,yn,yc))]).length (cellsG ftE (Z++[((xa,xb,xl),(ya,yn,yc))]))→V.grownBy w9 v.ownBlock→(v9.ownBlock=v.ownBlock∨v9.ownBlock=some V.heap.size) →
       (Kb (fun b=>b<q∨b=w5.heap.size∨b=l'∨Y b) W2 (w9.setCell ⟨q,0,none⟩ v9)∧∃X',SeI w (w5.heap.size+2) q L (k+1) X' (w9.setCell ⟨q,0,none⟩ v9)∧∀b,X' b→X b∨W.heap.size≤b) ∧
       ((w9.cell? ⟨W.heap.size,0,none⟩=some (.int .i64 xa)∧w9.cell? ⟨W.heap.size,1,none⟩=some (.string xb)∧w9.cell? ⟨W.heap.size,2,none⟩=some (.slice ao5 nn cap5))∧((w9.setCell ⟨q,0,none⟩ v9).cell? ⟨W.heap.size,0,none⟩=some (.int .i64 xa)∧(w9.setCell ⟨q,0,none⟩ v9).cell? ⟨W.heap.size,1,none⟩=some (.string xb)∧(w9.setCell ⟨q,0,none⟩ v9).cell? ⟨W.heap.size,2,none⟩=some (.slice ao5 nn cap5))) ∧
       w9.cell? ⟨q,0,none⟩=some v∧w9.frozen? ⟨q,0,none⟩=false∧∃a9 n9 c9,v9=.slice a9 n9 c9):=fun V ya yn yc v9 w9 hV hy h9 hg hb9=>by
       obtain⟨⟨X',hs,hX'⟩,hkp⟩:=se_push hBw hXb hqb hov hmz hvx hzs (by omega) HWQ.out (by omega) (xa,xb,xl) hLk hV (ya,yn,yc) hy h9 hg hb9;have hvW:∀g,v.ownBlock=some g→g<W.heap.size∧w5.heap.size+2≤g:=fun g e=>⟨(hX0 g (hvx g e)).2,(hX0 g (hvx g e)).1⟩
       have k9:Kb (fun b=>b=q∨b=W.heap.size) W2 w9:=(Kb.of_below hV (fun b hb _=>hb)).grown hg (fun r er _ hp=>by have:=hvW r er;omega);have k10:Kb (fun b=>b=W.heap.size) W2 (w9.setCell ⟨q,0,none⟩ v9):=(k9.mono (fun b _ e=>.inr e)).setCell (q:=⟨q,0,none⟩) (fun _ e=>by have h1:q=W.heap.size:=e;omega) _;have b9:Boxed w9 q 34 v:=k9.boxed hqb (.inl rfl);obtain⟨a9,c9,e9⟩:=own_form h9;refine⟨⟨hkp _ (fun b hb=>?_),X',hs,fun b hb=>(hX' b hb).imp id (fun h=>by omega)⟩,⟨⟨k9.at hf2.1 (.inr rfl),k9.at hf2.2.1 (.inr rfl),k9.at hf2.2.2 (.inr rfl)⟩,⟨k10.at hf2.1 rfl,k10.at hf2.2.1 rfl,k10.at hf2.2.2 rfl⟩⟩,b9.cell,b9.frozen,a9,_,c9,e9⟩
       rcases hb with hb | hb | hb | hb
       ·exact⟨by omega,fun hx=>by have:=(hXb b hx).1;omega⟩
       ·exact⟨by omega,fun hx=>by have:=(hXb b hx).1;omega⟩
       ·exact⟨by omega,fun hx=>by have:=(hXb b hx).1;omega⟩
       exact⟨by have:=(hY b hb).1;omega,(hY b hb).2⟩
      clear hs5 hG2 hI hG hxm hBA hfb hnl2 hX0 hBw hXb hqb hov hmz hvx hzs hlen hZk hk2 hY hnl hLk
      gi_wp2_with fail
      refine region_round (S:=fun V=>V.cell? ⟨W.heap.size,0,none⟩=some (.int .i64 xa)∧V.cell? ⟨W.heap.size,1,none⟩=some (.string xb)∧V.cell? ⟨W.heap.size,2,none⟩=some (.slice ao5 nn cap5)) (by kernel_rfl) (by kernel_rfl) hf2 (fun hHeld=>?_);refine wpAnyH_take (i:=1) (v:=.pointer (some ⟨W.heap.size,0,none⟩)) rfl (by kernel_rfl) (by kernel_rfl) (by kernel_rfl) (fun _ _ _ h=>h) (Or.inl ⟨by rfl,?_⟩) hHeld ?_
      ·intro V hV;obtain⟨v0,v1,v2⟩:=hV;go_simp
      try simp only[Act.put,AP]
      refine wpAnyH_take (i:=2) (v:=.int .i64 xa) rfl (by kernel_rfl) (by kernel_rfl) (by kernel_rfl) (fun _ _ _ h=>h) (Or.inl ⟨by rfl,?_⟩) hHeld ?_
      ·intro V hV;obtain⟨v0,v1,v2⟩:=hV;go_simp
      try simp only[Act.put,AP]
      refine wpAnyH_take (i:=3) (v:=.pointer (some ⟨W.heap.size,1,none⟩)) rfl (by kernel_rfl) (by kernel_rfl) (by kernel_rfl) (fun _ _ _ h=>h) (Or.inl ⟨by rfl,?_⟩) hHeld ?_
      ·intro V hV;obtain⟨v0,v1,v2⟩:=hV;go_simp
      try simp only[Act.put,AP]
      refine wpAnyH_take (i:=4) (v:=.string xb) rfl (by kernel_rfl) (by kernel_rfl) (by kernel_rfl) (fun _ _ _ h=>h) (Or.inl ⟨by rfl,?_⟩) hHeld ?_
      ·intro V hV;obtain⟨v0,v1,v2⟩:=hV;go_simp
      try simp only[Act.put,AP]
      refine wpAnyH_take (i:=6) (v:=.pointer (some ⟨W.heap.size,2,none⟩)) rfl (by kernel_rfl) (by kernel_rfl) (by kernel_rfl) (fun _ _ _ h=>h) (Or.inl ⟨by rfl,?_⟩) hHeld ?_
      ·intro V hV;obtain⟨v0,v1,v2⟩:=hV;go_simp
      try simp only[Act.put,AP]
      refine wpAnyH_take (i:=7) (v:=.slice ao5 nn cap5) rfl (by kernel_rfl) (by kernel_rfl) (by kernel_rfl) (fun _ _ _ h=>h) (Or.inl ⟨by rfl,?_⟩) hHeld ?_
      ·intro V hV;obtain⟨v0,v1,v2⟩:=hV;go_simp
      try simp only[Act.put,AP]
      refine wpAnyH_ready (rs:=[0,5]) (by kernel_rfl) (by simp) ?_;refine AllReadyH.cons rfl (fun K hK=>?_) (AllReadyH.cons rfl (fun K hK=>?_) AllReadyH.nil)
      ·skip;have cq:=HQ.out _ (Below.drew (Below.refl _ _));go_simp;refine hK.out _ _ hHeld (fun hHeld=>?_);clear hK K cq;refine wpAnyH_ready (rs:=[5]) (by kernel_rfl) (by simp) ?_;refine AllReadyH.cons rfl (fun K hK=>?_) AllReadyH.nil;go_simp;refine (H5.out _ (Below.drew (Below.refl _ _))).mono ?_;rintro e5 w6 ⟨rfl,hb6⟩;have HB6:Hid (Below W2.heap.size W2 w6):=bdrew hb6;refine hK.out _ _ (HFB.out _ HB6.out) (fun hHeld=>?_);clear hK K hb6;refine wpAnyH_ready (rs:=[8]) (by kernel_rfl) (by simp) ?_;refine AllReadyH.cons rfl (fun K hK=>?_) AllReadyH.nil;go_simp;refine (H8.out _ HB6.out).mono ?_;rintro e5 w7 ⟨ya,yn,yc,rfl,ho7,hb7⟩;have HB7:Hid (Below W2.heap.size W2 w7):=HB6.out.trans (hb7.mono HB6.out.size);have HO7:Hid (w7.ownsRow W2.heap.size 74 hopE.n (.slice ya yn yc) xl.length (cellsG hopE xl)):=own_mono ho7 HB6.out.size;refine hK.out _ _ (HFB.out _ HB7.out) (fun hHeld=>?_);clear hK K hb7 ho7;refine wpAnyH_take (i:=9) (v:=.agg #[.int .i64 xa,.string xb,.slice ya yn yc]) rfl (by kernel_rfl) (by kernel_rfl) (by kernel_rfl) (fun _ _ _ h=>h) (Or.inl ⟨by rfl,?_⟩) hHeld ?_
       ·intro V hV;go_simp
       try simp only[Act.put,AP]
       refine wpAnyH_ready (rs:=[10]) (by kernel_rfl) (by simp) ?_;refine AllReadyH.cons rfl (fun K hK=>?_) AllReadyH.nil;go_simp;have hb8:Below w7.heap.size w7 (w7.alloc (Obj.cells #[.int .i64 xa,.string xb,.slice ya yn yc] 77)):=(Below.refl _ _).alloc (Nat.le_refl _) _;have HVA:Hid (VAt (w7.alloc (Obj.cells #[.int .i64 xa,.string xb,.slice ya yn yc] 77)) w7.heap.size 0 (ftE.c ((xa,xb,xl),(ya,yn,yc)))):=vat_new w7 [.int .i64 xa,.string xb,.slice ya yn yc] 77;have HB8:Hid (Below W2.heap.size W2 (w7.alloc (Obj.cells #[.int .i64 xa,.string xb,.slice ya yn yc] 77))):=HB7.out.trans (hb8.mono HB7.out.size);have HO8:Hid ((w7.alloc (Obj.cells #[.int .i64 xa,.string xb,.slice ya yn yc] 77)).ownsRow W2.heap.size 74 hopE.n (.slice ya yn yc) xl.length (cellsG hopE xl)):=own_below HO7.out hb8;refine hK.out _ _ (HFB.out _ HB8.out) (fun hHeld=>?_);clear hK K hb8;refine wpAnyH_ready (rs:=[11]) (by kernel_rfl) (by simp) ?_;refine AllReadyH.cons rfl (fun K hK=>?_) AllReadyH.nil;refine step_append_blk (E:=ftE) _ (by rfl) _ _ 34 77 (by rfl) Tryz.underlying34 i0 (.agg #[.int .i64 0,.string ⟨#[]⟩,.slice none 0 0]) 48 hi hz0 hz1 hz2 rfl (w5.heap.size+2) v (by rfl) Z (HOV.out _ HB8.out) w7.heap.size 0 1 (by rfl) ((xa,xb,xl),(ya,yn,yc)) HVA.out HL1.out HL2.out (Nat.le_trans HBA.out HB8.out.size) ?_;intro v9 w9 ho9 hg9 hb9;obtain⟨HFIN9,HF9,hc9,hf9,⟨a9,n9,c9,rfl⟩⟩:=HPUSH.out _ ya yn yc v9 w9 HB8.out HO8.out ho9 hg9 hb9;refine hK.out _ _ HF9.1 (fun hHeld=>?_);clear hK K ho9 hg9 hb9;refine wpAnyH_ready (rs:=[12]) (by kernel_rfl) (by simp) ?_;refine AllReadyH.cons rfl (fun K hK=>?_) AllReadyH.nil;go_simp;refine hK.out _ _ HF9.2 (fun hHeld=>?_);clear hK K;refine wpAnyH_done (by kernel_rfl) ?_ _;exact HFIN9
      skip;go_simp;refine (H5.out _ (Below.drew (Below.refl _ _))).mono ?_;rintro e5 w6 ⟨rfl,hb6⟩;have HB6:Hid (Below W2.heap.size W2 w6):=bdrew hb6;refine hK.out _ _ (HFB.out _ HB6.out) (fun hHeld=>?_);clear hK K hb6;refine wpAnyH_ready (rs:=[0,8]) (by kernel_rfl) (by simp) ?_;refine AllReadyH.cons rfl (fun K hK=>?_) (AllReadyH.cons rfl (fun K hK=>?_) AllReadyH.nil)
      ·skip;have cq:=HQ.out w6 HB6.out;go_simp;refine hK.out _ _ hHeld (fun hHeld=>?_);clear hK K cq;refine wpAnyH_ready (rs:=[8]) (by kernel_rfl) (by simp) ?_;refine AllReadyH.cons rfl (fun K hK=>?_) AllReadyH.nil;go_simp;refine (H8.out _ HB6.out).mono ?_;rintro e5 w7 ⟨ya,yn,yc,rfl,ho7,hb7⟩;have HB7:Hid (Below W2.heap.size W2 w7):=HB6.out.trans (hb7.mono HB6.out.size);have HO7:Hid (w7.ownsRow W2.heap.size 74 hopE.n (.slice ya yn yc) xl.length (cellsG hopE xl)):=own_mono ho7 HB6.out.size;refine hK.out _ _ (HFB.out _ HB7.out) (fun hHeld=>?_);clear hK K hb7 ho7;refine wpAnyH_take (i:=9) (v:=.agg #[.int .i64 xa,.string xb,.slice ya yn yc]) rfl (by kernel_rfl) (by kernel_rfl) (by kernel_rfl) (fun _ _ _ h=>h) (Or.inl ⟨by rfl,?_⟩) hHeld ?_
       ·intro V hV;go_simp
       try simp only[Act.put,AP]
       refine wpAnyH_ready (rs:=[10]) (by kernel_rfl) (by simp) ?_;refine AllReadyH.cons rfl (fun K hK=>?_) AllReadyH.nil;go_simp;have hb8:Below w7.heap.size w7 (w7.alloc (Obj.cells #[.int .i64 xa,.string xb,.slice ya yn yc] 77)):=(Below.refl _ _).alloc (Nat.le_refl _) _;have HVA:Hid (VAt (w7.alloc (Obj.cells #[.int .i64 xa,.string xb,.slice ya yn yc] 77)) w7.heap.size 0 (ftE.c ((xa,xb,xl),(ya,yn,yc)))):=vat_new w7 [.int .i64 xa,.string xb,.slice ya yn yc] 77;have HB8:Hid (Below W2.heap.size W2 (w7.alloc (Obj.cells #[.int .i64 xa,.string xb,.slice ya yn yc] 77))):=HB7.out.trans (hb8.mono HB7.out.size);have HO8:Hid ((w7.alloc (Obj.cells #[.int .i64 xa,.string xb,.slice ya yn yc] 77)).ownsRow W2.heap.size 74 hopE.n (.slice ya yn yc) xl.length (cellsG hopE xl)):=own_below HO7.out hb8;refine hK.out _ _ (HFB.out _ HB8.out) (fun hHeld=>?_);clear hK K hb8;refine wpAnyH_ready (rs:=[11]) (by kernel_rfl) (by simp) ?_;refine AllReadyH.cons rfl (fun K hK=>?_) AllReadyH.nil;refine step_append_blk (E:=ftE) _ (by rfl) _ _ 34 77 (by rfl) Tryz.underlying34 i0 (.agg #[.int .i64 0,.string ⟨#[]⟩,.slice none 0 0]) 48 hi hz0 hz1 hz2 rfl (w5.heap.size+2) v (by rfl) Z (HOV.out _ HB8.out) w7.heap.size 0 1 (by rfl) ((xa,xb,xl),(ya,yn,yc)) HVA.out HL1.out HL2.out (Nat.le_trans HBA.out HB8.out.size) ?_;intro v9 w9 ho9 hg9 hb9;obtain⟨HFIN9,HF9,hc9,hf9,⟨a9,n9,c9,rfl⟩⟩:=HPUSH.out _ ya yn yc v9 w9 HB8.out HO8.out ho9 hg9 hb9;refine hK.out _ _ HF9.1 (fun hHeld=>?_);clear hK K ho9 hg9 hb9;refine wpAnyH_ready (rs:=[12]) (by kernel_rfl) (by simp) ?_;refine AllReadyH.cons rfl (fun K hK=>?_) AllReadyH.nil;go_simp;refine hK.out _ _ HF9.2 (fun hHeld=>?_);clear hK K;refine wpAnyH_done (by kernel_rfl) ?_ _;exact HFIN9
      skip;go_simp;refine (H8.out _ HB6.out).mono ?_;rintro e5 w7 ⟨ya,yn,yc,rfl,ho7,hb7⟩;have HB7:Hid (Below W2.heap.size W2 w7):=HB6.out.trans (hb7.mono HB6.out.size);have HO7:Hid (w7.ownsRow W2.heap.size 74 hopE.n (.slice ya yn yc) xl.length (cellsG hopE xl)):=own_mono ho7 HB6.out.size;refine hK.out _ _ (HFB.out _ HB7.out) (fun hHeld=>?_);clear hK K hb7 ho7;refine wpAnyH_take (i:=9) (v:=.agg #[.int .i64 xa,.string xb,.slice ya yn yc]) rfl (by kernel_rfl) (by kernel_rfl) (by kernel_rfl) (fun _ _ _ h=>h) (Or.inl ⟨by rfl,?_⟩) hHeld ?_
      ·intro V hV;go_simp
      try simp only[Act.put,AP]
      refine wpAnyH_ready (rs:=[0,10]) (by kernel_rfl) (by simp) ?_;refine AllReadyH.cons rfl (fun K hK=>?_) (AllReadyH.cons rfl (fun K hK=>?_) AllReadyH.nil)
      ·skip;have cq:=HQ.out w7 HB7.out;go_simp;refine hK.out _ _ hHeld (fun hHeld=>?_);clear hK K cq;refine wpAnyH_ready (rs:=[10]) (by kernel_rfl) (by simp) ?_;refine AllReadyH.cons rfl (fun K hK=>?_) AllReadyH.nil;go_simp;have hb8:Below w7.heap.size w7 (w7.alloc (Obj.cells #[.int .i64 xa,.string xb,.slice ya yn yc] 77)):=(Below.refl _ _).alloc (Nat.le_refl _) _;have HVA:Hid (VAt (w7.alloc (Obj.cells #[.int .i64 xa,.string xb,.slice ya yn yc] 77)) w7.heap.size 0 (ftE.c ((xa,xb,xl),(ya,yn,yc)))):=vat_new w7 [.int .i64 xa,.string xb,.slice ya yn yc] 77;have HB8:Hid (Below W2.heap.size W2 (w7.alloc (Obj.cells #[.int .i64 xa,.string xb,.slice ya yn yc] 77))):=HB7.out.trans (hb8.mono HB7.out.size);have HO8:Hid ((w7.alloc (Obj.cells #[.int .i64 xa,.string xb,.slice ya yn yc] 77)).ownsRow W2.heap.size 74 hopE.n (.slice ya yn yc) xl.length (cellsG hopE xl)):=own_below HO7.out hb8;refine hK.out _ _ (HFB.out _ HB8.out) (fun hHeld=>?_);clear hK K hb8;refine wpAnyH_ready (rs:=[11]) (by kernel_rfl) (by simp) ?_;refine AllReadyH.cons rfl (fun K hK=>?_) AllReadyH.nil;refine step_append_blk (E:=ftE) _ (by rfl) _ _ 34 77 (by rfl) Tryz.underlying34 i0 (.agg #[.int .i64 0,.string ⟨#[]⟩,.slice none 0 0]) 48 hi hz0 hz1 hz2 rfl (w5.heap.size+2) v (by rfl) Z (HOV.out _ HB8.out) w7.heap.size 0 1 (by rfl) ((xa,xb,xl),(ya,yn,yc)) HVA.out HL1.out HL2.out (Nat.le_trans HBA.out HB8.out.size) ?_;intro v9 w9 ho9 hg9 hb9;obtain⟨HFIN9,HF9,hc9,hf9,⟨a9,n9,c9,rfl⟩⟩:=HPUSH.out _ ya yn yc v9 w9 HB8.out HO8.out ho9 hg9 hb9;refine hK.out _ _ HF9.1 (fun hHeld=>?_);clear hK K ho9 hg9 hb9;refine wpAnyH_ready (rs:=[12]) (by kernel_rfl) (by simp) ?_;refine AllReadyH.cons rfl (fun K hK=>?_) AllReadyH.nil;go_simp;refine hK.out _ _ HF9.2 (fun hHeld=>?_);clear hK K;refine wpAnyH_done (by kernel_rfl) ?_ _;exact HFIN9
      skip;go_simp;have hb8:Below w7.heap.size w7 (w7.alloc (Obj.cells #[.int .i64 xa,.string xb,.slice ya yn yc] 77)):=(Below.refl _ _).alloc (Nat.le_refl _) _;have HVA:Hid (VAt (w7.alloc (Obj.cells #[.int .i64 xa,.string xb,.slice ya yn yc] 77)) w7.heap.size 0 (ftE.c ((xa,xb,xl),(ya,yn,yc)))):=vat_new w7 [.int .i64 xa,.string xb,.slice ya yn yc] 77;have HB8:Hid (Below W2.heap.size W2 (w7.alloc (Obj.cells #[.int .i64 xa,.string xb,.slice ya yn yc] 77))):=HB7.out.trans (hb8.mono HB7.out.size);have HO8:Hid ((w7.alloc (Obj.cells #[.int .i64 xa,.string xb,.slice ya yn yc] 77)).ownsRow W2.heap.size 74 hopE.n (.slice ya yn yc) xl.length (cellsG hopE xl)):=own_below HO7.out hb8;refine hK.out _ _ (HFB.out _ HB8.out) (fun hHeld=>?_);clear hK K hb8;refine wpAnyH_ready (rs:=[0]) (by kernel_rfl) (by simp) ?_;refine AllReadyH.cons rfl (fun K hK=>?_) AllReadyH.nil;have cq:=HQ.out _ HB8.out;go_simp;refine hK.out _ _ hHeld (fun hHeld=>?_);clear hK K cq;refine wpAnyH_ready (rs:=[11]) (by kernel_rfl) (by simp) ?_;refine AllReadyH.cons rfl (fun K hK=>?_) AllReadyH.nil;refine step_append_blk (E:=ftE) _ (by rfl) _ _ 34 77 (by rfl) Tryz.underlying34 i0 (.agg #[.int .i64 0,.string ⟨#[]⟩,.slice none 0 0]) 48 hi hz0 hz1 hz2 rfl (w5.heap.size+2) v (by rfl) Z (HOV.out _ HB8.out) w7.heap.size 0 1 (by rfl) ((xa,xb,xl),(ya,yn,yc)) HVA.out HL1.out HL2.out (Nat.le_trans HBA.out HB8.out.size) ?_;intro v9 w9 ho9 hg9 hb9;obtain⟨HFIN9,HF9,hc9,hf9,⟨a9,n9,c9,rfl⟩⟩:=HPUSH.out _ ya yn yc v9 w9 HB8.out HO8.out ho9 hg9 hb9;refine hK.out _ _ HF9.1 (fun hHeld=>?_);clear hK K ho9 hg9 hb9;refine wpAnyH_ready (rs:=[12]) (by kernel_rfl) (by simp) ?_;refine AllReadyH.cons rfl (fun K hK=>?_) AllReadyH.nil;go_simp;refine hK.out _ _ HF9.2 (fun hHeld=>?_);clear hK K;refine wpAnyH_done (by kernel_rfl) ?_ _;exact HFIN9
     case done =>
      rintro X W ⟨hBw,hXb,v,Z,hqb,hov,hmz,hvx,hzs⟩ hK;rw[List.take_length] at hmz;have hZL:Z.length=L.length:=by rw[←hmz,List.length_map]
      have hL:=HLL.out;have hs5:=HS5.out
      rcases hov.2 with ⟨_,h0⟩ | ⟨g,capv,cur,rfl,hgB,_,_,_,_⟩
      ·omega
      have hzz:∀z∈Z,∀W',Kb (fun b=>b≠g) W W'→GS hopE W' (slV z.2) z.1.2.2:=fun z hz W' hk=>own_GS (own_kb (hzs z hz).1 hk (fun b e=>by
       rcases own_rows2 (hzs z hz).1 hov hf_ne with h | h
       ·rw[h] at e;cases e
       rw[e] at h;exact fun e2=>h (by rw[e2];rfl)))
      have HOV:Hid (W.ownsRow (w5.heap.size+2) 77 ftE.n (.slice (some ⟨g,0,none⟩) Z.length capv) Z.length (cellsG ftE Z)):=hov;have HZZ:Hid (∀z∈Z,∀W',Kb (fun b=>b≠g) W W'→GS hopE W' (slV z.2) z.1.2.2):=hzz;have HQB:Hid (Boxed W q 34 (.slice (some ⟨g,0,none⟩) Z.length capv)):=hqb;have HBw:Hid (Below w.heap.size w W):=hBw;have HK:Hid (W.heap[w5.heap.size]?=some (.deferred (some []))):=hK;have HG:Hid (w5.heap.size+2≤g):=hgB;have HZL:Hid (Z.length≤16777216):=by show _≤_;omega
      have HMZ:Hid (Z.map Prod.fst=L):=hmz;have cq:=hqb.cell;clear hBw hXb hqb hov hmz hvx hzs hK hZL hL hs5 hgB hzz
      gi_wp2_with fail
      refine⟨trivial,(callsIn_wide.2 (sort_fates g capv _ _ Z W HOV.out HZZ.out HZL.out)).mono ?_⟩;rintro e W6 ⟨rfl,⟨D,hp,hd,hF⟩,hk6⟩;have hs5:=HS5.out;have hg2:=HG.out;have hb6:Boxed W6 q 34 (.slice (some ⟨g,0,none⟩) Z.length capv):=hk6.boxed HQB.out (by omega);have hK6:W6.heap[w5.heap.size]?=some (.deferred (some [])):=(hk6.block _ (Array.getElem?_eq_some_iff.1 HK.out).1 (by omega)).trans HK.out;have HK6:Hid (W6.heap[w5.heap.size]?=some (.deferred (some []))):=hK6;have HF:Hid (FTs W6 (.slice (some ⟨g,0,none⟩) Z.length capv) D):=hF;have HB6:Hid (Below w.heap.size w W6):=HBw.out.trans (hk6.below HBw.out.size (fun b hb=>by have:=HWQ.out;omega));have HD:Hid (D=seeL Ls Hs Ts (caT Ts l) (y1,y2) h):=HSO.out D (by rw[←HMZ.out];exact hp) hd;have cq6:=hb6.cell;clear hs5 hg2 hb6 hK6 hF hk6 hp hd cq
      gi_wp2
      refine⟨by simp,.inl ⟨_,_,rfl,run_takeDeferred HK6.out,?_⟩⟩;obtain⟨e1,e2⟩:=sn_0 HN.out HM.out HH0.out;refine⟨.tuple #[.slice (some ⟨g,0,none⟩) Z.length capv,.nilIface],by simp[results,Tryz.results9,go_sem],some ⟨g,0,none⟩,Z.length,capv,by rw[e1,no_ok rfl],?_,HB6.out.trans (belowK_b (w:=w) (Nat.le_refl _) W6 _ _ _ (by have:=HS5.out;have:=HWQ.out;omega) HK6.out rfl rfl)⟩;rw[e2,HY.out,←HD.out];exact HF.out.shut HK6.out _
     case stop =>
      rintro c W h _;exact h.elim
  rw[no_ne hm0];have HMZ:Hid (M≠0):=hm0;clear hm0
  gi_wp2
  obtain⟨e1,e2⟩:=sn_2 (h:=h) HN.out (by rw[HM.out];exact HMZ.out);exact⟨.tuple #[.slice none 0 0,.iface 85 (.int .i64 M)],by simp[results,Tryz.results9,go_sem],none,0,0,by rw[e1,HM.out,no_ne HMZ.out],by rw[e2];exact⟨[],GS.nil _,rfl,fun z hz=>by cases hz⟩,HB3.out.trans (((Below.refl _ _).alloc (Nat.le_refl _) _).mono HB3.out.size)⟩
 rw[no_ne h0];have HNZ:Hid (N≠0):=h0;clear h0
 gi_wp2
 obtain⟨e1,e2⟩:=sn_1 (m:=m) (h:=h) (by rw[HN.out];exact HNZ.out);exact⟨.tuple #[.slice none 0 0,.iface 85 (.int .i64 N)],by simp[results,Tryz.results9,go_sem],none,0,0,by rw[e1,HN.out,no_ne HNZ.out],by rw[e2];exact⟨[],GS.nil _,rfl,fun z hz=>by cases hz⟩,HB1.out.trans (((Below.refl _ _).alloc (Nat.le_refl _) _).mono HB1.out.size)⟩
theorem seen_any (S:Int)(ao:Option Addr)(n1 cap:Nat)(ao2:Option Addr)(n2 cap2:Nat)(ao3:Option Addr)(n3 cap3:Nat)(a4:Option Addr)(n4 c4:Nat)(Ls:List ((Int×Int)×(Int×Int)))(Hs:List (ByteArray×(Int×Int)))(Ts:List (List Ru))(l:List Op8)(m:ByteArray)(h:Int)(w:World)
 (hL:GS lnkE w (.slice ao n1 cap) Ls) (hH:GS hstE w (.slice ao2 n2 cap2) Hs) (hT:TS w (.slice ao3 n3 cap3) Ts) (hl:GS opE w (.slice a4 n4 c4) l):
 Calls Tryz.prog 9 #[.agg #[.int .i64 S,.slice ao n1 cap,.slice ao2 n2 cap2,.slice ao3 n3 cap3],.slice a4 n4 c4,.string m,.int .i64 h] w fun e W'=>∃a5 n5 c5,e=.returned (.tuple #[.slice a5 n5 c5,noV (snN S Ls Hs Ts l m h)])∧FTs W' (.slice a5 n5 c5) (snL S Ls Hs Ts l m h)∧Below w.heap.size w W':=
 (callsIn_wide (n:=4)).1 (seen_in 4 (by omega) S ao n1 cap ao2 n2 cap2 ao3 n3 cap3 a4 n4 c4 Ls Hs Ts l m h w hL hH hT hl)
end
section
open Go.RowKit
def wisAsks (w:World)(f:FuncId)(c:Value)(P:Wi→Bool):Prop:=
 ∀(x0:Int) (x1:ByteArray) (x2:ByteArray) (x3:Int) (W:World),Below w.heap.size w W→Calls Tryz.prog f #[.agg #[.int .i64 x0,.string x1,.string x2,.int .i64 x3],c] W fun e w'=>e=.returned (.bool (P ⟨x0,x1,x2,x3⟩))∧Below W.heap.size W w'
theorem wisAsks.later {w w':World}{f:FuncId}{c:Value}{P:Wi→Bool}(h:wisAsks w f c P)(hb:Below w.heap.size w w'):wisAsks w' f c P:=
 fun x0 x1 x2 x3 W hW=>h x0 x1 x2 x3 W (hb.trans (hW.mono hb.size))
theorem wis_idxF (ao:Option Addr)(n cap:Nat)(f:FuncId)(c:Value)(P:Wi→Bool)(L:List (Wi))(w:World)(hn:L.length=n)(hn2:n≤maxLen)(ha:0<n→∃g o,ao=some ⟨g,o,none⟩∧GAt wisE w g o L∧cap≤maxLen)(he:∀args w,(callFunc f args).run Tryz.prog w=.ok (.enter f args) w)(hf:wisAsks w f c P):
 Calls Tryz.prog 104 #[.slice ao n cap,.func (Fn.func f) #[] #[c]] w fun e w'=>e=.returned (.int .i64 (ixG P L))∧Below w.heap.size w w':=by
 have HN:Hid (L.length=n):=hn;have HF:Hid (wisAsks w f c P):=hf;have HA:Hid (0<n→∃g o,ao=some ⟨g,o,none⟩∧GAt wisE w g o L∧cap≤maxLen):=ha;unfold maxLen at hn2;clear hn hf ha;go_enter Tryz.func104,Tryz.ntmps104;go_wp2
 go_loopw [8] (fun i wr=>∃k:Nat,k≤n∧i=.int .i64 k∧(L.take k).any P=false∧Below w.heap.size w wr)
  (fun i _=>n-(intOf i).toNat)
 case atStart=>exact⟨0,by omega,rfl,by simp,Below.refl _ _⟩
 case round =>
  obtain⟨k,hk,rfl,hno,hB⟩:=hrel;have HB:Hid (Below w.heap.size w wr):=hB;have HNO:Hid ((L.take k).any P=false):=hno;clear hno;by_cases hlt:k<n
  ·obtain⟨g,o,hao,hc,_⟩:=HA.out (by omega);subst hao;obtain⟨x0,x1,x2,x3,hkl,hL,q0,q1,q2,q3⟩:=wis_at (hc.later hB) HN.out hlt;have HL:Hid (L[k]=⟨x0,x1,x2,x3⟩):=hL;clear hL hB;cases ho:P ⟨x0,x1,x2,x3⟩
   ·go_wp2_with fail
    refine (HF.out x0 x1 x2 x3 _ HB.out).mono ?_;rintro e w1 ⟨rfl,hb1⟩;rw[ho];have HB1:=HB.out.trans (hb1.mono HB.out.size);clear hb1;go_wp2;go_roundw
    case rel=>exact⟨k+1,by omega,by go_num,any_nextG hkl HNO.out (by rw[HL.out];exact ho),HB1⟩
    case measure=>simp[intOf];omega
   go_wp2_with fail
   refine (HF.out x0 x1 x2 x3 _ HB.out).mono ?_;rintro e w1 ⟨rfl,hb1⟩;rw[ho];go_wp2;go_ret;exact⟨by rw[ixG_hit hkl HNO.out (by rw[HL.out];exact ho)];rfl,HB.out.trans (hb1.mono HB.out.size)⟩
  obtain rfl:k=n:=by omega
  go_wp2;go_ret;exact⟨by have:=HNO.out;rw[←HN.out,List.take_length] at this;rw[ixG_no this];rfl,HB.out⟩
theorem wis_hasF (ao:Option Addr)(n cap:Nat)(f:FuncId)(c:Value)(P:Wi→Bool)(L:List (Wi))(w:World)(hn:L.length=n)(hn2:n≤maxLen)(ha:0<n→∃g o,ao=some ⟨g,o,none⟩∧GAt wisE w g o L∧cap≤maxLen)(he:∀args w,(callFunc f args).run Tryz.prog w=.ok (.enter f args) w)(hf:wisAsks w f c P):
 Calls Tryz.prog 63 #[.slice ao n cap,.func (Fn.func f) #[] #[c]] w fun e w'=>e=.returned (.bool (L.any P))∧Below w.heap.size w w':=by
 rw[←ixG_any];obtain⟨x,hx⟩:∃x,x=ixG P L:=⟨_,rfl⟩;have HX:Hid (x=ixG P L):=hx;rw[←hx];clear hx;go_enter Tryz.func63,Tryz.ntmps63
 go_wp2_with fail
 refine (wis_idxF ao n cap f c P L _ hn hn2 ha he hf).mono ?_;rintro e w1 ⟨rfl,hb1⟩;rw[←HX.out];go_wp2;go_ret;exact⟨rfl,hb1⟩
def HsBox (W:World)(g:Nat)(m:ByteArray)(x y:Int):Prop:=W.cell? ⟨g,0,none⟩=some (.string m)∧W.cell? ⟨g,1,none⟩=some (.int .i64 x)∧W.cell? ⟨g,2,none⟩=some (.int .i64 y)
theorem HsBox.later {W W':World}{g:Nat}{m:ByteArray}{x y:Int}(h:HsBox W g m x y)(hb:Below W.heap.size W W'):HsBox W' g m x y:=
 ⟨cell_later hb h.1,cell_later hb h.2.1,cell_later hb h.2.2⟩
theorem hsbox_new (w:World)(m:ByteArray)(x y:Int)(T:TypeId):HsBox (w.alloc (Obj.cells #[.string m,.int .i64 x,.int .i64 y] T)) w.heap.size m x y:=by
 refine⟨?_,?_,?_⟩ <;> simp
structure PrBox (w W:World)(g:Nat)(a:Int)(b:ByteArray)(c:Int):Prop where
 c0:W.cell? ⟨g,0,none⟩=some (.int .i64 a)
 c1:W.cell? ⟨g,1,none⟩=some (.string b)
 c2:W.cell? ⟨g,2,none⟩=some (.int .i64 c)
 f:∀i,W.frozen? ⟨g,i,none⟩=false
theorem prbox_new (w u:World)(a:Int)(b:ByteArray)(c:Int):PrBox u (w.alloc (Obj.cells #[.int .i64 a,.string b,.int .i64 c] 50)) w.heap.size a b c:=by
 refine⟨?_,?_,?_,fun i=>?_⟩ <;> simp
theorem PrBox.lt {u W:World}{g:Nat}{a:Int}{b:ByteArray}{c:Int}(h:PrBox u W g a b c):g<W.heap.size:=World.block_lt_of_cell? W ⟨g,0,none⟩ h.c0
theorem PrBox.later {u W W':World}{g:Nat}{a:Int}{b:ByteArray}{c:Int}(h:PrBox u W g a b c)(hb:Below W.heap.size W W'):PrBox u W' g a b c:=
 ⟨cell_later hb h.c0,cell_later hb h.c1,cell_later hb h.c2,fun i=>(hb.frozen (p:=⟨g,i,none⟩) h.lt).trans (h.f i)⟩
theorem PrBox.put {u W:World}{g:Nat}{a:Int}{b:ByteArray}{c:Int}(h:PrBox u W g a b c)(a':Int)(b':ByteArray)(c':Int):PrBox u (put3 W g (.int .i64 a') (.string b') (.int .i64 c')) g a' b' c':=by
 obtain⟨x,y,z⟩:=put3_cells (a:=.int .i64 a') (b:=.string b') (c:=.int .i64 c') ⟨h.c0,h.c1,h.c2⟩;refine⟨x,y,z,fun i=>?_⟩;unfold put3;rw[World.frozen?_setCell,World.frozen?_setCell,World.frozen?_setCell];exact h.f i
theorem PrBox.other {u W:World}{g g':Nat}{a:Int}{b:ByteArray}{c:Int}(h:PrBox u W g a b c)(hg:g≠g')(a' b' c':Value):PrBox u (put3 W g' a' b' c') g a b c:=by
 have o:∀(W:World) (i j:Nat) (x:Value),(W.setCell ⟨g',i,none⟩ x).cell? ⟨g,j,none⟩=W.cell? ⟨g,j,none⟩:=fun W i j x=>World.cell?_setCell_other _ _ _ _ (by intro e;exact hg (by injection e with e1;exact e1.symm))
 unfold put3;refine⟨?_,?_,?_,fun i=>?_⟩
 ·rw[o,o,o];exact h.c0
 ·rw[o,o,o];exact h.c1
 ·rw[o,o,o];exact h.c2
 rw[World.frozen?_setCell,World.frozen?_setCell,World.frozen?_setCell];exact h.f i
structure Rbx (w W:World)(p:Int×ByteArray×Int):Prop where
 below:Below w.heap.size w W
 r:PrBox w W w.heap.size 0 ⟨#[]⟩ 0
 p:PrBox w W (w.heap.size+1) p.1 p.2.1 p.2.2
theorem Rbx.later {w W W':World}{p:Int×ByteArray×Int}(h:Rbx w W p)(hb:Below W.heap.size W W'):Rbx w W' p:=⟨h.below.trans (hb.mono h.below.size),h.r.later hb,h.p.later hb⟩
theorem Rbx.put {w W:World}{p:Int×ByteArray×Int}(h:Rbx w W p)(q:Int×ByteArray×Int):Rbx w (put3 W (w.heap.size+1) (.int .i64 q.1) (.string q.2.1) (.int .i64 q.2.2)) q:=⟨below_put3 h.below _ (by omega) _ _ _,h.r.other (by omega) _ _ _,h.p.put _ _ _⟩
theorem rbx_new (w:World):Rbx w ((w.alloc (Obj.cells #[.int .i64 0,.string ⟨#[]⟩,.int .i64 0] 50)).alloc (Obj.cells #[.int .i64 0,.string ⟨#[]⟩,.int .i64 0] 50)) (0,ByteArray.empty,0):=by
 have e1:(w.alloc (Obj.cells #[.int .i64 0,.string ⟨#[]⟩,.int .i64 0] 50)).heap.size=w.heap.size+1:=by simp
 have hb:∀(W:World) (o:Obj),Below W.heap.size W (W.alloc o):=fun W o=>(Below.refl _ _).alloc (Nat.le_refl _) _
 have h2:=prbox_new (w.alloc (Obj.cells #[.int .i64 0,.string ⟨#[]⟩,.int .i64 0] 50)) w 0 ⟨#[]⟩ 0;rw[e1] at h2;exact⟨((Below.refl _ w).alloc (Nat.le_refl _) _).alloc (by rw[e1];omega) _,(prbox_new w w 0 ⟨#[]⟩ 0).later (hb _ _),h2⟩
theorem first1_any (k:Int)(f t:ByteArray)(v:Int)(g:Nat)(m:ByteArray)(x y:Int)(w:World)(h2:HsBox w g m x y):
 Calls Tryz.prog 64 #[.agg #[.int .i64 k,.string f,.string t,.int .i64 v],.pointer (some ⟨g,0,none⟩)] w fun e w'=>e=.returned (.bool (abW ⟨k,f,t,v⟩ m))∧Below w.heap.size w w':=by
 have hb0:Below w.heap.size w (w.alloc (Obj.cells #[.int .i64 k,.string f,.string t,.int .i64 v] 96)):=(Below.refl _ _).alloc (Nat.le_refl _) _;have hx0:=wibox_new w k f t v 96;have hs0:=h2.later hb0;obtain⟨w0,hw0⟩:∃W,w.alloc (Obj.cells #[.int .i64 k,.string f,.string t,.int .i64 v] 96)=W:=⟨_,rfl⟩;rw[hw0] at hb0 hx0 hs0;have HW0:Hid (w.alloc (Obj.cells #[.int .i64 k,.string f,.string t,.int .i64 v] 96)=w0):=hw0;have HB0:Hid (Below w.heap.size w w0):=hb0;obtain⟨x0,x1,x2,x3⟩:=hx0;obtain⟨s0,s1,s2⟩:=hs0;obtain⟨R,hR⟩:∃R,R=abW ⟨k,f,t,v⟩ m:=⟨_,rfl⟩;have HR:Hid (abW ⟨k,f,t,v⟩ m=R):=hR.symm;rw[←hR];clear hb0 h2 hw0 hR;go_enter Tryz.func64,Tryz.ntmps64;go_upto_region 1 with fail;rw[HW0.out];clear HW0
 go_wp2_with fail
 refine (isAbout_any k f t v m _).mono ?_;rintro e w1 ⟨rfl,hb1⟩;rw[HR.out];go_wp2;go_ret;exact⟨rfl,HB0.out.trans (hb1.mono HB0.out.size)⟩
def FcAsks (w:World)(g:Nat)(Hs:List (ByteArray×(Int×Int)))(Fs:Nat→Nat→List Ft):Prop:=
 ∀ (z:Nat) (hz:z<Hs.length) (h:Nat),h<16→∀W:World,Below w.heap.size w W→Calls Tryz.prog 36 #[.agg #[.string Hs[z].1,.int .i64 Hs[z].2.1,.int .i64 Hs[z].2.2],.int .i64 h,.pointer (some ⟨g,0,none⟩)] W fun e W' =>
   ∃gi lb,e=.returned (.func (Fn.func gi) #[] lb)∧(∀args w,(callFunc gi args).run Tryz.prog w=.ok (.enter gi args) w)∧ItF Tryz.prog gi lb FtV W'.heap.size (Fs z h) W'∧Below W.heap.size W W'
theorem fbrk_any (g:Nat)(ao2:Option Addr)(n2 cap2:Nat)(a4:Option Addr)(n4 c4:Nat)(Hs:List (ByteArray×(Int×Int)))(Fs:Nat→Nat→List Ft)(l:List Wi)(w:World)
 (hH:GS hstE w (.slice ao2 n2 cap2) Hs) (hl:GS wisE w (.slice a4 n4 c4) l) (hnm:∀h∈Hs,h.1.size≤1000000) (hfc:FcAsks w g Hs Fs):
 Calls Tryz.prog 35 #[.slice ao2 n2 cap2,.slice a4 n4 c4,.func (Fn.func 36) #[] #[.pointer (some ⟨g,0,none⟩)]] w fun e w'=>∃held p,e=.returned (.tuple #[.agg #[.int .i64 p.1,.string p.2.1,.int .i64 p.2.2],.bool (decide (held<l.length))])∧Fb l Hs Fs Hs.length 0 held p∧Below w.heap.size w w':=by
 have hX:=rbx_new w;obtain⟨w0,hw0⟩:∃W,(w.alloc (Obj.cells #[.int .i64 0,.string ⟨#[]⟩,.int .i64 0] 50)).alloc (Obj.cells #[.int .i64 0,.string ⟨#[]⟩,.int .i64 0] 50)=W:=⟨_,rfl⟩;rw[hw0] at hX;have HW0:Hid ((w.alloc (Obj.cells #[.int .i64 0,.string ⟨#[]⟩,.int .i64 0] 50)).alloc (Obj.cells #[.int .i64 0,.string ⟨#[]⟩,.int .i64 0] 50)=w0):=hw0;have HX:Hid (Rbx w w0 (0,ByteArray.empty,0)):=hX;have HLW:Hid (∀W,Below w.heap.size w W→GS wisE W (.slice a4 n4 c4) l):=fun W hb=>hl.later hb
 have HFC:Hid (FcAsks w g Hs Fs):=hfc;have HNM:Hid (∀h∈Hs,h.1.size≤1000000):=hnm;obtain⟨_,_,_,e5,hGn,hGm,hGc,hGa⟩:=hl.form;cases e5;obtain⟨_,_,_,e6,hHn,hHm,_,hHa⟩:=hH.form;cases e6;have HGN:Hid (l.length=n4):=hGn;have HCAP:Hid (n4≤c4):=hGc;have HHN:Hid (Hs.length=n2):=hHn;have HHA:Hid (0<n2→∃g o,ao2=some ⟨g,o,none⟩∧GAt hstE w g o Hs∧cap2≤maxLen):=hHa;have hn4:n4≤maxLen:=hGm;have hn2:n2≤maxLen:=hHm;unfold maxLen at hn4 hn2;have HF0:Hid (Fb l Hs Fs 0 0 n4 (0,ByteArray.empty,0)):=by
  have h:=fb_0 (l:=l) (Hs:=Hs) (Fs:=Fs);rw[hGn] at h;exact h
 clear hX hw0 hl hH hfc hnm hGn hGm hGc hGa hHn hHm hHa;go_enter Tryz.func35,Tryz.ntmps35;go_upto_region 2 with fail;rw[HW0.out];clear HW0;go_wp2
 go_loopw [9,18] (fun hv i wr=>∃(z hd:Nat) (p:Int×ByteArray×Int),z≤n2∧hv=.int .i64 hd∧i=.int .i64 z∧Fb l Hs Fs z 0 hd p∧Rbx w wr p) (fun _ i _=>n2-(intOf i).toNat)
 case atStart=>exact⟨0,n4,(0,ByteArray.empty,0),by omega,rfl,rfl,HF0.out,HX.out⟩
 case round =>
  obtain⟨z,hd,p,hz,rfl,rfl,hF,hR⟩:=hrel;have HF:Hid (Fb l Hs Fs z 0 hd p):=hF;have HR:Hid (Rbx w wr p):=hR;have hdle:hd≤n4:=by rw[←HGN.out];exact hF.le
  clear hF hR;by_cases hlt:z<n2
  ·obtain⟨g2,o2,hao2,hc2,_⟩:=HHA.out (by omega);subst hao2;obtain⟨z0,z1,z2,hzl,hZk,p0,p1,p2⟩:=hst_at (hc2.later HR.out.below) HHN.out hlt;have HZK:Hid (Hs[z]=(z0,(z1,z2))):=hZk;have HZD:Hid (Hs.getD z zeO=(z0,(z1,z2))):=by
    show _=_;rw[getO hzl,hZk]
   have HSZ:Hid (z0.size≤1000000):=by
    have:=HNM.out Hs[z] (List.getElem_mem hzl);rw[hZk] at this;exact this
   have hba:Below wr.heap.size wr (wr.alloc (Obj.cells #[Value.string z0,.int .i64 z1,.int .i64 z2] 41)):=(Below.refl _ _).alloc (Nat.le_refl _) _;have hhb:=hsbox_new wr z0 z1 z2 41;have hR2:=HR.out.later hba;obtain⟨w2,hw2⟩:∃W,wr.alloc (Obj.cells #[Value.string z0,.int .i64 z1,.int .i64 z2] 41)=W:=⟨_,rfl⟩;obtain⟨gh,hgh⟩:∃q,q=wr.heap.size:=⟨_,rfl⟩;rw[hw2] at hhb hR2;rw[←hgh] at hhb;have HW2:Hid (wr.alloc (Obj.cells #[Value.string z0,.int .i64 z1,.int .i64 z2] 41)=w2):=hw2;have HGH:Hid (wr.heap.size=gh):=hgh.symm;have HHB:Hid (HsBox w2 gh z0 z1 z2):=hhb;have HR2:Hid (Rbx w w2 p):=hR2;have HLG:Hid (w.heap.size+1<gh):=by
    show _<_;rw[hgh];exact HR.out.p.lt
   clear hc2 hZk hba hhb hR2 hw2 hgh HR;go_upto_region 6 with fail;rw[HW2.out,HGH.out];clear HW2 HGH p0 p1 p2;go_wp2
   go_loopw [9,22] (fun hv i wr=>∃(h hd:Nat) (p:Int×ByteArray×Int),h≤16∧hv=.int .i64 hd∧i=.int .i64 h∧Fb l Hs Fs z h hd p∧Rbx w wr p∧HsBox wr gh z0 z1 z2) (fun _ i _=>16-(intOf i).toNat)
   case atStart=>exact⟨0,hd,p,by omega,rfl,rfl,HF.out,HR2.out,HHB.out⟩
   case round =>
    clear HF HR2 HHB hdle;obtain⟨h,hd,p,hh,rfl,rfl,hF,hR,hS⟩:=hrel;have HF:Hid (Fb l Hs Fs z h hd p):=hF;have HR:Hid (Rbx w wr p):=hR;have HS:Hid (HsBox wr gh z0 z1 z2):=hS;have hdle:hd≤n4:=by rw[←HGN.out];exact hF.le
    clear hF hR hS;by_cases hlt16:h<16
    ·have HGT:Hid (∀W,Below wr.heap.size wr W→GS wisE W (.slice a4 hd c4) (l.take hd)):=fun W hb=>(HLW.out W (HR.out.below.trans (hb.mono HR.out.below.size))).take hdle
     obtain⟨_,_,_,e7,hTn,hTm,_,hTa⟩:=(HGT.out wr (Below.refl _ _)).form;cases e7;have HTN:Hid ((l.take hd).length=hd):=hTn;have HTM:Hid (hd≤maxLen):=hTm;have HTA:Hid (0<hd→∃g o,a4=some ⟨g,o,none⟩∧GAt wisE wr g o (l.take hd)∧c4≤maxLen):=hTa;have HASK:Hid (wisAsks wr 64 (.pointer (some ⟨gh,0,none⟩)) (fun u=>abW u z0)):=fun y0 y1 y2 y3 W hb=>first1_any y0 y1 y2 y3 gh z0 z1 z2 W (HS.out.later hb)
     obtain⟨c,hc⟩:∃c,c=(l.take hd).any (fun u=>abW u z0):=⟨_,rfl⟩;have HC:Hid ((l.take hd).any (fun u=>abW u z0)=c):=hc.symm;obtain⟨s0,s1,s2⟩:=HS.out;have hcap:=HCAP.out;have nb0:(0:Int)≤(hd:Int):=by omega
     have nb1:(hd:Int)≤(c4:Int):=by omega
     have nb2:(hd:Int)≤(n4:Int):=by omega
     clear hc hTn hTm hTa
     go_wp2_with fail
     refine (wis_hasF a4 hd c4 _ _ (fun u=>abW u z0) (l.take hd) _ HTN.out HTM.out HTA.out (enters_of Tryz.func64 (by kernel_rfl) rfl) HASK.out).mono ?_;rintro e w3 ⟨rfl,hb3⟩;rw[HC.out];have HR3:Hid (Rbx w w3 p):=HR.out.later hb3;have HS3:Hid (HsBox w3 gh z0 z1 z2):=HS.out.later hb3;have HGT3:Hid (∀W,Below w3.heap.size w3 W→GS wisE W (.slice a4 hd c4) (l.take hd)):=fun W hb=>HGT.out W (hb3.trans (hb.mono hb3.size))
     clear hb3 s0 s1 s2 HTN HTM HTA HASK HGT HR HS;cases c with
     | false =>
       have HFO:Hid (Fb l Hs Fs (z+1) 0 hd p):=HF.out.off (by rw[HZD.out];exact HC.out);go_wp2;go_roundw
       case rel=>exact⟨z+1,hd,p,by omega,rfl,by go_num,HFO.out,HR3.out⟩
       case measure=>simp[intOf];omega
     | true =>
       obtain⟨N,hN⟩:∃N,N=hwN (l.take hd) z0 (Fs z h):=⟨_,rfl⟩;have HN:Hid (hwN (l.take hd) z0 (Fs z h)=N):=hN.symm;have HFCW:Hid (∀W,Below w3.heap.size w3 W→Calls Tryz.prog 36 #[.agg #[.string z0,.int .i64 z1,.int .i64 z2],.int .i64 h,.pointer (some ⟨g,0,none⟩)] W fun e W' =>
        ∃gi lb,e=.returned (.func (Fn.func gi) #[] lb)∧(∀args w,(callFunc gi args).run Tryz.prog w=.ok (.enter gi args) w)∧ItF Tryz.prog gi lb FtV W'.heap.size (Fs z h) W'∧Below W.heap.size W W'):=fun W hb=>by
        have h:=HFC.out z hzl h hlt16 W (HR3.out.below.trans (hb.mono HR3.out.below.size));rw[HZK.out] at h;exact h
       have HHOL:Hid (∀(gi:Nat) (lb:Array Value) (W:World),(∀args w,(callFunc gi args).run Tryz.prog w=.ok (.enter gi args) w)→ItF Tryz.prog gi lb FtV W.heap.size (Fs z h) W→Below w3.heap.size w3 W→Calls Tryz.prog 66 #[.slice a4 hd c4,.string z0,.func (Fn.func gi) #[] lb] W fun e W'=>e=.returned (.int .i64 N)∧Below W.heap.size W W'):=fun gi lb W eg hit hb=>by
        rw[hN];exact holding_any a4 hd c4 (l.take hd) z0 gi lb (Fs z h) W.heap.size W (HGT3.out W hb) eg hit (Nat.le_refl _)
       have HSW:Hid (∀W,Below w3.heap.size w3 W→W.cell? ⟨gh,0,none⟩=some (.string z0)∧W.cell? ⟨gh,1,none⟩=some (.int .i64 z1)∧W.cell? ⟨gh,2,none⟩=some (.int .i64 z2)):=fun W hb=>HS3.out.later hb
       obtain⟨s0,s1,s2⟩:=HS3.out;clear hN;go_upto_region 10 with fail
       go_cut [13] from 23 to 51 (fun v w'=>v=.int .i64 N∧Below w3.heap.size w3 w')
       case first =>
        go_region_held3 (fun W=>W.cell? ⟨gh,0,none⟩=some (.string z0)∧W.cell? ⟨gh,1,none⟩=some (.int .i64 z1)∧W.cell? ⟨gh,2,none⟩=some (.int .i64 z2))
         (first | (with_reducible assumption) | (with_reducible exact HSW.out _ (Below.drew (Below.refl _ _))) | (with_reducible exact HSW.out _ HBX.out) | (with_reducible exact HSW.out _ HBY.out))
         (first
          | (go_at_call 36;refine (HFCW.out _ (Below.drew (Below.refl _ _))).mono ?_;rintro e w' ⟨gi,lb,rfl,eg,hit,hb⟩;have HBX:Hid (Below w3.heap.size w3 w'):=bdrew hb;have HEG:Hid (∀args w,(callFunc gi args).run Tryz.prog w=.ok (.enter gi args) w):=eg;have HIT:Hid (ItF Tryz.prog gi lb FtV w'.heap.size (Fs z h) w'):=hit;clear hb eg hit)
          | (go_at_call 66;refine (HHOL.out _ _ _ HEG.out HIT.out HBX.out).mono ?_;rintro e w'' ⟨rfl,hb⟩;have HBY:Hid (Below w3.heap.size w3 w''):=HBX.out.trans (hb.mono HBX.out.size);clear hb))
        all_goals (go_wp2_with fail;go_meet)
        all_goals exact⟨rfl,HBY.out⟩
       case rest =>
        obtain⟨rfl,hbw⟩:=hcut;have HR4:Hid (Rbx w wc p):=HR3.out.later hbw;have HS4:Hid (HsBox wc gh z0 z1 z2):=HS3.out.later hbw;clear hbw HR3 HS3 HGT3 HFCW HHOL HSW s0 s1 s2;obtain⟨s0,s1,s2⟩:=HS4.out;by_cases hNl:N<hd
        ·have HFL:Hid (Fb l Hs Fs z (h+1) N ((N:Int),z0,(h:Int))):=by
          have:=HF.out.less hlt16 hzl (by rw[HZD.out];exact HN.out) hNl;rw[HZD.out] at this;exact this
         have dN:decide ((N:Int)<(hd:Int))=true:=by simp;omega
         go_wp2_with fail
         refine (clone_any z0 _ HSZ.out).mono ?_;rintro e w6 ⟨rfl,hb6⟩;have HR6:Hid (Rbx w w6 p):=HR4.out.later hb6;have HS6:Hid (HsBox w6 gh z0 z1 z2):=HS4.out.later hb6;obtain⟨r0,r1,r2,rf⟩:=HR6.out.p;have f0:=rf 0;have f1:=rf 1;have f2:=rf 2;have HSP:Hid (∀a b c,HsBox (put3 w6 (w.heap.size+1) a b c) gh z0 z1 z2):=fun a b c=>by
          have o:∀(W:World) (i j:Nat) (x:Value),(W.setCell ⟨w.heap.size+1,i,none⟩ x).cell? ⟨gh,j,none⟩=W.cell? ⟨gh,j,none⟩:=fun W i j x=>World.cell?_setCell_other _ _ _ _ (by intro e;injection e with e1;have:=HLG.out;omega)
          unfold put3;obtain⟨x0,x1,x2⟩:=HS6.out;exact⟨by rw[o,o,o];exact x0,by rw[o,o,o];exact x1,by rw[o,o,o];exact x2⟩
         clear hb6 rf s0 s1 s2 hNl;go_wp2;go_roundw
         case rel=>exact⟨h+1,N,((N:Int),z0,(h:Int)),by omega,rfl,by go_num,HFL.out,HR6.out.put ((N:Int),z0,(h:Int)),HSP.out _ _ _⟩
         case measure=>simp[intOf];omega
        have HFS:Hid (Fb l Hs Fs z (h+1) hd p):=HF.out.same (by rw[HZD.out,HN.out];exact hNl);have dN:decide ((N:Int)<(hd:Int))=false:=by simp;omega
        have hNl2:hd≤N:=by omega
        go_wp2;go_roundw
        case rel=>exact⟨h+1,hd,p,by omega,rfl,by go_num,HFS.out,HR4.out,HS4.out⟩
        case measure=>simp[intOf];omega
    obtain rfl:h=16:=by omega
    have HFO:Hid (Fb l Hs Fs (z+1) 0 hd p):=HF.out.host;go_wp2;go_roundw
    case rel=>exact⟨z+1,hd,p,by omega,rfl,by go_num,HFO.out,HR.out⟩
    case measure=>simp[intOf];omega
  obtain rfl:z=n2:=by omega
  obtain⟨P1,P2,P3⟩:=p;obtain⟨q0,q1,q2,_⟩:=HR.out.p;obtain⟨r0,r1,r2,rf⟩:=HR.out.r;have f0:=rf 0;have f1:=rf 1;have f2:=rf 2;have HB:Hid (Below w.heap.size w wr):=HR.out.below;have HFE:Hid (Fb l Hs Fs Hs.length 0 hd (P1,P2,P3)):=by
   have h:=HF.out;rw[←HHN.out] at h;exact h
  dsimp only at q0 q1 q2
  clear rf;go_wp2;refine bodyPost_ret (v:=.tuple #[.agg #[.int .i64 P1,.string P2,.int .i64 P3],.bool (decide ((hd:Int)<(n4:Int)))]) (by simp[results,Tryz.results35,go_sem, *]) rfl ⟨hd,(P1,P2,P3),?_,HFE.out,below_put3 HB.out _ (Nat.le_refl _) _ _ _⟩;rw[show decide (hd<l.length)=decide ((hd:Int)<(n4:Int)) by rw[HGN.out];simp]
structure CBox (w W:World)(S:Int)(v1 v2:Value)(k:Int)(f t:ByteArray)(v:Int):Prop where
 below:Below w.heap.size w W
 b:TBox W w.heap.size S v1 v2
 x:WiBox W (w.heap.size+1) k f t v
theorem cbox_new (w:World)(S:Int)(v1 v2:Value)(k:Int)(f t:ByteArray)(v:Int):CBox w ((w.alloc (Obj.cells #[.int .i64 S,v1,v2] 25)).alloc (Obj.cells #[.int .i64 k,.string f,.string t,.int .i64 v] 96)) S v1 v2 k f t v:=by
 have e1:(w.alloc (Obj.cells #[.int .i64 S,v1,v2] 25)).heap.size=w.heap.size+1:=by simp
 have hb:∀(W:World) (o:Obj),Below W.heap.size W (W.alloc o):=fun W o=>(Below.refl _ _).alloc (Nat.le_refl _) _
 have hn:=(tbox_new w S v1 v2 25).later (hb _ (Obj.cells #[.int .i64 k,.string f,.string t,.int .i64 v] 96));have hB:=((Below.refl w.heap.size w).alloc (Nat.le_refl _) (Obj.cells #[.int .i64 S,v1,v2] 25)).alloc (by rw[e1];omega) (Obj.cells #[.int .i64 k,.string f,.string t,.int .i64 v] 96)
 generalize w.alloc (Obj.cells #[.int .i64 S,v1,v2] 25)=X at e1 hn hB
 have hr:=wibox_new X k f t v 96;rw[e1] at hr;exact⟨hB,hn,hr⟩
theorem CBox.later {w W W':World}{S:Int}{v1 v2:Value}{k:Int}{f t:ByteArray}{v:Int}(h:CBox w W S v1 v2 k f t v)(hb:Below W.heap.size W W'):CBox w W' S v1 v2 k f t v:=
 ⟨h.below.trans (hb.mono h.below.size),h.b.later hb,h.x.later hb⟩
theorem checkOne_any (S:Int)(ao:Option Addr)(n cap:Nat)(ao2:Option Addr)(n2 cap2:Nat)(Hs:List (ByteArray×(Int×Int)))(k:Int)(f t:ByteArray)(v:Int)(w:World)(hH:GS hstE w (.slice ao2 n2 cap2) Hs):
 Calls Tryz.prog 62 #[.agg #[.int .i64 S,.slice ao n cap,.slice ao2 n2 cap2],.agg #[.int .i64 k,.string f,.string t,.int .i64 v]] w fun e w'=>e=.returned (noV (woN S Hs ⟨k,f,t,v⟩))∧Below w.heap.size w w':=by
 have hX:=cbox_new w S (.slice ao n cap) (.slice ao2 n2 cap2) k f t v;obtain⟨w0,hw0⟩:∃W,(w.alloc (Obj.cells #[.int .i64 S,.slice ao n cap,.slice ao2 n2 cap2] 25)).alloc (Obj.cells #[.int .i64 k,.string f,.string t,.int .i64 v] 96)=W:=⟨_,rfl⟩;rw[hw0] at hX;have HX:Hid (CBox w w0 S (.slice ao n cap) (.slice ao2 n2 cap2) k f t v):=hX;have HW0:Hid ((w.alloc (Obj.cells #[.int .i64 S,.slice ao n cap,.slice ao2 n2 cap2] 25)).alloc (Obj.cells #[.int .i64 k,.string f,.string t,.int .i64 v] 96)=w0):=hw0;have HH:Hid (∀W,Below w.heap.size w W→GS hstE W (.slice ao2 n2 cap2) Hs):=fun W hb=>hH.later hb
 obtain⟨R,hR⟩:∃R,R=woN S Hs ⟨k,f,t,v⟩:=⟨_,rfl⟩;rw[←hR];obtain⟨Q,hQ⟩:∃q,q=(!wkB k || (!viB ⟨k,f,t,v⟩ S || veB ⟨k,f,t,v⟩)):=⟨_,rfl⟩;have HR:Hid (R=if Q then 1 else if k=4 then (if nlB ⟨k,f,t,v⟩ then 0 else 3) else if hoB Hs f&&hoB Hs t then 0 else 5):=by
  show _=_;rw[hR,hQ];rfl
 have HQ:Hid ((!wkB k || (!viB ⟨k,f,t,v⟩ S || veB ⟨k,f,t,v⟩))=Q):=hQ.symm;clear hX hw0 hH hR hQ;go_enter Tryz.func62,Tryz.ntmps62;go_upto_region 1 with fail;rw[HW0.out];obtain⟨_,⟨b0,b1,b2⟩,x0,x1,x2,x3⟩:=HX.out;clear HW0
 go_cut [25] from 5 to 26 (fun c w'=>c=.bool Q∧Below w0.heap.size w0 w')
 case first =>
  go_wp2_with fail
  refine (isWhat_any k _).mono ?_;rintro e w1 ⟨rfl,hb1⟩;obtain⟨WK,hWK⟩:∃q,q=wkB k:=⟨_,rfl⟩;have HQ1:Hid ((!WK || (!viB ⟨k,f,t,v⟩ S || veB ⟨k,f,t,v⟩))=Q):=by
   show _=_;rw[hWK];exact HQ.out
  rw[←hWK];have HB1:Hid (Below w0.heap.size w0 w1):=hb1;have HX1:Hid (CBox w w1 S (.slice ao n cap) (.slice ao2 n2 cap2) k f t v):=HX.out.later hb1;clear hWK hb1 HQ b0 b1 b2 x0 x1 x2 x3;obtain⟨_,⟨b0,b1,b2⟩,x0,x1,x2,x3⟩:=HX1.out;cases WK with
  | false =>
    have hq:=HQ1.out;simp only[Bool.not_false,Bool.true_or] at hq;subst hq
    go_wp2_with fail
    go_meet
    exact⟨rfl,HB1.out⟩
  | true =>
    go_wp2_with fail
    refine (isVia_any k f t v S _).mono ?_;rintro e w2 ⟨rfl,hb2⟩;obtain⟨VI,hVI⟩:∃q,q=viB ⟨k,f,t,v⟩ S:=⟨_,rfl⟩;have HQ2:Hid ((!VI || veB ⟨k,f,t,v⟩)=Q):=by
     show _=_;rw[hVI];have:=HQ1.out;simpa using this
    rw[←hVI];have HB2:Hid (Below w0.heap.size w0 w2):=HB1.out.trans (hb2.mono HB1.out.size);have HX2:Hid (CBox w w2 S (.slice ao n cap) (.slice ao2 n2 cap2) k f t v):=HX1.out.later hb2;clear hVI hb2 HQ1 b0 b1 b2 x0 x1 x2 x3;obtain⟨_,⟨b0,b1,b2⟩,x0,x1,x2,x3⟩:=HX2.out;cases VI with
    | false =>
      have hq:=HQ2.out;simp only[Bool.not_false,Bool.true_or] at hq;subst hq
      go_wp2_with fail
      go_meet
      exact⟨rfl,HB2.out⟩
    | true =>
      by_cases k3:k=3
      ·subst k3;have hq:false=Q:=HQ2.out;subst hq
       go_wp2_with fail
       go_meet
       exact⟨rfl,HB2.out⟩
      have hq:(k != 3&&v != 0)=Q:=HQ2.out;subst hq
      go_wp2_with fail
      go_meet
      exact⟨rfl,HB2.out⟩
 case rest =>
 obtain⟨rfl,hbc⟩:=hcut;have HXc:Hid (CBox w wc S (.slice ao n cap) (.slice ao2 n2 cap2) k f t v):=HX.out.later hbc;clear hbc HX b0 b1 b2 x0 x1 x2 x3;obtain⟨hBc,⟨b0,b1,b2⟩,x0,x1,x2,x3⟩:=HXc.out;have HBc:Hid (Below w.heap.size w wc):=hBc;clear hBc;cases Q with
 | true =>
   have HR1:Hid (R=1):=by
    show _=_;rw[HR.out,if_pos rfl]
   go_wp2;go_ret;exact⟨by rw[HR1.out];rfl,HBc.out⟩
 | false =>
   by_cases k4:k=4
   ·subst k4;obtain⟨NL,hNL⟩:∃q,q=nlB ⟨4,f,t,v⟩:=⟨_,rfl⟩;have HR1:Hid (R=if NL then 0 else 3):=by
     show _=_;rw[HR.out,if_neg (by decide),if_pos rfl,hNL]
    have HNL:Hid (nlB ⟨4,f,t,v⟩=NL):=hNL.symm;clear hNL HR
    go_wp2_with fail
    refine (isNameless_any 4 f t v _).mono ?_;rintro e w2 ⟨rfl,hb2⟩;rw[HNL.out];have HB2:Hid (Below w.heap.size w w2):=HBc.out.trans (hb2.mono HBc.out.size);clear hb2;cases NL with
    | false =>
      go_wp2;go_ret;exact⟨by rw[HR1.out];rfl,HB2.out⟩
    | true =>
      go_wp2;go_ret;exact⟨by rw[HR1.out];rfl,HB2.out⟩
   obtain⟨HF,hHF⟩:∃q,q=hoB Hs f:=⟨_,rfl⟩;obtain⟨HT,hHT⟩:∃q,q=hoB Hs t:=⟨_,rfl⟩;have HR1:Hid (R=if HF&&HT then 0 else 5):=by
    show _=_;rw[HR.out,if_neg (by decide),if_neg k4,hHF,hHT]
   have HHF:Hid (hoB Hs f=HF):=hHF.symm;have HHT:Hid (hoB Hs t=HT):=hHT.symm;clear hHF hHT HR
   go_wp2_with fail
   refine (isHost_any S (.slice ao n cap) ao2 n2 cap2 Hs f _ rfl (HH.out _ HBc.out)).mono ?_;rintro e w2 ⟨rfl,hb2⟩;rw[HHF.out];have HX2:Hid (CBox w w2 S (.slice ao n cap) (.slice ao2 n2 cap2) k f t v):=HXc.out.later hb2;clear hb2 HHF HBc b0 b1 b2 x0 x1 x2 x3;obtain⟨hB2,⟨b0,b1,b2⟩,x0,x1,x2,x3⟩:=HX2.out;have HB2:Hid (Below w.heap.size w w2):=hB2;clear hB2;cases HF with
   | false =>
     go_wp2;go_ret;exact⟨by rw[HR1.out];rfl,HB2.out⟩
   | true =>
     go_wp2_with fail
     refine (isHost_any S (.slice ao n cap) ao2 n2 cap2 Hs t _ rfl (HH.out _ HB2.out)).mono ?_;rintro e w3 ⟨rfl,hb3⟩;rw[HHT.out];have HB3:Hid (Below w.heap.size w w3):=HB2.out.trans (hb3.mono HB2.out.size);clear hb3;cases HT with
     | false =>
       go_wp2;go_ret;exact⟨by rw[HR1.out];rfl,HB3.out⟩
     | true =>
       go_wp2;go_ret;exact⟨by rw[HR1.out];rfl,HB3.out⟩
theorem wcheck_any (S:Int)(ao:Option Addr)(n cap:Nat)(ao2:Option Addr)(n2 cap2:Nat)(a4:Option Addr)(n4 c4:Nat)(Ls:List ((Int×Int)×(Int×Int)))(Hs:List (ByteArray×(Int×Int)))(l:List Wi)(w:World)
 (hL:GS lnkE w (.slice ao n cap) Ls) (hH:GS hstE w (.slice ao2 n2 cap2) Hs) (hl:GS wisE w (.slice a4 n4 c4) l):
 Calls Tryz.prog 34 #[.agg #[.int .i64 S,.slice ao n cap,.slice ao2 n2 cap2],.slice a4 n4 c4] w fun e w'=>e=.returned (noV (wsN S Ls Hs l))∧Below w.heap.size w w':=by
 have hX:=tbox_new w S (.slice ao n cap) (.slice ao2 n2 cap2) 25;have hB0:Below w.heap.size w (w.alloc (Obj.cells #[.int .i64 S,.slice ao n cap,.slice ao2 n2 cap2] 25)):=(Below.refl _ _).alloc (Nat.le_refl _) _;obtain⟨w0,hw0⟩:∃W,w.alloc (Obj.cells #[.int .i64 S,.slice ao n cap,.slice ao2 n2 cap2] 25)=W:=⟨_,rfl⟩;rw[hw0] at hX hB0;have HX:Hid (TBox w0 w.heap.size S (.slice ao n cap) (.slice ao2 n2 cap2)):=hX;have HW0:Hid (w.alloc (Obj.cells #[.int .i64 S,.slice ao n cap,.slice ao2 n2 cap2] 25)=w0):=hw0;have HB0:Hid (Below w.heap.size w w0):=hB0;have HLW:Hid (∀W,Below w.heap.size w W→GS lnkE W (.slice ao n cap) Ls):=fun W hb=>hL.later hb
 have HHW:Hid (∀W,Below w.heap.size w W→GS hstE W (.slice ao2 n2 cap2) Hs):=fun W hb=>hH.later hb
 obtain⟨_,_,_,e5,hGn,hGm,_,hGa⟩:=hl.form;cases e5;have HGN:Hid (l.length=n4):=hGn;have HGA:Hid (0<n4→∃g o,a4=some ⟨g,o,none⟩∧GAt wisE w g o l∧c4≤maxLen):=hGa;obtain⟨R,hR⟩:∃R,R=wsN S Ls Hs l:=⟨_,rfl⟩;have HR:Hid (R=wsN S Ls Hs l):=hR;rw[←hR];have hn4:n4≤maxLen:=hGm;unfold maxLen at hn4;clear hX hB0 hw0 hL hH hl hGn hGm hGa hR;go_enter Tryz.func34,Tryz.ntmps34;go_upto_region 1 with fail;rw[HW0.out];obtain⟨b0,b1,b2⟩:=HX.out;clear HW0
 go_wp2_with fail
 refine (check_any S ao n cap ao2 n2 cap2 Ls Hs _ (HLW.out _ HB0.out) (HHW.out _ HB0.out)).mono ?_;rintro e w1 ⟨rfl,hb1⟩;obtain⟨T,hT⟩:∃T,T=tpN S Ls Hs:=⟨_,rfl⟩;have HT:Hid (T=tpN S Ls Hs):=hT;rw[←hT];have HB1:Hid (Below w.heap.size w w1):=HB0.out.trans (hb1.mono HB0.out.size);have HX1:Hid (TBox w1 w.heap.size S (.slice ao n cap) (.slice ao2 n2 cap2)):=HX.out.later hb1;clear hT hb1 b0 b1 b2 HX;by_cases h0:T=0
 ·have HR1:Hid (R=if 8<l.length then 4 else wsTo S Hs l l.length):=by
   show _=_;rw[HR.out,wsN,if_pos (HT.out.symm.trans h0)]
  subst h0;rw[no_ok rfl];by_cases h8:8<n4
  ·have HR2:Hid (R=4):=by
    show _=_;rw[HR1.out,if_pos (by rw[HGN.out];exact h8)]
   have h8':(8:Int)<(n4:Int):=by omega
   go_wp2;go_ret;exact⟨by rw[HR2.out];rfl,HB1.out⟩
  have HR2:Hid (R=wsTo S Hs l n4):=by
   show _=_;rw[HR1.out,if_neg (by rw[HGN.out];exact h8),HGN.out]
  have h8':¬(8:Int)<(n4:Int):=by omega
  clear HR HR1;go_wp2
  go_loopw [20] (fun i wr=>∃j:Nat,j≤n4∧i=.int .i64 j∧wsTo S Hs l j=0∧Below w1.heap.size w1 wr) (fun i _=>n4-(intOf i).toNat)
  case atStart=>exact⟨0,by omega,rfl,rfl,Below.refl _ _⟩
  case round =>
   obtain⟨j,hj,rfl,hno,hB⟩:=hrel;have HB:Hid (Below w1.heap.size w1 wr):=hB;have HBw:Hid (Below w.heap.size w wr):=HB1.out.trans (hB.mono HB1.out.size);have HNO:Hid (wsTo S Hs l j=0):=hno;have HXr:Hid (TBox wr w.heap.size S (.slice ao n cap) (.slice ao2 n2 cap2)):=HX1.out.later hB;clear hno hB;by_cases hlt:j<n4
   ·obtain⟨g,o,hao,hc,_⟩:=HGA.out (by omega);subst hao;obtain⟨y0,y1,y2,y3,hkl,hLk,q0,q1,q2,q3⟩:=wis_at (hc.later HBw.out) HGN.out hlt;obtain⟨N,hN⟩:∃q,q=woN S Hs ⟨y0,y1,y2,y3⟩:=⟨_,rfl⟩;have HN:Hid (woN S Hs ⟨y0,y1,y2,y3⟩=N):=hN.symm;have HST:Hid (wsTo S Hs l (j+1)=N):=by
     show _=_;rw[wsTo,if_pos HNO.out,getW hkl,hLk,←hN]
    have hba:Below wr.heap.size wr (wr.alloc (Obj.cells #[.int .i64 y0,Value.string y1,Value.string y2,.int .i64 y3] 96)):=(Below.refl _ _).alloc (Nat.le_refl _) _;have HBA:Hid (Below wr.heap.size wr (wr.alloc (Obj.cells #[.int .i64 y0,Value.string y1,Value.string y2,.int .i64 y3] 96))):=hba;obtain⟨b0,b1,b2⟩:=HXr.out;have hlw:w.heap.size<wr.heap.size:=World.block_lt_of_cell? _ _ b0;clear hc hLk hN hba
    go_wp2_with fail
    refine (checkOne_any S ao n cap ao2 n2 cap2 Hs y0 y1 y2 y3 _ (HHW.out _ (HBw.out.trans (HBA.out.mono HBw.out.size)))).mono ?_;rintro e w3 ⟨rfl,hb3⟩;rw[HN.out];have HB3:Hid (Below w1.heap.size w1 w3):=(HB.out.trans (HBA.out.mono HB.out.size)).trans (hb3.mono (HB.out.trans (HBA.out.mono HB.out.size)).size);clear hb3 HBA b0 b1 b2 q0 q1 q2 q3 hlw HXr HB;by_cases hN0:N=0
    ·subst hN0;rw[no_ok rfl];go_wp2;go_roundw
     case rel=>exact⟨j+1,by omega,by go_num,HST.out,HB3.out⟩
     case measure=>simp[intOf];omega
    rw[no_ne hN0];have HR3:Hid (R=N):=by
     show _=_;rw[HR2.out,ws_le (k:=j+1) (by rw[HST.out];exact hN0) (by omega),HST.out]
    have HNN:Hid (N≠0):=hN0;clear hN0;go_wp2;go_ret;exact⟨by rw[HR3.out,no_ne HNN.out];rfl,HB1.out.trans (HB3.out.mono HB1.out.size)⟩
   obtain rfl:j=n4:=by omega
   have HR3:Hid (R=0):=by
    show _=_;rw[HR2.out,HNO.out]
   go_wp2;go_ret;exact⟨by rw[HR3.out,no_ok rfl];rfl,HBw.out⟩
 rw[no_ne h0];have HR1:Hid (R=T):=by
  show _=_;rw[HR.out,wsN,if_neg (by rw[←HT.out];exact h0),HT.out]
 have HNN:Hid (T≠0):=h0;clear h0;go_wp2;go_ret;exact⟨by rw[HR1.out,no_ne HNN.out];rfl,HB1.out⟩
end
section
open Go.RowKit Go.Shelf
theorem nm_sml {a:ByteArray}(h:nmB a=true):a.size≤6:=by
 simp only[nmB,Bool.and_eq_true,decide_eq_true_eq] at h;exact h.2.1
def SfR (S:Int)(Ls:List ((Int×Int)×(Int×Int)))(Hs:List (ByteArray×(Int×Int)))(Ts:List (List Ru))(o:List Op8)(l:List Wi)(N:Int)(p:Int×ByteArray×Int):Prop:=
 (cgN S Ls Hs Ts o≠0∧N=cgN S Ls Hs Ts o∧p=(0,ByteArray.empty,0))∨(cgN S Ls Hs Ts o=0∧wsN S Ls Hs l≠0∧N=wsN S Ls Hs l∧p=(0,ByteArray.empty,0)) ∨
 (cgN S Ls Hs Ts o=0∧wsN S Ls Hs l=0∧∃held,Fb l Hs (fun z h=>pwS Ls Hs Ts (caT Ts o) (Hs.getD z zeO).2 (h:Int)) Hs.length 0 held p∧N=if held<l.length then 9 else 0)
theorem safe1_any (m:ByteArray)(x y h:Int)(g:Nat)(p7:Option Addr)(j7 e7:Nat)(p8:Option Addr)(j8 e8 n3:Nat)(Ls:List ((Int×Int)×(Int×Int)))(Hs:List (ByteArray×(Int×Int)))(As Bs:List (List Ru))(w:World)
 (c0:w.cell? ⟨g,0,none⟩=some (.slice p7 j7 e7)) (c1:w.cell? ⟨g,1,none⟩=some (.slice p8 j8 e8)) (ho:LGs w 0 (.slice p7 j7 e7) (lgF Ls Hs As) n3) (hy:LGs w 0 (.slice p8 j8 e8) (lgF Ls Hs Bs) n3) (hm:n3≤6) (ht:tpN (n3:Int) Ls Hs=0) (hsp:spB (n3:Int) (x,y)=true) (hhd:hdrB h=true):
 Calls Tryz.prog 36 #[.agg #[.string m,.int .i64 x,.int .i64 y],.int .i64 h,.pointer (some ⟨g,0,none⟩)] w fun e w'=>∃gi lb,e=.returned (.func (Fn.func gi) #[] lb)∧(∀args w,(callFunc gi args).run Tryz.prog w=.ok (.enter gi args) w)∧ItF Tryz.prog gi lb FtV w'.heap.size (pwS Ls Hs As Bs (x,y) h) w'∧Below w.heap.size w w':=by
 have hb0:Below w.heap.size w (w.alloc (Obj.cells #[.string m,.int .i64 x,.int .i64 y] 41)):=(Below.refl _ _).alloc (Nat.le_refl _) _;have HIT:=fates_it (.slice p7 j7 e7) (.slice p8 j8 e8) n3 Ls Hs As Bs x y h (w.alloc (Obj.cells #[.string m,.int .i64 x,.int .i64 y] 41)) hm ht (ho.later hb0) (hy.later hb0) hsp hhd;have HB0:Hid (Below w.heap.size w (w.alloc (Obj.cells #[.string m,.int .i64 x,.int .i64 y] 41))):=hb0;have hg:g<w.heap.size:=World.block_lt_of_cell? _ _ c0;have ng:g≠w.heap.size:=by omega
 clear ho hy hb0;go_enter Tryz.func36,Tryz.ntmps36
 go_wp2_with fail
 refine HIT.mono ?_;rintro e w1 ⟨gi,lb,rfl,h1,h2,h3⟩;go_wp2;go_ret;exact⟨gi,lb,rfl,h1,h2,HB0.out.trans (h3.mono HB0.out.size)⟩
structure HmBox (w W:World)(S:Int)(v1 v2 v3:Value):Prop where
 below:Below w.heap.size w W
 n:NeBox W w.heap.size S v1 v2 v3
 p:PrBox w W (w.heap.size+1) 0 ⟨#[]⟩ 0
theorem hmbox_new (w:World)(S:Int)(v1 v2 v3:Value):HmBox w ((w.alloc (Obj.cells #[.int .i64 S,v1,v2,v3] 28)).alloc (Obj.cells #[.int .i64 0,.string ⟨#[]⟩,.int .i64 0] 50)) S v1 v2 v3:=by
 have e1:(w.alloc (Obj.cells #[.int .i64 S,v1,v2,v3] 28)).heap.size=w.heap.size+1:=by simp
 have hb:∀(W:World) (o:Obj),Below W.heap.size W (W.alloc o):=fun W o=>(Below.refl _ _).alloc (Nat.le_refl _) _
 have hn:=(nebox_new w S v1 v2 v3 28).later (hb _ (Obj.cells #[.int .i64 0,.string ⟨#[]⟩,.int .i64 0] 50));have hB:=((Below.refl w.heap.size w).alloc (Nat.le_refl _) (Obj.cells #[.int .i64 S,v1,v2,v3] 28)).alloc (by rw[e1];omega) (Obj.cells #[.int .i64 0,.string ⟨#[]⟩,.int .i64 0] 50)
 generalize w.alloc (Obj.cells #[.int .i64 S,v1,v2,v3] 28)=X at e1 hn hB
 have hr:=prbox_new X w 0 ⟨#[]⟩ 0;rw[e1] at hr;exact⟨hB,hn,hr⟩
theorem HmBox.later {w W W':World}{S:Int}{v1 v2 v3:Value}(k:HmBox w W S v1 v2 v3)(hb:Below W.heap.size W W'):HmBox w W' S v1 v2 v3:=
 ⟨k.below.trans (hb.mono k.below.size),k.n.later hb,k.p.later hb⟩
theorem safe_any (S:Int)(ao:Option Addr)(n cap:Nat)(ao2:Option Addr)(n2 cap2:Nat)(ao3:Option Addr)(n3 cap3:Nat)(a5:Option Addr)(n5 c5:Nat)(a4:Option Addr)(n4 c4:Nat)(Ls:List ((Int×Int)×(Int×Int)))(Hs:List (ByteArray×(Int×Int)))(Ts:List (List Ru))(o:List Op8)(l:List Wi)(w:World)
 (hL:GS lnkE w (.slice ao n cap) Ls) (hH:GS hstE w (.slice ao2 n2 cap2) Hs) (hT:TS w (.slice ao3 n3 cap3) Ts) (ho:GS opE w (.slice a5 n5 c5) o) (hl:GS wisE w (.slice a4 n4 c4) l):
 Calls Tryz.prog 14 #[.agg #[.int .i64 S,.slice ao n cap,.slice ao2 n2 cap2,.slice ao3 n3 cap3],.slice a5 n5 c5,.slice a4 n4 c4] w fun e w'=>∃N p,e=.returned (.tuple #[.agg #[.int .i64 p.1,.string p.2.1,.int .i64 p.2.2],noV N])∧SfR S Ls Hs Ts o l N p∧Below w.heap.size w w':=by
 have HLW:Hid (∀W,Below w.heap.size w W→GS lnkE W (.slice ao n cap) Ls):=fun W hb=>hL.later hb
 have HHW:Hid (∀W,Below w.heap.size w W→GS hstE W (.slice ao2 n2 cap2) Hs):=fun W hb=>hH.later hb
 have HTW:Hid (∀W,Below w.heap.size w W→TS W (.slice ao3 n3 cap3) Ts):=fun W hb=>hT.later hb
 have HoW:Hid (∀W,Below w.heap.size w W→GS opE W (.slice a5 n5 c5) o):=fun W hb=>ho.later hb
 have HlW:Hid (∀W,Below w.heap.size w W→GS wisE W (.slice a4 n4 c4) l):=fun W hb=>hl.later hb
 have HTN:Hid (Ts.length=n3):=hT.len;have hX:=hmbox_new w S (.slice ao n cap) (.slice ao2 n2 cap2) (.slice ao3 n3 cap3);obtain⟨w0,hw0⟩:∃W,(w.alloc (Obj.cells #[.int .i64 S,.slice ao n cap,.slice ao2 n2 cap2,.slice ao3 n3 cap3] 28)).alloc (Obj.cells #[.int .i64 0,.string ⟨#[]⟩,.int .i64 0] 50)=W:=⟨_,rfl⟩;rw[hw0] at hX;have HX:Hid (HmBox w w0 S (.slice ao n cap) (.slice ao2 n2 cap2) (.slice ao3 n3 cap3)):=hX;have HW0:Hid ((w.alloc (Obj.cells #[.int .i64 S,.slice ao n cap,.slice ao2 n2 cap2,.slice ao3 n3 cap3] 28)).alloc (Obj.cells #[.int .i64 0,.string ⟨#[]⟩,.int .i64 0] 50)=w0):=hw0;clear hL hH hT hl ho hX hw0;go_enter Tryz.func14,Tryz.ntmps14;go_upto_region 1 with fail;rw[HW0.out];obtain⟨_,⟨b0,b1,b2,b3⟩,_⟩:=HX.out;clear HW0
 go_wp2_with fail
 refine (during_any S ao n cap ao2 n2 cap2 ao3 n3 cap3 a5 n5 c5 Ls Hs Ts o w0 (HLW.out _ HX.out.below) (HHW.out _ HX.out.below) (HTW.out _ HX.out.below) (HoW.out _ HX.out.below)).mono ?_;rintro e w1 ⟨p7,j7,e7,p8,j8,e8,rfl,hDu,hb1⟩;obtain⟨T,hT⟩:∃T,T=cgN S Ls Hs Ts o:=⟨_,rfl⟩;have HT:Hid (T=cgN S Ls Hs Ts o):=hT;rw[←hT] at hDu ⊢;have hX1:=HX.out.later hb1;have hal1:Below w1.heap.size w1 (w1.alloc (Obj.cells #[.slice p7 j7 e7,.slice p8 j8 e8] 80)):=(Below.refl _ _).alloc (Nat.le_refl _) _;have hvc:=vat_new w1 [.slice p7 j7 e7,.slice p8 j8 e8] 80
 change VAt (w1.alloc (Obj.cells #[.slice p7 j7 e7,.slice p8 j8 e8] 80)) _ _ _ at hvc
 have hX2:=hX1.later hal1;obtain⟨w2,hw2⟩:∃W,w1.alloc (Obj.cells #[.slice p7 j7 e7,.slice p8 j8 e8] 80)=W:=⟨_,rfl⟩;obtain⟨bc,hbc⟩:∃bc,w1.heap.size=bc:=⟨_,rfl⟩;rw[hw2] at hal1 hvc hX2;rw[hbc] at hvc;have HX2:Hid (HmBox w w2 S (.slice ao n cap) (.slice ao2 n2 cap2) (.slice ao3 n3 cap3)):=hX2;have HVC:Hid (VAt w2 bc 0 [.slice p7 j7 e7,.slice p8 j8 e8]):=hvc;have HDU:Hid (T=0→LGs w2 0 (.slice p7 j7 e7) (lgF Ls Hs Ts) n3∧LGs w2 0 (.slice p8 j8 e8) (lgF Ls Hs (caT Ts o)) n3):=fun e=>⟨(hDu e).1.later hal1,(hDu e).2.later hal1⟩
 have HW2:Hid (w1.alloc (Obj.cells #[.slice p7 j7 e7,.slice p8 j8 e8] 80)=w2):=hw2;have HBC:Hid (w1.heap.size=bc):=hbc;clear hT hb1 HX b0 b1 b2 b3 hX1 hal1 hvc hX2 hw2 hbc hDu;go_upto_region 2 with fail;rw[HW2.out,HBC.out];clear HW2 HBC;by_cases h0:T=0
 ·have HN0:Hid (cgN S Ls Hs Ts o=0):=HT.out.symm.trans h0;have HDU0:Hid (LGs w2 0 (.slice p7 j7 e7) (lgF Ls Hs Ts) n3∧LGs w2 0 (.slice p8 j8 e8) (lgF Ls Hs (caT Ts o)) n3):=HDU.out h0;subst h0;clear HDU;rw[no_ok rfl];obtain⟨_,⟨b0,b1,b2,b3⟩,_⟩:=HX2.out
  go_wp2_with fail
  refine (wcheck_any S ao n cap ao2 n2 cap2 a4 n4 c4 Ls Hs l _ (HLW.out _ HX2.out.below) (HHW.out _ HX2.out.below) (HlW.out _ HX2.out.below)).mono ?_;rintro e w3 ⟨rfl,hb3⟩;obtain⟨U,hU⟩:∃U,U=wsN S Ls Hs l:=⟨_,rfl⟩;have HU:Hid (U=wsN S Ls Hs l):=hU;rw[←hU];have HX3:Hid (HmBox w w3 S (.slice ao n cap) (.slice ao2 n2 cap2) (.slice ao3 n3 cap3)):=HX2.out.later hb3;have HVC3:Hid (VAt w3 bc 0 [.slice p7 j7 e7,.slice p8 j8 e8]):=HVC.out.later hb3;have HD3:Hid (LGs w3 0 (.slice p7 j7 e7) (lgF Ls Hs Ts) n3∧LGs w3 0 (.slice p8 j8 e8) (lgF Ls Hs (caT Ts o)) n3):=⟨HDU0.out.1.later hb3,HDU0.out.2.later hb3⟩;clear hU hb3 HX2 b0 b1 b2 b3 HVC HDU0;by_cases h5:U=0
  ·have HU0:Hid (wsN S Ls Hs l=0):=HU.out.symm.trans h5;subst h5;rw[no_ok rfl];obtain⟨_,⟨b0,b1,b2,b3⟩,_⟩:=HX3.out;obtain⟨ht,hS,_,_⟩:=cg_ok HN0.out;obtain rfl:S=(n3:Int):=by rw[←hS,HTN.out]
   have hm6:n3≤6:=by have:=(tp_0 ht).1;omega
   have hHG:=(tp_0 ht).2.2.2.2.1;have HFC:Hid (FcAsks w3 bc Hs (fun z h=>pwS Ls Hs Ts (caT Ts o) (Hs.getD z zeO).2 (h:Int))):=by
    intro z hz h h16 W hW;have e:Hs.getD z zeO=Hs[z]:=getO hz
    dsimp only
    rw[e];have hv:=HVC3.out.later hW;exact safe1_any Hs[z].1 Hs[z].2.1 Hs[z].2.2 h bc p7 j7 e7 p8 j8 e8 n3 Ls Hs Ts (caT Ts o) W (hv 0 _ rfl) (hv 1 _ rfl) (HD3.out.1.later hW) (HD3.out.2.later hW) hm6 ht (hHG _ (List.getElem_mem hz)).2 (by unfold hdrB;simp;omega)
   have HNM:Hid (∀h∈Hs,h.1.size≤1000000):=fun h hh=>by
    have:=nm_sml (hHG h hh).1;omega
   clear ht hS hm6 hHG
   go_wp2_with fail
   refine (fbrk_any bc ao2 n2 cap2 a4 n4 c4 Hs _ l _ (HHW.out _ HX3.out.below) (HlW.out _ HX3.out.below) HNM.out HFC.out).mono ?_;rintro e w4 ⟨held,V,rfl,hF,hb4⟩;have HF:Hid (Fb l Hs (fun z h=>pwS Ls Hs Ts (caT Ts o) (Hs.getD z zeO).2 (h:Int)) Hs.length 0 held V):=hF;have HX4:Hid (HmBox w w4 (n3:Int) (.slice ao n cap) (.slice ao2 n2 cap2) (.slice ao3 n3 cap3)):=HX3.out.later hb4;obtain⟨V1,V2,V3⟩:=V
   dsimp only
   have hal:Below w4.heap.size w4 (w4.alloc (Obj.cells #[.int .i64 V1,.string V2,.int .i64 V3] 50)):=(Below.refl _ _).alloc (Nat.le_refl _) _;have hpr:=prbox_new w4 w V1 V2 V3;have hX5:=HX4.out.later hal;obtain⟨w5,hw5⟩:∃W,w4.alloc (Obj.cells #[.int .i64 V1,.string V2,.int .i64 V3] 50)=W:=⟨_,rfl⟩;obtain⟨gp,hgp⟩:∃q,q=w4.heap.size:=⟨_,rfl⟩;rw[hw5] at hal hpr hX5;rw[←hgp] at hpr;have HW5:Hid (w4.alloc (Obj.cells #[.int .i64 V1,.string V2,.int .i64 V3] 50)=w5):=hw5;have HGP:Hid (w4.heap.size=gp):=hgp.symm;have HLP:Hid (w.heap.size+1<gp):=by
    show _<_;rw[hgp];have h1:=World.block_lt_of_cell? _ _ HX4.out.p.c0;simpa using h1
   have HPR:Hid (PrBox w w5 gp V1 V2 V3):=hpr;have HX5:Hid (HmBox w w5 (n3:Int) (.slice ao n cap) (.slice ao2 n2 cap2) (.slice ao3 n3 cap3)):=hX5;clear hb4 hal hpr hX5 hw5 hgp b0 b1 b2 b3 HX3 hF HFC HD3 HVC3;obtain⟨B,hB⟩:∃B,B=decide (held<l.length):=⟨_,rfl⟩;have HBO:Hid (decide (held<l.length)=B):=hB.symm;rw[←hB];clear hB;go_upto_region 8 with fail;rw[HW5.out,HGP.out];clear HW5 HGP;obtain⟨hB4,_,⟨r0,r1,r2,rf⟩⟩:=HX5.out;have f0:=rf 0;have f1:=rf 1;have f2:=rf 2;have HB4:Hid (Below w.heap.size w w5):=hB4;obtain⟨q0,q1,q2,_⟩:=HPR.out;clear hB4 rf;cases B with
   | true =>
     have hlt:held<l.length:=of_decide_eq_true HBO.out;have HSR:Hid (SfR (n3:Int) Ls Hs Ts o l 9 (V1,V2,V3)):=.inr (.inr ⟨HN0.out,HU0.out,held,HF.out,by rw[if_pos hlt]⟩);clear hlt;go_wp2;refine bodyPost_ret (v:=.tuple #[.agg #[.int .i64 V1,.string V2,.int .i64 V3],.iface 85 (.int .i64 9)]) (by simp[results,Tryz.results14,go_sem, *]) rfl ⟨9,(V1,V2,V3),rfl,HSR.out,below_put3 HB4.out _ (by omega) _ _ _⟩
   | false =>
     have hlt:¬held<l.length:=of_decide_eq_false HBO.out;have hz:(V1,V2,V3)=((0:Int),ByteArray.empty,(0:Int)):=HF.out.no (by have:=HF.out.le;omega);have HSR:Hid (SfR (n3:Int) Ls Hs Ts o l 0 (0,ByteArray.empty,0)):=.inr (.inr ⟨HN0.out,HU0.out,held,by rw[←hz];exact HF.out,by rw[if_neg hlt]⟩);clear hlt hz;go_wp2;refine bodyPost_ret (v:=.tuple #[.agg #[.int .i64 0,.string ⟨#[]⟩,.int .i64 0],.nilIface]) (by simp[results,Tryz.results14,go_sem, *]) rfl ⟨0,(0,ByteArray.empty,0),rfl,HSR.out,below_put3 HB4.out _ (by omega) _ _ _⟩
  rw[no_ne h5];have HSR:Hid (SfR S Ls Hs Ts o l U (0,ByteArray.empty,0)):=.inr (.inl ⟨HN0.out,by rw[←HU.out];exact h5,HU.out,rfl⟩);have HNE:Hid (U≠0):=h5;obtain⟨hB2,_,⟨r0,r1,r2,rf⟩⟩:=HX3.out;have f0:=rf 0;have f1:=rf 1;have f2:=rf 2;have HB2:Hid (Below w.heap.size w w3):=hB2;clear h5 hB2 rf;go_wp2;refine bodyPost_ret (v:=.tuple #[.agg #[.int .i64 0,.string ⟨#[]⟩,.int .i64 0],.iface 85 (.int .i64 U)]) (by simp[results,Tryz.results14,go_sem, *]) rfl ⟨U,(0,ByteArray.empty,0),by rw[no_ne HNE.out];rfl,HSR.out,below_put3 HB2.out _ (by omega) _ _ _⟩
 rw[no_ne h0];have HSR:Hid (SfR S Ls Hs Ts o l T (0,ByteArray.empty,0)):=.inl ⟨by rw[←HT.out];exact h0,HT.out,rfl⟩;have HNE:Hid (T≠0):=h0;obtain⟨hB2,_,⟨r0,r1,r2,rf⟩⟩:=HX2.out;have f0:=rf 0;have f1:=rf 1;have f2:=rf 2;have HB2:Hid (Below w.heap.size w w2):=hB2;clear h0 hB2 rf;go_wp2;refine bodyPost_ret (v:=.tuple #[.agg #[.int .i64 0,.string ⟨#[]⟩,.int .i64 0],.iface 85 (.int .i64 T)]) (by simp[results,Tryz.results14,go_sem, *]) rfl ⟨T,(0,ByteArray.empty,0),by rw[no_ne HNE.out];rfl,HSR.out,below_put3 HB2.out _ (by omega) _ _ _⟩
end
section
open Go.RowKit
section
variable {α:Type}{r:α→α→Bool}
theorem pu_in (hr:LO r){f:α}{l:List α}(hl:Ris r l)(hf:f∈l):puR r f l=l:=by
 refine ris_ext hr (pu_ris hr f hl) hl (fun x=>(pu_mem hr f).trans ⟨?_,fun h=>.inr h⟩);rintro (rfl | h)
 ·exact hf
 exact h
theorem pu_at (hr:LO r){f:α}{l:List α}(hl:Ris r l){k:Nat}(hk:k≤l.length)(h1:∀j x,k≤j→l[j]?=some x→r f x=true)(h2:∀j x,j<k→l[j]?=some x→r x f=true):puR r f l=l.take k++[f]++l.drop k:=by
 have hris:Ris r (l.take k++[f]++l.drop k):=by
  unfold Ris at hl ⊢;have hl2:=hl;rw[←List.take_append_drop k l,List.pairwise_append] at hl2;obtain⟨a1,a2,a3⟩:=hl2;have t1:∀x∈l.take k,r x f=true:=fun x hx=>by
   obtain⟨j,hj,e⟩:=List.mem_take_iff_getElem.1 hx;exact h2 j x (by omega) (by rw[←e];exact List.getElem?_eq_getElem (by omega))
  have t2:∀x∈l.drop k,r f x=true:=fun x hx=>by
   obtain⟨j,hj,e⟩:=List.mem_drop_iff_getElem.1 hx;exact h1 (k+j) x (by omega) (by rw[←e];exact List.getElem?_eq_getElem (by omega))
  rw[List.append_assoc,List.pairwise_append];refine⟨a1,?_,?_⟩
  ·rw[List.singleton_append,List.pairwise_cons];exact⟨t2,a2⟩
  intro x hx y hy
  rcases List.mem_append.1 hy with hy | hy
  ·obtain rfl:y=f:=by simpa using hy
   exact t1 x hx
  exact a3 x hx y hy
 refine ris_ext hr (pu_ris hr f hl) hris (fun x=>(pu_mem hr f).trans ?_);rw[List.mem_append,List.mem_append,List.mem_singleton];constructor
 ·rintro (h | h)
  ·exact .inl (.inr h)
  rw[←List.take_append_drop k l,List.mem_append] at h;exact h.elim (fun h=>.inl (.inl h)) .inr
 rintro ((h | h) | h)
 ·exact .inr (List.mem_of_mem_take h)
 ·exact .inl h
 exact .inr (List.mem_of_mem_drop h)
theorem ris_lt (hr:LO r){l:List α}(hl:Ris r l){i j:Nat}{x y:α}(hij:i<j)(hx:l[i]?=some x)(hy:l[j]?=some y):r x y=true:=by
 unfold Ris at hl;rw[List.pairwise_iff_getElem] at hl;obtain⟨h1,rfl⟩:=List.getElem?_eq_some_iff.1 hx;obtain⟨h2,rfl⟩:=List.getElem?_eq_some_iff.1 hy;exact hl i j h1 h2 hij
end
end
end Go.Proofs.YtglnnoglbieaeaaGreatDoor
