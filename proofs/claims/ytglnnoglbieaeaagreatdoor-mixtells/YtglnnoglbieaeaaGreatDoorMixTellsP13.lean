/- Contracts and facts on the way to MixTells, joined into one text: RefSafe, RefRule, RefApply, RefName. -/
import Derived.Test.YtglnnoglbieaeaaGreatDoorMixTellsP12
namespace Go.Proofs.YtglnnoglbieaeaaGreatDoor
set_option linter.unusedSimpArgs false
set_option linter.unusedVariables false
set_option maxHeartbeats 16000000
set_option maxRecDepth 100000
section
open Go.RowKit
theorem hd_16 {h:Nat}(h3:h<16):hdrB (h:Int)=true:=by
 have:∀f:Fin 16,hdrB ((f:Nat):Int)=true:=by decide +kernel
 exact this ⟨h,h3⟩
structure SaBox (w W:World)(S:Int)(v1 v2 v3:Value)(S':Int)(u1 u2 u3:Value):Prop where
 below:Below w.heap.size w W
 n:NeBox W w.heap.size S v1 v2 v3
 b:NeBox W (w.heap.size+1) S' u1 u2 u3
 p:PrBox w W (w.heap.size+1+1) 0 ⟨#[]⟩ 0
theorem SaBox.later {w W W':World}{S:Int}{v1 v2 v3:Value}{S':Int}{u1 u2 u3:Value}(k:SaBox w W S v1 v2 v3 S' u1 u2 u3)(hb:Below W.heap.size W W'):SaBox w W' S v1 v2 v3 S' u1 u2 u3:=
 ⟨k.below.trans (hb.mono k.below.size),k.n.later hb,k.b.later hb,k.p.later hb⟩
theorem sabox_new (w:World)(S:Int)(v1 v2 v3:Value)(S':Int)(u1 u2 u3:Value):SaBox w (((w.alloc (Obj.cells #[.int .i64 S,v1,v2,v3] 28)).alloc (Obj.cells #[.int .i64 S',u1,u2,u3] 28)).alloc (Obj.cells #[.int .i64 0,.string ⟨#[]⟩,.int .i64 0] 50)) S v1 v2 v3 S' u1 u2 u3:=by
 have hb:∀(W:World) (o:Obj),Below W.heap.size W (W.alloc o):=fun W o=>(Below.refl _ _).alloc (Nat.le_refl _) _
 have h1:=nebox_new w S v1 v2 v3 28;have b1:=hb w (Obj.cells #[.int .i64 S,v1,v2,v3] 28);have e1:(w.alloc (Obj.cells #[.int .i64 S,v1,v2,v3] 28)).heap.size=w.heap.size+1:=by simp
 generalize w.alloc (Obj.cells #[.int .i64 S,v1,v2,v3] 28)=A at h1 b1 e1 ⊢
 have h2:=nebox_new A S' u1 u2 u3 28;have b2:=hb A (Obj.cells #[.int .i64 S',u1,u2,u3] 28);have e2:(A.alloc (Obj.cells #[.int .i64 S',u1,u2,u3] 28)).heap.size=w.heap.size+1+1:=by simp[e1]
 rw[e1] at h2
 generalize A.alloc (Obj.cells #[.int .i64 S',u1,u2,u3] 28)=C at h2 b2 e2 ⊢
 have h3:=prbox_new C w 0 ⟨#[]⟩ 0;have b3:=hb C (Obj.cells #[.int .i64 0,.string ⟨#[]⟩,.int .i64 0] 50);rw[e2] at h3;exact⟨(b1.trans (b2.mono (by omega))).trans (b3.mono (by omega)),(h1.later b2).later b3,h2.later b3,h3⟩
theorem any_no {α:Type}{L:List α}{p:α→Bool}(h:∀(k:Nat) (x:α),L[k]?=some x→p x=false):L.any p=false:=by
 rw[List.any_eq_false];intro x hx;obtain⟨k,hk⟩:=List.getElem?_of_mem hx;rw[h k x hk];simp
theorem any_yes {α:Type}{L:List α}{p:α→Bool}{k:Nat}{x:α}(h:L[k]?=some x)(hp:p x=true):L.any p=true:=List.any_eq_true.2 ⟨x,List.mem_of_getElem? h,hp⟩
theorem bsH_skip {Ls:List ((Int×Int)×(Int×Int))}{Hs:List (ByteArray×(Int×Int))}{As Bs:List (List Ru)}{w:Wi}{x:ByteArray×(Int×Int)}(h:abW w x.1=false):∀k:Nat,bsH Ls Hs As Bs w x k<0
 | 0=>by simp[bsH]
 | k+1=>bsH_no (bsH_skip h k) (bsB_off h _)
theorem by_same (a b:ByteArray):(a.toList==b.toList)=(a==b):=by
 rw[Bool.eq_iff_iff,beq_iff_eq,ba_iff];constructor
 ·intro h;exact nm_inj h
 rintro rfl;rfl
def W8 (w0:World)(g p:Nat)(y0:Int)(y1 y2:ByteArray)(y3:Int)(gh:Nat)(z0:ByteArray)(g7 p7:Nat)(x:Ft)(ah:Option Addr)(nh ch:Nat)(W:World):Prop:=
 Below w0.heap.size w0 W∧W.cell? ⟨g,p,none⟩=some (.int .i64 y0)∧W.cell? ⟨g,p+1,none⟩=some (.string y1)∧W.cell? ⟨g,p+2,none⟩=some (.string y2)∧W.cell? ⟨g,p+3,none⟩=some (.int .i64 y3)∧W.cell? ⟨gh,0,none⟩=some (.string z0)∧W.cell? ⟨g7,p7,none⟩=some (.int .i64 x.1)∧W.cell? ⟨g7,p7+1,none⟩=some (.string x.2.1)∧W.cell? ⟨g7,p7+2,none⟩=some (.slice ah nh ch)∧GS hopE W (.slice ah nh ch) x.2.2
theorem W8.later {w0:World}{g p:Nat}{y0:Int}{y1 y2:ByteArray}{y3:Int}{gh:Nat}{z0:ByteArray}{g7 p7:Nat}{x:Ft}{ah:Option Addr}{nh ch:Nat}{W W':World}(hb:Below W.heap.size W W')(h:W8 w0 g p y0 y1 y2 y3 gh z0 g7 p7 x ah nh ch W):W8 w0 g p y0 y1 y2 y3 gh z0 g7 p7 x ah nh ch W':=by
 obtain⟨h0,h1,h2,h3,h4,h5,h6,h7,h8,h9⟩:=h;exact⟨h0.trans (hb.mono h0.size),cell_later hb h1,cell_later hb h2,cell_later hb h3,cell_later hb h4,cell_later hb h5,cell_later hb h6,cell_later hb h7,cell_later hb h8,h9.later hb⟩
theorem rsafe_any (S:Int)(ao:Option Addr)(n cap:Nat)(ao2:Option Addr)(n2 cap2:Nat)(ao3:Option Addr)(n3 cap3:Nat)(S':Int)(u1 u2:Value)(bo3:Option Addr)(m3 dap3:Nat)(a4:Option Addr)(n4 c4:Nat)(Ls:List ((Int×Int)×(Int×Int)))(Hs:List (ByteArray×(Int×Int)))(As Bs:List (List Ru))(l:List Wi)(w:World)
 (hE:WkE w (.slice ao n cap) (.slice ao2 n2 cap2) (.slice ao3 n3 cap3) (.slice bo3 m3 dap3) Ls Hs As Bs) (hl:GS wisE w (.slice a4 n4 c4) l) (hN:ntN S Ls Hs As=0) (hN':ntN S Ls Hs Bs=0):
 Calls Tryz.prog 13 #[.agg #[.int .i64 S,.slice ao n cap,.slice ao2 n2 cap2,.slice ao3 n3 cap3],.agg #[.int .i64 S',u1,u2,.slice bo3 m3 dap3],.slice a4 n4 c4] w fun e w'=>e=.returned (.tuple #[.agg #[.int .i64 (prV Hs (bsW Ls Hs As Bs l Hs l.length)).1,.string (prV Hs (bsW Ls Hs As Bs l Hs l.length)).2.1,.int .i64 (prV Hs (bsW Ls Hs As Bs l Hs l.length)).2.2],.bool (bsW Ls Hs As Bs l Hs l.length).isNone])∧Below w.heap.size w w':=by
 have HEW:Hid (∀W,Below w.heap.size w W→WkE W (.slice ao n cap) (.slice ao2 n2 cap2) (.slice ao3 n3 cap3) (.slice bo3 m3 dap3) Ls Hs As Bs):=fun W hb=>hE.later hb
 have hX:=sabox_new w S (.slice ao n cap) (.slice ao2 n2 cap2) (.slice ao3 n3 cap3) S' u1 u2 (.slice bo3 m3 dap3);obtain⟨w0,hw0⟩:∃W,((w.alloc (Obj.cells #[.int .i64 S,.slice ao n cap,.slice ao2 n2 cap2,.slice ao3 n3 cap3] 28)).alloc (Obj.cells #[.int .i64 S',u1,u2,.slice bo3 m3 dap3] 28)).alloc (Obj.cells #[.int .i64 0,.string ⟨#[]⟩,.int .i64 0] 50)=W:=⟨_,rfl⟩;rw[hw0] at hX;have HX:Hid (SaBox w w0 S (.slice ao n cap) (.slice ao2 n2 cap2) (.slice ao3 n3 cap3) S' u1 u2 (.slice bo3 m3 dap3)):=hX;have HW0:Hid (((w.alloc (Obj.cells #[.int .i64 S,.slice ao n cap,.slice ao2 n2 cap2,.slice ao3 n3 cap3] 28)).alloc (Obj.cells #[.int .i64 S',u1,u2,.slice bo3 m3 dap3] 28)).alloc (Obj.cells #[.int .i64 0,.string ⟨#[]⟩,.int .i64 0] 50)=w0):=hw0;have HB0:Hid (Below w.heap.size w w0):=hX.below;have HN:Hid (ntN S Ls Hs As=0∧ntN S Ls Hs Bs=0):=⟨hN,hN'⟩;obtain⟨_,_,_,e5,hGn,hGm,_,hGa⟩:=hl.form;cases e5;obtain⟨_,_,_,e6,hHn,hHm,_,hHa⟩:=hE.2.1.form;cases e6;have HGN:Hid (l.length=n4):=hGn;have HGA:Hid (0<n4→∃g o,a4=some ⟨g,o,none⟩∧GAt wisE w g o l∧c4≤maxLen):=hGa;have HHN:Hid (Hs.length=n2):=hHn;have HHA:Hid (0<n2→∃g o,ao2=some ⟨g,o,none⟩∧GAt hstE w g o Hs∧cap2≤maxLen):=hHa;have HHG:Hid (∀h∈Hs,nmB h.1=true∧spB S h.2=true):=(tp_0 (nt_0 hN).1).2.2.2.2.1;obtain⟨R,hR⟩:∃R,R=bsW Ls Hs As Bs l Hs l.length:=⟨_,rfl⟩;have HR:Hid (bsW Ls Hs As Bs l Hs n4=R):=by
  show _=_;rw[hR,hGn]
 have HRL:Hid (bsW Ls Hs As Bs l Hs l.length=R):=hR.symm;rw[←hR];have hn4:n4≤maxLen:=hGm;have hn2:n2≤maxLen:=hHm;unfold maxLen at hn4 hn2;clear hE hl hX hw0 hN hN' hGn hGm hGa hHn hHm hHa hR;go_enter Tryz.func13,Tryz.ntmps13;go_upto_region 1 with fail;rw[HW0.out];clear HW0;go_wp2
 go_loopw [8] (fun i wr=>∃j:Nat,j≤n4∧i=.int .i64 j∧bsW Ls Hs As Bs l Hs j=none∧Below w0.heap.size w0 wr) (fun i _=>n4-(intOf i).toNat)
 case atStart=>exact⟨0,by omega,rfl,rfl,Below.refl _ _⟩
 case round =>
  obtain⟨j,hj,rfl,hno,hB⟩:=hrel;obtain⟨w1,hw1⟩:∃X,X=wr:=⟨_,rfl⟩;subst hw1;have HB:Hid (Below w0.heap.size w0 w1):=hB;have HBw:Hid (Below w.heap.size w w1):=HB0.out.trans (hB.mono HB0.out.size);have HNO:Hid (bsW Ls Hs As Bs l Hs j=none):=hno;clear hno hB;by_cases hlt:j<n4
  ·obtain⟨g1,o1,hao,hc,_⟩:=HGA.out (by omega);subst hao;obtain⟨y0,y1,y2,y3,hkl,hLk,_,_,_,_⟩:=wis_at hc HGN.out hlt;have HLK:Hid (l[j]=⟨y0,y1,y2,y3⟩):=hLk;have HYC:Hid (∀W,Below w.heap.size w W→W.cell? ⟨g1,o1+j*4,none⟩=some (.int .i64 y0)∧W.cell? ⟨g1,o1+j*4+1,none⟩=some (.string y1)∧W.cell? ⟨g1,o1+j*4+2,none⟩=some (.string y2)∧W.cell? ⟨g1,o1+j*4+3,none⟩=some (.int .i64 y3)):=fun W hW=>by
    obtain⟨a0,a1,a2,a3,b1,b2,q0,q1,q2,q3⟩:=wis_at (hc.later hW) HGN.out hlt;rw[hLk] at b2;cases b2;exact⟨q0,q1,q2,q3⟩
   obtain⟨X,hX⟩:∃q,q=bsX Ls Hs As Bs ⟨y0,y1,y2,y3⟩ Hs Hs.length:=⟨_,rfl⟩;have HXX:Hid (bsX Ls Hs As Bs ⟨y0,y1,y2,y3⟩ Hs Hs.length=X):=hX.symm;have kb0:(0:Int)≤(j:Int):=by omega
   have kb1:(j:Int)<(n4:Int):=by omega
   clear hc hLk hX;go_upto_region 4 with fail;go_wp2
   go_loopw [9] (fun i wr=>∃z:Nat,z≤n2∧i=.int .i64 z∧bsX Ls Hs As Bs ⟨y0,y1,y2,y3⟩ Hs z=none∧Below w1.heap.size w1 wr) (fun i _=>n2-(intOf i).toNat)
   case atStart=>exact⟨0,by omega,rfl,rfl,Below.refl _ _⟩
   case round =>
    obtain⟨z,hz,rfl,hno,hB⟩:=hrel;obtain⟨w2,hw2⟩:∃X,X=wr:=⟨_,rfl⟩;subst hw2;have HB2:Hid (Below w1.heap.size w1 w2):=hB;have HB02:Hid (Below w0.heap.size w0 w2):=HB.out.trans (hB.mono HB.out.size);have HBw2:Hid (Below w.heap.size w w2):=HB0.out.trans (HB02.out.mono HB0.out.size);have HNO2:Hid (bsX Ls Hs As Bs ⟨y0,y1,y2,y3⟩ Hs z=none):=hno;obtain⟨_,⟨b0,b1,b2,b3⟩,_,_⟩:=HX.out.later HB02.out;have hlw:w.heap.size<w2.heap.size:=World.block_lt_of_cell? _ _ b0;clear hno hB;by_cases hlt2:z<n2
    ·obtain⟨g2,o2,hao2,hc2,_⟩:=HHA.out (by omega);subst hao2;obtain⟨z0,z1,z2,hzl,hZk,p0,p1,p2⟩:=hst_at (hc2.later HBw2.out) HHN.out hlt2;have HZK:Hid (Hs[z]=(z0,(z1,z2))):=hZk;have hmem:(z0,(z1,z2))∈Hs:=by
      rw[←hZk];exact List.getElem_mem hzl
     have HSP:Hid (spB S (z1,z2)=true):=(HHG.out _ hmem).2;have zb0:(0:Int)≤(z:Int):=by omega
     have zb1:(z:Int)<(n2:Int):=by omega
     have hba:Below w2.heap.size w2 (w2.alloc (Obj.cells #[Value.string z0,.int .i64 z1,.int .i64 z2] 41)):=(Below.refl _ _).alloc (Nat.le_refl _) _;have hhb:=hsbox_new w2 z0 z1 z2 41;obtain⟨w4,hw4⟩:∃W,w2.alloc (Obj.cells #[Value.string z0,.int .i64 z1,.int .i64 z2] 41)=W:=⟨_,rfl⟩;obtain⟨gh,hgh⟩:∃q,q=w2.heap.size:=⟨_,rfl⟩;rw[hw4] at hba hhb;rw[←hgh] at hhb;have HW4:Hid (w2.alloc (Obj.cells #[Value.string z0,.int .i64 z1,.int .i64 z2] 41)=w4):=hw4;have HGH:Hid (w2.heap.size=gh):=hgh.symm;have HHB:Hid (HsBox w4 gh z0 z1 z2):=hhb;have HB24:Hid (Below w1.heap.size w1 w4):=HB2.out.trans (hba.mono HB2.out.size);have HB04:Hid (Below w0.heap.size w0 w4):=HB02.out.trans (hba.mono HB02.out.size);have HBw4:Hid (Below w.heap.size w w4):=HBw2.out.trans (hba.mono HBw2.out.size);have HLH:Hid (w.heap.size+1+1<gh):=by
      show _<_;rw[hgh];have h1:=World.block_lt_of_cell? _ _ (HX.out.later HB02.out).p.c0;simpa using h1
     clear hc2 hZk hmem hba hhb hw4 hgh;go_upto_region 8 with fail;rw[HW4.out,HGH.out];clear HW4 HGH p0 p1 p2 b0 b1 b2 b3 hlw;obtain⟨SP,hSP⟩:∃b:Bool,b = !(abW ⟨y0,y1,y2,y3⟩ z0):=⟨_,rfl⟩;have HSPB:Hid (abW ⟨y0,y1,y2,y3⟩ z0 = !SP):=show _=_ by rw[hSP,Bool.not_not]
     have HCQ:Hid ((fun W=>Below w4.heap.size w4 W∧W.cell? ⟨g1,o1+j*4,none⟩=some (.int .i64 y0)∧W.cell? ⟨g1,o1+j*4+1,none⟩=some (.string y1)∧W.cell? ⟨gh,0,none⟩=some (.string z0)) w4):=⟨Below.refl _ _,(HYC.out _ HBw4.out).1,(HYC.out _ HBw4.out).2.1,HHB.out.1⟩
     go_cut [50] from 35 to 49 (fun q w'=>q=.bool SP∧Below w4.heap.size w4 w')
     case first =>
      by_cases h4:y0=4
      ·have hs0:SP=false:=by rw[hSP,abW,h4];rfl
       clear hSP;subst hs0;subst h4
       as_aux_lemma =>
        refine wp_region_quiet (C:=fun W=>Below w4.heap.size w4 W∧W.cell? ⟨g1,o1+j*4,none⟩=some (.int .i64 4)∧W.cell? ⟨g1,o1+j*4+1,none⟩=some (.string y1)∧W.cell? ⟨gh,0,none⟩=some (.string z0)) (by kernel_rfl) (by kernel_rfl) ⟨(Below.drew (Below.refl _ _)),HCQ.out.2⟩ ?_;simp only[List.toList_toArray];go_big_quiet_want;refine qv (.slice (some ⟨g1,o1,none⟩) n4 c4) ?_ ?_
        ·rintro w' ⟨q0,q1,q2,q3⟩;go_simp
        simp only[Act.put,AP];go_big_quiet_on;go_big_quiet_want;refine qv (.int .i64 (j:Int)) ?_ ?_
        ·rintro w' ⟨q0,q1,q2,q3⟩;go_simp
        simp only[Act.put,AP];go_big_quiet_on;go_big_quiet_want;refine qv (.pointer (some ⟨g1,o1+j*4,none⟩)) ?_ ?_
        ·rintro w' ⟨q0,q1,q2,q3⟩;go_simp
        simp only[Act.put,AP];go_big_quiet_on;go_big_quiet_want;refine qv (.pointer (some ⟨g1,o1+j*4,none⟩)) ?_ ?_
        ·rintro w' ⟨q0,q1,q2,q3⟩;go_simp
        simp only[Act.put,AP];go_big_quiet_on;go_big_quiet_want;refine qv (.int .i64 4) ?_ ?_
        ·rintro w' ⟨q0,q1,q2,q3⟩;go_simp
        simp only[Act.put,AP];go_big_quiet_on;go_big_quiet_want;refine qv (.bool false) ?_ ?_
        ·rintro w' ⟨q0,q1,q2,q3⟩;go_simp
        simp only[Act.put,AP];go_big_quiet_on;go_big_quiet_want;refine qv (.bool false) ?_ ?_
        ·rintro w' ⟨q0,q1,q2,q3⟩;go_simp
        simp only[Act.put,AP];go_big_quiet_on;go_big_quiet_skip;go_big_quiet_skip;go_big_quiet_skip;go_big_quiet_skip;go_big_quiet_skip;go_big_quiet_skip;go_big_quiet_skip;go_big_quiet_skip;go_big_quiet_want;refine qv (.bool false) ?_ ?_
        ·rintro w' ⟨q0,q1,q2,q3⟩;go_simp
        simp only[Act.put,AP];go_big_quiet_on;refine wpQuiet_nil ?_;intro w' hC
        go_wp2_with fail
        go_meet
        case rel=>exact⟨rfl,hC.1⟩
      have hs0:SP = !(y1==z0):=by
       rw[hSP,abW];simp[h4]
      have h4b:(y0==4)=false:=by simpa using h4
      obtain⟨D,hD⟩:∃D,D=(y1==z0):=⟨_,rfl⟩;rw[←hD] at hs0;have hD2:(y1.toList==z0.toList)=D:=by rw[hD];exact by_same y1 z0
      clear hSP hD;subst hs0
      as_aux_lemma =>
       refine wp_region_quiet (C:=fun W=>Below w4.heap.size w4 W∧W.cell? ⟨g1,o1+j*4,none⟩=some (.int .i64 y0)∧W.cell? ⟨g1,o1+j*4+1,none⟩=some (.string y1)∧W.cell? ⟨gh,0,none⟩=some (.string z0)) (by kernel_rfl) (by kernel_rfl) ⟨(Below.drew (Below.refl _ _)),HCQ.out.2⟩ ?_;simp only[List.toList_toArray];go_big_quiet_want;refine qv (.slice (some ⟨g1,o1,none⟩) n4 c4) ?_ ?_
       ·rintro w' ⟨q0,q1,q2,q3⟩;go_simp
       simp only[Act.put,AP];go_big_quiet_on;go_big_quiet_want;refine qv (.int .i64 (j:Int)) ?_ ?_
       ·rintro w' ⟨q0,q1,q2,q3⟩;go_simp
       simp only[Act.put,AP];go_big_quiet_on;go_big_quiet_want;refine qv (.pointer (some ⟨g1,o1+j*4,none⟩)) ?_ ?_
       ·rintro w' ⟨q0,q1,q2,q3⟩;go_simp
       simp only[Act.put,AP];go_big_quiet_on;go_big_quiet_want;refine qv (.pointer (some ⟨g1,o1+j*4,none⟩)) ?_ ?_
       ·rintro w' ⟨q0,q1,q2,q3⟩;go_simp
       simp only[Act.put,AP];go_big_quiet_on;go_big_quiet_want;refine qv (.int .i64 y0) ?_ ?_
       ·rintro w' ⟨q0,q1,q2,q3⟩;go_simp
       simp only[Act.put,AP];go_big_quiet_on;go_big_quiet_want;refine qv (.bool true) ?_ ?_
       ·rintro w' ⟨q0,q1,q2,q3⟩;go_simp
       simp only[Act.put,AP];go_big_quiet_on;go_big_quiet_want;refine qv (.bool true) ?_ ?_
       ·rintro w' ⟨q0,q1,q2,q3⟩;go_simp
       simp only[Act.put,AP];go_big_quiet_on;go_big_quiet_want;refine qv (.slice (some ⟨g1,o1,none⟩) n4 c4) ?_ ?_
       ·rintro w' ⟨q0,q1,q2,q3⟩;go_simp
       simp only[Act.put,AP];go_big_quiet_on;go_big_quiet_want;refine qv (.int .i64 (j:Int)) ?_ ?_
       ·rintro w' ⟨q0,q1,q2,q3⟩;go_simp
       simp only[Act.put,AP];go_big_quiet_on;go_big_quiet_want;refine qv (.pointer (some ⟨g1,o1+j*4,none⟩)) ?_ ?_
       ·rintro w' ⟨q0,q1,q2,q3⟩;go_simp
       simp only[Act.put,AP];go_big_quiet_on;go_big_quiet_want;refine qv (.pointer (some ⟨g1,o1+j*4+1,none⟩)) ?_ ?_
       ·rintro w' ⟨q0,q1,q2,q3⟩;go_simp
       simp only[Act.put,AP];go_big_quiet_on;go_big_quiet_want;refine qv (.string y1) ?_ ?_
       ·rintro w' ⟨q0,q1,q2,q3⟩;go_simp
       simp only[Act.put,AP];go_big_quiet_on;go_big_quiet_want;refine qv (.pointer (some ⟨gh,0,none⟩)) ?_ ?_
       ·rintro w' ⟨q0,q1,q2,q3⟩;go_simp
       simp only[Act.put,AP];go_big_quiet_on;go_big_quiet_want;refine qv (.string z0) ?_ ?_
       ·rintro w' ⟨q0,q1,q2,q3⟩;go_simp
       simp only[Act.put,AP];go_big_quiet_on;go_big_quiet_want;refine qv (.bool (!D)) ?_ ?_
       ·rintro w' ⟨q0,q1,q2,q3⟩;go_simp
       simp only[Act.put,AP];go_big_quiet_on;go_big_quiet_want;refine qv (.bool (!D)) ?_ ?_
       ·rintro w' ⟨q0,q1,q2,q3⟩;go_simp
       simp only[Act.put,AP];go_big_quiet_on;refine wpQuiet_nil ?_;intro w' hC
       go_wp2_with fail
       go_meet
       case rel=>exact⟨rfl,hC.1⟩
     case rest =>
      obtain⟨rfl,hbs⟩:=hcut;obtain⟨w5,hw5⟩:∃X,X=wc:=⟨_,rfl⟩;subst hw5;have HB25:Hid (Below w1.heap.size w1 w5):=HB24.out.trans (hbs.mono HB24.out.size);have HB05:Hid (Below w0.heap.size w0 w5):=HB04.out.trans (hbs.mono HB04.out.size);have HBw5:Hid (Below w.heap.size w w5):=HBw4.out.trans (hbs.mono HBw4.out.size);have HHB5:Hid (HsBox w5 gh z0 z1 z2):=HHB.out.later hbs;clear hbs hSP HCQ HHB HB24 HB04 HBw4;cases SP with
      | true =>
        have HXN:Hid (bsX Ls Hs As Bs ⟨y0,y1,y2,y3⟩ Hs (z+1)=none):=bsX_no hzl HNO2.out (by rw[HZK.out];exact bsH_skip HSPB.out 16);go_wp2;go_roundw
        case rel=>exact⟨z+1,by omega,by go_num,HXN.out,HB25.out⟩
        case measure=>simp[intOf];omega
      | false =>
        go_wp2
        go_loopw [11] (fun i wr=>∃q:Nat,q≤16∧i=.int .i64 q∧bsH Ls Hs As Bs ⟨y0,y1,y2,y3⟩ (z0,(z1,z2)) q<0∧Below w5.heap.size w5 wr) (fun i _=>16-(intOf i).toNat)
        case atStart=>exact⟨0,by omega,rfl,by simp[bsH],Below.refl _ _⟩
        case round =>
         obtain⟨q,hq,rfl,hno,hB⟩:=hrel;obtain⟨wi,hwi⟩:∃X,X=wr:=⟨_,rfl⟩;subst hwi;have HB4:Hid (Below w5.heap.size w5 wi):=hB;have HB0i:Hid (Below w0.heap.size w0 wi):=HB05.out.trans (hB.mono HB05.out.size);have HB1i:Hid (Below w1.heap.size w1 wi):=HB25.out.trans (hB.mono HB25.out.size);have HBwi:Hid (Below w.heap.size w wi):=HBw5.out.trans (hB.mono HBw5.out.size);have HNO4:Hid (bsH Ls Hs As Bs ⟨y0,y1,y2,y3⟩ (z0,(z1,z2)) q<0):=hno;have HHBi:Hid (HsBox wi gh z0 z1 z2):=HHB5.out.later hB;clear hno hB;by_cases hlt4:q<16
         ·have HHD:Hid (hdrB (q:Int)=true):=hd_16 hlt4;obtain⟨E,hE⟩:∃u,u=bsB Ls Hs As Bs ⟨y0,y1,y2,y3⟩ (z0,(z1,z2)) (q:Int):=⟨_,rfl⟩;have HE:Hid (bsB Ls Hs As Bs ⟨y0,y1,y2,y3⟩ (z0,(z1,z2)) (q:Int)=E):=hE.symm;clear hE;obtain⟨_,⟨b0,b1,b2,b3⟩,⟨d0,d1,d2,d3⟩,_⟩:=HX.out.later HB0i.out;obtain⟨s0,s1,s2⟩:=HHBi.out;go_upto_region 12 with fail;rw[show decide ((q:Int)<16)=true from by simp;omega]
          go_wp2_with fail
          refine (rseen_any S S' ao n cap _ n2 cap2 ao3 n3 cap3 u1 u2 bo3 m3 dap3 Ls Hs As Bs (nt_0 HN.out.1).1 (nt_0 HN.out.1).2.1 (nt_0 HN.out.2).2.1 (nt_0 HN.out.1).2.2 (nt_0 HN.out.2).2.2 z1 z2 (q:Int) _ (HEW.out _ HBwi.out) HSP.out HHD.out).mono ?_;rintro e w7 ⟨a7,n7,c7,rfl,hF7,hb7⟩;have HB7:Hid (Below wi.heap.size wi w7):=hb7;obtain⟨V,hV⟩:∃u,u=seeL Ls Hs As Bs (z1,z2) (q:Int):=⟨_,rfl⟩;have HV:Hid (bsB Ls Hs As Bs ⟨y0,y1,y2,y3⟩ (z0,(z1,z2)) (q:Int)=V.any fun F => !fiB ⟨y0,y1,y2,y3⟩ z0 F):=show _=_ by rw[hV];rfl
          rw[←hV] at hF7;have HF7:Hid (FTs w7 (.slice a7 n7 c7) V):=hF7;have HVN:Hid (V.length=n7):=hF7.len;obtain⟨_,_,_,e7,_,hn7,_⟩:=hF7.form;cases e7;unfold maxLen at hn7;have HB57:Hid (Below w5.heap.size w5 w7):=HB4.out.trans (hb7.mono HB4.out.size);have HB07:Hid (Below w0.heap.size w0 w7):=HB0i.out.trans (hb7.mono HB0i.out.size);have HBw7:Hid (Below w.heap.size w w7):=HBwi.out.trans (hb7.mono HBwi.out.size);have HHB7:Hid (HsBox w7 gh z0 z1 z2):=HHBi.out.later hb7;clear hF7 hb7 hV b0 b1 b2 b3 d0 d1 d2 d3 s0 s1 s2;go_wp2
          go_loopw [13] (fun i wr=>∃f:Nat,f≤n7∧i=.int .i64 f∧(∀(k:Nat) (x:Ft),k<f→V[k]?=some x→fiB ⟨y0,y1,y2,y3⟩ z0 x=true)∧Below w7.heap.size w7 wr) (fun i _=>n7-(intOf i).toNat)
          case atStart=>exact⟨0,by omega,rfl,fun k x h=>absurd h (by omega),Below.refl _ _⟩
          case round =>
           obtain⟨f,hf,rfl,hno,hB⟩:=hrel;obtain⟨w8,hw8⟩:∃X,X=wr:=⟨_,rfl⟩;subst hw8;have HB78:Hid (Below w7.heap.size w7 w8):=hB;have HNO7:Hid (∀(k:Nat) (x:Ft),k<f→V[k]?=some x→fiB ⟨y0,y1,y2,y3⟩ z0 x=true):=hno;clear hno hB;by_cases hlt7:f<n7
           ·obtain⟨g7,o7,x,a3,nn3,c3,ha7,hx7,_,_,_,_⟩:=HF7.out.at hlt7;subst ha7;have HX7:Hid (V[f]?=some x):=hx7;have HC7:Hid (∀W,Below w7.heap.size w7 W→W.cell? ⟨g7,o7+f*3,none⟩=some (.int .i64 x.1)∧W.cell? ⟨g7,o7+f*3+1,none⟩=some (.string x.2.1)∧∃a3 n3 c3,W.cell? ⟨g7,o7+f*3+2,none⟩=some (.slice a3 n3 c3)∧GS hopE W (.slice a3 n3 c3) x.2.2):=fun W hW=>by
             obtain⟨_,_,x',a3',n3',c3',e,hx',r0,r1,r2,hG3⟩:=(HF7.out.later hW).at hlt7;cases e;rw[hx7] at hx';cases hx';exact⟨r0,r1,a3',n3',c3',r2,hG3⟩
            obtain⟨k0,k1,ah,nh,ch,k2,hG3⟩:=HC7.out w8 HB78.out;obtain⟨P,hP⟩:∃u,u=fiB ⟨y0,y1,y2,y3⟩ z0 x:=⟨_,rfl⟩;have HP:Hid (fiB ⟨y0,y1,y2,y3⟩ z0 (x.1,x.2.1,x.2.2)=P):=hP.symm;have fb0:(0:Int)≤(f:Int):=by omega
            have fb1:(f:Int)<(n7:Int):=by omega
            obtain⟨d0,d1,d2,d3⟩:=HYC.out w8 (HBw7.out.trans (HB78.out.mono HBw7.out.size));obtain⟨s0,s1,s2⟩:=HHB7.out.later HB78.out;have HCQ:Hid (W8 w8 g1 (o1+j*4) y0 y1 y2 y3 gh z0 g7 (o7+f*3) x ah nh ch w8):=⟨Below.refl _ _,d0,d1,d2,d3,s0,k0,k1,k2,hG3⟩;clear hx7 hP k0 k1 k2 hG3 d0 d1 d2 d3 s0 s1 s2;go_upto_region 16 with fail
            go_cut [14] from 67 to 77 (fun b w'=>b=.bool P∧Below w8.heap.size w8 w')
            case first =>
             as_aux_lemma =>
              refine wp_region_quiet (C:=W8 w8 g1 (o1+j*4) y0 y1 y2 y3 gh z0 g7 (o7+f*3) x ah nh ch) (by kernel_rfl) (by kernel_rfl) (W8.later (W:=w8) (Below.drew (Below.refl _ _)) HCQ.out) ?_;simp only[List.toList_toArray];go_big_quiet_want;refine qv (.slice (some ⟨g1,o1,none⟩) n4 c4) ?_ ?_
              ·rintro w' ⟨q0,q1,q2,q3,q4,q5,q6,q7,q8,q9⟩;go_simp
              simp only[Act.put,AP];go_big_quiet_on;go_big_quiet_want;refine qv (.int .i64 (j:Int)) ?_ ?_
              ·rintro w' ⟨q0,q1,q2,q3,q4,q5,q6,q7,q8,q9⟩;go_simp
              simp only[Act.put,AP];go_big_quiet_on;go_big_quiet_want;refine qv (.pointer (some ⟨g1,o1+j*4,none⟩)) ?_ ?_
              ·rintro w' ⟨q0,q1,q2,q3,q4,q5,q6,q7,q8,q9⟩;go_simp
              simp only[Act.put,AP];go_big_quiet_on;go_big_quiet_want;refine qv (.agg #[.int .i64 y0,.string y1,.string y2,.int .i64 y3]) ?_ ?_
              ·rintro w' ⟨q0,q1,q2,q3,q4,q5,q6,q7,q8,q9⟩;go_simp
              simp only[Act.put,AP];go_big_quiet_on;go_big_quiet_want;refine qv (.pointer (some ⟨gh,0,none⟩)) ?_ ?_
              ·rintro w' ⟨q0,q1,q2,q3,q4,q5,q6,q7,q8,q9⟩;go_simp
              simp only[Act.put,AP];go_big_quiet_on;go_big_quiet_want;refine qv (.string z0) ?_ ?_
              ·rintro w' ⟨q0,q1,q2,q3,q4,q5,q6,q7,q8,q9⟩;go_simp
              simp only[Act.put,AP];go_big_quiet_on;go_big_quiet_want;refine qv (.slice (some ⟨g7,o7,none⟩) n7 c7) ?_ ?_
              ·rintro w' ⟨q0,q1,q2,q3,q4,q5,q6,q7,q8,q9⟩;go_simp
              simp only[Act.put,AP];go_big_quiet_on;go_big_quiet_want;refine qv (.int .i64 (f:Int)) ?_ ?_
              ·rintro w' ⟨q0,q1,q2,q3,q4,q5,q6,q7,q8,q9⟩;go_simp
              simp only[Act.put,AP];go_big_quiet_on;go_big_quiet_want;refine qv (.pointer (some ⟨g7,o7+f*3,none⟩)) ?_ ?_
              ·rintro w' ⟨q0,q1,q2,q3,q4,q5,q6,q7,q8,q9⟩;go_simp
              simp only[Act.put,AP];go_big_quiet_on;go_big_quiet_want;refine qv (.agg #[.int .i64 x.1,.string x.2.1,.slice ah nh ch]) ?_ ?_
              ·rintro w' ⟨q0,q1,q2,q3,q4,q5,q6,q7,q8,q9⟩;go_simp
              simp only[Act.put,AP];go_big_quiet_on;go_big_quiet_want;refine quiet_call (f:=33) (args:=#[.agg #[.int .i64 y0,.string y1,.string y2,.int .i64 y3],.string z0,.agg #[.int .i64 x.1,.string x.2.1,.slice ah nh ch]]) (v:=.bool P) (fun w'=>?_) (fun w' hC=>(rfits_any y0 y1 y2 y3 z0 x.1 x.2.1 ah nh ch x.2.2 w' hC.2.2.2.2.2.2.2.2.2).mono (fun e w2 h2=>⟨by rw[h2.1,HP.out],W8.later h2.2 hC⟩)) ?_
              ·go_simp
              simp only[Act.put,AP];go_big_quiet_on;go_big_quiet_want;refine qv (.bool P) ?_ ?_
              ·rintro w' ⟨q0,q1,q2,q3,q4,q5,q6,q7,q8,q9⟩;go_simp
              simp only[Act.put,AP];go_big_quiet_on;refine wpQuiet_nil ?_;intro w' hC
              go_wp2_with fail
              go_meet
              case rel=>exact⟨rfl,hC.1⟩
            case rest =>
             obtain⟨rfl,hbc⟩:=hcut;have HB7c:Hid (Below w7.heap.size w7 wc):=HB78.out.trans (hbc.mono HB78.out.size);have HB0c:Hid (Below w0.heap.size w0 wc):=HB07.out.trans (HB7c.out.mono HB07.out.size);have HBwc:Hid (Below w.heap.size w wc):=HBw7.out.trans (HB7c.out.mono HBw7.out.size);have HHBc:Hid (HsBox wc gh z0 z1 z2):=HHB7.out.later HB7c.out;clear hbc HCQ;cases P with
             | true =>
               have HNN:Hid (∀(k:Nat) (x:Ft),k<f+1→V[k]?=some x→fiB ⟨y0,y1,y2,y3⟩ z0 x=true):=fun k x' hk hx'=>by
                by_cases e:k=f
                ·subst e;rw[HX7.out] at hx';cases hx';exact HP.out
                exact HNO7.out k x' (by omega) hx'
               go_wp2;go_roundw
               case rel=>exact⟨f+1,by omega,by go_num,HNN.out,HB7c.out⟩
               case measure=>simp[intOf];omega
             | false =>
               have hbr:bsB Ls Hs As Bs ⟨y0,y1,y2,y3⟩ (z0,(z1,z2)) (q:Int)=true:=by
                rw[HV.out];exact any_yes HX7.out (by show (!fiB _ _ _)=true;rw[show fiB ⟨y0,y1,y2,y3⟩ z0 x=false from HP.out];rfl)
               have HN4:Hid (bsH Ls Hs As Bs ⟨y0,y1,y2,y3⟩ (z0,(z1,z2)) 16=(q:Int)):=bsH_yes hlt4 HNO4.out hbr;have HXS:Hid (X=some (z,(q:Int))):=by
                show _=_;rw[←HXX.out,bsX_yes hzl HNO2.out (by rw[HZK.out,HN4.out];omega),HZK.out,HN4.out]
               have HRS:Hid (R=some (j,z,(q:Int))):=by
                show _=_;rw[←HRL.out,bsW_yes hkl HNO.out (p:=(z,(q:Int))) (by rw[HLK.out,HXX.out,HXS.out])]
               have HPV:Hid (prV Hs (some (j,z,(q:Int)))=((j:Int),z0,(q:Int))):=by
                show _=_;rw[prV];simp only;rw[getO hzl,HZK.out]
               obtain⟨s0,s1,s2⟩:=HHBc.out;obtain⟨r0,r1,r2,rf⟩:=(HX.out.later HB0c.out).p;have f0:=rf 0;have f1:=rf 1;have f2:=rf 2;clear rf hbr;go_wp2;refine bodyPost_ret (v:=.tuple #[.agg #[.int .i64 (j:Int),.string z0,.int .i64 (q:Int)],.bool false]) (by simp[results,Tryz.results13,go_sem, *]) rfl ⟨by rw[HRS.out,HPV.out];rfl,below_put3 HBwc.out _ (by omega) _ _ _⟩
           obtain rfl:f=n7:=by omega
           have hbr:bsB Ls Hs As Bs ⟨y0,y1,y2,y3⟩ (z0,(z1,z2)) (q:Int)=false:=by
            rw[HV.out];refine any_no (fun k x' hx'=>?_);have hk:=(List.getElem?_eq_some_iff.1 hx').1;rw[HNO7.out k x' (by have:=HVN.out;omega) hx'];rfl
           have HBR:Hid (bsH Ls Hs As Bs ⟨y0,y1,y2,y3⟩ (z0,(z1,z2)) (q+1)<0):=bsH_no HNO4.out hbr;have HBc:Hid (Below w5.heap.size w5 w8):=HB57.out.trans (HB78.out.mono HB57.out.size);clear hbr;go_wp2;go_roundw
           case rel=>exact⟨q+1,by omega,by go_num,HBR.out,HBc.out⟩
           case measure=>simp[intOf];omega
         obtain rfl:q=16:=by omega
         have HXN:Hid (bsX Ls Hs As Bs ⟨y0,y1,y2,y3⟩ Hs (z+1)=none):=bsX_no hzl HNO2.out (by rw[HZK.out];exact HNO4.out);go_wp2;go_roundw
         case rel=>exact⟨z+1,by omega,by go_num,HXN.out,HB1i.out⟩
         case measure=>simp[intOf];omega
    obtain rfl:z=n2:=by omega
    have HWN:Hid (bsW Ls Hs As Bs l Hs (j+1)=none):=bsW_no hkl HNO.out (by rw[HLK.out,HHN.out];exact HNO2.out);go_wp2;go_roundw
    case rel=>exact⟨j+1,by omega,by go_num,HWN.out,HB02.out⟩
    case measure=>simp[intOf];omega
  obtain rfl:j=n4:=by omega
  have HRN:Hid (R=none):=by
   show _=_;rw[←HR.out,HNO.out]
  obtain⟨r0,r1,r2,rf⟩:=(HX.out.later HB.out).p;have f0:=rf 0;have f1:=rf 1;have f2:=rf 2;clear rf;go_wp2;refine bodyPost_ret (v:=.tuple #[.agg #[.int .i64 0,.string ⟨#[]⟩,.int .i64 0],.bool true]) (by simp[results,Tryz.results13,go_sem, *]) rfl ⟨by rw[HRN.out];rfl,below_put3 HBw.out _ (by omega) _ _ _⟩
theorem set_okB {s v:Int}(h:rngB s v=true):okB s v=(bits .andNot .i64 v s==0):=by simp[okB,h]
theorem refRule_prio (p m b o s v:Int)(w:World)(h:ruP p o=false):
 Calls Tryz.prog 20 #[.agg #[.int .i64 p,.int .i64 m,.int .i64 b,.int .i64 o,.int .i64 s,.int .i64 v]] w fun e w'=>e=.returned (.int .i64 1)∧Below w.heap.size w w':=by
 have hc:p<0∨(0≤p∧99<p)∨((0≤p∧p≤99)∧o<0)∨((0≤p∧p≤99)∧(0≤o∧4<o)):=by
  simp[ruP] at h;omega
 clear h
 rcases hc with h1 | ⟨h1,h2⟩ | ⟨⟨h1,h2⟩,h3⟩ | ⟨⟨h1,h2⟩,h3,h4⟩
 ·have e1:decide (p<0)=true:=by simp;omega
  go_enter Tryz.func20,Tryz.ntmps20
  go_wp2_with fail
  refine (header_any _ _).mono ?_;rintro e w' ⟨rfl,rfl⟩
  go_wp2_with fail
  refine (header_any _ _).mono ?_;rintro e w' ⟨rfl,rfl⟩;go_wp2;go_ret;exact⟨rfl,(Below.refl _ _).alloc (Nat.le_refl _) _⟩
 ·have e1:decide (p<0)=false:=by simp;omega
  have e2:decide (99<p)=true:=by simp;omega
  go_enter Tryz.func20,Tryz.ntmps20
  go_wp2_with fail
  refine (header_any _ _).mono ?_;rintro e w' ⟨rfl,rfl⟩
  go_wp2_with fail
  refine (header_any _ _).mono ?_;rintro e w' ⟨rfl,rfl⟩;go_wp2;go_ret;exact⟨rfl,(Below.refl _ _).alloc (Nat.le_refl _) _⟩
 ·have e1:decide (p<0)=false:=by simp;omega
  have e2:decide (99<p)=false:=by simp;omega
  have e3:decide (o<0)=true:=by simp;omega
  go_enter Tryz.func20,Tryz.ntmps20
  go_wp2_with fail
  refine (header_any _ _).mono ?_;rintro e w' ⟨rfl,rfl⟩
  go_wp2_with fail
  refine (header_any _ _).mono ?_;rintro e w' ⟨rfl,rfl⟩;go_wp2;go_ret;exact⟨rfl,(Below.refl _ _).alloc (Nat.le_refl _) _⟩
 have e1:decide (p<0)=false:=by simp;omega
 have e2:decide (99<p)=false:=by simp;omega
 have e3:decide (o<0)=false:=by simp;omega
 have e4:decide (4<o)=true:=by simp;omega
 go_enter Tryz.func20,Tryz.ntmps20
 go_wp2_with fail
 refine (header_any _ _).mono ?_;rintro e w' ⟨rfl,rfl⟩
 go_wp2_with fail
 refine (header_any _ _).mono ?_;rintro e w' ⟨rfl,rfl⟩;go_wp2;go_ret;exact⟨rfl,(Below.refl _ _).alloc (Nat.le_refl _) _⟩
theorem refRule_set (p m b o s v:Int)(w:World)(h:ruP p o=true)(h2:rngB s v=false):
 Calls Tryz.prog 20 #[.agg #[.int .i64 p,.int .i64 m,.int .i64 b,.int .i64 o,.int .i64 s,.int .i64 v]] w fun e w'=>e=.returned (.int .i64 1)∧Below w.heap.size w w':=by
 obtain⟨e1,e2,e3,e4⟩:=ruP_of h;clear h;cases hs:hdrB s
 ·clear h2;go_enter Tryz.func20,Tryz.ntmps20
  go_wp2_with fail
  refine (header_any _ _).mono ?_;rintro e w' ⟨rfl,rfl⟩;rw[hs]
  go_wp2_with fail
  refine (header_any _ _).mono ?_;rintro e w' ⟨rfl,rfl⟩;go_wp2;go_ret;exact⟨rfl,(Below.refl _ _).alloc (Nat.le_refl _) _⟩
 have hv:hdrB v=false:=by simpa[rngB,hs] using h2
 clear h2;go_enter Tryz.func20,Tryz.ntmps20
 go_wp2_with fail
 refine (header_any _ _).mono ?_;rintro e w' ⟨rfl,rfl⟩;rw[hs]
 go_wp2_with fail
 refine (header_any _ _).mono ?_;rintro e w' ⟨rfl,rfl⟩;rw[hv];go_wp2;go_ret;exact⟨rfl,(Below.refl _ _).alloc (Nat.le_refl _) _⟩
theorem refRule_cube (p m b o s v:Int)(w:World)(h:ruP p o=true)(h2:rngB s v=true)(h3:okB m b=false):
 Calls Tryz.prog 20 #[.agg #[.int .i64 p,.int .i64 m,.int .i64 b,.int .i64 o,.int .i64 s,.int .i64 v]] w fun e w'=>e=.returned (.int .i64 (refN m b))∧Below w.heap.size w w':=by
 obtain⟨e1,e2,e3,e4⟩:=ruP_of h;have hs:hdrB s=true:=by simp only[rngB,Bool.and_eq_true] at h2;exact h2.1
 have hv:hdrB v=true:=by simp only[rngB,Bool.and_eq_true] at h2;exact h2.2
 have hn:(refN m b != 0)=true:=by have:=ok_refN m b;rw[h3] at this;simpa using this
 clear h h2 h3;go_enter Tryz.func20,Tryz.ntmps20
 go_wp2_with fail
 refine (header_any _ _).mono ?_;rintro e w' ⟨rfl,rfl⟩;rw[hs]
 go_wp2_with fail
 refine (header_any _ _).mono ?_;rintro e w' ⟨rfl,rfl⟩;rw[hv]
 go_wp2_with fail
 refine (refCube_any _ _ _).mono ?_;rintro e w1 ⟨rfl,hb1⟩;go_wp2;go_ret;exact⟨rfl,((Below.refl _ _).alloc (Nat.le_refl _) _).trans (hb1.mono (by simp))⟩
theorem refRule_end (p m b o s v:Int)(w:World)(h:ruP p o=true)(h2:rngB s v=true)(h3:okB m b=true)(x:Int)(hx:x=if ruSet o s v then 0 else 3):
 Calls Tryz.prog 20 #[.agg #[.int .i64 p,.int .i64 m,.int .i64 b,.int .i64 o,.int .i64 s,.int .i64 v]] w fun e w'=>e=.returned (.int .i64 x)∧Below w.heap.size w w':=by
 obtain⟨e1,e2,e3,e4⟩:=ruP_of h;have hs:hdrB s=true:=by simp only[rngB,Bool.and_eq_true] at h2;exact h2.1
 have hv:hdrB v=true:=by simp only[rngB,Bool.and_eq_true] at h2;exact h2.2
 have hn:refN m b=0:=refN_ok h3;have hlt:w.heap.size<(w.alloc (Obj.cells #[.int .i64 p,.int .i64 m,.int .i64 b,.int .i64 o,.int .i64 s,.int .i64 v] 66)).heap.size:=by simp
 have ha0:=set_okB h2;clear h h2 h3;cases ha:(bits .andNot .i64 v s==0)
 ·have hx3:x=3:=by rw[hx];simp[ruSet,ha]
  subst hx3;have hz:(refN s v != 0)=true:=by have:=ok_refN s v;rw[ha0,ha] at this;simpa using this
  clear hx ha0;go_enter Tryz.func20,Tryz.ntmps20
  go_wp2_with fail
  refine (header_any _ _).mono ?_;rintro e w' ⟨rfl,rfl⟩;rw[hs]
  go_wp2_with fail
  refine (header_any _ _).mono ?_;rintro e w' ⟨rfl,rfl⟩;rw[hv]
  go_wp2_with fail
  refine (refCube_any _ _ _).mono ?_;rintro e w1 ⟨rfl,hb1⟩;rw[hn];obtain⟨hc1,hf1⟩:=bcell hb1;have hB:=((Below.refl w.heap.size w).alloc (Nat.le_refl _) (Obj.cells #[.int .i64 p,.int .i64 m,.int .i64 b,.int .i64 o,.int .i64 s,.int .i64 v] 66)).trans (hb1.mono (by simp));have hlt2:w.heap.size<w1.heap.size:=by have:=hb1.size;omega
  clear hb1
  go_wp2_with fail
  refine (refCube_any _ _ _).mono ?_;rintro e w2 ⟨rfl,hb2⟩
  generalize refN s v=N at *
  obtain⟨hc2,hf2⟩:=bcell hb2;have hB2:=hB.trans (hb2.mono (by omega));clear hb2 hB;go_wp2;go_ret;exact⟨rfl,hB2⟩
 have hz:refN s v=0:=refN_ok (by rw[ha0,ha]);clear ha0;cases ho:(o==0)
 ·have hx3:x=0:=by rw[hx];simp[ruSet,ha,ho]
  subst hx3;clear hx;go_enter Tryz.func20,Tryz.ntmps20
  go_wp2_with fail
  refine (header_any _ _).mono ?_;rintro e w' ⟨rfl,rfl⟩;rw[hs]
  go_wp2_with fail
  refine (header_any _ _).mono ?_;rintro e w' ⟨rfl,rfl⟩;rw[hv]
  go_wp2_with fail
  refine (refCube_any _ _ _).mono ?_;rintro e w1 ⟨rfl,hb1⟩;rw[hn];obtain⟨hc1,hf1⟩:=bcell hb1;have hB:=((Below.refl w.heap.size w).alloc (Nat.le_refl _) (Obj.cells #[.int .i64 p,.int .i64 m,.int .i64 b,.int .i64 o,.int .i64 s,.int .i64 v] 66)).trans (hb1.mono (by simp));have hlt2:w.heap.size<w1.heap.size:=by have:=hb1.size;omega
  clear hb1
  go_wp2_with fail
  refine (refCube_any _ _ _).mono ?_;rintro e w2 ⟨rfl,hb2⟩;rw[hz];obtain⟨hc2,hf2⟩:=bcell hb2;have hB2:=hB.trans (hb2.mono (by omega));clear hb2 hB;go_wp2;go_ret;exact⟨rfl,hB2⟩
 have hz2:x=if (s==0) then 0 else 3:=by rw[hx];simp[ruSet,ha,ho]
 clear hx;cases hs0:(s==0)
 ·rw[hs0] at hz2;have hs1:(s != 0)=true:=by simpa using hs0
  simp only[Bool.false_eq_true,if_false] at hz2;subst hz2;go_enter Tryz.func20,Tryz.ntmps20
  go_wp2_with fail
  refine (header_any _ _).mono ?_;rintro e w' ⟨rfl,rfl⟩;rw[hs]
  go_wp2_with fail
  refine (header_any _ _).mono ?_;rintro e w' ⟨rfl,rfl⟩;rw[hv]
  go_wp2_with fail
  refine (refCube_any _ _ _).mono ?_;rintro e w1 ⟨rfl,hb1⟩;rw[hn];obtain⟨hc1,hf1⟩:=bcell hb1;have hB:=((Below.refl w.heap.size w).alloc (Nat.le_refl _) (Obj.cells #[.int .i64 p,.int .i64 m,.int .i64 b,.int .i64 o,.int .i64 s,.int .i64 v] 66)).trans (hb1.mono (by simp));have hlt2:w.heap.size<w1.heap.size:=by have:=hb1.size;omega
  clear hb1
  go_wp2_with fail
  refine (refCube_any _ _ _).mono ?_;rintro e w2 ⟨rfl,hb2⟩;rw[hz];obtain⟨hc2,hf2⟩:=bcell hb2;have hB2:=hB.trans (hb2.mono (by omega));clear hb2 hB;go_wp2;go_ret;exact⟨rfl,hB2⟩
 rw[hs0] at hz2;have hs1:(s != 0)=false:=by simpa using hs0
 simp only[if_true] at hz2;subst hz2;go_enter Tryz.func20,Tryz.ntmps20
 go_wp2_with fail
 refine (header_any _ _).mono ?_;rintro e w' ⟨rfl,rfl⟩;rw[hs]
 go_wp2_with fail
 refine (header_any _ _).mono ?_;rintro e w' ⟨rfl,rfl⟩;rw[hv]
 go_wp2_with fail
 refine (refCube_any _ _ _).mono ?_;rintro e w1 ⟨rfl,hb1⟩;rw[hn];obtain⟨hc1,hf1⟩:=bcell hb1;have hB:=((Below.refl w.heap.size w).alloc (Nat.le_refl _) (Obj.cells #[.int .i64 p,.int .i64 m,.int .i64 b,.int .i64 o,.int .i64 s,.int .i64 v] 66)).trans (hb1.mono (by simp));have hlt2:w.heap.size<w1.heap.size:=by have:=hb1.size;omega
 clear hb1
 go_wp2_with fail
 refine (refCube_any _ _ _).mono ?_;rintro e w2 ⟨rfl,hb2⟩;rw[hz];obtain⟨hc2,hf2⟩:=bcell hb2;have hB2:=hB.trans (hb2.mono (by omega));clear hb2 hB;go_wp2;go_ret;exact⟨rfl,hB2⟩
theorem refRule_any (p m b o s v:Int)(w:World):
 Calls Tryz.prog 20 #[.agg #[.int .i64 p,.int .i64 m,.int .i64 b,.int .i64 o,.int .i64 s,.int .i64 v]] w fun e w'=>e=.returned (.int .i64 (ruN p m b o s v))∧Below w.heap.size w w':=by
 cases h1:ruP p o
 ·have e:ruN p m b o s v=1:=by simp[ruN,ruIn,h1]
  rw[e];exact refRule_prio p m b o s v w h1
 cases h2:rngB s v
 ·have e:ruN p m b o s v=1:=by simp[ruN,ruIn,h2]
  rw[e];exact refRule_set p m b o s v w h1 h2
 cases h3:okB m b
 ·have e:ruN p m b o s v=refN m b:=by simp[ruN,ruIn,h1,h2,h3]
  rw[e];exact refRule_cube p m b o s v w h1 h2 h3
 exact refRule_end p m b o s v w h1 h2 h3 _ (by simp[ruN,ruIn,h1,h2,h3])
def OffQ (Qp:Nat→Prop)(vs:List SlT):Prop:=∀x∈vs,∀b,Qp b→offB x b
theorem OffQ.set {Qp:Nat→Prop}{vs:List SlT}(h:OffQ Qp vs){i:Nat}{x:SlT}(hx:∀b,Qp b→offB x b):OffQ Qp (vs.set i x):=fun y hy b hb=>by
 rcases List.mem_or_eq_of_mem_set hy with h1 | h1
 ·exact h y h1 b hb
 rw[h1];exact hx b hb
theorem wpList_append_tabs2 (w:World){ops:Array Oper}{rest:List Oper}{o:Oper}{a:Act}{Q:Exit→Act→World→Prop}(hgd:o.guard=none)(s x:Operand)(t:TypeId)
 (ho:o.op=.call { callee:=.builtin .append,args:=#[s,x],argTypes:=#[t,t] }) (ht:Tryz.prog.underlying t=some (.slice 62))
 (hs:a.eval s=.slice none 0 0) (u:Value) (hx:a.eval x=u) (Ts:List (List Ru)) (w0:World) (hM:TS w0 u Ts) (hb:Below w0.heap.size w0 w) (h100:Ts.length≤1000000)
 (h:∀v' w' vs,TR 62 w' w0.heap.size w.heap.size v' vs Ts→w.grownBy w' none→GS slE w0 u vs→wpList Tryz.prog ops Q rest (a.put o.dst v') w'):wpList Tryz.prog ops Q (o :: rest) a w:=by
 obtain⟨i0,hi,hz0,hz1,hz2⟩:=info_parts ta_info;obtain⟨vs,g1,g2,g3⟩:=ts_sl hM;refine wpList_append_GS (E:=slE) w hgd s x t 62 ho ht i0 _ 24 hi hz0 hz1 hz2 ta_zero w.heap.size _ hs [] (World.ownsRow_nil _ _ _ _) u hx vs (g1.later hb) (by unfold maxLen;simp[g2];omega) (by simp[g2];omega) (Nat.le_refl _) ?_;intro v' w' h1 h2;exact h v' w' vs (tr_copy g2 g3 hb h2 hb.size h1) h2 g1
theorem refApply_far (S:Int)(ao:Option Addr)(n cap:Nat)(ao2:Option Addr)(n2 cap2:Nat)(ao3:Option Addr)(n3 cap3:Nat)(a4:Option Addr)(n4 c4:Nat)(Ls:List ((Int×Int)×(Int×Int)))(Hs:List (ByteArray×(Int×Int)))(Ts:List (List Ru))(l:List Op8)(w0 w:World)
 (hT:TS w0 (.slice ao3 n3 cap3) Ts) (hw0:Below w0.heap.size w0 w) (hl:GS opE w (.slice a4 n4 c4) l) (hN:ntN S Ls Hs Ts=0) (Qp:Nat→Prop) (hQ:∀b,Qp b→b<w.heap.size∧∀vs0,GS slE w0 (.slice ao3 n3 cap3) vs0→∀x∈vs0,offB x b):
 Calls Tryz.prog 5 #[.agg #[.int .i64 S,.slice ao n cap,.slice ao2 n2 cap2,.slice ao3 n3 cap3],.slice a4 n4 c4] w fun e w'=>∃b3 k3 d3,e=.returned (.tuple #[.agg #[.int .i64 (nvS (cgN S Ls Hs Ts l) S),nvV (cgN S Ls Hs Ts l) (.slice ao n cap),nvV (cgN S Ls Hs Ts l) (.slice ao2 n2 cap2),.slice b3 k3 d3],.int .i64 (cgN S Ls Hs Ts l)])∧(∃vs,TR 62 w' w0.heap.size w.heap.size (.slice b3 k3 d3) vs (nvL (cgN S Ls Hs Ts l) (caT Ts l))∧OffQ Qp vs)∧Below w.heap.size w w':=by
 have HQ:Hid (∀b,Qp b→b<w.heap.size∧∀vs0,GS slE w0 (.slice ao3 n3 cap3) vs0→∀x∈vs0,offB x b):=hQ;clear hQ;have HW0:Hid (Below w0.heap.size w0 w):=hw0;have hb0:Below w.heap.size w ((w.alloc (Obj.cells #[.int .i64 S,.slice ao n cap,.slice ao2 n2 cap2,.slice ao3 n3 cap3] 28)).alloc (Obj.cells #[.int .i64 0,.slice none 0 0,.slice none 0 0,.slice none 0 0] 28)):=((Below.refl _ _).alloc (Nat.le_refl _) _).alloc (by simp) _;have HAB0:=ab_new w S (.slice ao n cap) (.slice ao2 n2 cap2) (.slice ao3 n3 cap3) 28;have HB0:Hid (Below w.heap.size w ((w.alloc (Obj.cells #[.int .i64 S,.slice ao n cap,.slice ao2 n2 cap2,.slice ao3 n3 cap3] 28)).alloc (Obj.cells #[.int .i64 0,.slice none 0 0,.slice none 0 0,.slice none 0 0] 28))):=hb0;have HT0:=hT;obtain⟨_,_,_,e,hn,hn2,hn3,ha⟩:=hl.form;cases e;have HN:Hid (l.length=n4):=hn;have HA:Hid (0<n4→∃g o,a4=some ⟨g,o,none⟩∧GAt opE w g o l∧c4≤maxLen):=ha;have HNT:Hid (ntN S Ls Hs Ts=0):=hN;obtain⟨t1,t2,t3⟩:=nt_0 hN;have HOK:Hid (tsOk Ts):=ok_ts t3;have HSL:Hid ((Ts.length:Int)=S):=t2;have hS6:1≤S∧S≤1000:=by
  unfold tpN at t1;cases e:(decide (1≤S)&&decide (S≤6))
  ·rw[e] at t1;simp at t1
  simp at e;omega
 have n63:n4≤9223372036854775807:=by unfold maxLen at hn2;omega
 have HTL:Hid (Ts.length≤1000000):=by
  show _≤_;omega
 clear hT hl hN hn hn2 ha hb0 t1 t2 t3 hw0;obtain⟨X,hX⟩:∃X,X=cgN S Ls Hs Ts l:=⟨_,rfl⟩;have HX:Hid (X=if 200<l.length then 4 else caN S Ts l):=by
  show _=_;rw[hX,cgN,if_pos HNT.out]
 rw[←hX];clear hX;by_cases h200:200<n4
 ·have HX4:Hid (X=4):=by
   show _=_;rw[HX.out,if_pos (by rw[HN.out];exact h200)]
  obtain⟨q0,q1,q2,q3⟩:=HAB0.r;have rf:=HAB0.f;have f0:=rf 0;have f1:=rf 1;have f2:=rf 2;have f3:=rf 3;have e4:decide ((200:Int)<(n4:Int))=true:=by simp;omega
  clear rf;go_enter Tryz.func5,Tryz.ntmps5;go_wp2;refine bodyPost_ret (v:=.tuple #[.agg #[.int .i64 0,.slice none 0 0,.slice none 0 0,.slice none 0 0],.int .i64 4]) (by simp[results,Tryz.results5,go_sem, *]) rfl ?_;rw[HX4.out];exact⟨_,_,_,rfl,⟨[],tr_nil _ _ _ _,fun x h=>absurd h (by simp)⟩,HB0.out⟩
 have HXC:Hid (X=caN S Ts l):=by
  show _=_;rw[HX.out,if_neg (by rw[HN.out];exact h200)]
 have e4:decide ((200:Int)<(n4:Int))=false:=by simp;omega
 have HSZ:Hid (((w.alloc (Obj.cells #[.int .i64 S,.slice ao n cap,.slice ao2 n2 cap2,.slice ao3 n3 cap3] 28)).alloc (Obj.cells #[.int .i64 0,.slice none 0 0,.slice none 0 0,.slice none 0 0] 28)).heap.size=w.heap.size+2):=by
  show _=_;simp
 go_enter Tryz.func5,Tryz.ntmps5
 go_wp2_with (at_builtin;refine wpList_append_tabs2 _ rfl _ _ 26 rfl Tryz.underlying26 rfl _ rfl Ts w0 HT0 (HW0.out.trans (HB0.out.mono HW0.out.size)) HTL.out ?_)
 intro v' w1 vs hTR hg hgs;have HVO1:Hid (OffQ Qp vs):=fun x hx b hb=>(HQ.out b hb).2 vs hgs x hx
 clear hgs
 replace hTR:TR 62 w1 w0.heap.size (w.heap.size+2) v' vs Ts:=by first | exact hTR | (have h:=hTR;simp only[World.size_alloc] at h;exact h) | (have h:=hTR;rw[HSZ.out] at h;exact h)
 have HAB1:Hid (AB w1 w.heap.size S (.slice ao n cap) (.slice ao2 n2 cap2) (.slice ao3 n3 cap3)):=HAB0.grown hg (fun g hg=>by cases hg);have HB1:Hid (Below w.heap.size w w1):=HB0.out.grown hg HB0.out.size (fun g hg=>by cases hg);obtain⟨g,cap',rfl⟩:∃g cap',v'=.slice (some ⟨g,0,none⟩) Ts.length cap':=by
  have hlv:=hTR.lv;have hts:=HSL.out
  rcases hTR.ov.2 with ⟨_,h0⟩ | ⟨g,cap',_,rfl,_⟩
  ·omega
  exact⟨g,cap',by rw[hlv]⟩
 have HTR1:Hid (TR 62 w1 w0.heap.size (w.heap.size+2) (.slice (some ⟨g,0,none⟩) Ts.length cap') vs Ts):=hTR;obtain⟨N,hNN⟩:∃N,N=Ts.length:=⟨_,rfl⟩;have HNN:Hid (N=Ts.length):=hNN;have HNS:Hid ((N:Int)=S):=by
  show _=_;rw[hNN];exact HSL.out
 rw[←hNN];rw[←hNN] at HTR1;clear hTR hg HAB0 HB0 HSZ HT0 hNN;go_wp2
 go_loopw [7] (fun i wr=>∃(k:Nat) (vs:List SlT),k≤n4∧i=.int .i64 k∧caN S Ts (l.take k)=0∧TR 62 wr w0.heap.size (w.heap.size+2) (.slice (some ⟨g,0,none⟩) N cap') vs (caT Ts (l.take k))∧OffQ Qp vs∧AB wr w.heap.size S (.slice ao n cap) (.slice ao2 n2 cap2) (.slice ao3 n3 cap3)∧Below w.heap.size w wr) (fun i _=>n4-(intOf i).toNat)
 case atStart=>exact⟨0,vs,by omega,rfl,rfl,HTR1.out,HVO1.out,HAB1.out,HB1.out⟩
 case round =>
  obtain⟨k,vs,hk,rfl,hca,hTR,hVO,hAB,hB⟩:=hrel;have HVO:Hid (OffQ Qp vs):=hVO;clear hVO;clear HTR1 HAB1 HB1;have HB:Hid (Below w.heap.size w wr):=hB;have HCA:Hid (caN S Ts (l.take k)=0):=hca;have HAB:Hid (AB wr w.heap.size S (.slice ao n cap) (.slice ao2 n2 cap2) (.slice ao3 n3 cap3)):=hAB;obtain⟨Tk,hTk⟩:∃T,T=caT Ts (l.take k):=⟨_,rfl⟩;have HTK:Hid (Tk=caT Ts (l.take k)):=hTk;rw[←hTk] at hTR;have HTR:Hid (TR 62 wr w0.heap.size (w.heap.size+2) (.slice (some ⟨g,0,none⟩) N cap') vs Tk):=hTR;have HTkL:Hid (Tk.length=N):=by
   show _=_;rw[hTk,ca_len,HNN.out]
  have HOKk:Hid (tsOk Tk):=by
   rw[hTk];exact ca_right HOK.out hca
  clear hca hTR hTk;by_cases hlt:k<n4
  ·obtain⟨gl,ol,hao,hc,_⟩:=HA.out (by omega);subst hao;obtain⟨y0,ya,p,m,b,q,s,v,hkl,hLk,r0,r1,r2,r3,r4,r5,r6,r7⟩:=op_at (hc.later hB) HN.out hlt;have HLK:Hid (l[k]=⟨y0,ya,⟨p,m,b,q,s,v⟩⟩):=hLk;have HCAT:Hid (caN S Ts l=caN S Tk (⟨y0,ya,⟨p,m,b,q,s,v⟩⟩ :: l.drop (k+1))):=by
    show _=_;rw[HTK.out,←hLk,ca_split hkl HCA.out]
   have hltl:gl<wr.heap.size:=World.block_lt_of_cell? _ _ r0;obtain⟨q0,q1,q2,q3⟩:=hAB.r;obtain⟨n0,_,_,_⟩:=hAB.n;have hltB:=hAB.lt;have hlt0:w.heap.size<wr.heap.size:=by omega
   have f0:=hAB.f 0;have f1:=hAB.f 1;have f2:=hAB.f 2;have f3:=hAB.f 3;have kb0:(0:Int)≤(k:Int):=by omega
   have kb1:(k:Int)<(n4:Int):=by omega
   clear hLk hB hc hAB;cases hsw:swB S y0
   ·have HX1:Hid (X=1):=by
     show _=_;rw[HXC.out,HCAT.out,caN,hsw];rfl
    by_cases hy:y0<1
    ·have e5:decide (y0<1)=true:=by simpa using hy
     go_wp2;refine bodyPost_ret (v:=.tuple #[.agg #[.int .i64 0,.slice none 0 0,.slice none 0 0,.slice none 0 0],.int .i64 1]) (by simp[results,Tryz.results5,go_sem, *]) rfl ?_;rw[HX1.out];exact⟨_,_,_,by rw[nvS,nvV,nvV,if_neg (by decide),if_neg (by decide),if_neg (by decide)],⟨[],by rw[nvL,if_neg (by decide)];exact⟨tr_nil _ _ _ _,fun x h=>absurd h (by simp)⟩⟩,(below_pn4 HB.out (w.heap.size+1) (by omega) _ _ _ _).alloc (Nat.le_trans HB.out.size (grown_put4 wr (w.heap.size+1) _ _ _ _).size) _⟩
    have e5:decide (y0<1)=false:=by simpa using hy
    have e6:decide (S<y0)=true:=by
     simp only[swB,Bool.and_eq_false_iff,decide_eq_false_iff_not] at hsw;simp;omega
    go_wp2;refine bodyPost_ret (v:=.tuple #[.agg #[.int .i64 0,.slice none 0 0,.slice none 0 0,.slice none 0 0],.int .i64 1]) (by simp[results,Tryz.results5,go_sem, *]) rfl ?_;rw[HX1.out];exact⟨_,_,_,by rw[nvS,nvV,nvV,if_neg (by decide),if_neg (by decide),if_neg (by decide)],⟨[],by rw[nvL,if_neg (by decide)];exact⟨tr_nil _ _ _ _,fun x h=>absurd h (by simp)⟩⟩,(below_pn4 HB.out (w.heap.size+1) (by omega) _ _ _ _).alloc (Nat.le_trans HB.out.size (grown_put4 wr (w.heap.size+1) _ _ _ _).size) _⟩
   have hw:=sw_of.1 hsw;obtain⟨i,hi⟩:∃i:Nat,y0=(i:Int)+1:=⟨(y0-1).toNat,by omega⟩;have HI:Hid (y0=(i:Int)+1):=hi;have hiN:i<N:=by have:=HNS.out;omega
   have e5:decide (y0<1)=false:=by simp;omega
   have e6:decide (S<y0)=false:=by simp;omega
   have iw:IntKind.i64.wrap (y0-1)=(i:Int):=by rw[IntKind.wrap_i64];omega
   have ib0:(0:Int)≤(i:Int):=by omega
   have ib1:(i:Int)<(N:Int):=by omega
   have hBA:Below wr.heap.size wr (wr.alloc (Obj.cells #[.int .i64 y0,.bool ya,.int .i64 p,.int .i64 m,.int .i64 b,.int .i64 q,.int .i64 s,.int .i64 v] 68)):=(Below.refl _ _).alloc (Nat.le_refl _) _;have HBA:Hid (Below wr.heap.size wr (wr.alloc (Obj.cells #[.int .i64 y0,.bool ya,.int .i64 p,.int .i64 m,.int .i64 b,.int .i64 q,.int .i64 s,.int .i64 v] 68))):=hBA;have HOB:=op_new wr y0 ya p m b q s v 68;have HTA:Hid (taT Tk y0=Tk.getD i []):=by
    show _=_;rw[taT]
    congr 1
    omega
   have HTO:Hid (tbN (taT Tk y0)=0):=HOKk.out _ (ta_mem (by omega) (by rw[HTkL.out];have:=HNS.out;omega));have HXI:Hid (X=if doN (taT Tk y0) ya ⟨p,m,b,q,s,v⟩=0 then caN S (Tk.set i (doL (taT Tk y0) ya ⟨p,m,b,q,s,v⟩)) (l.drop (k+1)) else doN (taT Tk y0) ya ⟨p,m,b,q,s,v⟩):=by
    show _=_;have e7:(y0-1).toNat=i:=by have:=HI.out;omega
    rw[HXC.out,HCAT.out,caN,hsw,if_pos rfl,e7]
   clear hBA hsw hw hi
   go_wp2_with fail
   refine (refRule_any _ _ _ _ _ _ _).mono ?_;rintro e w2 ⟨rfl,hb2⟩;obtain⟨RN,hRN⟩:∃r,r=ruN p m b q s v:=⟨_,rfl⟩;have HRN:Hid (RN=ruN p m b q s v):=hRN;rw[←hRN];have HBr:Hid (Below wr.heap.size wr w2):=HBA.out.trans (hb2.mono HBA.out.size);have HB2:Hid (Below w.heap.size w w2):=HB.out.trans (HBr.out.mono HB.out.size);have HAB2:Hid (AB w2 w.heap.size S (.slice ao n cap) (.slice ao2 n2 cap2) (.slice ao3 n3 cap3)):=HAB.out.later HBr.out;have HTR2:Hid (TR 62 w2 w0.heap.size (w.heap.size+2) (.slice (some ⟨g,0,none⟩) N cap') vs Tk):=HTR.out.later HBr.out;have HOB2:Hid (VAt w2 wr.heap.size 0 (opE.c ⟨y0,ya,⟨p,m,b,q,s,v⟩⟩)):=HOB.later hb2;have hltw:wr.heap.size<w2.heap.size:=World.block_lt_of_cell? _ _ (op_cells HOB2.out).1;clear hb2 hRN HBA HOB q0 q1 q2 q3 f0 f1 f2 f3 n0 r0 r1 r2 r3 r4 r5 r6 r7;obtain⟨q0,q1,q2,q3⟩:=HAB2.out.r;have hltB2:=HAB2.out.lt;have hlt02:w.heap.size<w2.heap.size:=by omega
   have f0:=HAB2.out.f 0;have f1:=HAB2.out.f 1;have f2:=HAB2.out.f 2;have f3:=HAB2.out.f 3;by_cases hR:RN=0
   ·subst hR;have HDN:Hid (doN (taT Tk y0) ya ⟨p,m,b,q,s,v⟩=chN (taT Tk y0) ya ⟨p,m,b,q,s,v⟩∧doL (taT Tk y0) ya ⟨p,m,b,q,s,v⟩=chL (taT Tk y0) ya ⟨p,m,b,q,s,v⟩):=do_ch2 HTO.out HRN.out.symm;obtain⟨x,hx1,hx2,hx3,hx0,hx4,hx5⟩:=HTR2.out.at (i:=i) (by rw[HTkL.out];exact hiN);clear hx0;obtain⟨a5,n5,c5⟩:=x;have HSR:Hid (SR w2 (.slice a5 n5 c5) (taT Tk y0)):=by
     rw[HTA.out];exact hx2
    have hx1':w2.cell? ⟨g,i,none⟩=some (.slice a5 n5 c5):=hx1;have HDO:Hid (∀W,Below w2.heap.size w2 W→Calls Tryz.prog 21 #[.slice a5 n5 c5,.bool ya,.agg #[.int .i64 p,.int .i64 m,.int .i64 b,.int .i64 q,.int .i64 s,.int .i64 v]] W fun e w'=>∃u,e=.returned (.tuple #[u,.int .i64 (chN (taT Tk y0) ya ⟨p,m,b,q,s,v⟩)])∧NR w' w2.heap.size u (chL (taT Tk y0) ya ⟨p,m,b,q,s,v⟩)∧Below w2.heap.size w2 w'):=fun W hW=>by
     refine (refDo_any a5 n5 c5 ya p m b q s v _ W (HSR.out.later hW) HTO.out).mono ?_;rintro e w' ⟨u,h1,h2,h3⟩;exact⟨u,h1,h2.mono hW.size,hW.trans (h3.mono hW.size)⟩
    have HMK:Hid (∀W,Below w2.heap.size w2 W→Below w2.heap.size w2 W∧W.cell? ⟨g,i,none⟩=some (.slice a5 n5 c5)∧W.cell? ⟨wr.heap.size,0,none⟩=some (.int .i64 y0)∧W.cell? ⟨wr.heap.size,1,none⟩=some (.bool ya)∧W.cell? ⟨wr.heap.size,2,none⟩=some (.int .i64 p)∧W.cell? ⟨wr.heap.size,3,none⟩=some (.int .i64 m)∧W.cell? ⟨wr.heap.size,4,none⟩=some (.int .i64 b)∧W.cell? ⟨wr.heap.size,5,none⟩=some (.int .i64 q)∧W.cell? ⟨wr.heap.size,6,none⟩=some (.int .i64 s)∧W.cell? ⟨wr.heap.size,7,none⟩=some (.int .i64 v)):=by
     intro W hW;obtain⟨c0,c1,c2,c3,c4,c5,c6,c7⟩:=op_cells (HOB2.out.later hW);simp only[Nat.zero_add] at c0 c1 c2 c3 c4 c5 c6 c7;exact⟨hW,cell_later hW hx1',c0,c1,c2,c3,c4,c5,c6,c7⟩
    obtain⟨_,_,d0,d1,d2,d3,d4,d5,d6,d7⟩:=HMK.out w2 (Below.refl _ _);go_upto_region 14 with fail;clear q0 q1 q2 q3 f0 f1 f2 f3 hx3 hx4 hltB2 hlt02
    go_cut [9,10] from 19 to 71 (fun e t w'=>e=.int .i64 (chN (taT Tk y0) ya ⟨p,m,b,q,s,v⟩)∧NR w' w2.heap.size t (chL (taT Tk y0) ya ⟨p,m,b,q,s,v⟩)∧Below w2.heap.size w2 w')
    case first =>
     clear HXI HCAT HDN HTO HTA HLK HCA HTK HTR HTR2 HAB HAB2 HB HB2 HOB2 HSR HBr hx1 hx2 hx5
     go_region_held3 (fun W=>Below w2.heap.size w2 W∧W.cell? ⟨g,i,none⟩=some (.slice a5 n5 c5)∧W.cell? ⟨wr.heap.size,0,none⟩=some (.int .i64 y0)∧W.cell? ⟨wr.heap.size,1,none⟩=some (.bool ya)∧W.cell? ⟨wr.heap.size,2,none⟩=some (.int .i64 p)∧W.cell? ⟨wr.heap.size,3,none⟩=some (.int .i64 m)∧W.cell? ⟨wr.heap.size,4,none⟩=some (.int .i64 b)∧W.cell? ⟨wr.heap.size,5,none⟩=some (.int .i64 q)∧W.cell? ⟨wr.heap.size,6,none⟩=some (.int .i64 s)∧W.cell? ⟨wr.heap.size,7,none⟩=some (.int .i64 v))
      (first | assumption | exact HMK.out _ (Below.drew (Below.refl _ _)) | exact HMK.out _ HBX.out)
      (first | (go_at_call 21;refine (HDO.out _ (by first | exact Below.drew (Below.refl _ _) | exact Below.refl _ _)).mono ?_;rintro e w' ⟨u,rfl,hG,hb⟩;have HBX:Hid (Below w2.heap.size w2 w'):=hb;have HGX:Hid (NR w' w2.heap.size u (chL (taT Tk y0) ya ⟨p,m,b,q,s,v⟩)):=hG;clear hb hG))
     all_goals (go_wp2_with fail;go_meet)
     all_goals exact⟨rfl,HGX.out,HBX.out⟩
    case rest =>
     obtain⟨rfl,hG,hb3⟩:=hcut;have HB3:Hid (Below w.heap.size w wc):=HB2.out.trans (hb3.mono HB2.out.size);have HAB3:Hid (AB wc w.heap.size S (.slice ao n cap) (.slice ao2 n2 cap2) (.slice ao3 n3 cap3)):=HAB2.out.later hb3;have HTR3:Hid (TR 62 wc w0.heap.size (w.heap.size+2) (.slice (some ⟨g,0,none⟩) N cap') vs Tk):=HTR2.out.later hb3;obtain⟨_,_,d0,d1,d2,d3,d4,d5,d6,d7⟩:=HMK.out wc hb3;have hltw3:wr.heap.size<wc.heap.size:=World.block_lt_of_cell? _ _ d0;obtain⟨⟨a6,n6,c6⟩,hx,hoff⟩:=hG.sl
     replace hx:_=Value.slice a6 n6 c6:=hx
     subst hx;have HG3:Hid (SR wc (.slice a6 n6 c6) (chL (taT Tk y0) ya ⟨p,m,b,q,s,v⟩)):=hG.sr;have HOFF:Hid (∀b,b<w2.heap.size→offB (a6,n6,c6) b):=hoff;obtain⟨C,hC⟩:∃c,c=chN (taT Tk y0) ya ⟨p,m,b,q,s,v⟩:=⟨_,rfl⟩;have HC:Hid (C=chN (taT Tk y0) ya ⟨p,m,b,q,s,v⟩):=hC;rw[←hC];clear hb3 hG hC hoff HMK HDO;obtain⟨q0,q1,q2,q3⟩:=HAB3.out.r;have hltB3:=HAB3.out.lt;have hlt03:w.heap.size<wc.heap.size:=by omega
     have f0:=HAB3.out.f 0;have f1:=HAB3.out.f 1;have f2:=HAB3.out.f 2;have f3:=HAB3.out.f 3;by_cases h0:C=0
     ·subst h0;obtain⟨yx,hy1,hy2,hy3,hy0,hy4,hy5⟩:=HTR3.out.at (i:=i) (by rw[HTkL.out];exact hiN);clear hy0 hy2;have HTR4:Hid (TR 62 (wc.setCell ⟨g,i,none⟩ (.slice a6 n6 c6)) w0.heap.size (w.heap.size+2) (.slice (some ⟨g,0,none⟩) N cap') (vs.set i (a6,n6,c6)) (caT Ts (l.take (k+1)))):=by
       have:=HTR3.out.put (i:=i) (x:=(a6,n6,c6)) HG3.out (HOFF.out g hx5) (fun b h1 h2=>HOFF.out b (by omega));rw[(cs_take hkl HCA.out).2,←HTK.out,HLK.out,caT,caT,HDN.out.2];have e7:(y0-1).toNat=i:=by have:=HI.out;omega
       rw[e7];exact this
      have HCA4:Hid (caN S Ts (l.take (k+1))=0):=by
       show _=_;rw[(cs_take hkl HCA.out).1,←HTK.out,HLK.out,caN];show (if swB S y0=true then (if doN (taT Tk y0) ya ⟨p,m,b,q,s,v⟩=0 then _ else _) else _)=_;rw[if_pos (sw_of.2 ⟨by have:=HI.out;omega,by have:=HI.out;have:=HNS.out;omega⟩),HDN.out.1,←HC.out,if_pos rfl,caN]
      have HAB4:Hid (AB (wc.setCell ⟨g,i,none⟩ (.slice a6 n6 c6)) w.heap.size S (.slice ao n cap) (.slice ao2 n2 cap2) (.slice ao3 n3 cap3)):=HAB3.out.grown (grown_set wc g i (.slice a6 n6 c6)) (fun b hb=>by cases hb;exact hy4);have HB4:Hid (Below w.heap.size w (wc.setCell ⟨g,i,none⟩ (.slice a6 n6 c6))):=HB3.out.setCell (p:=⟨g,i,none⟩) (show w.heap.size≤g by omega) _;go_wp2;go_roundw
      case rel=>exact⟨k+1,vs.set i (a6,n6,c6),by omega,by go_num,HCA4.out,HTR4.out,HVO.out.set (fun b hb=>HOFF.out b (by have:=(HQ.out b hb).1;omega)),HAB4.out,HB4.out⟩
      case measure=>simp[intOf];omega
     have HNZ:Hid (C≠0):=h0;have HXC2:Hid (X=C):=by
      show _=_;rw[HXI.out,HDN.out.1,←HC.out,if_neg h0]
     have e9:(C==0)=false:=by simpa using h0
     have e10:(C != 0)=true:=by rw[bne,e9];rfl
     clear h0;go_wp2;refine bodyPost_ret (v:=.tuple #[.agg #[.int .i64 0,.slice none 0 0,.slice none 0 0,.slice none 0 0],.int .i64 C]) (by simp[results,Tryz.results5,go_sem, *]) rfl ?_;rw[HXC2.out];exact⟨_,_,_,by rw[nvS,nvV,nvV,if_neg (HNZ.out),if_neg (HNZ.out),if_neg (HNZ.out)],⟨[],by rw[nvL,if_neg (HNZ.out)];exact⟨tr_nil _ _ _ _,fun x h=>absurd h (by simp)⟩⟩,below_pn4 HB3.out (w.heap.size+1) (by omega) _ _ _ _⟩
   have HNZ:Hid (RN≠0):=hR;have HXC2:Hid (X=RN):=by
    show _=_;have e8:doN (taT Tk y0) ya ⟨p,m,b,q,s,v⟩=RN:=(do_ru2 (r:=⟨p,m,b,q,s,v⟩) HTO.out (show ruN p m b q s v≠0 by rw[←HRN.out];exact hR)).trans HRN.out.symm;rw[HXI.out,e8,if_neg hR]
   have e9:(RN==0)=false:=by simpa using hR
   have e10:(RN != 0)=true:=by rw[bne,e9];rfl
   clear hR;go_wp2;refine bodyPost_ret (v:=.tuple #[.agg #[.int .i64 0,.slice none 0 0,.slice none 0 0,.slice none 0 0],.int .i64 RN]) (by simp[results,Tryz.results5,go_sem, *]) rfl ?_;rw[HXC2.out];exact⟨_,_,_,by rw[nvS,nvV,nvV,if_neg (HNZ.out),if_neg (HNZ.out),if_neg (HNZ.out)],⟨[],by rw[nvL,if_neg (HNZ.out)];exact⟨tr_nil _ _ _ _,fun x h=>absurd h (by simp)⟩⟩,below_pn4 HB2.out (w.heap.size+1) (by omega) _ _ _ _⟩
  obtain rfl:k=n4:=by omega
  have HX0:Hid (X=0):=by
   show _=_;have:=HCA.out;rw[←HN.out,List.take_length] at this;rw[HXC.out,this]
  have HTE:Hid (Tk=caT Ts l):=by
   show _=_;rw[HTK.out,←HN.out,List.take_length]
  obtain⟨q0,q1,q2,q3⟩:=hAB.r;obtain⟨n0,n1,n2_,n3_⟩:=hAB.n;have hltB:=hAB.lt;have hlt0:w.heap.size<wr.heap.size:=by omega
  have f0:=hAB.f 0;have f1:=hAB.f 1;have f2:=hAB.f 2;have f3:=hAB.f 3;clear hB hAB;go_wp2;refine bodyPost_ret (v:=.tuple #[.agg #[.int .i64 S,.slice ao n cap,.slice ao2 n2 cap2,.slice (some ⟨g,0,none⟩) N cap'],.int .i64 0]) (by simp[results,Tryz.results5,go_sem, *]) rfl ?_;rw[HX0.out];have hBE:=below_pn4 HB.out (w.heap.size+1) (by omega) (.int .i64 S) (.slice ao n cap) (.slice ao2 n2 cap2) (.slice (some ⟨g,0,none⟩) N cap');have hTE:=(HTR.out.grown (grown_put4 wr (w.heap.size+1) (.int .i64 S) (.slice ao n cap) (.slice ao2 n2 cap2) (.slice (some ⟨g,0,none⟩) N cap')) (Nat.le_trans HW0.out.size (by omega)) (by omega)).mono (B':=w.heap.size) (by omega);rw[HTE.out] at hTE;exact⟨_,_,_,rfl,⟨vs,hTE,HVO.out⟩,hBE⟩
theorem refApply_own (S:Int)(ao:Option Addr)(n cap:Nat)(ao2:Option Addr)(n2 cap2:Nat)(ao3:Option Addr)(n3 cap3:Nat)(a4:Option Addr)(n4 c4:Nat)(Ls:List ((Int×Int)×(Int×Int)))(Hs:List (ByteArray×(Int×Int)))(Ts:List (List Ru))(l:List Op8)(w0 w:World)
 (hT:TS w0 (.slice ao3 n3 cap3) Ts) (hw0:Below w0.heap.size w0 w) (hl:GS opE w (.slice a4 n4 c4) l) (hN:ntN S Ls Hs Ts=0):
 Calls Tryz.prog 5 #[.agg #[.int .i64 S,.slice ao n cap,.slice ao2 n2 cap2,.slice ao3 n3 cap3],.slice a4 n4 c4] w fun e w'=>∃b3 k3 d3,e=.returned (.tuple #[.agg #[.int .i64 (nvS (cgN S Ls Hs Ts l) S),nvV (cgN S Ls Hs Ts l) (.slice ao n cap),nvV (cgN S Ls Hs Ts l) (.slice ao2 n2 cap2),.slice b3 k3 d3],.int .i64 (cgN S Ls Hs Ts l)])∧(∃vs,TR 62 w' w0.heap.size w.heap.size (.slice b3 k3 d3) vs (nvL (cgN S Ls Hs Ts l) (caT Ts l)))∧Below w.heap.size w w':=by
 refine (refApply_far S ao n cap ao2 n2 cap2 ao3 n3 cap3 a4 n4 c4 Ls Hs Ts l w0 w hT hw0 hl hN (fun _=>False) (fun b h=>h.elim)).mono ?_;rintro e w' ⟨b3,k3,d3,h1,⟨vs,h2,_⟩,h3⟩;exact⟨b3,k3,d3,h1,⟨vs,h2⟩,h3⟩
theorem byte_lst (s:ByteArray):s.toList=s.data.toList:=by rw[Lib.toList_data]
theorem size_lst (s:ByteArray):s.data.toList.length=s.size:=by simp
def ltB (c:UInt8):Bool:=decide (97≤c.toNat)&&decide (c.toNat≤122)
theorem lt_at (s:ByteArray)(k:Nat)(h:k<s.size):s.data.toList[k]'(by simpa using h)=s[k]:=by simp[ByteArray.getElem_eq_getElem_data]
theorem rnm_eq (s:ByteArray):nmB s=(decide (1≤s.size)&&(decide (s.size≤6)&&s.data.toList.all ltB)):=rfl
theorem rname_any (s:ByteArray)(w:World):
 Calls Tryz.prog 40 #[.string s] w fun e w'=>e=.returned (.bool (nmB s))∧w'=w:=by
 by_cases h0:s.size=0
 ·have e0:s.toList.isEmpty=true:=by
   rw[byte_lst,List.isEmpty_iff,←List.length_eq_zero_iff,size_lst,h0]
  have HR:Hid (nmB s=false):=by
   show _=_;rw[rnm_eq,h0];rfl
  rw[HR.out];go_enter Tryz.func40,Tryz.ntmps40;go_wp2;go_ret;exact⟨rfl,rfl⟩
 have e0:s.toList.isEmpty=false:=by
  rw[byte_lst,←Bool.not_eq_true,List.isEmpty_iff,←List.length_eq_zero_iff,size_lst];exact h0
 by_cases h6:6<s.size
 ·have e6:decide ((6:Int)<(s.size:Int))=true:=by simp;omega
  have HR:Hid (nmB s=false):=by
   show _=_;have:¬s.size≤6:=by omega
   rw[rnm_eq];simp[this]
  rw[HR.out];go_enter Tryz.func40,Tryz.ntmps40;go_wp2;go_ret;exact⟨rfl,rfl⟩
 have e6:decide ((6:Int)<(s.size:Int))=false:=by simp;omega
 have HR:Hid (nmB s=s.data.toList.all ltB):=by
  show _=_;have h1:1≤s.size:=by omega
  have h2:s.size≤6:=by omega
  rw[rnm_eq];simp[h1,h2]
 obtain⟨R,hR⟩:∃R,R=nmB s:=⟨_,rfl⟩;have HRR:Hid (R=nmB s):=hR;rw[←hR];clear hR;go_enter Tryz.func40,Tryz.ntmps40;go_wp2
 go_loopw [3] (fun i wr=>∃k:Nat,k≤s.size∧i=.int .i64 k∧(s.data.toList.take k).all ltB=true∧wr=w) (fun i _=>s.size-(intOf i).toNat)
 case atStart=>exact⟨0,by omega,rfl,by simp,rfl⟩
 case round =>
  obtain⟨k,hk,rfl,hall,rfl⟩:=hrel;have HALL:Hid ((s.data.toList.take k).all ltB=true):=hall;clear hall;by_cases hlt:k<s.size
  ·have HNX:Hid (ltB s[k]=true→(s.data.toList.take (k+1)).all ltB=true):=fun hy=>by
    have hk2:k<s.data.toList.length:=by simpa using hlt
    rw[List.take_succ_eq_append_getElem hk2,List.all_append,HALL.out,lt_at s k hlt];simp[hy]
   have HNO:Hid (ltB s[k]=false→R=false):=fun hn=>by
    rw[HRR.out,HR.out];cases ha:s.data.toList.all ltB
    ·rfl
    have hk2:k<s.data.toList.length:=by simpa using hlt
    have:=List.all_eq_true.1 ha _ (List.getElem_mem hk2);rw[lt_at s k hlt,hn] at this;cases this
   by_cases g1:s[k].toNat<97
   ·have d1:decide ((s[k].toNat:Int)<97)=true:=by simp;omega
    have HF:Hid (R=false):=HNO.out (by unfold ltB;simp;omega);go_wp2;go_ret;exact⟨by rw[HF.out];rfl,rfl⟩
   have d1:decide ((s[k].toNat:Int)<97)=false:=by simp;omega
   by_cases g2:122<s[k].toNat
   ·have d2:decide (122<(s[k].toNat:Int))=true:=by simp;omega
    have HF:Hid (R=false):=HNO.out (by unfold ltB;simp;omega);go_wp2;go_ret;exact⟨by rw[HF.out];rfl,rfl⟩
   have d2:decide (122<(s[k].toNat:Int))=false:=by simp;omega
   have HY:Hid ((s.data.toList.take (k+1)).all ltB=true):=HNX.out (by unfold ltB;simp;omega);go_wp2;go_roundw
   case rel=>exact⟨k+1,by omega,by go_num,HY.out,by first | rfl | trivial⟩
   case measure=>simp[intOf];omega
  obtain rfl:k=s.size:=by omega
  have HF:Hid (R=true):=by
   show _=_;have h1:=HALL.out;rw[←size_lst,List.take_length] at h1;rw[HRR.out,HR.out,h1]
  go_wp2;go_ret;exact⟨by rw[HF.out];rfl,rfl⟩
end
end Go.Proofs.YtglnnoglbieaeaaGreatDoor
