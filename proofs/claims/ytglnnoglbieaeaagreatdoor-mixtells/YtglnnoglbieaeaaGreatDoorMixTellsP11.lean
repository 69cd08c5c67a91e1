/- Contracts and facts on the way to MixTells, joined into one text: RefTouched, TouchMath, SlSortInt, MixTouched, MixMath5, MixHoldsMath, MixTellsMath, FtsAt, RefFate2, MixHas, RefLess, RefPut. -/
import Derived.Test.YtglnnoglbieaeaaGreatDoorMixTellsP10
namespace Go.Proofs.YtglnnoglbieaeaaGreatDoor
set_option linter.unusedSimpArgs false
set_option linter.unusedVariables false
set_option maxHeartbeats 16000000
set_option maxRecDepth 100000
section
open Go.RowKit
def ltI (a b:Int):Bool:=decide (a<b)
theorem lo_ltI:LO ltI:=lo_int
def tcL (l:List Op8):List Int:=l.foldl (fun R o=>puR ltI o.w R) []
theorem tc_next {l:List Op8}{k:Nat}(hk:k<l.length):tcL (l.take (k+1))=puR ltI l[k].w (tcL (l.take k)):=by
 rw[List.take_succ_eq_append_getElem hk,tcL,tcL,List.foldl_append];rfl
theorem tc_ris:∀(l:List Op8) (R:List Int),Ris ltI R→Ris ltI (l.foldl (fun R o=>puR ltI o.w R) R)
 | [],R,h=>h
 | x :: l,R,h=>tc_ris l _ (pu_ris lo_ltI x.w h)
theorem tc_few:∀(l:List Op8) (R:List Int),(l.foldl (fun R o=>puR ltI o.w R) R).length≤R.length+l.length
 | [],R=>by simp
 | x :: l,R=>by
   have h1:=tc_few l (puR ltI x.w R);have h2:=pu_len (r:=ltI) x.w R;simp only[List.foldl_cons,List.length_cons];omega
theorem tc_mem:∀(l:List Op8) (R:List Int) (s:Int),s∈l.foldl (fun R o=>puR ltI o.w R) R↔s∈R∨∃o∈l,o.w=s
 | [],R,s=>by simp
 | x :: l,R,s=>by
   rw[List.foldl_cons,tc_mem l,pu_mem lo_ltI];constructor
   ·rintro ((rfl | h) | ⟨o,h1,h2⟩)
    ·exact .inr ⟨x,by simp,rfl⟩
    ·exact .inl h
    exact .inr ⟨o,by simp[h1],h2⟩
   rintro (h | ⟨o,h1,h2⟩)
   ·exact .inl (.inr h)
   rcases List.mem_cons.1 h1 with rfl | h1
   ·exact .inl (.inl h2.symm)
   exact .inr ⟨o,h1,h2⟩
theorem hid_len2 {α:Type}{l:List α}{x:α}{k:Nat}(h:l.length=k):(l++[x]).length=k+1:=by simp[h]
theorem rtouched_any (ao:Option Addr)(n cap:Nat)(l:List Op8)(w:World)(h:GS opE w (.slice ao n cap) l)(hn0:n≤2199023255552):
 Calls Tryz.prog 17 #[.slice ao n cap] w fun e w'=>∃a3 m c3,e=.returned (.slice a3 m c3)∧GS inE w' (.slice a3 m c3) (tcL l)∧Below w.heap.size w w':=by
 obtain⟨_,_,_,e1,hn,hn2,_,ha⟩:=h.form;cases e1;have HN:Hid (l.length=n):=hn;have HA:Hid (0<n→∃g o,ao=some ⟨g,o,none⟩∧GAt opE w g o l∧cap≤maxLen):=ha;unfold maxLen at hn2;clear h hn ha;go_enter Tryz.func17,Tryz.ntmps17;go_wp2
 go_loopw [3,4] (fun v i wr=>∃(k m c3:Nat) (a3:Option Addr),k≤n∧i=.int .i64 k∧v=.slice a3 m c3∧GS inE wr (.slice a3 m c3) (tcL (l.take k))∧SK a3 m c3∧Below w.heap.size w wr) (fun _ i _=>n-(intOf i).toNat)
 case atStart=>exact⟨0,0,0,none,by omega,rfl,rfl,.inl ⟨none,0,rfl,rfl⟩,.inl ⟨rfl,rfl,rfl⟩,Below.refl _ _⟩
 case round =>
  obtain⟨i,m,c3,a3,hi,rfl,rfl,hG,hSK,hB⟩:=hrel;obtain⟨wr0,hw0⟩:∃X,X=wr:=⟨_,rfl⟩;subst hw0;have HB:Hid (Below w.heap.size w wr0):=hB;have HSK:Hid (SK a3 m c3):=hSK;have HMM:Hid ((tcL (l.take i)).length=m):=hG.len;have HGR:Hid (∀W,Below wr0.heap.size wr0 W→GS inE W (.slice a3 m c3) (tcL (l.take i))):=fun W hb=>hG.later hb
  have HG0:Hid (GS inE wr0 (.slice a3 m c3) (tcL (l.take i))):=hG;have HRI:Hid (Ris ltI (tcL (l.take i))):=tc_ris _ _ List.Pairwise.nil;have hmn:m≤i:=by
   have h1:=tc_few (l.take i) [];have h2:(l.take i).length≤i:=List.length_take_le i l;have h3:=HMM.out;unfold tcL at h3;simp only[List.length_nil,Nat.zero_add] at h1;omega
  clear hG hSK hB;by_cases hlt:i<n
  ·obtain⟨g,o,hao,hc,_⟩:=HA.out (by omega);subst hao;obtain⟨x0,x1,x2,x3,x4,x5,x6,x7,hil,hLi,_⟩:=op_at hc HN.out hlt;have HCO:Hid (∀W,Below wr0.heap.size wr0 W→W.cell? ⟨g,o+i*8,none⟩=some (.int .i64 x0)):=fun W hb=>by
    obtain⟨y0,_,_,_,_,_,_,_,_,e,c0,_⟩:=op_at (hc.later (HB.out.trans (hb.mono HB.out.size))) HN.out hlt;rw[hLi] at e;cases e;exact c0
   have HTN:Hid (tcL (l.take (i+1))=puR ltI x0 (tcL (l.take i))):=show _=_ by
    rw[tc_next hil,hLi]
   obtain⟨R,hR⟩:∃R,R=tcL (l.take i):=⟨_,rfl⟩;rw[←hR] at HMM HGR HG0 HRI HTN;have ib0:(0:Int)≤(i:Int):=by omega
   have ib1:(i:Int)<(n:Int):=by omega
   clear hc hLi hR;go_upto_region 5 with fail;go_wp2
   go_loopw [5] (fun q wr=>∃k:Nat,k≤m∧q=.int .i64 k∧(∀j x,k≤j→R[j]?=some x→ltI x0 x=true)∧Below wr0.heap.size wr0 wr) (fun q _=>(intOf q).toNat)
   case atStart=>exact⟨m,Nat.le_refl _,rfl,fun j x hj hx=>by
    have:=(List.getElem?_eq_some_iff.1 hx).1;have:=HMM.out;omega,Below.refl _ _⟩
   case round =>
    obtain⟨k,hk,rfl,hall,hBz⟩:=hrel;obtain⟨wz,hwz⟩:∃X,X=wr:=⟨_,rfl⟩;subst hwz;have HBZ:Hid (Below wr0.heap.size wr0 wz):=hBz;have HALL:Hid (∀j x,k≤j→R[j]?=some x→ltI x0 x=true):=hall;obtain⟨BQ,hBQ⟩:∃b:Bool,b=(decide (0<k)&&decide (R.getD (k-1) 0 > x0)):=⟨_,rfl⟩;have HBQ:Hid ((decide (0<k)&&decide (R.getD (k-1) 0 > x0))=BQ):=hBQ.symm;clear hall hBz hBQ;go_upto_region 6 with fail
    go_cut [29] from 15 to 28 (fun q w'=>q=.bool BQ∧Below wz.heap.size wz w')
    case first =>
     by_cases hk0:0<k
     ·obtain⟨jj,hjj⟩:∃jj,k=jj+1:=⟨k-1,by omega⟩;obtain⟨_,_,_,e9,_,_,_,hRa⟩:=(HGR.out _ HBZ.out).form;cases e9;obtain⟨gr,qr,ha3,hGa,_⟩:=hRa (by omega);subst ha3;obtain⟨xr,hxl,hxr,hcx⟩:=in_at hGa HMM.out (show jj<m by omega);have hbq:BQ=decide (xr > x0):=by
       rw[←HBQ.out,hjj];simp[List.getD,hxl,hxr]
      have HCQ:Hid (wz.cell? ⟨gr,qr+jj,none⟩=some (.int .i64 xr)∧wz.cell? ⟨g,o+i*8,none⟩=some (.int .i64 x0)):=⟨hcx,HCO.out _ HBZ.out⟩;have hsub:IntKind.i64.wrap ((k:Int)-1)=(jj:Int):=by rw[IntKind.wrap_i64];omega
      have jb0:(0:Int)≤(jj:Int):=by omega
      have jb1:(jj:Int)<(m:Int):=by omega
      have kb0:decide ((0:Int)<(k:Int))=true:=by simp;omega
      subst hbq;clear hRa hGa hxr hcx hjj
      as_aux_lemma =>
       refine wp_region_quiet (C:=fun W=>Below wz.heap.size wz W∧W.cell? ⟨gr,qr+jj,none⟩=some (.int .i64 xr)∧W.cell? ⟨g,o+i*8,none⟩=some (.int .i64 x0)) (by kernel_rfl) (by kernel_rfl) ⟨Below.drew (Below.refl _ _),HCQ.out⟩ ?_;simp only[List.toList_toArray];go_big_quiet_want;refine qv (.int .i64 (k:Int)) ?_ ?_
       ·rintro w' ⟨z0,z1,z2⟩;go_simp
       simp only[Act.put,AP];go_big_quiet_on;go_big_quiet_want;refine qv (.bool true) ?_ ?_
       ·rintro w' ⟨z0,z1,z2⟩;go_simp
       simp only[Act.put,AP];go_big_quiet_on;go_big_quiet_want;refine qv (.bool true) ?_ ?_
       ·rintro w' ⟨z0,z1,z2⟩;go_simp
       simp only[Act.put,AP];go_big_quiet_on;go_big_quiet_want;refine qv (.slice (some ⟨gr,qr,none⟩) m c3) ?_ ?_
       ·rintro w' ⟨z0,z1,z2⟩;go_simp
       simp only[Act.put,AP];go_big_quiet_on;go_big_quiet_want;refine qv (.int .i64 (k:Int)) ?_ ?_
       ·rintro w' ⟨z0,z1,z2⟩;go_simp
       simp only[Act.put,AP];go_big_quiet_on;go_big_quiet_want;refine qv (.int .i64 (jj:Int)) ?_ ?_
       ·rintro w' ⟨z0,z1,z2⟩;go_simp
       simp only[Act.put,AP];go_big_quiet_on;go_big_quiet_want;refine qv (.pointer (some ⟨gr,qr+jj,none⟩)) ?_ ?_
       ·rintro w' ⟨z0,z1,z2⟩;go_simp
       simp only[Act.put,AP];go_big_quiet_on;go_big_quiet_want;refine qv (.int .i64 xr) ?_ ?_
       ·rintro w' ⟨z0,z1,z2⟩;go_simp
       simp only[Act.put,AP];go_big_quiet_on;go_big_quiet_want;refine qv (.slice (some ⟨g,o,none⟩) n cap) ?_ ?_
       ·rintro w' ⟨z0,z1,z2⟩;go_simp
       simp only[Act.put,AP];go_big_quiet_on;go_big_quiet_want;refine qv (.int .i64 (i:Int)) ?_ ?_
       ·rintro w' ⟨z0,z1,z2⟩;go_simp
       simp only[Act.put,AP];go_big_quiet_on;go_big_quiet_want;refine qv (.pointer (some ⟨g,o+i*8,none⟩)) ?_ ?_
       ·rintro w' ⟨z0,z1,z2⟩;go_simp
       simp only[Act.put,AP];go_big_quiet_on;go_big_quiet_want;refine qv (.pointer (some ⟨g,o+i*8,none⟩)) ?_ ?_
       ·rintro w' ⟨z0,z1,z2⟩;go_simp
       simp only[Act.put,AP];go_big_quiet_on;go_big_quiet_want;refine qv (.int .i64 x0) ?_ ?_
       ·rintro w' ⟨z0,z1,z2⟩;go_simp
       simp only[Act.put,AP];go_big_quiet_on;go_big_quiet_want;refine qv (.bool (decide (xr > x0))) ?_ ?_
       ·rintro w' ⟨z0,z1,z2⟩;go_simp
       simp only[Act.put,AP];go_big_quiet_on;go_big_quiet_want;refine qv (.bool (decide (xr > x0))) ?_ ?_
       ·rintro w' ⟨z0,z1,z2⟩;go_simp
       simp only[Act.put,AP];go_big_quiet_on;refine wpQuiet_nil ?_;intro w' hC
       go_wp2_with fail
       go_meet
       case rel=>exact⟨rfl,hC.1⟩
     obtain rfl:k=0:=by omega
     have hbq:BQ=false:=by
      rw[←HBQ.out];simp
     subst hbq
     as_aux_lemma =>
      refine wp_region_quiet (C:=fun W=>Below wz.heap.size wz W) (by kernel_rfl) (by kernel_rfl) (Below.drew (Below.refl _ _)) ?_;simp only[List.toList_toArray];go_big_quiet_want;refine qv (.int .i64 0) ?_ ?_
      ·rintro w' z0;go_simp
      simp only[Act.put,AP];go_big_quiet_on;go_big_quiet_want;refine qv (.bool false) ?_ ?_
      ·rintro w' z0;go_simp
      simp only[Act.put,AP];go_big_quiet_on;go_big_quiet_want;refine qv (.bool false) ?_ ?_
      ·rintro w' z0;go_simp
      simp only[Act.put,AP];go_big_quiet_on;go_big_quiet_skip;go_big_quiet_skip;go_big_quiet_skip;go_big_quiet_skip;go_big_quiet_skip;go_big_quiet_skip;go_big_quiet_skip;go_big_quiet_skip;go_big_quiet_skip;go_big_quiet_skip;go_big_quiet_skip;go_big_quiet_want;refine qv (.bool false) ?_ ?_
      ·rintro w' z0;go_simp
      simp only[Act.put,AP];go_big_quiet_on;refine wpQuiet_nil ?_;intro w' hC
      go_wp2_with fail
      go_meet
      case rel=>exact⟨rfl,hC⟩
    case rest =>
     obtain⟨rfl,hbq2⟩:=hcut;have HBC:Hid (Below wr0.heap.size wr0 wc):=HBZ.out.trans (hbq2.mono HBZ.out.size);clear hbq2 HBZ;cases BQ with
     | true =>
       have hb:=HBQ.out;simp only[Bool.and_eq_true,decide_eq_true_eq] at hb;have HALL2:Hid (∀j x,k-1≤j→R[j]?=some x→ltI x0 x=true):=fun j x hj hx=>by
        by_cases e:j=k-1
        ·subst e;have h2:=hb.2;simp only[List.getD,hx,Option.getD_some] at h2;simpa[ltI] using h2
        exact HALL.out j x (by omega) hx
       have hk1:0<k:=hb.1;have hsub:IntKind.i64.wrap ((k:Int)-1)=((k-1:Nat):Int):=by rw[IntKind.wrap_i64];omega
       clear hb;go_wp2;go_roundw
       case rel=>exact⟨k-1,by omega,by first | rfl | (simp only[hsub]),HALL2.out,HBC.out⟩
       case measure=>simp[intOf,hsub];omega
     | false =>
       have HNG:Hid (0<k→R.getD (k-1) 0≤x0):=fun h=>by
        have hb:=HBQ.out;simp[h] at hb;simpa using hb
       clear HBQ;obtain⟨wy,hwy⟩:∃X,X=wc:=⟨_,rfl⟩;subst hwy;have HBZ:Hid (Below wr0.heap.size wr0 wy):=HBC.out;obtain⟨BQ,hBQ⟩:∃b:Bool,b=(decide (0<k)&&(R.getD (k-1) 0==x0)):=⟨_,rfl⟩;have HBQ:Hid ((decide (0<k)&&(R.getD (k-1) 0==x0))=BQ):=hBQ.symm;clear hBQ HBC;go_upto_region 8 with fail
       go_cut [46] from 32 to 45 (fun q w'=>q=.bool BQ∧Below wy.heap.size wy w')
       case first =>
        by_cases hk0:0<k
        ·obtain⟨jj,hjj⟩:∃jj,k=jj+1:=⟨k-1,by omega⟩;obtain⟨_,_,_,e9,_,_,_,hRa⟩:=(HGR.out _ HBZ.out).form;cases e9;obtain⟨gr,qr,ha3,hGa,_⟩:=hRa (by omega);subst ha3;obtain⟨xr,hxl,hxr,hcx⟩:=in_at hGa HMM.out (show jj<m by omega);have hbq:BQ=(xr==x0):=by
          rw[←HBQ.out,hjj];simp[List.getD,hxl,hxr]
         have HCQ:Hid (wy.cell? ⟨gr,qr+jj,none⟩=some (.int .i64 xr)∧wy.cell? ⟨g,o+i*8,none⟩=some (.int .i64 x0)):=⟨hcx,HCO.out _ HBZ.out⟩;have hsub:IntKind.i64.wrap ((k:Int)-1)=(jj:Int):=by rw[IntKind.wrap_i64];omega
         have jb0:(0:Int)≤(jj:Int):=by omega
         have jb1:(jj:Int)<(m:Int):=by omega
         have kb0:decide ((0:Int)<(k:Int))=true:=by simp;omega
         subst hbq;clear hRa hGa hxr hcx hjj
         as_aux_lemma =>
          refine wp_region_quiet (C:=fun W=>Below wy.heap.size wy W∧W.cell? ⟨gr,qr+jj,none⟩=some (.int .i64 xr)∧W.cell? ⟨g,o+i*8,none⟩=some (.int .i64 x0)) (by kernel_rfl) (by kernel_rfl) ⟨Below.drew (Below.refl _ _),HCQ.out⟩ ?_;simp only[List.toList_toArray];go_big_quiet_want;refine qv (.int .i64 (k:Int)) ?_ ?_
          ·rintro w' ⟨z0,z1,z2⟩;go_simp
          simp only[Act.put,AP];go_big_quiet_on;go_big_quiet_want;refine qv (.bool true) ?_ ?_
          ·rintro w' ⟨z0,z1,z2⟩;go_simp
          simp only[Act.put,AP];go_big_quiet_on;go_big_quiet_want;refine qv (.bool true) ?_ ?_
          ·rintro w' ⟨z0,z1,z2⟩;go_simp
          simp only[Act.put,AP];go_big_quiet_on;go_big_quiet_want;refine qv (.slice (some ⟨gr,qr,none⟩) m c3) ?_ ?_
          ·rintro w' ⟨z0,z1,z2⟩;go_simp
          simp only[Act.put,AP];go_big_quiet_on;go_big_quiet_want;refine qv (.int .i64 (k:Int)) ?_ ?_
          ·rintro w' ⟨z0,z1,z2⟩;go_simp
          simp only[Act.put,AP];go_big_quiet_on;go_big_quiet_want;refine qv (.int .i64 (jj:Int)) ?_ ?_
          ·rintro w' ⟨z0,z1,z2⟩;go_simp
          simp only[Act.put,AP];go_big_quiet_on;go_big_quiet_want;refine qv (.pointer (some ⟨gr,qr+jj,none⟩)) ?_ ?_
          ·rintro w' ⟨z0,z1,z2⟩;go_simp
          simp only[Act.put,AP];go_big_quiet_on;go_big_quiet_want;refine qv (.int .i64 xr) ?_ ?_
          ·rintro w' ⟨z0,z1,z2⟩;go_simp
          simp only[Act.put,AP];go_big_quiet_on;go_big_quiet_want;refine qv (.slice (some ⟨g,o,none⟩) n cap) ?_ ?_
          ·rintro w' ⟨z0,z1,z2⟩;go_simp
          simp only[Act.put,AP];go_big_quiet_on;go_big_quiet_want;refine qv (.int .i64 (i:Int)) ?_ ?_
          ·rintro w' ⟨z0,z1,z2⟩;go_simp
          simp only[Act.put,AP];go_big_quiet_on;go_big_quiet_want;refine qv (.pointer (some ⟨g,o+i*8,none⟩)) ?_ ?_
          ·rintro w' ⟨z0,z1,z2⟩;go_simp
          simp only[Act.put,AP];go_big_quiet_on;go_big_quiet_want;refine qv (.pointer (some ⟨g,o+i*8,none⟩)) ?_ ?_
          ·rintro w' ⟨z0,z1,z2⟩;go_simp
          simp only[Act.put,AP];go_big_quiet_on;go_big_quiet_want;refine qv (.int .i64 x0) ?_ ?_
          ·rintro w' ⟨z0,z1,z2⟩;go_simp
          simp only[Act.put,AP];go_big_quiet_on;go_big_quiet_want;refine qv (.bool (xr==x0)) ?_ ?_
          ·rintro w' ⟨z0,z1,z2⟩;go_simp
          simp only[Act.put,AP];go_big_quiet_on;go_big_quiet_want;refine qv (.bool (xr==x0)) ?_ ?_
          ·rintro w' ⟨z0,z1,z2⟩;go_simp
          simp only[Act.put,AP];go_big_quiet_on;refine wpQuiet_nil ?_;intro w' hC
          go_wp2_with fail
          go_meet
          case rel=>exact⟨rfl,hC.1⟩
        obtain rfl:k=0:=by omega
        have hbq:BQ=false:=by
         rw[←HBQ.out];simp
        subst hbq
        as_aux_lemma =>
         refine wp_region_quiet (C:=fun W=>Below wy.heap.size wy W) (by kernel_rfl) (by kernel_rfl) (Below.drew (Below.refl _ _)) ?_;simp only[List.toList_toArray];go_big_quiet_want;refine qv (.int .i64 0) ?_ ?_
         ·rintro w' z0;go_simp
         simp only[Act.put,AP];go_big_quiet_on;go_big_quiet_want;refine qv (.bool false) ?_ ?_
         ·rintro w' z0;go_simp
         simp only[Act.put,AP];go_big_quiet_on;go_big_quiet_want;refine qv (.bool false) ?_ ?_
         ·rintro w' z0;go_simp
         simp only[Act.put,AP];go_big_quiet_on;go_big_quiet_skip;go_big_quiet_skip;go_big_quiet_skip;go_big_quiet_skip;go_big_quiet_skip;go_big_quiet_skip;go_big_quiet_skip;go_big_quiet_skip;go_big_quiet_skip;go_big_quiet_skip;go_big_quiet_skip;go_big_quiet_want;refine qv (.bool false) ?_ ?_
         ·rintro w' z0;go_simp
         simp only[Act.put,AP];go_big_quiet_on;refine wpQuiet_nil ?_;intro w' hC
         go_wp2_with fail
         go_meet
         case rel=>exact⟨rfl,hC⟩
       case rest =>
        obtain⟨rfl,hbq2⟩:=hcut;have HBC:Hid (Below wr0.heap.size wr0 wc):=HBZ.out.trans (hbq2.mono HBZ.out.size);clear hbq2 HBZ;cases BQ with
        | true =>
          have hb:=HBQ.out;simp only[Bool.and_eq_true,decide_eq_true_eq,beq_iff_eq] at hb;have HIN:Hid (puR ltI x0 R=R):=pu_in lo_ltI HRI.out (by
           have hl:k-1<R.length:=by have:=HMM.out;omega
           rw[←hb.2];simp[List.getD,hl])
          have HGC:Hid (GS inE wc (.slice a3 m c3) R):=HGR.out _ HBC.out;have HBW:Hid (Below w.heap.size w wc):=HB.out.trans (HBC.out.mono HB.out.size);clear hb;go_wp2;go_roundw
          case rel=>exact⟨i+1,m,c3,a3,by omega,by go_num,rfl,by rw[HTN.out,HIN.out];exact HGC.out,HSK.out,HBW.out⟩
          case measure=>simp[intOf];omega
        | false =>
          have HLT:Hid (∀j x,j<k→R[j]?=some x→ltI x x0=true):=fun j x hj hx=>by
           have hl:k-1<R.length:=by have:=HMM.out;omega
           have h1:ltI R[k-1] x0=true:=by
            have h2:=HNG.out (by omega);have h3:=HBQ.out;have h4:0<k:=by omega
            simp[List.getD,hl,h4] at h2 h3;simp only[ltI,decide_eq_true_eq];omega
           by_cases e:j=k-1
           ·subst e;rw[List.getElem?_eq_getElem hl] at hx;cases hx;exact h1
           exact lo_ltI.tr _ _ _ (ris_lt lo_ltI HRI.out (show j<k-1 by omega) hx (List.getElem?_eq_getElem hl)) h1
          have HPU:Hid (puR ltI x0 R=R.take k++[x0]++R.drop k):=pu_at lo_ltI HRI.out (by rw[HMM.out];exact hk) HALL.out HLT.out;obtain⟨wy,hwy⟩:∃X,X=wc:=⟨_,rfl⟩;subst hwy;have HWY:Hid (Below w.heap.size w wy):=HB.out.trans (HBC.out.mono HB.out.size);have HCY:Hid (∀W,Below wy.heap.size wy W→W.cell? ⟨g,o+i*8,none⟩=some (.int .i64 x0)):=fun W hb=>HCO.out W (HBC.out.trans (hb.mono HBC.out.size))
          have hGY:=HGR.out _ HBC.out;obtain⟨Z1,hq1⟩:∃q,q=R.take k:=⟨_,rfl⟩;obtain⟨Z2,hq2⟩:∃q,q=R.drop k:=⟨_,rfl⟩;have HZ1L:Hid (Z1.length=k):=show Z1.length=k by rw[hq1,List.length_take,HMM.out];omega
          have HZ2L:Hid (Z2.length=m-k):=show Z2.length=m-k by rw[hq2,List.length_drop,HMM.out]
          have HT1:Hid (GS inE wy (.slice a3 k c3) Z1):=show GS inE wy (.slice a3 k c3) Z1 by rw[hq1];exact hGY.take hk
          have HD:Hid (∀g o,a3=some ⟨g,o,none⟩→GS inE wy (.slice (some ⟨g,o+k,none⟩) (m-k) (c3-k)) Z2):=show ∀g o,a3=some ⟨g,o,none⟩→GS inE wy (.slice (some ⟨g,o+k,none⟩) (m-k) (c3-k)) Z2 by
           rintro g o rfl;rw[hq2];have:=hGY.drop hk;simpa[inE] using this
          rw[←hq1,←hq2] at HPU;have hmc:m≤c3:=by
           obtain⟨_,_,_,e,_,_,h,_⟩:=hGY.form;cases e;exact h
          have HAD:Hid (0<m→∃g o,a3=some ⟨g,o,none⟩):=fun h=>by
           obtain⟨_,_,_,e,_,_,_,ha⟩:=hGY.form;cases e;obtain⟨g,o,e,_⟩:=ha h;exact⟨g,o,e⟩
          obtain⟨i0,hi0,hz0,hz1,hz2⟩:=info_parts infoInt;clear hGY hq1 hq2 HBC HALL HNG HBQ HLT
          rcases HSK.out with ⟨rfl,rfl,rfl⟩ | hm0
          ·obtain rfl:k=0:=by omega
           have HT2:Hid (GS inE wy (.slice none 0 0) Z2):=.inl ⟨none,0,rfl,List.length_eq_zero_iff.1 (by have:=HZ2L.out;omega)⟩;go_upto_region 10 with fail
           go_wp2_with (at_builtin;refine wpList_append_GS (E:=inE) _ rfl _ _ 56 3 rfl Tryz.underlying56 i0 (.int .i64 0) 8 hi0 hz0 hz1 hz2 rfl wy.heap.size (.slice none 0 0) rfl [] (World.ownsRow_nil _ _ _ _) _ rfl Z1 ?a1 ?a2 ?a3 (Nat.le_refl _) ?_)
           case a1=>exact HT1.out
           case a2=>have:=HZ1L.out;unfold maxLen;simp;omega
           case a3=>have:=HZ1L.out;simp;omega
           intro v1 w1 ho1 hg1
           try rw[List.nil_append] at ho1
           have hb1:Below wy.heap.size wy w1:=(Below.refl _ wy).grown hg1 (Nat.le_refl _) (fun g hg=>by cases hg);obtain⟨a1,c1,hv1⟩:=own_form ho1;subst hv1;rw[HZ1L.out] at ho1 ⊢;have HO1:Hid (w1.ownsRow wy.heap.size 3 inE.n (.slice a1 0 c1) 0 (cellsG inE Z1)):=ho1;have HB1:Hid (Below wy.heap.size wy w1):=hb1;have q0:=HCY.out _ hb1;clear ho1 hg1 hb1;go_upto_region 11 with fail
           go_wp2_with (at_builtin;refine wpList_append_blk (E:=inE) _ rfl _ _ 56 3 rfl Tryz.underlying56 i0 (.int .i64 0) 8 hi0 hz0 hz1 hz2 rfl wy.heap.size (.slice a1 0 c1) rfl Z1 ?m0 w1.heap.size 0 1 rfl x0 (vat_new w1 [.int .i64 x0] 3) ?m1 ?m2 ?m3 ?_)
           case m0=>rw[HZ1L.out];exact HO1.out.alloc _
           case m1=>rw[HZ1L.out];unfold maxLen;omega
           case m2=>rw[HZ1L.out];omega
           case m3=>have:=HB1.out.size;simp;omega
           intro v2 w2 ho2 hg2 _;have hb2:Below wy.heap.size w1 w2:=((Below.refl _ w1).alloc HB1.out.size _).grown hg2 (by have:=HB1.out.size;simp;omega) (fun g hg=>(HO1.out.lt g hg).1);have HB2:Hid (Below wy.heap.size wy w2):=HB1.out.trans hb2;obtain⟨a2,c2,hv2⟩:=own_form ho2;subst hv2;have HL2:Hid ((Z1++[x0]).length=0+1):=hid_len2 HZ1L.out
           try rw[List.length_append] at ho2 ⊢
           try simp only[List.length_cons,List.length_nil,Nat.zero_add] at ho2 ⊢
           rw[HZ1L.out] at ho2 ⊢;have HO2:Hid (w2.ownsRow wy.heap.size 3 inE.n (.slice a2 (0+1) c2) (0+1) (cellsG inE (Z1++[x0]))):=ho2;clear ho2 hg2 hb2 q0;go_upto_region 12 with fail
           go_wp2_with (at_builtin;refine wpList_append_GS (E:=inE) _ rfl _ _ 56 3 rfl Tryz.underlying56 i0 (.int .i64 0) 8 hi0 hz0 hz1 hz2 rfl wy.heap.size (.slice a2 (0+1) c2) rfl (Z1++[x0]) ?b0 _ rfl Z2 ?b1 ?b2 ?b4 ?b3 ?_)
           case b0=>rw[HL2.out];exact HO2.out
           case b1=>exact HT2.out.later HB2.out
           case b2=>rw[HL2.out,HZ2L.out];unfold maxLen;omega
           case b4=>rw[HL2.out,HZ2L.out];omega
           case b3=>exact HB2.out.size
           intro v3 w3 ho3 hg3;have hb3:Below wy.heap.size w2 w3:=(Below.refl _ w2).grown hg3 HB2.out.size (fun g hg=>(HO2.out.lt g hg).1);have HB3:Hid (Below wy.heap.size wy w3):=HB2.out.trans hb3;have hG3:GS inE w3 v3 (Z1++[x0]++Z2):=own_GS (by simpa using ho3);obtain⟨a9,n9,c9,hv3,hn9,_⟩:=hG3.form;subst hv3;have HG3:Hid (GS inE w3 (.slice a9 n9 c9) (Z1++[x0]++Z2)):=hG3;have hn90:0<n9:=by rw[←hn9];simp;omega
           clear ho3 hg3 hb3 hG3 hn9;go_wp2;go_roundw
           case rel=>exact⟨i+1,n9,c9,a9,by omega,by go_num,rfl,by rw[HTN.out,HPU.out];exact HG3.out,.inr hn90,HWY.out.trans (HB3.out.mono HWY.out.size)⟩
           case measure=>simp[intOf];omega
          obtain⟨gr,qr,rfl⟩:=HAD.out hm0;by_cases hck:c3=k
          ·obtain rfl:m=k:=by omega
           obtain rfl:m=c3:=by omega
           have HT2:Hid (GS inE wy (.slice (some ⟨gr,qr,none⟩) 0 0) Z2):=.inl ⟨_,_,rfl,List.length_eq_zero_iff.1 (by have:=HZ2L.out;omega)⟩;go_upto_region 10 with fail
           go_wp2_with (at_builtin;refine wpList_append_GS (E:=inE) _ rfl _ _ 56 3 rfl Tryz.underlying56 i0 (.int .i64 0) 8 hi0 hz0 hz1 hz2 rfl wy.heap.size (.slice none 0 0) rfl [] (World.ownsRow_nil _ _ _ _) _ rfl Z1 ?a1 ?a2 ?a3 (Nat.le_refl _) ?_)
           case a1=>exact HT1.out
           case a2=>have:=HZ1L.out;unfold maxLen;simp;omega
           case a3=>have:=HZ1L.out;simp;omega
           intro v1 w1 ho1 hg1
           try rw[List.nil_append] at ho1
           have hb1:Below wy.heap.size wy w1:=(Below.refl _ wy).grown hg1 (Nat.le_refl _) (fun g hg=>by cases hg);obtain⟨a1,c1,hv1⟩:=own_form ho1;subst hv1;rw[HZ1L.out] at ho1 ⊢;have HO1:Hid (w1.ownsRow wy.heap.size 3 inE.n (.slice a1 m c1) m (cellsG inE Z1)):=ho1;have HB1:Hid (Below wy.heap.size wy w1):=hb1;have q0:=HCY.out _ hb1;clear ho1 hg1 hb1;go_upto_region 11 with fail
           go_wp2_with (at_builtin;refine wpList_append_blk (E:=inE) _ rfl _ _ 56 3 rfl Tryz.underlying56 i0 (.int .i64 0) 8 hi0 hz0 hz1 hz2 rfl wy.heap.size (.slice a1 m c1) rfl Z1 ?m0 w1.heap.size 0 1 rfl x0 (vat_new w1 [.int .i64 x0] 3) ?m1 ?m2 ?m3 ?_)
           case m0=>rw[HZ1L.out];exact HO1.out.alloc _
           case m1=>rw[HZ1L.out];unfold maxLen;omega
           case m2=>rw[HZ1L.out];omega
           case m3=>have:=HB1.out.size;simp;omega
           intro v2 w2 ho2 hg2 _;have hb2:Below wy.heap.size w1 w2:=((Below.refl _ w1).alloc HB1.out.size _).grown hg2 (by have:=HB1.out.size;simp;omega) (fun g hg=>(HO1.out.lt g hg).1);have HB2:Hid (Below wy.heap.size wy w2):=HB1.out.trans hb2;obtain⟨a2,c2,hv2⟩:=own_form ho2;subst hv2;have HL2:Hid ((Z1++[x0]).length=m+1):=hid_len2 HZ1L.out
           try rw[List.length_append] at ho2 ⊢
           try simp only[List.length_cons,List.length_nil,Nat.zero_add] at ho2 ⊢
           rw[HZ1L.out] at ho2 ⊢;have HO2:Hid (w2.ownsRow wy.heap.size 3 inE.n (.slice a2 (m+1) c2) (m+1) (cellsG inE (Z1++[x0]))):=ho2;clear ho2 hg2 hb2 q0;go_upto_region 12 with fail
           go_wp2_with (at_builtin;refine wpList_append_GS (E:=inE) _ rfl _ _ 56 3 rfl Tryz.underlying56 i0 (.int .i64 0) 8 hi0 hz0 hz1 hz2 rfl wy.heap.size (.slice a2 (m+1) c2) rfl (Z1++[x0]) ?b0 _ rfl Z2 ?b1 ?b2 ?b4 ?b3 ?_)
           case b0=>rw[HL2.out];exact HO2.out
           case b1=>exact HT2.out.later HB2.out
           case b2=>rw[HL2.out,HZ2L.out];unfold maxLen;omega
           case b4=>rw[HL2.out,HZ2L.out];omega
           case b3=>exact HB2.out.size
           intro v3 w3 ho3 hg3;have hb3:Below wy.heap.size w2 w3:=(Below.refl _ w2).grown hg3 HB2.out.size (fun g hg=>(HO2.out.lt g hg).1);have HB3:Hid (Below wy.heap.size wy w3):=HB2.out.trans hb3;have hG3:GS inE w3 v3 (Z1++[x0]++Z2):=own_GS (by simpa using ho3);obtain⟨a9,n9,c9,hv3,hn9,_⟩:=hG3.form;subst hv3;have HG3:Hid (GS inE w3 (.slice a9 n9 c9) (Z1++[x0]++Z2)):=hG3;have hn90:0<n9:=by rw[←hn9];simp;omega
           clear ho3 hg3 hb3 hG3 hn9;go_wp2;go_roundw
           case rel=>exact⟨i+1,n9,c9,a9,by omega,by go_num,rfl,by rw[HTN.out,HPU.out];exact HG3.out,.inr hn90,HWY.out.trans (HB3.out.mono HWY.out.size)⟩
           case measure=>simp[intOf];omega
          have HT2:Hid (GS inE wy (.slice (some ⟨gr,qr+k,none⟩) (m-k) (c3-k)) Z2):=HD.out gr qr rfl;go_upto_region 10 with fail
          go_wp2_with (at_builtin;refine wpList_append_GS (E:=inE) _ rfl _ _ 56 3 rfl Tryz.underlying56 i0 (.int .i64 0) 8 hi0 hz0 hz1 hz2 rfl wy.heap.size (.slice none 0 0) rfl [] (World.ownsRow_nil _ _ _ _) _ rfl Z1 ?a1 ?a2 ?a3 (Nat.le_refl _) ?_)
          case a1=>exact HT1.out
          case a2=>have:=HZ1L.out;unfold maxLen;simp;omega
          case a3=>have:=HZ1L.out;simp;omega
          intro v1 w1 ho1 hg1
          try rw[List.nil_append] at ho1
          have hb1:Below wy.heap.size wy w1:=(Below.refl _ wy).grown hg1 (Nat.le_refl _) (fun g hg=>by cases hg);obtain⟨a1,c1,hv1⟩:=own_form ho1;subst hv1;rw[HZ1L.out] at ho1 ⊢;have HO1:Hid (w1.ownsRow wy.heap.size 3 inE.n (.slice a1 k c1) k (cellsG inE Z1)):=ho1;have HB1:Hid (Below wy.heap.size wy w1):=hb1;have q0:=HCY.out _ hb1;clear ho1 hg1 hb1;go_upto_region 11 with fail
          go_wp2_with (at_builtin;refine wpList_append_blk (E:=inE) _ rfl _ _ 56 3 rfl Tryz.underlying56 i0 (.int .i64 0) 8 hi0 hz0 hz1 hz2 rfl wy.heap.size (.slice a1 k c1) rfl Z1 ?m0 w1.heap.size 0 1 rfl x0 (vat_new w1 [.int .i64 x0] 3) ?m1 ?m2 ?m3 ?_)
          case m0=>rw[HZ1L.out];exact HO1.out.alloc _
          case m1=>rw[HZ1L.out];unfold maxLen;omega
          case m2=>rw[HZ1L.out];omega
          case m3=>have:=HB1.out.size;simp;omega
          intro v2 w2 ho2 hg2 _;have hb2:Below wy.heap.size w1 w2:=((Below.refl _ w1).alloc HB1.out.size _).grown hg2 (by have:=HB1.out.size;simp;omega) (fun g hg=>(HO1.out.lt g hg).1);have HB2:Hid (Below wy.heap.size wy w2):=HB1.out.trans hb2;obtain⟨a2,c2,hv2⟩:=own_form ho2;subst hv2;have HL2:Hid ((Z1++[x0]).length=k+1):=hid_len2 HZ1L.out
          try rw[List.length_append] at ho2 ⊢
          try simp only[List.length_cons,List.length_nil,Nat.zero_add] at ho2 ⊢
          rw[HZ1L.out] at ho2 ⊢;have HO2:Hid (w2.ownsRow wy.heap.size 3 inE.n (.slice a2 (k+1) c2) (k+1) (cellsG inE (Z1++[x0]))):=ho2;clear ho2 hg2 hb2 q0;go_upto_region 12 with fail
          go_wp2_with (at_builtin;refine wpList_append_GS (E:=inE) _ rfl _ _ 56 3 rfl Tryz.underlying56 i0 (.int .i64 0) 8 hi0 hz0 hz1 hz2 rfl wy.heap.size (.slice a2 (k+1) c2) rfl (Z1++[x0]) ?b0 _ rfl Z2 ?b1 ?b2 ?b4 ?b3 ?_)
          case b0=>rw[HL2.out];exact HO2.out
          case b1=>exact HT2.out.later HB2.out
          case b2=>rw[HL2.out,HZ2L.out];unfold maxLen;omega
          case b4=>rw[HL2.out,HZ2L.out];omega
          case b3=>exact HB2.out.size
          intro v3 w3 ho3 hg3;have hb3:Below wy.heap.size w2 w3:=(Below.refl _ w2).grown hg3 HB2.out.size (fun g hg=>(HO2.out.lt g hg).1);have HB3:Hid (Below wy.heap.size wy w3):=HB2.out.trans hb3;have hG3:GS inE w3 v3 (Z1++[x0]++Z2):=own_GS (by simpa using ho3);obtain⟨a9,n9,c9,hv3,hn9,_⟩:=hG3.form;subst hv3;have HG3:Hid (GS inE w3 (.slice a9 n9 c9) (Z1++[x0]++Z2)):=hG3;have hn90:0<n9:=by rw[←hn9];simp;omega
          clear ho3 hg3 hb3 hG3 hn9;go_wp2;go_roundw
          case rel=>exact⟨i+1,n9,c9,a9,by omega,by go_num,rfl,by rw[HTN.out,HPU.out];exact HG3.out,.inr hn90,HWY.out.trans (HB3.out.mono HWY.out.size)⟩
          case measure=>simp[intOf];omega
  obtain rfl:i=n:=by omega
  have HTL:Hid (tcL l=tcL (l.take i)):=show _=_ by rw[←HN.out,List.take_length]
  go_wp2;go_ret;exact⟨a3,m,c3,rfl,by rw[HTL.out];exact HG0.out,HB.out⟩
end
section
open Go.RowKit Go.Lib
theorem cu_all (d:Array Int)(hd:∀i,i+1<d.size→d[i]! ≤ d[i+1]!):∀m,m≤d.size→Ris ltI (compactUpTo d m)∧(∀x∈compactUpTo d m,0<m∧x≤d[m-1]!)∧(∀j,j<m→d[j]! ∈ compactUpTo d m)∧(∀x∈compactUpTo d m,∃j,j<m∧d[j]! = x)
 | 0,_=>by
   have e:compactUpTo d 0=[]:=rfl;rw[e];exact⟨List.Pairwise.nil,fun x h=>by simp at h,fun j h=>absurd h (by omega),fun x h=>by simp at h⟩
 | m+1,hm=>by
   obtain⟨h1,h2,h3,h4⟩:=cu_all d hd m (by omega);rw[compactUpTo_succ,show m+1-1=m by omega];cases hk:keeps d m
   ·have hk2:¬(m=0∨d[m]! ≠ d[m-1]!):=of_decide_eq_false hk;rw[not_or] at hk2;have e:d[m]! = d[m-1]! := Classical.not_not.1 hk2.2;simp only[Bool.false_eq_true,if_false,List.append_nil];refine⟨h1,fun x hx=>⟨by omega,by rw[e];exact (h2 x hx).2⟩,fun j hj=>?_,fun x hx=>?_⟩
    ·by_cases ej:j=m
     ·rw[ej,e];exact h3 (m-1) (by omega)
     exact h3 j (by omega)
    obtain⟨j,hj,e2⟩:=h4 x hx;exact⟨j,by omega,e2⟩
   have hk2:m=0∨d[m]! ≠ d[m-1]! := of_decide_eq_true hk;have hlt:∀x∈compactUpTo d m,x<d[m]! := fun x hx=>by
    obtain⟨h0,hle⟩:=h2 x hx;have h5:=hd (m-1) (by omega);rw[show m-1+1=m by omega] at h5;have h6:d[m]! ≠ d[m-1]! := hk2.resolve_left (by omega);omega
   simp only[if_true];refine⟨?_,fun x hx=>⟨by omega,?_⟩,fun j hj=>?_,fun x hx=>?_⟩
   ·unfold Ris at h1 ⊢;rw[List.pairwise_append];refine⟨h1,List.pairwise_singleton _ _,fun x hx y hy=>?_⟩;obtain rfl:y=d[m]! := by simpa using hy
    simpa[ltI] using hlt x hx
   ·rcases List.mem_append.1 hx with hx | hx
    ·have:=hlt x hx;omega
    have:x=d[m]! := by simpa using hx
    omega
   ·by_cases ej:j=m
    ·rw[ej];simp
    exact List.mem_append_left _ (h3 j (by omega))
   rcases List.mem_append.1 hx with hx | hx
   ·obtain⟨j,hj,e2⟩:=h4 x hx;exact⟨j,by omega,e2⟩
   have e2:x=d[m]! := by simpa using hx
   exact⟨m,by omega,e2.symm⟩
theorem cu_touch (l:List Op8):compact ((l.map fun o=>o.w).mergeSort fun x y=>decide (x≤y))=tcL l:=by
 obtain⟨L,hL⟩:∃L,L=(l.map fun o=>o.w).mergeSort fun x y=>decide (x≤y):=⟨_,rfl⟩
 have hp:L.Perm (l.map fun o=>o.w):=by rw[hL];exact List.mergeSort_perm _ _
 have hs:L.Pairwise (fun x y=>decide (x≤y)=true):=by
  rw[hL];exact List.pairwise_mergeSort (fun a b c h1 h2=>by simp at *;omega) (fun a b=>by simp;omega) _
 rw[←hL];have hsz:L.toArray.size=L.length:=by simp
 have hd:∀i,i+1<L.toArray.size→L.toArray[i]! ≤ L.toArray[i+1]! := fun i hi=>by
  rw[getElem!_pos L.toArray i (by omega),getElem!_pos L.toArray (i+1) hi];have:=List.pairwise_iff_getElem.1 hs i (i+1) (by omega) (by omega) (by omega);simpa using this
 obtain⟨h1,_,h3,h4⟩:=cu_all L.toArray hd L.length (by omega);refine ris_ext lo_ltI h1 (tc_ris l [] List.Pairwise.nil) (fun x=>?_);rw[tcL,tc_mem];constructor
 ·intro hx;obtain⟨j,hj,e⟩:=h4 x hx;rw[getElem!_pos L.toArray j (by omega)] at e;have hm:x∈L:=by
   rw[←e];simp
  rw[hp.mem_iff,List.mem_map] at hm;exact .inr hm
 rintro (h | h)
 ·simp at h
 have hm:x∈L:=by
  rw[hp.mem_iff,List.mem_map];exact h
 obtain⟨j,hj,e⟩:=List.getElem_of_mem hm;have:=h3 j hj;rw[getElem!_pos L.toArray j (by omega)] at this;simp only[List.getElem_toArray] at this;rw[e] at this;exact this
end
section
open Go.Shelf
def sortInt_ren:Go.Shelf.Ren:=⟨fun | 189=>37 | 125=>55 | 257=>67 | 128=>92 | 129=>93 | 294=>107 | 295=>108 | 296=>109 | 297=>110 | 298=>111 | 299=>112 | 216=>113 | 300=>114 | 301=>115 | 328=>142 | 329=>131 | 330=>132 | 331=>143 | 332=>144 | 215=>94 | 343=>160 | n=>n,fun | 28=>56 | 3=>3 | 46=>126 | 0=>0 | 51=>174 | 53=>176 | 4=>4 | 183=>167 | 182=>166 | 131=>171 | 5=>5 | 9=>9 | 218=>209 | 222=>213 | 228=>246 | 229=>247 | n=>n,fun | n=>n⟩
theorem sortInt:Go.Proofs.Lays.n189 Tryz.prog sortInt_ren:={
 mixed:=by kernel_rfl
 f125:=Tryz.func55.trans (congrArg some (by kernel_rfl))
 f128:=Tryz.func92.trans (congrArg some (by kernel_rfl))
 f129:=Tryz.func93.trans (congrArg some (by kernel_rfl))
 f189:=Tryz.func37.trans (congrArg some (by kernel_rfl))
 f215:=Tryz.func94.trans (congrArg some (by kernel_rfl))
 f216:=Tryz.func113.trans (congrArg some (by kernel_rfl))
 f257:=Tryz.func67.trans (congrArg some (by kernel_rfl))
 f294:=Tryz.func107.trans (congrArg some (by kernel_rfl))
 f295:=Tryz.func108.trans (congrArg some (by kernel_rfl))
 f296:=Tryz.func109.trans (congrArg some (by kernel_rfl))
 f297:=Tryz.func110.trans (congrArg some (by kernel_rfl))
 f298:=Tryz.func111.trans (congrArg some (by kernel_rfl))
 f299:=Tryz.func112.trans (congrArg some (by kernel_rfl))
 f300:=Tryz.func114.trans (congrArg some (by kernel_rfl))
 f301:=Tryz.func115.trans (congrArg some (by kernel_rfl))
 f328:=Tryz.func142.trans (congrArg some (by kernel_rfl))
 f329:=Tryz.func131.trans (congrArg some (by kernel_rfl))
 f330:=Tryz.func132.trans (congrArg some (by kernel_rfl))
 f331:=Tryz.func143.trans (congrArg some (by kernel_rfl))
 f332:=Tryz.func144.trans (congrArg some (by kernel_rfl))
 f343:=Tryz.func160.trans (congrArg some (by kernel_rfl))
 t0:=Tryz.underlying0
 a0:=Tryz.isAgg0
 z0:=Tryz.sizeOf0
 v0:=Tryz.zeroValue0
 t3:=Tryz.underlying3
 a3:=Tryz.isAgg3
 z3:=Tryz.sizeOf3
 v3:=Tryz.zeroValue3
 t4:=Tryz.underlying4
 a4:=Tryz.isAgg4
 z4:=Tryz.sizeOf4
 v4:=Tryz.zeroValue4
 t5:=Tryz.underlying5
 a5:=Tryz.isAgg5
 z5:=Tryz.sizeOf5
 v5:=Tryz.zeroValue5
 t9:=Tryz.underlying9
 a9:=Tryz.isAgg9
 z9:=Tryz.sizeOf9
 v9:=Tryz.zeroValue9
 t28:=Tryz.underlying56
 a28:=Tryz.isAgg56
 z28:=Tryz.sizeOf56
 v28:=Tryz.zeroValue56
 t46:=Tryz.underlying126
 a46:=Tryz.isAgg126
 z46:=Tryz.sizeOf126
 v46:=Tryz.zeroValue126
 t51:=Tryz.underlying174
 a51:=Tryz.isAgg174
 z51:=Tryz.sizeOf174
 v51:=Tryz.zeroValue174
 t53:=Tryz.underlying176
 a53:=Tryz.isAgg176
 z53:=Tryz.sizeOf176
 v53:=Tryz.zeroValue176
 t131:=Tryz.underlying171
 a131:=Tryz.isAgg171
 z131:=Tryz.sizeOf171
 v131:=Tryz.zeroValue171
 t182:=Tryz.underlying166
 a182:=Tryz.isAgg166
 z182:=Tryz.sizeOf166
 v182:=Tryz.zeroValue166
 t183:=Tryz.underlying167
 a183:=Tryz.isAgg167
 z183:=Tryz.sizeOf167
 v183:=Tryz.zeroValue167
 t218:=Tryz.underlying209
 a218:=Tryz.isAgg209
 z218:=Tryz.sizeOf209
 v218:=Tryz.zeroValue209
 t222:=Tryz.underlying213
 a222:=Tryz.isAgg213
 z222:=Tryz.sizeOf213
 v222:=Tryz.zeroValue213
 t228:=Tryz.underlying246
 a228:=Tryz.isAgg246
 z228:=Tryz.sizeOf246
 v228:=Tryz.zeroValue246
 t229:=Tryz.underlying247
 a229:=Tryz.isAgg247
 z229:=Tryz.sizeOf247
 v229:=Tryz.zeroValue247 }
def compactInt_ren:Go.Shelf.Ren:=⟨fun | 20=>38 | n=>n,fun | 22=>56 | 3=>3 | 4=>4 | 0=>0 | n=>n,fun | n=>n⟩
theorem compactInt:Go.Proofs.Lays2.n20 Tryz.prog compactInt_ren:={
 mixed:=by kernel_rfl
 f20:=Tryz.func38.trans (congrArg some (by kernel_rfl))
 t0:=Tryz.underlying0
 a0:=Tryz.isAgg0
 z0:=Tryz.sizeOf0
 v0:=Tryz.zeroValue0
 t3:=Tryz.underlying3
 a3:=Tryz.isAgg3
 z3:=Tryz.sizeOf3
 v3:=Tryz.zeroValue3
 t4:=Tryz.underlying4
 a4:=Tryz.isAgg4
 z4:=Tryz.sizeOf4
 v4:=Tryz.zeroValue4
 t22:=Tryz.underlying56
 a22:=Tryz.isAgg56
 z22:=Tryz.sizeOf56
 v22:=Tryz.zeroValue56
 i3:=by kernel_rfl }
end
section
open Go.RowKit Go.Shelf Go.Sort
theorem holds_ints {w:World}{B e g cap:Nat}{L:List Int}(ho:w.ownsRow B e inE.n (.slice (some ⟨g,0,none⟩) L.length cap) L.length (cellsG inE L)):Holds (Value.int .i64) w g 0 L.toArray:=by
 intro j hj;have hj2:j<L.length:=by simpa using hj
 refine⟨?_,?_⟩
 ·rw[Nat.zero_add,ho.cellAt j (by show j<L.length*1;omega)];have h1:=cellsG_at (E:=inE) L j hj2 0 (by decide);have e1:j*inE.n+0=j:=by show j*1+0=j;omega
  rw[e1] at h1;rw[h1,getElem!_pos L.toArray j hj];rfl
 rw[Nat.zero_add];exact ho.frozenAt j
theorem below_row {base:Nat}{w:World}(g off m:Nat)(d:Array Int)(os:Array Obj)(hg:base≤g)(hb:base≤w.heap.size):Below base w (grow (putRow (Value.int .i64) (Sort.ahead w m) g off d) os):=by
 have hs:(putRow (Value.int .i64) (Sort.ahead w m) g off d).heap.size=w.heap.size:=by simp
 refine⟨rfl,rfl,rfl,?_,fun j hj=>?_⟩
 ·show w.heap.size≤((putRow (Value.int .i64) (Sort.ahead w m) g off d).heap++os).size;rw[Array.size_append,hs];omega
 show ((putRow (Value.int .i64) (Sort.ahead w m) g off d).heap++os)[j]?=_;rw[Array.getElem?_append_left (by rw[hs];omega)];show ((w.heap).modify g _)[j]?=_;rw[Array.getElem?_modify,if_neg (by omega)]
theorem holds_row {w:World}{g m:Nat}{d0 d:Array Int}{os:Array Obj}(h:Holds (Value.int .i64) w g 0 d0)(hs:d.size=d0.size):Holds (Value.int .i64) (grow (putRow (Value.int .i64) (Sort.ahead w m) g 0 d) os) g 0 d:=by
 have h2:=holds_putRow (Value.int .i64) (Sort.ahead w m) g 0 d0 d (holds_ahead _ w m g 0 d0 h) hs;intro j hj;obtain⟨c1,c2⟩:=h2 j hj;have hl:g<(putRow (Value.int .i64) (Sort.ahead w m) g 0 d).heap.size:=World.block_lt_of_cell? _ _ c1;have e:(grow (putRow (Value.int .i64) (Sort.ahead w m) g 0 d) os).heap[g]?=(putRow (Value.int .i64) (Sort.ahead w m) g 0 d).heap[g]?:=by
  show ((putRow (Value.int .i64) (Sort.ahead w m) g 0 d).heap++os)[g]?=_;rw[Array.getElem?_append_left hl]
 exact⟨(World.cell?_of_block e).trans c1,(World.frozen?_of_block e).trans c2⟩
theorem gs_holds {w:World}{g n cap:Nat}{d:Array Int}{L:List Int}(h:Holds (Value.int .i64) w g 0 d)(hn:n≤cap)(hc:cap≤maxLen)(hL:L.length=n)(hd:∀j x,L[j]?=some x→j<d.size∧d[j]! = x):GS inE w (.slice (some ⟨g,0,none⟩) n cap) L:=by
 refine .inr ⟨g,0,cap,by rw[hL],by omega,hc,fun i hi j u hu=>?_⟩;obtain⟨h1,h2⟩:=hd i L[i] (List.getElem?_eq_getElem hi);have hj:j=0:=by
  have:=(List.getElem?_eq_some_iff.1 hu).1;rw[inE.len] at this;have e:inE.n=1:=rfl;omega
 subst hj;have e:u=.int .i64 L[i]:=by
  have:(inE.c L[i])[0]?=some (.int .i64 L[i]):=rfl;rw[this] at hu;cases hu;rfl
 rw[e,←h2];have:=(h i h1).1;have e2:0+i*inE.n+0=0+i:=by show 0+i*1+0=0+i;omega
 rw[e2];exact this
theorem sort_ints (g cap:Nat)(zs:List Int)(w:World)(hH:Holds (Value.int .i64) w g 0 zs.toArray)(hblk:g<w.heap.size)(hsz:zs.length<4611686018427387904):
 Calls Tryz.prog 37 #[.slice (some ⟨g,0,none⟩) zs.length cap] w fun e w'=>e=.returned (.tuple #[])∧∃n os,w'=grow (putRow (Value.int .i64) (Sort.ahead w n) g 0 (zs.mergeSort fun x y=>decide (x≤y)).toArray) os:=Any.slices_Sort_int sortInt g 0 cap zs w hH hblk hsz
theorem sort_none (p:Option Addr)(cap:Nat)(w:World):Calls Tryz.prog 37 #[.slice p 0 cap] w fun e w'=>e=.returned (.tuple #[])∧w'=w:=Any.slices_Sort_int_none sortInt p cap w
theorem comp_ints (g cap:Nat)(zs:List Int)(w:World)(hH:Holds (Value.int .i64) w g 0 zs.toArray)(hsz:zs.length≤9223372036854775807)(hcap:zs.length≤cap):
 Calls Tryz.prog 38 #[.slice (some ⟨g,0,none⟩) zs.length cap] w fun e w'=>e=.returned (.slice (some ⟨g,0,none⟩) (Lib.compact zs).length cap)∧∃q,w'=putRow (Value.int .i64) (Sort.ahead w q) g 0 (Lib.compact zs++List.replicate (zs.length-(Lib.compact zs).length) 0).toArray:=Any.slices_Compact_int compactInt g 0 cap zs w hH hsz hcap
theorem comp_none (p:Option Addr)(cap:Nat)(w:World):Calls Tryz.prog 38 #[.slice p 0 cap] w fun e w'=>e=.returned (.slice p 0 cap)∧w'=w:=Any.slices_Compact_int_empty compactInt p cap w
theorem comp_few (zs:List Int):(Lib.compact zs).length≤zs.length:=by
 unfold Lib.compact Lib.compactUpTo;rw[List.length_map];have:=List.length_filter_le (Lib.keeps zs.toArray) (List.range zs.length);rw[List.length_range] at this;exact this
theorem grow_no (w:World):grow w #[]=w:=by simp[grow]
theorem touched_any (ao:Option Addr)(n cap:Nat)(l:List Op8)(w:World)(h:GS opE w (.slice ao n cap) l)(hn0:n≤2199023255552):
 Calls Tryz.prog 16 #[.slice ao n cap] w fun e w'=>∃a3 m c3,e=.returned (.slice a3 m c3)∧GS inE w' (.slice a3 m c3) (tcL l)∧Below w.heap.size w w':=by
 obtain⟨_,_,_,e1,hn,hn2,_,ha⟩:=h.form;cases e1;have HN:Hid (l.length=n):=hn;have HA:Hid (0<n→∃g o,ao=some ⟨g,o,none⟩∧GAt opE w g o l∧cap≤maxLen):=ha;obtain⟨i0,hi0,hz0,hz1,hz2⟩:=info_parts infoInt;unfold maxLen at hn2;clear h hn ha;go_enter Tryz.func16,Tryz.ntmps16;go_wp2
 go_loopw [3,8] (fun v i wr=>∃k:Nat,k≤n∧i=.int .i64 k∧wr.ownsRow w.heap.size 3 inE.n v k (cellsG inE ((l.take k).map fun o=>o.w))∧Below w.heap.size w wr) (fun _ i _=>n-(intOf i).toNat)
 case atStart=>exact⟨0,by omega,rfl,World.ownsRow_nil _ _ _ _,Below.refl _ _⟩
 case round =>
  obtain⟨k,hk,rfl,hO,hB⟩:=hrel;obtain⟨wr0,hw0⟩:∃X,X=wr:=⟨_,rfl⟩;subst hw0;have HB:Hid (Below w.heap.size w wr0):=hB;have HKL:Hid (((l.take k).map fun o=>o.w).length=k):=show _=_ by
   rw[List.length_map,List.length_take,HN.out];omega
  obtain⟨a5,c5,hv5⟩:=own_form hO;subst hv5;have HO:Hid (wr0.ownsRow w.heap.size 3 inE.n (.slice a5 k c5) k (cellsG inE ((l.take k).map fun o=>o.w))):=hO;clear hO;by_cases hlt:k<n
  ·obtain⟨g,o,hao,hc,_⟩:=HA.out (by omega);subst hao;obtain⟨x0,x1,x2,x3,x4,x5,x6,x7,hil,hLi,c0,c1,c2,c3,c4,c6,c7,c8⟩:=op_at (hc.later hB) HN.out hlt;have kb0:(0:Int)≤(k:Int):=by omega
   have kb1:(k:Int)<(n:Int):=by omega
   have HTN:Hid (((l.take (k+1)).map fun o=>o.w)=((l.take k).map fun o=>o.w)++[x0]):=show _=_ by
    rw[List.take_succ_eq_append_getElem hil,List.map_append,hLi];rfl
   have hb1:Below w.heap.size w (wr0.alloc (Obj.cells #[.int .i64 x0,.bool x1,.int .i64 x2,.int .i64 x3,.int .i64 x4,.int .i64 x5,.int .i64 x6,.int .i64 x7] 68)):=hB.alloc hB.size _;have hr1:=(vat_new wr0 [.int .i64 x0,.bool x1,.int .i64 x2,.int .i64 x3,.int .i64 x4,.int .i64 x5,.int .i64 x6,.int .i64 x7] 68) 0 _ rfl;have ho1:=HO.out.alloc (Obj.cells #[.int .i64 x0,.bool x1,.int .i64 x2,.int .i64 x3,.int .i64 x4,.int .i64 x5,.int .i64 x6,.int .i64 x7] 68);obtain⟨w1,hw1⟩:∃W,wr0.alloc (Obj.cells #[.int .i64 x0,.bool x1,.int .i64 x2,.int .i64 x3,.int .i64 x4,.int .i64 x5,.int .i64 x6,.int .i64 x7] 68)=W:=⟨_,rfl⟩;rw[hw1] at hb1 hr1 ho1;have HW1:Hid (wr0.alloc (Obj.cells #[.int .i64 x0,.bool x1,.int .i64 x2,.int .i64 x3,.int .i64 x4,.int .i64 x5,.int .i64 x6,.int .i64 x7] 68)=w1):=hw1;have HB1:Hid (Below w.heap.size w w1):=hb1;have HO1:Hid (w1.ownsRow w.heap.size 3 inE.n (.slice a5 k c5) k (cellsG inE ((l.take k).map fun o=>o.w))):=ho1;simp only[Nat.zero_add] at hr1;clear hB hc hLi hb1 ho1 hw1;go_upto_region 5 with fail;rw[HW1.out];clear HW1
   go_wp2_with (at_builtin;refine wpList_append_blk (E:=inE) _ rfl _ _ 56 3 rfl Tryz.underlying56 i0 (.int .i64 0) 8 hi0 hz0 hz1 hz2 rfl w.heap.size (.slice a5 k c5) rfl ((l.take k).map fun o=>o.w) ?m0 w1.heap.size 0 1 rfl x0 (vat_new w1 [.int .i64 x0] 3) ?m1 ?m2 ?m3 ?_)
   case m0=>rw[HKL.out];exact HO1.out.alloc _
   case m1=>rw[HKL.out];unfold maxLen;omega
   case m2=>rw[HKL.out];omega
   case m3=>have:=HB1.out.size;simp;omega
   intro v2 w2 ho2 hg2 _;have HB2:Hid (Below w.heap.size w w2):=(HB1.out.alloc HB1.out.size _).grown hg2 (by have:=HB1.out.size;simp;omega) (fun g hg=>(HO1.out.lt g hg).1);have HO2:Hid (w2.ownsRow w.heap.size 3 inE.n v2 (k+1) (cellsG inE ((l.take (k+1)).map fun o=>o.w))):=show World.ownsRow _ _ _ _ _ _ _ by
    rw[HTN.out];have e:(((l.take k).map fun o=>o.w)++[x0]).length=k+1:=hid_len2 HKL.out;rw[←e];simpa using ho2
   clear ho2 hg2 hr1 c0 c1 c2 c3 c4 c6 c7 c8;go_wp2;go_roundw
   case rel=>exact⟨k+1,by omega,by go_num,HO2.out,HB2.out⟩
   case measure=>simp[intOf];omega
  obtain rfl:k=n:=by omega
  have HALL:Hid (((l.take k).map fun o=>o.w)=l.map fun o=>o.w):=show _=_ by rw[←HN.out,List.take_length]
  clear hB
  rcases HO.out with ⟨_,⟨hv,hk0⟩ | ⟨g,cp,cur,hv,hg,hcur,hnc,hcm,_,_⟩⟩
  ·cases hv;have HT0:Hid (tcL l=[]):=show _=_ by
    have:l=[]:=List.length_eq_zero_iff.1 HN.out;rw[this];rfl
   go_wp2_with fail
   refine (sort_none none 0 _).mono ?_;rintro e w2 ⟨rfl,hw2⟩;rw[hw2];clear hw2 w2
   go_wp2_with fail
   refine (comp_none none 0 _).mono ?_;rintro e w2 ⟨rfl,hw2⟩;rw[hw2];clear hw2 w2;go_wp2;go_ret;exact⟨none,0,0,rfl,by rw[HT0.out];exact .inl ⟨none,0,rfl,rfl⟩,HB.out⟩
  cases hv;have hH:=holds_ints (L:=l.map fun o=>o.w) (by rw[←HALL.out,HKL.out];exact HO.out);have hgl:g<wr0.heap.size:=by
   have:=(Array.getElem?_eq_some_iff.1 hcur).1;exact this
  have HLL:Hid ((l.map fun o=>o.w).length=k):=show _=_ by rw[List.length_map,HN.out]
  have HH:Hid (Holds (Value.int .i64) wr0 g 0 (l.map fun o=>o.w).toArray):=hH;have HGC:Hid (w.heap.size≤g∧k≤c5∧c5≤maxLen∧g<wr0.heap.size):=⟨hg,hnc,hcm,hgl⟩;obtain⟨M,hM⟩:∃M,M=(l.map fun o=>o.w).mergeSort fun x y=>decide (x≤y):=⟨_,rfl⟩
  have HML:Hid (M.length=k):=show _=_ by rw[hM,List.length_mergeSort,HLL.out]
  have HMT:Hid (Lib.compact M=tcL l):=show _=_ by rw[hM];exact cu_touch l
  have HSO:=sort_ints g c5 (l.map fun o=>o.w) wr0 hH hgl (by rw[HLL.out];omega);rw[HLL.out,←hM] at HSO;clear hH hcur hnc hcm hgl hM
  go_wp2_with fail
  refine HSO.mono ?_;rintro e w2 ⟨rfl,q,os,hw2⟩;have hH2:Holds (Value.int .i64) w2 g 0 M.toArray:=by
   rw[hw2];exact holds_row HH.out (by simp[HML.out,HLL.out])
  have hB2:Below w.heap.size w w2:=by
   rw[hw2];exact HB.out.trans (below_row g 0 q _ os HGC.out.1 HB.out.size)
  have HH2:Hid (Holds (Value.int .i64) w2 g 0 M.toArray):=hH2;have HB2:Hid (Below w.heap.size w w2):=hB2;have HCO:=comp_ints g c5 M w2 hH2 (by rw[HML.out];omega) (by rw[HML.out];exact HGC.out.2.1);rw[HML.out] at HCO;clear hH2 hB2 hw2 HSO
  go_wp2_with fail
  refine HCO.mono ?_;rintro e w3 ⟨rfl,q3,hw3⟩;have hfew:=comp_few M;have HB3:Hid (Below w.heap.size w w3):=show Below _ _ _ by
   rw[hw3,←grow_no (putRow _ _ _ _ _)];exact HB2.out.trans (below_row g 0 q3 _ #[] HGC.out.1 HB2.out.size)
  have HG3:Hid (GS inE w3 (.slice (some ⟨g,0,none⟩) (Lib.compact M).length c5) (tcL l)):=show GS _ _ _ _ by
   have hh:Holds (Value.int .i64) w3 g 0 (Lib.compact M++List.replicate (k-(Lib.compact M).length) 0).toArray:=by
    rw[hw3,←grow_no (putRow _ _ _ _ _)];exact holds_row HH2.out (by have:=HML.out;simp;omega)
   refine gs_holds hh (by have:=HML.out;have:=HGC.out;omega) HGC.out.2.2.1 (by rw[HMT.out]) (fun j x hx=>?_);rw[←HMT.out] at hx;have hj:=(List.getElem?_eq_some_iff.1 hx).1;have hj2:j<(Lib.compact M++List.replicate (k-(Lib.compact M).length) 0).toArray.size:=by simp;omega
   refine⟨hj2,?_⟩;rw[getElem!_pos _ j hj2];simp only[List.getElem_toArray];rw[List.getElem_append_left hj];exact (List.getElem?_eq_some_iff.1 hx).2
  clear hw3 hfew HCO;go_wp2;go_ret;exact⟨_,_,_,rfl,HG3.out,HB3.out⟩
end
section
open Go.RowKit
section
variable (Ls:List ((Int×Int)×(Int×Int)))(Hs:List (ByteArray×(Int×Int)))(As Bs:List (List Ru))
def bsB (w:Wi)(x:ByteArray×(Int×Int))(h:Int):Bool:=(seeL Ls Hs As Bs x.2 h).any fun F => !fiB w x.1 F
def bsH (w:Wi)(x:ByteArray×(Int×Int)):Nat→Int
 | 0 => -1
 | k+1=>if bsH w x k<0 then (if bsB Ls Hs As Bs w x (k:Int) then (k:Int) else -1) else bsH w x k
def bsX (w:Wi)(Xs:List (ByteArray×(Int×Int))):Nat→Option (Nat×Int)
 | 0=>none
 | k+1=>match bsX w Xs k with
   | some x=>some x
   | none=>if 0≤bsH Ls Hs As Bs w (Xs.getD k zeO) 16 then some (k,bsH Ls Hs As Bs w (Xs.getD k zeO) 16) else none
def bsW (l:List Wi)(Xs:List (ByteArray×(Int×Int))):Nat→Option (Nat×Nat×Int)
 | 0=>none
 | k+1=>match bsW l Xs k with
   | some x=>some x
   | none=>match bsX Ls Hs As Bs (l.getD k zeW) Xs Xs.length with
     | some p=>some (k,p.1,p.2)
     | none=>none
end
section
variable {Ls:List ((Int×Int)×(Int×Int))}{Hs:List (ByteArray×(Int×Int))}{As Bs:List (List Ru)}
theorem bsH_le {w:Wi}{x:ByteArray×(Int×Int)}{k:Nat}(h:0≤bsH Ls Hs As Bs w x k):∀{n:Nat},k≤n→bsH Ls Hs As Bs w x n=bsH Ls Hs As Bs w x k
 | 0,hn=>by
   obtain rfl:k=0:=by omega
   rfl
 | n+1,hn=>by
   by_cases e:k=n+1
   ·subst e;rfl
   have:=bsH_le h (show k≤n by omega);rw[bsH,if_neg (by rw[this];omega),this]
theorem bsH_no {w:Wi}{x:ByteArray×(Int×Int)}{k:Nat}(h:bsH Ls Hs As Bs w x k<0)(h2:bsB Ls Hs As Bs w x (k:Int)=false):bsH Ls Hs As Bs w x (k+1)<0:=by
 rw[bsH,if_pos h,h2];simp
theorem bsH_yes {w:Wi}{x:ByteArray×(Int×Int)}{k:Nat}(hk:k<16)(h:bsH Ls Hs As Bs w x k<0)(h2:bsB Ls Hs As Bs w x (k:Int)=true):bsH Ls Hs As Bs w x 16=k:=by
 have e:bsH Ls Hs As Bs w x (k+1)=k:=by
  rw[bsH,if_pos h,h2];simp
 rw[bsH_le (k:=k+1) (by rw[e];omega) (by omega),e]
theorem bsB_off {w:Wi}{x:ByteArray×(Int×Int)}(h:abW w x.1=false)(k:Int):bsB Ls Hs As Bs w x k=false:=by simp[bsB,fiB,h]
variable {Xs:List (ByteArray×(Int×Int))}
theorem bsX_le {w:Wi}{k:Nat}{p:Nat×Int}(h:bsX Ls Hs As Bs w Xs k=some p):∀{n:Nat},k≤n→bsX Ls Hs As Bs w Xs n=some p
 | 0,hn=>by
   obtain rfl:k=0:=by omega
   exact h
 | n+1,hn=>by
   by_cases e:k=n+1
   ·subst e;exact h
   rw[bsX,bsX_le h (show k≤n by omega)]
theorem bsX_no {w:Wi}{k:Nat}(hk:k<Xs.length)(h:bsX Ls Hs As Bs w Xs k=none)(h2:bsH Ls Hs As Bs w Xs[k] 16<0):bsX Ls Hs As Bs w Xs (k+1)=none:=by
 rw[bsX,h];simp only;rw[getO hk,if_neg (by omega)]
theorem bsX_yes {w:Wi}{k:Nat}(hk:k<Xs.length)(h:bsX Ls Hs As Bs w Xs k=none)(h2:0≤bsH Ls Hs As Bs w Xs[k] 16):bsX Ls Hs As Bs w Xs Xs.length=some (k,bsH Ls Hs As Bs w Xs[k] 16):=by
 refine bsX_le (k:=k+1) ?_ (by omega);rw[bsX,h];simp only;rw[getO hk,if_pos h2]
variable {l:List Wi}
theorem bsW_le {k:Nat}{p:Nat×Nat×Int}(h:bsW Ls Hs As Bs l Xs k=some p):∀{n:Nat},k≤n→bsW Ls Hs As Bs l Xs n=some p
 | 0,hn=>by
   obtain rfl:k=0:=by omega
   exact h
 | n+1,hn=>by
   by_cases e:k=n+1
   ·subst e;exact h
   rw[bsW,bsW_le h (show k≤n by omega)]
theorem bsW_no {k:Nat}(hk:k<l.length)(h:bsW Ls Hs As Bs l Xs k=none)(h2:bsX Ls Hs As Bs l[k] Xs Xs.length=none):bsW Ls Hs As Bs l Xs (k+1)=none:=by
 rw[bsW,h];simp only;rw[getW hk,h2]
theorem bsW_yes {k:Nat}(hk:k<l.length)(h:bsW Ls Hs As Bs l Xs k=none){p:Nat×Int}(h2:bsX Ls Hs As Bs l[k] Xs Xs.length=some p):bsW Ls Hs As Bs l Xs l.length=some (k,p.1,p.2):=by
 refine bsW_le (k:=k+1) ?_ (by omega);rw[bsW,h];simp only;rw[getW hk,h2]
end
section
variable {S:Int}{Ls:List ((Int×Int)×(Int×Int))}{Hs:List (ByteArray×(Int×Int))}{Ts:List (List Ru)}{o:List Op8}{m:ByteArray}{h:Int}
theorem sn_parts (h0:snN S Ls Hs Ts o m h=0):cgN S Ls Hs Ts o=0∧weN S Ls Hs m=0∧hdrB h=true:=by
 by_cases e1:cgN S Ls Hs Ts o=0
 ·by_cases e2:weN S Ls Hs m=0
  ·cases e3:hdrB h
   ·rw[(sn_3 e1 e2 e3).1] at h0;cases h0
   exact⟨e1,e2,rfl⟩
  rw[(sn_2 e1 e2).1] at h0;exact absurd h0 e2
 rw[(sn_1 e1).1] at h0;exact absurd h0 e1
variable {l:List Wi}{held:Nat}{p:Int×ByteArray×Int}
end
section
variable {Ls:List ((Int×Int)×(Int×Int))}{Hs:List (ByteArray×(Int×Int))}{As Bs:List (List Ru)}{Xs:List (ByteArray×(Int×Int))}{l:List Wi}
theorem bsH_neg {w:Wi}{x:ByteArray×(Int×Int)}:∀{k:Nat},(∀j,j<k→bsB Ls Hs As Bs w x (j:Int)=false)→bsH Ls Hs As Bs w x k<0
 | 0,_=>by simp[bsH]
 | k+1,h=>bsH_no (bsH_neg (fun j hj=>h j (by omega))) (h k (by omega))
theorem bsX_neg {w:Wi}:∀{k:Nat},(∀j,j<k→∀h:Nat,h<16→bsB Ls Hs As Bs w (Xs.getD j zeO) (h:Int)=false)→bsX Ls Hs As Bs w Xs k=none
 | 0,_=>rfl
 | k+1,h=>by
   rw[bsX,bsX_neg (fun j hj=>h j (by omega))];simp only;rw[if_neg];have:=bsH_neg (Ls:=Ls) (Hs:=Hs) (As:=As) (Bs:=Bs) (w:=w) (x:=Xs.getD k zeO) (k:=16) (fun j hj=>h k (by omega) j hj);omega
theorem bsW_neg:∀{k:Nat},(∀i,i<k→∀j,j<Xs.length→∀h:Nat,h<16→bsB Ls Hs As Bs (l.getD i zeW) (Xs.getD j zeO) (h:Int)=false)→bsW Ls Hs As Bs l Xs k=none
 | 0,_=>rfl
 | k+1,h=>by
   rw[bsW,bsW_neg (fun i hi=>h i (by omega))];simp only;rw[bsX_neg (h k (by omega))]
theorem any_same {α:Type}{L M:List α}(h:∀x,x∈L↔x∈M)(p:α→Bool):L.any p=M.any p:=by
 rw[Bool.eq_iff_iff,List.any_eq_true,List.any_eq_true];exact⟨fun ⟨x,h1,h2⟩=>⟨x,(h x).1 h1,h2⟩,fun ⟨x,h1,h2⟩=>⟨x,(h x).2 h1,h2⟩⟩
theorem fb_bs {S:Int}(ht:tpN S Ls Hs=0)(hA:∀s,tbN (taT As s)=0)(hB:∀s,tbN (taT Bs s)=0){held:Nat}{p:Int×ByteArray×Int}(f:Fb l Hs (fun z h=>pwS Ls Hs As Bs (Hs.getD z zeO).2 (h:Int)) Hs.length 0 held p):(bsW Ls Hs As Bs l Hs l.length).isSome=decide (held<l.length)∧prV Hs (bsW Ls Hs As Bs l Hs l.length)=p:=by
 have hb:∀w z (h:Nat),z<Hs.length→badF w (Hs.getD z zeO).1 (pwS Ls Hs As Bs (Hs.getD z zeO).2 (h:Int))=bsB Ls Hs As Bs w (Hs.getD z zeO) (h:Int):=fun w z h hz=>by
  have hsp:spB S (Hs.getD z zeO).2=true:=by
   rw[getO hz];exact ((tp_0 ht).2.2.2.2.1 _ (List.getElem_mem hz)).2
  exact any_same (ps_mem ht hA hB hsp (h:Int)) _
 by_cases hl:held<l.length
 ·obtain⟨z,h,h16,hzh,hz,rfl,hbad,hno⟩:=f.tell hl;have e1:bsH Ls Hs As Bs l[held] Hs[z] 16=(h:Int):=by
   refine bsH_yes h16 (bsH_neg fun j hj=>?_) ?_
   ·have:=hno z j (by omega) (.inr ⟨rfl,hj⟩);rw[hb _ _ _ hz,getW hl,getO hz] at this;exact this
   rw[hb _ _ _ hz,getW hl,getO hz] at hbad;exact hbad
  have e2:bsX Ls Hs As Bs l[held] Hs Hs.length=some (z,(h:Int)):=by
   rw[bsX_yes hz (bsX_neg fun j hj h' hh'=>?_) (by rw[e1];omega),e1];have:=hno j h' hh' (.inl hj);rw[hb _ _ _ (by omega),getW hl] at this;exact this
  have e3:=bsW_yes hl (bsW_neg (Ls:=Ls) (Hs:=Hs) (As:=As) (Bs:=Bs) (Xs:=Hs) fun i hi j hj h' hh'=>by
   have:=f.ok i hi j h' hh' (.inl hj);rw[hb _ _ _ hj] at this;exact this) e2
  rw[e3];exact⟨by simp[hl],rfl⟩
 have he:held=l.length:=by have:=f.le;omega
 have e3:bsW Ls Hs As Bs l Hs l.length=none:=bsW_neg fun i hi j hj h' hh'=>by
  have:=f.ok i (by omega) j h' hh' (.inl hj);rw[hb _ _ _ hj] at this;exact this
 rw[e3,f.no he];exact⟨by simp[hl],rfl⟩
end
theorem FTs.len {w:World}{ao:Option Addr}{n cap:Nat}{L:List Ft}(h:FTs w (.slice ao n cap) L):L.length=n:=by
 obtain⟨Z,h1,h2,_⟩:=h;rw[←h2,List.length_map];exact h1.len
theorem FTs.form {w:World}{v:Value}{L:List Ft}(h:FTs w v L):∃ao n cap,v=.slice ao n cap∧L.length=n∧n≤maxLen∧n≤cap:=by
 obtain⟨Z,h1,h2,_⟩:=id h;obtain⟨ao,n,cap,rfl,_,h4,h5,_⟩:=h1.form;exact⟨ao,n,cap,rfl,h.len,h4,h5⟩
theorem FTs.at {w:World}{ao:Option Addr}{n cap:Nat}{L:List Ft}(h:FTs w (.slice ao n cap) L){k:Nat}(hk:k<n):∃(g o:Nat) (x:Ft) (a3:Option Addr) (n3 c3:Nat),ao=some ⟨g,o,none⟩∧L[k]?=some x∧w.cell? ⟨g,o+k*3,none⟩=some (.int .i64 x.1)∧w.cell? ⟨g,o+k*3+1,none⟩=some (.string x.2.1)∧w.cell? ⟨g,o+k*3+2,none⟩=some (.slice a3 n3 c3)∧GS hopE w (.slice a3 n3 c3) x.2.2:=by
 obtain⟨Z,h1,h2,h3⟩:=h;obtain⟨_,_,_,e,hn,_,_,ha⟩:=h1.form;cases e;obtain⟨g,o,rfl,hG,_⟩:=ha (by omega);have hkZ:k<Z.length:=by omega
 have hv:=hG k hkZ;refine⟨g,o,Z[k].1,Z[k].2.1,Z[k].2.2.1,Z[k].2.2.2,rfl,?_,hv 0 _ rfl,hv 1 _ rfl,hv 2 _ rfl,h3 _ (List.getElem_mem hkZ)⟩;rw[←h2,List.getElem?_map,List.getElem?_eq_getElem hkZ];rfl
structure FT2 (w W:World)(V1:Int)(V2:ByteArray)(u:Value)(U1:Int)(U2:ByteArray)(v:Value):Prop where
 below:Below w.heap.size w W
 a0:W.cell? ⟨w.heap.size,0,none⟩=some (.int .i64 V1)
 a1:W.cell? ⟨w.heap.size,1,none⟩=some (.string V2)
 a2:W.cell? ⟨w.heap.size,2,none⟩=some u
 b0:W.cell? ⟨w.heap.size+1,0,none⟩=some (.int .i64 U1)
 b1:W.cell? ⟨w.heap.size+1,1,none⟩=some (.string U2)
 b2:W.cell? ⟨w.heap.size+1,2,none⟩=some v
theorem FT2.later {w W W':World}{V1:Int}{V2:ByteArray}{u:Value}{U1:Int}{U2:ByteArray}{v:Value}(h:FT2 w W V1 V2 u U1 U2 v)(hb:Below W.heap.size W W'):FT2 w W' V1 V2 u U1 U2 v:=
 ⟨h.below.trans (hb.mono h.below.size),cell_later hb h.a0,cell_later hb h.a1,cell_later hb h.a2,cell_later hb h.b0,cell_later hb h.b1,cell_later hb h.b2⟩
theorem ft2_new (w:World)(V1:Int)(V2:ByteArray)(u:Value)(U1:Int)(U2:ByteArray)(v:Value):FT2 w ((w.alloc (Obj.cells #[.int .i64 V1,.string V2,u] 77)).alloc (Obj.cells #[.int .i64 U1,.string U2,v] 77)) V1 V2 u U1 U2 v:=by
 have e1:(w.alloc (Obj.cells #[.int .i64 V1,.string V2,u] 77)).heap.size=w.heap.size+1:=by simp
 have hb:∀(W:World) (o:Obj),Below W.heap.size W (W.alloc o):=fun W o=>(Below.refl _ _).alloc (Nat.le_refl _) _
 have ha:=(vat_new w [.int .i64 V1,.string V2,u] 77).later (hb _ (Obj.cells #[.int .i64 U1,.string U2,v] 77));have hs:=vat_new (w.alloc (Obj.cells #[.int .i64 V1,.string V2,u] 77)) [.int .i64 U1,.string U2,v] 77;rw[e1] at hs;exact⟨((Below.refl _ _).alloc (Nat.le_refl _) _).alloc (by rw[e1];omega) _,ha 0 _ rfl,ha 1 _ rfl,ha 2 _ rfl,hs 0 _ rfl,hs 1 _ rfl,hs 2 _ rfl⟩
def CHs (wr:World)(g q:Nat)(x:Ft)(a3:Option Addr)(n3 c3 f:Nat)(y:Ft)(a4:Option Addr)(n4 c4:Nat)(w':World):Prop:=
 Below wr.heap.size wr w'∧w'.cell? ⟨g,q,none⟩=some (.int .i64 x.1)∧w'.cell? ⟨g,q+1,none⟩=some (.string x.2.1)∧w'.cell? ⟨g,q+2,none⟩=some (.slice a3 n3 c3)∧w'.cell? ⟨f,0,none⟩=some (.int .i64 y.1)∧w'.cell? ⟨f,1,none⟩=some (.string y.2.1)∧w'.cell? ⟨f,2,none⟩=some (.slice a4 n4 c4)∧GS hopE w' (.slice a3 n3 c3) x.2.2∧GS hopE w' (.slice a4 n4 c4) y.2.2
theorem CHs.later {wr W W':World}{g q:Nat}{x:Ft}{a3:Option Addr}{n3 c3 f:Nat}{y:Ft}{a4:Option Addr}{n4 c4:Nat}(hb:Below W.heap.size W W')(h:CHs wr g q x a3 n3 c3 f y a4 n4 c4 W):CHs wr g q x a3 n3 c3 f y a4 n4 c4 W':=by
 obtain⟨h0,h1,h2,h3,h4,h5,h6,h7,h8⟩:=h;exact⟨h0.trans (hb.mono h0.size),cell_later hb h1,cell_later hb h2,cell_later hb h3,cell_later hb h4,cell_later hb h5,cell_later hb h6,h7.later hb,h8.later hb⟩
def hpL:((Int×Int)×Int)→((Int×Int)×Int)→Bool:=lexP (lexP (fun (a b:Int)=>decide (a<b)) (fun (a b:Int)=>decide (a<b))) (fun (a b:Int)=>decide (a<b))
theorem fa_1 {V1 U1:Int}{V2 U2:ByteArray}{L M:List ((Int×Int)×Int)}(h:V1≠U1):faL (V1,V2,L) (U1,U2,M)=decide (V1<U1):=by
 show (if V1=U1 then _ else _)=_;rw[if_neg h]
theorem fa_2 {V1:Int}{V2 U2:ByteArray}{L M:List ((Int×Int)×Int)}(h:V2≠U2):faL (V1,V2,L) (V1,U2,M)=Op.bytesLess V2.toList U2.toList:=by
 show (if V1=V1 then (if V2=U2 then _ else _) else _)=_;rw[if_pos rfl,if_neg h];rfl
theorem fa_3 {V1:Int}{V2:ByteArray}{L M:List ((Int×Int)×Int)}:faL (V1,V2,L) (V1,V2,M)=lexL hpL L M:=by
 show (if V1=V1 then (if V2=V2 then _ else _) else _)=_;rw[if_pos rfl,if_pos rfl];rfl
theorem lex_at {L M:List ((Int×Int)×Int)}{k:Nat}(h1:k<L.length)(h2:k<M.length):lexL hpL (L.drop k) (M.drop k)=if L[k]=M[k] then lexL hpL (L.drop (k+1)) (M.drop (k+1)) else hpL L[k] M[k]:=by
 rw[List.drop_eq_getElem_cons h1,List.drop_eq_getElem_cons h2];rfl
theorem lex_end {L M:List ((Int×Int)×Int)}{k:Nat}(h1:k≤L.length)(h2:k≤M.length)(h:k=L.length∨k=M.length):lexL hpL (L.drop k) (M.drop k)=decide (L.length<M.length):=by
 by_cases e:k=M.length
 ·subst e;rw[List.drop_length];have:¬L.length<M.length:=by omega
  simp[lexL,this]
 have e1:k=L.length:=by omega
 subst e1;rw[List.drop_length,List.drop_eq_getElem_cons (by omega)];have:L.length<M.length:=by omega
 simp[lexL,this]
theorem less_any (V1:Int)(V2:ByteArray)(ao:Option Addr)(n cap:Nat)(U1:Int)(U2:ByteArray)(bo:Option Addr)(m cbp:Nat)(L M:List ((Int×Int)×Int))(w:World)(hn1000:L.length≤1000)
 (h1:GS hopE w (.slice ao n cap) L) (h2:GS hopE w (.slice bo m cbp) M):
 Calls Tryz.prog 72 #[.agg #[.int .i64 V1,.string V2,.slice ao n cap],.agg #[.int .i64 U1,.string U2,.slice bo m cbp]] w fun e w'=>e=.returned (.bool (faL (V1,V2,L) (U1,U2,M)))∧Below w.heap.size w w':=by
 have hn:=h1.len;have hm:=h2.len;obtain⟨_,_,_,e1,_,_,_,ha⟩:=h1.form;cases e1;obtain⟨_,_,_,e2,_,_,_,hb⟩:=h2.form;cases e2;have HN:Hid (L.length=n):=hn;have HM:Hid (M.length=m):=hm;have HA:Hid (0<n→∃g o,ao=some ⟨g,o,none⟩∧GAt hopE w g o L∧cap≤maxLen):=ha;have HB:Hid (0<m→∃g o,bo=some ⟨g,o,none⟩∧GAt hopE w g o M∧cbp≤maxLen):=hb;have hm1000:n≤1000:=by omega
 have hX:=ft2_new w V1 V2 (.slice ao n cap) U1 U2 (.slice bo m cbp);obtain⟨w0,hw0⟩:∃W,(w.alloc (Obj.cells #[.int .i64 V1,.string V2,.slice ao n cap] 77)).alloc (Obj.cells #[.int .i64 U1,.string U2,.slice bo m cbp] 77)=W:=⟨_,rfl⟩;rw[hw0] at hX;have HX:Hid (FT2 w w0 V1 V2 (.slice ao n cap) U1 U2 (.slice bo m cbp)):=hX;have HW0:Hid ((w.alloc (Obj.cells #[.int .i64 V1,.string V2,.slice ao n cap] 77)).alloc (Obj.cells #[.int .i64 U1,.string U2,.slice bo m cbp] 77)=w0):=hw0;obtain⟨R,hR⟩:∃R,R=faL (V1,V2,L) (U1,U2,M):=⟨_,rfl⟩;have HR:Hid (R=faL (V1,V2,L) (U1,U2,M)):=hR;rw[←hR];clear hn hm h1 h2 ha hb hX hw0 hn1000 hR;go_enter Tryz.func72,Tryz.ntmps72;go_upto_region 1 with fail;rw[HW0.out];clear HW0;obtain⟨_,a0,a1,a2,b0,b1,b2⟩:=HX.out;have HB0:Hid (Below w.heap.size w w0):=HX.out.below;by_cases q1:V1=U1
 ·by_cases q2:V2=U2
  ·subst q1;subst q2;have HRS:Hid (R=lexL hpL L M):=HR.out.trans fa_3;go_wp2;clear a0 a1 a2 b0 b1 b2
   go_loopw [5] (fun i wr=>∃k:Nat,(k≤n∧k≤m)∧i=.int .i64 k∧R=lexL hpL (L.drop k) (M.drop k)∧FT2 w wr V1 V2 (.slice ao n cap) V1 V2 (.slice bo m cbp)) (fun i _=>n-(intOf i).toNat)
   case atStart=>exact⟨0,by omega,rfl,HRS.out,HX.out⟩
   case round =>
    obtain⟨k,⟨hk,hk2⟩,rfl,hRk,hF⟩:=hrel;have HRK:Hid (R=lexL hpL (L.drop k) (M.drop k)):=hRk;have HF:Hid (FT2 w wr V1 V2 (.slice ao n cap) V1 V2 (.slice bo m cbp)):=hF;obtain⟨hB,a0,a1,a2,b0,b1,b2⟩:=hF;have HBe:Hid (Below w.heap.size w wr):=hB;clear hRk;by_cases hlt:k<n
    ·by_cases hlm:k<m
     ·obtain⟨g,o,hao,hc,_⟩:=HA.out (by omega);subst hao;obtain⟨g',o',hbo,hd,_⟩:=HB.out (by omega);subst hbo;obtain⟨x0,x1,x2,hkl,hLk,c0,c1,c2⟩:=hop_at (hc.later hB) HN.out hlt;obtain⟨y0,y1,y2,hkm,hMk,d0,d1,d2⟩:=hop_at (hd.later hB) HM.out hlm;have HRX:Hid (R=if ((x0,x1),x2)=((y0,y1),y2) then lexL hpL (L.drop (k+1)) (M.drop (k+1)) else hpL ((x0,x1),x2) ((y0,y1),y2)):=by
       show _=_;rw[HRK.out,lex_at hkl hkm,hLk,hMk]
      have m1:g<wr.heap.size:=World.block_lt_of_cell? _ _ c0;have m2:g'<wr.heap.size:=World.block_lt_of_cell? _ _ d0;have m3:w.heap.size<wr.heap.size:=World.block_lt_of_cell? _ _ a0;have m4:w.heap.size+1<wr.heap.size:=World.block_lt_of_cell? _ _ b0;have p1:g'≠wr.heap.size:=by omega
      have p2:w.heap.size+1≠wr.heap.size:=by omega
      have p3:g≠wr.heap.size:=by omega
      have kb0:(0:Int)≤(k:Int):=by omega
      have kb1:(k:Int)<(n:Int):=by omega
      have kb2:(k:Int)<(m:Int):=by omega
      have dk1:decide ((k:Int)<(n:Int))=true:=by simp;omega
      have dk2:decide ((k:Int)<(m:Int))=true:=by simp;omega
      have HBA:Hid (∀o o2:Obj,Below wr.heap.size wr ((wr.alloc o).alloc o2)):=fun o o2=>((Below.refl _ _).alloc (Nat.le_refl _) _).alloc (by simp) _
      clear hc hd hLk hMk hB;by_cases e0:x0=y0
      ·by_cases e1:x1=y1
       ·by_cases e2:x2=y2
        ·subst e0;subst e1;subst e2;have HRN:Hid (R=lexL hpL (L.drop (k+1)) (M.drop (k+1))):=by
          show _=_;rw[HRX.out,if_pos rfl]
         go_wp2;go_roundw
         case rel=>exact⟨k+1,by omega,by go_num,HRN.out,HF.out.later (HBA.out _ _)⟩
         case measure=>simp[intOf];omega
        subst e0;subst e1;have HRN:Hid (R=decide (x2<y2)):=by
         show _=_;rw[HRX.out,if_neg (by simp[e2])];simp[hpL,lexP]
        have de:(x2==y2)=false:=by simpa using e2
        go_wp2;go_ret;exact⟨by rw[HRN.out];rfl,HBe.out.trans ((HBA.out _ _).mono HBe.out.size)⟩
       subst e0;have HRN:Hid (R=decide (x1<y1)):=by
        show _=_;rw[HRX.out,if_neg (by simp[e1])];simp[hpL,lexP,e1]
       have de:(x1==y1)=false:=by simpa using e1
       go_wp2;go_ret;exact⟨by rw[HRN.out];rfl,HBe.out.trans ((HBA.out _ _).mono HBe.out.size)⟩
      have HRN:Hid (R=decide (x0<y0)):=by
       show _=_;rw[HRX.out,if_neg (by simp[e0])];simp[hpL,lexP,e0]
      have de:(x0==y0)=false:=by simpa using e0
      go_wp2;go_ret;exact⟨by rw[HRN.out];rfl,HBe.out.trans ((HBA.out _ _).mono HBe.out.size)⟩
     have HRN:Hid (R=decide (n<m)):=by
      show _=_;rw[HRK.out,lex_end (by rw[HN.out];exact hk) (by rw[HM.out];exact hk2) (.inr (by rw[HM.out];omega)),HN.out,HM.out]
     have dk1:decide ((k:Int)<(n:Int))=true:=by simp;omega
     have dk2:decide ((k:Int)<(m:Int))=false:=by simp;omega
     clear hB;go_wp2;go_ret;exact⟨by rw[HRN.out];rfl,HBe.out⟩
    have HRN:Hid (R=decide (n<m)):=by
     show _=_;rw[HRK.out,lex_end (by rw[HN.out];exact hk) (by rw[HM.out];exact hk2) (.inl (by rw[HN.out];omega)),HN.out,HM.out]
    have dk1:decide ((k:Int)<(n:Int))=false:=by simp;omega
    clear hB;go_wp2;go_ret;exact⟨by rw[HRN.out];rfl,HBe.out⟩
  subst q1;have HRN:Hid (R=Op.bytesLess V2.toList U2.toList):=HR.out.trans (fa_2 q2);have d2:(V2.toList==U2.toList)=false:=by
   cases e:(V2.toList==U2.toList)
   ·rfl
   exact absurd (nm_inj (eq_of_beq e)) q2
  go_wp2;go_ret;exact⟨by rw[HRN.out];rfl,HB0.out⟩
 have HRN:Hid (R=decide (V1<U1)):=HR.out.trans (fa_1 q1);have d1:(V1==U1)=false:=by simpa using q1
 go_wp2;go_ret;exact⟨by rw[HRN.out];rfl,HB0.out⟩
theorem fate_zero:(Value.agg #[.int .i64 0,.string ⟨#[]⟩,.slice none 0 0]).cells.size=3:=by simp[Value.cells]
theorem wpList_append_fts (w:World){ops:Array Oper}{rest:List Oper}{o:Oper}{a:Act}{Q:Exit→Act→World→Prop}(hgd:o.guard=none)(s x:Operand)(t:TypeId)
 (ho:o.op=.call { callee:=.builtin .append,args:=#[s,x],argTypes:=#[t,t] }) (ht:Tryz.prog.underlying t=some (.slice 77)) (base:Nat)
 (v:Value) (hs:a.eval s=v) (L:List (Ft×SlT)) (hown:w.ownsRow base 77 ftE.n v L.length (cellsG ftE L)) (u:Value) (hx:a.eval x=u) (M:List (Ft×SlT)) (hM:GS ftE w u M)
 (h1:L.length+M.length≤100000000) (hbase:base≤w.heap.size)
 (h:∀v' w',w'.ownsRow base 77 ftE.n v' (L++M).length (cellsG ftE (L++M))→w.grownBy w' v.ownBlock→wpList Tryz.prog ops Q rest (a.put o.dst v') w'):wpList Tryz.prog ops Q (o :: rest) a w:=by
 obtain⟨i0,hi,hz0,hz1,hz2⟩:=info_parts fate_info;exact wpList_append_GS (E:=ftE) w hgd s x t 77 ho ht i0 _ 48 hi hz0 hz1 hz2 fate_zero base v hs L hown u hx M hM (by unfold maxLen;omega) (by omega) hbase h
theorem hid_len {α:Type}{l:List α}{x:α}{k:Nat}(h:l.length=k):(l++[x]).length=k+1:=by simp[h]
theorem put_any (ao:Option Addr)(n c:Nat)(y:Ft)(a4:Option Addr)(n4 c4:Nat)(L:List Ft)(w:World)(h1:FTs w (.slice ao n c) L)(h2:GS hopE w (.slice a4 n4 c4) y.2.2)(hR:Ris faL L)(hs:∀x∈L,x.2.2.length≤1000)(hy:y.2.2.length≤1000)(hl:L.length≤50000000)(hao:(ao=none∧n=0∧c=0)∨0<n):
 Calls Tryz.prog 44 #[.slice ao n c,.agg #[.int .i64 y.1,.string y.2.1,.slice a4 n4 c4]] w fun e w'=>∃a5 n5 c5,e=.returned (.slice a5 n5 c5)∧FTs w' (.slice a5 n5 c5) (puR faL y L)∧0<n5∧Below w.heap.size w w':=by
 have hn:=h1.len;obtain⟨_,_,_,e1,_,hn2,_⟩:=h1.form;cases e1;have HX:Hid (L.length=n):=hn;have HS:Hid (∀x∈L,x.2.2.length≤1000):=hs;have HY:Hid (y.2.2.length≤1000):=hy;have HRI:Hid (Ris faL L):=hR;have HLL:Hid (L.length≤50000000):=hl;have hn50:n≤50000000:=by omega
 have hb0:Below w.heap.size w (w.alloc (Obj.cells #[.int .i64 y.1,.string y.2.1,.slice a4 n4 c4] 77)):=(Below.refl _ _).alloc (Nat.le_refl _) _;have HA:Hid (∀W,Below (w.alloc (Obj.cells #[.int .i64 y.1,.string y.2.1,.slice a4 n4 c4] 77)).heap.size (w.alloc (Obj.cells #[.int .i64 y.1,.string y.2.1,.slice a4 n4 c4] 77)) W→FTs W (.slice ao n c) L∧GS hopE W (.slice a4 n4 c4) y.2.2∧VAt W w.heap.size 0 [.int .i64 y.1,.string y.2.1,.slice a4 n4 c4]):=fun W hb=>⟨(h1.later hb0).later hb,(h2.later hb0).later hb,(vat_new w [.int .i64 y.1,.string y.2.1,.slice a4 n4 c4] 77).later hb⟩
 obtain⟨w0,hw0⟩:∃W,w.alloc (Obj.cells #[.int .i64 y.1,.string y.2.1,.slice a4 n4 c4] 77)=W:=⟨_,rfl⟩;have HW0:Hid (w.alloc (Obj.cells #[.int .i64 y.1,.string y.2.1,.slice a4 n4 c4] 77)=w0):=hw0;rw[hw0] at HA hb0;have HB0:Hid (Below w.heap.size w w0):=hb0;unfold maxLen at hn2;clear hn h1 h2 hs hy hR hl hb0 hw0;go_enter Tryz.func44,Tryz.ntmps44
 go_upto_block 0 with fail
 rw[HW0.out];clear HW0
 go_cut [5] from 10 to 23 (fun i w'=>∃k:Nat,k≤n∧i=.int .i64 k∧(∀j x,k≤j→L[j]?=some x→faL y x=true)∧(∀x,0<k→L[k-1]?=some x→faL y x=false)∧Below w0.heap.size w0 w')
 case first =>
  go_wp2_with fail
  go_loopw [5] (fun i wr=>∃k:Nat,k≤n∧i=.int .i64 k∧(∀j x,k≤j→L[j]?=some x→faL y x=true)∧Below w0.heap.size w0 wr) (fun i _=>(intOf i).toNat)
  case atStart=>exact⟨n,Nat.le_refl _,rfl,fun j x hj hx=>by
   have:=(List.getElem?_eq_some_iff.1 hx).1;have:=HX.out;omega,Below.refl _ _⟩
  case round =>
   obtain⟨k,hk,rfl,hall,hB⟩:=hrel;have HB:Hid (Below w0.heap.size w0 wr):=hB;have HALL:Hid (∀j x,k≤j→L[j]?=some x→faL y x=true):=hall;clear hall;obtain⟨hF,hG,hV⟩:=HA.out wr hB;by_cases hk0:0<k
   ·obtain⟨j,rfl⟩:∃j,k=j+1:=⟨k-1,by omega⟩;obtain⟨g,o,x,a3,n3,c3,hao,hx,r0,r1,r2,hG3⟩:=hF.at (k:=j) (by omega);subst hao;have HXJ:Hid (L[j]?=some x):=hx;have HCL:Hid (CHs wr g (o+j*3) x a3 n3 c3 w.heap.size y a4 n4 c4 wr):=⟨Below.refl _ _,r0,r1,r2,hV 0 _ rfl,hV 1 _ rfl,hV 2 _ rfl,hG3,hG⟩;have hsub:IntKind.i64.wrap (((j+1:Nat):Int)-1)=(j:Int):=by rw[IntKind.wrap_i64];omega
    have jb0:(0:Int)≤(j:Int):=by omega
    have jb1:(j:Int)<(n:Int):=by omega
    have kb0:decide ((0:Int)<((j+1:Nat):Int))=true:=by simp
    obtain⟨K,hK⟩:∃K,K=j+1:=⟨_,rfl⟩;rw[←hK] at hsub kb0 hk hk0 ⊢;have HKJ:Hid (K=j+1):=hK;obtain⟨B,hBf⟩:∃B,B=faL y x:=⟨_,rfl⟩;have HBF:Hid (faL y x=B):=hBf.symm;have HBF2:Hid (faL (y.1,y.2.1,y.2.2) (x.1,x.2.1,x.2.2)=B):=hBf.symm;clear hB hx r0 r1 r2 hG3 hF hG hV hK hBf;go_upto_region 2 with fail
    go_cut [20] from 10 to 21 (fun q w'=>q=.bool B∧Below wr.heap.size wr w')
    case first =>
     as_aux_lemma =>
      refine wp_region_quiet (C:=CHs wr g (o+j*3) x a3 n3 c3 w.heap.size y a4 n4 c4) (by kernel_rfl) (by kernel_rfl) (CHs.later (W:=wr) (Below.drew (Below.refl _ _)) HCL.out) ?_;simp only[List.toList_toArray];go_big_quiet_want;refine qv (.int .i64 (K:Int)) ?_ ?_
      ·rintro w' ⟨z0,z1,z2,z3,z4,z5,z6,z7,z8⟩;go_simp
      simp only[Act.put,AP];go_big_quiet_on;go_big_quiet_want;refine qv (.bool true) ?_ ?_
      ·rintro w' ⟨z0,z1,z2,z3,z4,z5,z6,z7,z8⟩;go_simp
      simp only[Act.put,AP];go_big_quiet_on;go_big_quiet_want;refine qv (.bool true) ?_ ?_
      ·rintro w' ⟨z0,z1,z2,z3,z4,z5,z6,z7,z8⟩;go_simp
      simp only[Act.put,AP];go_big_quiet_on;go_big_quiet_want;refine qv (.agg #[.int .i64 y.1,.string y.2.1,.slice a4 n4 c4]) ?_ ?_
      ·rintro w' ⟨z0,z1,z2,z3,z4,z5,z6,z7,z8⟩;go_simp
      simp only[Act.put,AP];go_big_quiet_on;go_big_quiet_want;refine qv (.slice (some ⟨g,o,none⟩) n c) ?_ ?_
      ·rintro w' ⟨z0,z1,z2,z3,z4,z5,z6,z7,z8⟩;go_simp
      simp only[Act.put,AP];go_big_quiet_on;go_big_quiet_want;refine qv (.int .i64 (K:Int)) ?_ ?_
      ·rintro w' ⟨z0,z1,z2,z3,z4,z5,z6,z7,z8⟩;go_simp
      simp only[Act.put,AP];go_big_quiet_on;go_big_quiet_want;refine qv (.int .i64 (j:Int)) ?_ ?_
      ·rintro w' ⟨z0,z1,z2,z3,z4,z5,z6,z7,z8⟩;go_simp
      simp only[Act.put,AP];go_big_quiet_on;go_big_quiet_want;refine qv (.pointer (some ⟨g,o+j*3,none⟩)) ?_ ?_
      ·rintro w' ⟨z0,z1,z2,z3,z4,z5,z6,z7,z8⟩;go_simp
      simp only[Act.put,AP];go_big_quiet_on;go_big_quiet_want;refine qv (.agg #[.int .i64 x.1,.string x.2.1,.slice a3 n3 c3]) ?_ ?_
      ·rintro w' ⟨z0,z1,z2,z3,z4,z5,z6,z7,z8⟩;go_simp
      simp only[Act.put,AP];go_big_quiet_on;go_big_quiet_want;refine quiet_call (f:=72) (args:=#[.agg #[.int .i64 y.1,.string y.2.1,.slice a4 n4 c4],.agg #[.int .i64 x.1,.string x.2.1,.slice a3 n3 c3]]) (v:=.bool B) (fun w'=>?_) (fun w' hC=>(less_any y.1 y.2.1 a4 n4 c4 x.1 x.2.1 a3 n3 c3 y.2.2 x.2.2 w' HY.out hC.2.2.2.2.2.2.2.2 hC.2.2.2.2.2.2.2.1).mono (fun e w2 h2=>⟨by rw[h2.1,HBF2.out],CHs.later h2.2 hC⟩)) ?_
      ·go_simp
      simp only[Act.put,AP];go_big_quiet_on;go_big_quiet_want;refine qv (.bool B) ?_ ?_
      ·rintro w' ⟨z0,z1,z2,z3,z4,z5,z6,z7,z8⟩;go_simp
      simp only[Act.put,AP];go_big_quiet_on;refine wpQuiet_nil ?_;intro w' hC
      go_wp2_with fail
      go_meet
      case rel=>exact⟨rfl,hC.1⟩
    case rest =>
     obtain⟨rfl,hB2⟩:=hcut;have HB2:Hid (Below w0.heap.size w0 wc):=HB.out.trans (hB2.mono HB.out.size);clear HCL hB2;cases B with
     | false =>
       have HE:Hid (∀x,0<K→L[K-1]?=some x→faL y x=false):=fun x' _ hx'=>by
        have e:K-1=j:=by have:=HKJ.out;omega
        rw[e,HXJ.out] at hx';cases hx';exact HBF.out
       go_wp2_with fail
       go_meet
       case rel=>exact⟨K,hk,rfl,fun i x' hi hx'=>HALL.out i x' (by have:=HKJ.out;omega) hx',HE.out,HB2.out⟩
     | true =>
       have HALL2:Hid (∀i x,j≤i→L[i]?=some x→faL y x=true):=fun i x' hi hx'=>by
        by_cases e:i=j
        ·subst e;rw[HXJ.out] at hx';cases hx';exact HBF.out
        exact HALL.out i x' (by have:=HKJ.out;omega) hx'
       go_wp2;go_roundw
       case rel=>exact⟨j,by have:=HKJ.out;omega,by first | rfl | (simp only[hsub]),HALL2.out,HB2.out⟩
       case measure=>simp[intOf,hsub];have:=HKJ.out;omega
   obtain rfl:k=0:=by omega
   have HCL:Hid (Below wr.heap.size wr wr):=Below.refl _ _;have HE:Hid (∀x,0<0→L[0-1]?=some x→faL y x=false):=fun x h=>absurd h (by omega)
   clear hF hG hV hB;go_upto_region 2 with fail
   go_cut [20] from 10 to 21 (fun q w'=>q=.bool false∧Below wr.heap.size wr w')
   case first =>
    as_aux_lemma =>
     refine wp_region_quiet (C:=fun W=>Below wr.heap.size wr W) (by kernel_rfl) (by kernel_rfl) (Below.drew (Below.refl _ _)) ?_;simp only[List.toList_toArray];go_big_quiet_want;refine qv (.int .i64 0) ?_ ?_
     ·rintro w' z0;go_simp
     simp only[Act.put,AP];go_big_quiet_on;go_big_quiet_want;refine qv (.bool false) ?_ ?_
     ·rintro w' z0;go_simp
     simp only[Act.put,AP];go_big_quiet_on;go_big_quiet_want;refine qv (.bool false) ?_ ?_
     ·rintro w' z0;go_simp
     simp only[Act.put,AP];go_big_quiet_on;go_big_quiet_skip;go_big_quiet_skip;go_big_quiet_skip;go_big_quiet_skip;go_big_quiet_skip;go_big_quiet_skip;go_big_quiet_skip;go_big_quiet_want;refine qv (.bool false) ?_ ?_
     ·rintro w' z0;go_simp
     simp only[Act.put,AP];go_big_quiet_on;refine wpQuiet_nil ?_;intro w' hC
     go_wp2_with fail
     go_meet
     case rel=>exact⟨rfl,hC⟩
   case rest =>
    obtain⟨rfl,hB2⟩:=hcut;have HB2:Hid (Below w0.heap.size w0 wc):=HB.out.trans (hB2.mono HB.out.size);clear HCL hB2
    go_wp2_with fail
    go_meet
    case rel=>exact⟨0,by omega,rfl,HALL.out,HE.out,HB2.out⟩
 case rest =>
  obtain⟨k,hk,rfl,hall,hend,hB⟩:=hcut;have HB:Hid (Below w0.heap.size w0 wc):=hB;have HALL:Hid (∀j x,k≤j→L[j]?=some x→faL y x=true):=hall;have HEND:Hid (∀x,0<k→L[k-1]?=some x→faL y x=false):=hend;obtain⟨wz,hwz⟩:∃W,W=wc:=⟨wc,rfl⟩;subst hwz;clear hall hend
  go_upto_if 24 with fail
  go_cut [6] from 23 to 35 (fun _ w'=>(∀j x,j<k→L[j]?=some x→faL x y=true)∧Below wz.heap.size wz w')
  case first =>
   by_cases hk0:0<k
   ·obtain⟨j,hK⟩:∃j,k=j+1:=⟨k-1,by omega⟩;obtain⟨hF,hG,hV⟩:=HA.out wz hB;obtain⟨g,o,x,a3,n3,c3,hao2,hx,r0,r1,r2,hG3⟩:=hF.at (k:=j) (by omega);subst hao2;have HXJ:Hid (L[j]?=some x):=hx;have HSX:Hid (x.2.2.length≤1000):=HS.out x (List.mem_of_getElem? hx);have HCL:Hid (CHs wz g (o+j*3) x a3 n3 c3 w.heap.size y a4 n4 c4 wz):=⟨Below.refl _ _,r0,r1,r2,hV 0 _ rfl,hV 1 _ rfl,hV 2 _ rfl,hG3,hG⟩;have HNF:Hid (faL y x=false):=HEND.out x hk0 (by rw[show k-1=j by omega];exact hx);have HFZ:Hid (∀W,Below wz.heap.size wz W→FTs W (.slice (some ⟨g,o,none⟩) n c) L):=fun W hb=>hF.later hb
    have hsub:IntKind.i64.wrap ((k:Int)-1)=(j:Int):=by rw[IntKind.wrap_i64];omega
    have jb0:(0:Int)≤(j:Int):=by omega
    have jb1:(j:Int)<(n:Int):=by omega
    have kb0:decide ((0:Int)<(k:Int))=true:=by simp;omega
    have HKJ:Hid (k=j+1):=hK;obtain⟨B,hBf⟩:∃B,B=faL x y:=⟨_,rfl⟩;have HBF:Hid (faL x y=B):=hBf.symm;have HBF2:Hid (faL (x.1,x.2.1,x.2.2) (y.1,y.2.1,y.2.2)=B):=hBf.symm;clear hB hx r0 r1 r2 hG3 hF hG hV hK hBf HEND HALL;go_upto_region 5 with fail
    go_cut [6] from 25 to 33 (fun q w'=>q=.bool B∧Below wz.heap.size wz w')
    case first =>
     as_aux_lemma =>
      refine wp_region_quiet (C:=CHs wz g (o+j*3) x a3 n3 c3 w.heap.size y a4 n4 c4) (by kernel_rfl) (by kernel_rfl) (CHs.later (W:=wz) (Below.drew (Below.refl _ _)) HCL.out) ?_;simp only[List.toList_toArray];go_big_quiet_want;refine qv (.slice (some ⟨g,o,none⟩) n c) ?_ ?_
      ·rintro w' ⟨z0,z1,z2,z3,z4,z5,z6,z7,z8⟩;go_simp
      simp only[Act.put,AP];go_big_quiet_on;go_big_quiet_want;refine qv (.int .i64 (k:Int)) ?_ ?_
      ·rintro w' ⟨z0,z1,z2,z3,z4,z5,z6,z7,z8⟩;go_simp
      simp only[Act.put,AP];go_big_quiet_on;go_big_quiet_want;refine qv (.int .i64 (j:Int)) ?_ ?_
      ·rintro w' ⟨z0,z1,z2,z3,z4,z5,z6,z7,z8⟩;go_simp
      simp only[Act.put,AP];go_big_quiet_on;go_big_quiet_want;refine qv (.pointer (some ⟨g,o+j*3,none⟩)) ?_ ?_
      ·rintro w' ⟨z0,z1,z2,z3,z4,z5,z6,z7,z8⟩;go_simp
      simp only[Act.put,AP];go_big_quiet_on;go_big_quiet_want;refine qv (.agg #[.int .i64 x.1,.string x.2.1,.slice a3 n3 c3]) ?_ ?_
      ·rintro w' ⟨z0,z1,z2,z3,z4,z5,z6,z7,z8⟩;go_simp
      simp only[Act.put,AP];go_big_quiet_on;go_big_quiet_want;refine qv (.agg #[.int .i64 y.1,.string y.2.1,.slice a4 n4 c4]) ?_ ?_
      ·rintro w' ⟨z0,z1,z2,z3,z4,z5,z6,z7,z8⟩;go_simp
      simp only[Act.put,AP];go_big_quiet_on;go_big_quiet_want;refine quiet_call (f:=72) (args:=#[.agg #[.int .i64 x.1,.string x.2.1,.slice a3 n3 c3],.agg #[.int .i64 y.1,.string y.2.1,.slice a4 n4 c4]]) (v:=.bool B) (fun w'=>?_) (fun w' hC=>(less_any x.1 x.2.1 a3 n3 c3 y.1 y.2.1 a4 n4 c4 x.2.2 y.2.2 w' HSX.out hC.2.2.2.2.2.2.2.1 hC.2.2.2.2.2.2.2.2).mono (fun e w2 h2=>⟨by rw[h2.1,HBF2.out],CHs.later h2.2 hC⟩)) ?_
      ·go_simp
      simp only[Act.put,AP];go_big_quiet_on;go_big_quiet_want;refine qv (.bool B) ?_ ?_
      ·rintro w' ⟨z0,z1,z2,z3,z4,z5,z6,z7,z8⟩;go_simp
      simp only[Act.put,AP];go_big_quiet_on;refine wpQuiet_nil ?_;intro w' hC
      go_wp2_with fail
      go_meet
      case rel=>exact⟨rfl,hC.1⟩
    case rest =>
     obtain⟨rfl,hB2⟩:=hcut;have HB2:Hid (Below wz.heap.size wz wc):=hB2;clear HCL hB2;cases B with
     | false =>
       have HPU:Hid (puR faL y L=L):=by
        have e:x=y:=lo_fate.tot _ _ HBF.out HNF.out;exact pu_in lo_fate HRI.out (by rw[←e];exact List.mem_of_getElem? HXJ.out)
       have HFW:Hid (FTs wc (.slice (some ⟨g,o,none⟩) n c) L):=HFZ.out _ HB2.out;go_wp2;go_ret;exact⟨some ⟨g,o,none⟩,n,c,rfl,by rw[HPU.out];exact HFW.out,by omega,HB0.out.trans ((HB.out.trans (HB2.out.mono HB.out.size)).mono HB0.out.size)⟩
     | true =>
       have HLT:Hid (∀i x,i<k→L[i]?=some x→faL x y=true):=fun i x' hi hx'=>by
        by_cases e:i=j
        ·subst e;rw[HXJ.out] at hx';cases hx';exact HBF.out
        exact lo_fate.tr _ _ _ (ris_lt lo_fate HRI.out (by have:=HKJ.out;omega) hx' HXJ.out) HBF.out
       go_wp2_with fail
       go_meet
       case rel=>exact⟨HLT.out,HB2.out⟩
   obtain rfl:k=0:=by omega
   clear hB
   go_wp2_with fail
   go_meet
   case rel=>exact⟨fun j x h=>absurd h (by omega),Below.refl _ _⟩
  case rest =>
   obtain⟨hlt,hBc⟩:=hcut;have hw0c:Below w0.heap.size w0 wc:=hB.trans (hBc.mono hB.size);have HPU:Hid (puR faL y L=L.take k++[y]++L.drop k):=pu_at lo_fate HRI.out (by rw[HX.out];exact hk) HALL.out hlt;obtain⟨⟨Z,hZ1,hZ2,hZ3⟩,hG,hV⟩:=HA.out wc hw0c;have HWC:Hid (Below w.heap.size w wc):=HB0.out.trans (hw0c.mono HB0.out.size);have HZ:Hid (GS ftE wc (.slice ao n c) Z∧Z.map Prod.fst=L∧∀z∈Z,GS hopE wc (slV z.2) z.1.2.2):=⟨hZ1,hZ2,hZ3⟩;have HGY:Hid (GS hopE wc (.slice a4 n4 c4) y.2.2):=hG;have HVY:Hid (∀W,Below wc.heap.size wc W→W.cell? ⟨w.heap.size,0,none⟩=some (.int .i64 y.1)∧W.cell? ⟨w.heap.size,1,none⟩=some (.string y.2.1)∧W.cell? ⟨w.heap.size,2,none⟩=some (.slice a4 n4 c4)):=fun W hb=>by
    have q:=hV.later hb;exact⟨q 0 _ rfl,q 1 _ rfl,q 2 _ rfl⟩
   have hZn:Z.length=n:=hZ1.len;obtain⟨Z1,hq1⟩:∃q,q=Z.take k:=⟨_,rfl⟩;obtain⟨Z2,hq2⟩:∃q,q=Z.drop k:=⟨_,rfl⟩;have HZ1L:Hid (Z1.length=k):=show Z1.length=k by rw[hq1,List.length_take];omega
   have HZ2L:Hid (Z2.length=n-k):=show Z2.length=n-k by rw[hq2,List.length_drop];omega
   have HM1:Hid (Z1.map Prod.fst=L.take k):=show Z1.map Prod.fst=L.take k by rw[hq1,List.map_take,hZ2]
   have HM2:Hid (Z2.map Prod.fst=L.drop k):=show Z2.map Prod.fst=L.drop k by rw[hq2,List.map_drop,hZ2]
   have HI1:Hid (∀z∈Z1,z∈Z):=fun z hz=>List.mem_of_mem_take (by rw[hq1] at hz;exact hz)
   have HI2:Hid (∀z∈Z2,z∈Z):=fun z hz=>List.mem_of_mem_drop (by rw[hq2] at hz;exact hz)
   have HT1:Hid (GS ftE wc (.slice ao k c) Z1):=show GS ftE wc (.slice ao k c) Z1 by rw[hq1];exact hZ1.take hk
   have HD:Hid (∀g o,ao=some ⟨g,o,none⟩→GS ftE wc (.slice (some ⟨g,o+k*3,none⟩) (n-k) (c-k)) Z2):=show ∀g o,ao=some ⟨g,o,none⟩→GS ftE wc (.slice (some ⟨g,o+k*3,none⟩) (n-k) (c-k)) Z2 by
    rintro g o rfl;rw[hq2];exact hZ1.drop hk
   clear hB hlt hBc hw0c hZ1 hZ2 hZ3 hG hV HALL HEND HB hq1 hq2 hZn;obtain⟨i0,hi,hz0,hz1,hz2⟩:=info_parts fate_info;cases ao with
   | none =>
     obtain⟨rfl,rfl⟩:n=0∧c=0:=by
      rcases hao with ⟨_,h⟩ | h
      ·exact h
      rcases HZ.out.1 with ⟨_,_,e,_⟩ | ⟨_,_,_,e,_⟩
      ·cases e;omega
      cases e
     obtain rfl:k=0:=by omega
     have HT2:Hid (GS ftE wc (.slice none 0 0) Z2):=.inl ⟨none,0,rfl,List.length_eq_zero_iff.1 (by have:=HZ2L.out;omega)⟩;go_upto_region 9 with fail
     go_wp2_with (at_builtin;refine wpList_append_fts _ rfl _ _ 34 rfl Tryz.underlying34 wc.heap.size (.slice none 0 0) rfl [] (World.ownsRow_nil _ _ _ _) _ rfl Z1 ?a1 ?a2 (Nat.le_refl _) ?_)
     case a1=>exact HT1.out
     case a2=>have:=HZ1L.out;simp;omega
     intro v1 w1 ho1 hg1
     try rw[List.nil_append] at ho1
     have hb1:Below wc.heap.size wc w1:=(Below.refl _ wc).grown hg1 (Nat.le_refl _) (fun g hg=>by cases hg);obtain⟨a1,c1,hv1⟩:=own_form ho1;subst hv1;rw[HZ1L.out] at ho1 ⊢;have HO1:Hid (w1.ownsRow wc.heap.size 77 ftE.n (.slice a1 0 c1) 0 (cellsG ftE Z1)):=ho1;have HB1:Hid (Below wc.heap.size wc w1):=hb1;obtain⟨q0,q1,q2⟩:=HVY.out _ hb1;clear ho1 hg1 hb1;go_upto_region 10 with fail
     go_wp2_with (at_builtin;refine wpList_append_blk (E:=ftE) _ rfl _ _ 34 77 rfl Tryz.underlying34 i0 (.agg #[.int .i64 0,.string ⟨#[]⟩,.slice none 0 0]) 48 hi hz0 hz1 hz2 fate_zero wc.heap.size (.slice a1 0 c1) rfl Z1 ?m0 w1.heap.size 0 1 rfl (y,(a4,n4,c4)) (vat_new w1 [.int .i64 y.1,.string y.2.1,.slice a4 n4 c4] 77) ?m1 ?m2 ?m3 ?_)
     case m0=>rw[HZ1L.out];exact HO1.out.alloc _
     case m1=>rw[HZ1L.out];unfold maxLen;omega
     case m2=>rw[HZ1L.out];omega
     case m3=>have:=HB1.out.size;simp;omega
     intro v2 w2 ho2 hg2 _;have hb2:Below wc.heap.size w1 w2:=((Below.refl _ w1).alloc HB1.out.size _).grown hg2 (by have:=HB1.out.size;simp;omega) (fun g hg=>(HO1.out.lt g hg).1);have HB2:Hid (Below wc.heap.size wc w2):=HB1.out.trans hb2;obtain⟨a2,c2,hv2⟩:=own_form ho2;subst hv2;have HL2:Hid ((Z1++[(y,(a4,n4,c4))]).length=0+1):=hid_len HZ1L.out
     try rw[List.length_append] at ho2 ⊢
     try simp only[List.length_cons,List.length_nil,Nat.zero_add] at ho2 ⊢
     rw[HZ1L.out] at ho2 ⊢;have HO2:Hid (w2.ownsRow wc.heap.size 77 ftE.n (.slice a2 (0+1) c2) (0+1) (cellsG ftE (Z1++[(y,(a4,n4,c4))]))):=ho2;clear ho2 hg2 hb2 q0 q1 q2;go_upto_region 11 with fail
     go_wp2_with (at_builtin;refine wpList_append_fts _ rfl _ _ 34 rfl Tryz.underlying34 wc.heap.size (.slice a2 (0+1) c2) rfl (Z1++[(y,(a4,n4,c4))]) ?b0 _ rfl Z2 ?b1 ?b2 ?b3 ?_)
     case b0=>rw[HL2.out];exact HO2.out
     case b1=>exact HT2.out.later HB2.out
     case b2=>rw[HL2.out,HZ2L.out];omega
     case b3=>exact HB2.out.size
     intro v3 w3 ho3 hg3;have hb3:Below wc.heap.size w2 w3:=(Below.refl _ w2).grown hg3 HB2.out.size (fun g hg=>(HO2.out.lt g hg).1);have HB3:Hid (Below wc.heap.size wc w3):=HB2.out.trans hb3;have hG3:GS ftE w3 v3 (Z1++[(y,(a4,n4,c4))]++Z2):=own_GS (by simpa using ho3);obtain⟨a3,n3,c3,hv3,hn3,_⟩:=hG3.form;subst hv3;have HG3:Hid (GS ftE w3 (.slice a3 n3 c3) (Z1++[(y,(a4,n4,c4))]++Z2)):=hG3;have hn30:0<n3:=by rw[←hn3];simp;omega
     clear ho3 hg3 hb3 hG3 hn3;go_wp2;go_ret;refine⟨a3,n3,c3,rfl,⟨_,HG3.out,?_,?_⟩,hn30,HWC.out.trans (HB3.out.mono HWC.out.size)⟩
     ·rw[HPU.out,List.map_append,List.map_append,HM1.out,HM2.out];rfl
     intro z hz
     rcases List.mem_append.1 hz with hz | hz
     ·rcases List.mem_append.1 hz with hz | hz
      ·exact (HZ.out.2.2 z (HI1.out z hz)).later HB3.out
      obtain rfl:z=(y,(a4,n4,c4)):=by simpa using hz
      exact HGY.out.later HB3.out
     exact (HZ.out.2.2 z (HI2.out z hz)).later HB3.out
   | some ad =>
     obtain⟨g,o,rfl⟩:∃g o,ad=⟨g,o,none⟩:=by
      rcases HZ.out.1 with ⟨_,_,e,_⟩ | ⟨_,_,_,e,_⟩
      ·cases e
       rcases hao with ⟨h,_⟩ | h
       ·cases h
       omega
      cases e;exact⟨_,_,rfl⟩
     by_cases hck:c=k
     ·obtain rfl:n=k:=by omega
      obtain rfl:n=c:=by omega
      have HT2:Hid (GS ftE wc (.slice (some ⟨g,o,none⟩) 0 0) Z2):=.inl ⟨_,_,rfl,List.length_eq_zero_iff.1 (by have:=HZ2L.out;omega)⟩;go_upto_region 9 with fail
      go_wp2_with (at_builtin;refine wpList_append_fts _ rfl _ _ 34 rfl Tryz.underlying34 wc.heap.size (.slice none 0 0) rfl [] (World.ownsRow_nil _ _ _ _) _ rfl Z1 ?a1 ?a2 (Nat.le_refl _) ?_)
      case a1=>exact HT1.out
      case a2=>have:=HZ1L.out;simp;omega
      intro v1 w1 ho1 hg1
      try rw[List.nil_append] at ho1
      have hb1:Below wc.heap.size wc w1:=(Below.refl _ wc).grown hg1 (Nat.le_refl _) (fun g hg=>by cases hg);obtain⟨a1,c1,hv1⟩:=own_form ho1;subst hv1;rw[HZ1L.out] at ho1 ⊢;have HO1:Hid (w1.ownsRow wc.heap.size 77 ftE.n (.slice a1 n c1) n (cellsG ftE Z1)):=ho1;have HB1:Hid (Below wc.heap.size wc w1):=hb1;obtain⟨q0,q1,q2⟩:=HVY.out _ hb1;clear ho1 hg1 hb1;go_upto_region 10 with fail
      go_wp2_with (at_builtin;refine wpList_append_blk (E:=ftE) _ rfl _ _ 34 77 rfl Tryz.underlying34 i0 (.agg #[.int .i64 0,.string ⟨#[]⟩,.slice none 0 0]) 48 hi hz0 hz1 hz2 fate_zero wc.heap.size (.slice a1 n c1) rfl Z1 ?m0 w1.heap.size 0 1 rfl (y,(a4,n4,c4)) (vat_new w1 [.int .i64 y.1,.string y.2.1,.slice a4 n4 c4] 77) ?m1 ?m2 ?m3 ?_)
      case m0=>rw[HZ1L.out];exact HO1.out.alloc _
      case m1=>rw[HZ1L.out];unfold maxLen;omega
      case m2=>rw[HZ1L.out];omega
      case m3=>have:=HB1.out.size;simp;omega
      intro v2 w2 ho2 hg2 _;have hb2:Below wc.heap.size w1 w2:=((Below.refl _ w1).alloc HB1.out.size _).grown hg2 (by have:=HB1.out.size;simp;omega) (fun g hg=>(HO1.out.lt g hg).1);have HB2:Hid (Below wc.heap.size wc w2):=HB1.out.trans hb2;obtain⟨a2,c2,hv2⟩:=own_form ho2;subst hv2;have HL2:Hid ((Z1++[(y,(a4,n4,c4))]).length=n+1):=hid_len HZ1L.out
      try rw[List.length_append] at ho2 ⊢
      try simp only[List.length_cons,List.length_nil,Nat.zero_add] at ho2 ⊢
      rw[HZ1L.out] at ho2 ⊢;have HO2:Hid (w2.ownsRow wc.heap.size 77 ftE.n (.slice a2 (n+1) c2) (n+1) (cellsG ftE (Z1++[(y,(a4,n4,c4))]))):=ho2;clear ho2 hg2 hb2 q0 q1 q2;go_upto_region 11 with fail
      go_wp2_with (at_builtin;refine wpList_append_fts _ rfl _ _ 34 rfl Tryz.underlying34 wc.heap.size (.slice a2 (n+1) c2) rfl (Z1++[(y,(a4,n4,c4))]) ?b0 _ rfl Z2 ?b1 ?b2 ?b3 ?_)
      case b0=>rw[HL2.out];exact HO2.out
      case b1=>exact HT2.out.later HB2.out
      case b2=>rw[HL2.out,HZ2L.out];omega
      case b3=>exact HB2.out.size
      intro v3 w3 ho3 hg3;have hb3:Below wc.heap.size w2 w3:=(Below.refl _ w2).grown hg3 HB2.out.size (fun g hg=>(HO2.out.lt g hg).1);have HB3:Hid (Below wc.heap.size wc w3):=HB2.out.trans hb3;have hG3:GS ftE w3 v3 (Z1++[(y,(a4,n4,c4))]++Z2):=own_GS (by simpa using ho3);obtain⟨a3,n3,c3,hv3,hn3,_⟩:=hG3.form;subst hv3;have HG3:Hid (GS ftE w3 (.slice a3 n3 c3) (Z1++[(y,(a4,n4,c4))]++Z2)):=hG3;have hn30:0<n3:=by rw[←hn3];simp;omega
      clear ho3 hg3 hb3 hG3 hn3;go_wp2;go_ret;refine⟨a3,n3,c3,rfl,⟨_,HG3.out,?_,?_⟩,hn30,HWC.out.trans (HB3.out.mono HWC.out.size)⟩
      ·rw[HPU.out,List.map_append,List.map_append,HM1.out,HM2.out];rfl
      intro z hz
      rcases List.mem_append.1 hz with hz | hz
      ·rcases List.mem_append.1 hz with hz | hz
       ·exact (HZ.out.2.2 z (HI1.out z hz)).later HB3.out
       obtain rfl:z=(y,(a4,n4,c4)):=by simpa using hz
       exact HGY.out.later HB3.out
      exact (HZ.out.2.2 z (HI2.out z hz)).later HB3.out
     have HT2:Hid (GS ftE wc (.slice (some ⟨g,o+k*3,none⟩) (n-k) (c-k)) Z2):=HD.out g o rfl;go_upto_region 9 with fail
     go_wp2_with (at_builtin;refine wpList_append_fts _ rfl _ _ 34 rfl Tryz.underlying34 wc.heap.size (.slice none 0 0) rfl [] (World.ownsRow_nil _ _ _ _) _ rfl Z1 ?a1 ?a2 (Nat.le_refl _) ?_)
     case a1=>exact HT1.out
     case a2=>have:=HZ1L.out;simp;omega
     intro v1 w1 ho1 hg1
     try rw[List.nil_append] at ho1
     have hb1:Below wc.heap.size wc w1:=(Below.refl _ wc).grown hg1 (Nat.le_refl _) (fun g hg=>by cases hg);obtain⟨a1,c1,hv1⟩:=own_form ho1;subst hv1;rw[HZ1L.out] at ho1 ⊢;have HO1:Hid (w1.ownsRow wc.heap.size 77 ftE.n (.slice a1 k c1) k (cellsG ftE Z1)):=ho1;have HB1:Hid (Below wc.heap.size wc w1):=hb1;obtain⟨q0,q1,q2⟩:=HVY.out _ hb1;clear ho1 hg1 hb1;go_upto_region 10 with fail
     go_wp2_with (at_builtin;refine wpList_append_blk (E:=ftE) _ rfl _ _ 34 77 rfl Tryz.underlying34 i0 (.agg #[.int .i64 0,.string ⟨#[]⟩,.slice none 0 0]) 48 hi hz0 hz1 hz2 fate_zero wc.heap.size (.slice a1 k c1) rfl Z1 ?m0 w1.heap.size 0 1 rfl (y,(a4,n4,c4)) (vat_new w1 [.int .i64 y.1,.string y.2.1,.slice a4 n4 c4] 77) ?m1 ?m2 ?m3 ?_)
     case m0=>rw[HZ1L.out];exact HO1.out.alloc _
     case m1=>rw[HZ1L.out];unfold maxLen;omega
     case m2=>rw[HZ1L.out];omega
     case m3=>have:=HB1.out.size;simp;omega
     intro v2 w2 ho2 hg2 _;have hb2:Below wc.heap.size w1 w2:=((Below.refl _ w1).alloc HB1.out.size _).grown hg2 (by have:=HB1.out.size;simp;omega) (fun g hg=>(HO1.out.lt g hg).1);have HB2:Hid (Below wc.heap.size wc w2):=HB1.out.trans hb2;obtain⟨a2,c2,hv2⟩:=own_form ho2;subst hv2;have HL2:Hid ((Z1++[(y,(a4,n4,c4))]).length=k+1):=hid_len HZ1L.out
     try rw[List.length_append] at ho2 ⊢
     try simp only[List.length_cons,List.length_nil,Nat.zero_add] at ho2 ⊢
     rw[HZ1L.out] at ho2 ⊢;have HO2:Hid (w2.ownsRow wc.heap.size 77 ftE.n (.slice a2 (k+1) c2) (k+1) (cellsG ftE (Z1++[(y,(a4,n4,c4))]))):=ho2;clear ho2 hg2 hb2 q0 q1 q2;go_upto_region 11 with fail
     go_wp2_with (at_builtin;refine wpList_append_fts _ rfl _ _ 34 rfl Tryz.underlying34 wc.heap.size (.slice a2 (k+1) c2) rfl (Z1++[(y,(a4,n4,c4))]) ?b0 _ rfl Z2 ?b1 ?b2 ?b3 ?_)
     case b0=>rw[HL2.out];exact HO2.out
     case b1=>exact HT2.out.later HB2.out
     case b2=>rw[HL2.out,HZ2L.out];omega
     case b3=>exact HB2.out.size
     intro v3 w3 ho3 hg3;have hb3:Below wc.heap.size w2 w3:=(Below.refl _ w2).grown hg3 HB2.out.size (fun g hg=>(HO2.out.lt g hg).1);have HB3:Hid (Below wc.heap.size wc w3):=HB2.out.trans hb3;have hG3:GS ftE w3 v3 (Z1++[(y,(a4,n4,c4))]++Z2):=own_GS (by simpa using ho3);obtain⟨a3,n3,c3,hv3,hn3,_⟩:=hG3.form;subst hv3;have HG3:Hid (GS ftE w3 (.slice a3 n3 c3) (Z1++[(y,(a4,n4,c4))]++Z2)):=hG3;have hn30:0<n3:=by rw[←hn3];simp;omega
     clear ho3 hg3 hb3 hG3 hn3;go_wp2;go_ret;refine⟨a3,n3,c3,rfl,⟨_,HG3.out,?_,?_⟩,hn30,HWC.out.trans (HB3.out.mono HWC.out.size)⟩
     ·rw[HPU.out,List.map_append,List.map_append,HM1.out,HM2.out];rfl
     intro z hz
     rcases List.mem_append.1 hz with hz | hz
     ·rcases List.mem_append.1 hz with hz | hz
      ·exact (HZ.out.2.2 z (HI1.out z hz)).later HB3.out
      obtain rfl:z=(y,(a4,n4,c4)):=by simpa using hz
      exact HGY.out.later HB3.out
     exact (HZ.out.2.2 z (HI2.out z hz)).later HB3.out
end
end Go.Proofs.YtglnnoglbieaeaaGreatDoor
