/- Contracts and facts on the way to PlanLeast, joined into one text: RefPut, RefWalk, RefSeen, RefSafe, RefMay, RefOf, RefHolds, RefPlan, RefSets, RefWithout. -/
import Derived.Test.YtiokpmlhmlcojaaGreatDoorPlanLeastP10
namespace Go.Proofs.YtiokpmlhmlcojaaGreatDoor
set_option linter.unusedSimpArgs false
set_option linter.unusedVariables false
set_option maxHeartbeats 16000000
set_option maxRecDepth 100000
open Go.Proofs.Tryz
open IntKind (i64)
section
open Go.RowKit
theorem fate_zero:(Value.agg #[.int i64 0,.string ⟨#[]⟩,.slice none 0 0]).cells.size=3:=by simp[Value.cells]
theorem fate_info:(Tryz.prog.info? 83).map (fun i=>(i.zero,i.size,i.bytes))=some (some (.agg #[.int i64 0,.string ⟨#[]⟩,.slice none 0 0]),3,48):=by kernel_rfl
theorem wpList_append_fts (w:World){ops:Array Oper}{rest:List Oper}{o:Oper}{a:Act}{Q:Exit→Act→World→Prop}(hgd:o.guard=none)(s x:Operand)(t:TypeId)
 (ho:o.op=.call { callee:=.builtin .append,args:=#[s,x],argTypes:=#[t,t] }) (ht:Tryz.prog.underlying t=some (.slice 83)) (base:Nat)
 (v:Value) (hs:a.eval s=v) (L:List (Ft×SlT)) (hown:w.ownsRow base 83 ftE.n v L.length (cellsG ftE L)) (u:Value) (hx:a.eval x=u) (M:List (Ft×SlT)) (hM:GS ftE w u M)
 (h1:L.length+M.length≤100000000) (hbase:base≤w.heap.size)
 (h:∀v' w',w'.ownsRow base 83 ftE.n v' (L++M).length (cellsG ftE (L++M))→w.grownBy w' v.ownBlock→wpList prog ops Q rest (a.put o.dst v') w'):wpList prog ops Q (o :: rest) a w:=by
 obtain⟨i0,hi,hz0,hz1,hz2⟩:=info_parts fate_info;exact wpList_append_GS (E:=ftE) w hgd s x t 83 ho ht i0 _ 48 hi hz0 hz1 hz2 fate_zero base v hs L hown u hx M hM (by unfold maxLen;omega) (by omega) hbase h
theorem hid_len {α:Type}{l:List α}{x:α}{k:Nat}(h:l.length=k):(l++[x]).length=k+1:=by simp[h]
theorem put_any (ao:AdQ)(n c:Nat)(y:Ft)(a4:AdQ)(n4 c4:Nat)(L:List Ft)(w:World)(h1:FTs w (.slice ao n c) L)(h2:GS hopE w (.slice a4 n4 c4) y.2.2)(hR:Ris faL L)(hs:∀x∈L,x.2.2.length≤1000)(hy:y.2.2.length≤1000)(hl:L.length≤50000000)(hao:(ao=none∧n=0∧c=0)∨0<n):
 Calls prog 86 #[.slice ao n c,.agg #[.int i64 y.1,.string y.2.1,.slice a4 n4 c4]] w fun e w'=>∃a5 n5 c5,e=.returned (.slice a5 n5 c5)∧FTs w' (.slice a5 n5 c5) (puR faL y L)∧0<n5∧Below w.heap.size w w':=by
 have hn:=h1.len;obtain⟨_,_,_,e1,_,hn2,_⟩:=h1.form;cases e1;have HX:Hid (L.length=n):=hn;have HS:Hid (∀x∈L,x.2.2.length≤1000):=hs;have HY:Hid (y.2.2.length≤1000):=hy;have HRI:Hid (Ris faL L):=hR;have HLL:Hid (L.length≤50000000):=hl;have hn50:n≤50000000:=by omega
 have hb0:Below w.heap.size w (w.alloc (.cells #[.int i64 y.1,.string y.2.1,.slice a4 n4 c4] 83)):=(bRQ _ _).alloc (nLQ _) _;have HA:Hid (∀W,Below (w.alloc (.cells #[.int i64 y.1,.string y.2.1,.slice a4 n4 c4] 83)).heap.size (w.alloc (.cells #[.int i64 y.1,.string y.2.1,.slice a4 n4 c4] 83)) W→FTs W (.slice ao n c) L∧GS hopE W (.slice a4 n4 c4) y.2.2∧VAt W w.heap.size 0 [.int i64 y.1,.string y.2.1,.slice a4 n4 c4]):=fun W hb=>⟨(h1.later hb0).later hb,(h2.later hb0).later hb,(vat_new w [.int i64 y.1,.string y.2.1,.slice a4 n4 c4] 83).later hb⟩
 obtain⟨w0,hw0⟩:∃W,w.alloc (.cells #[.int i64 y.1,.string y.2.1,.slice a4 n4 c4] 83)=W:=⟨_,rfl⟩;have HW0:Hid (w.alloc (.cells #[.int i64 y.1,.string y.2.1,.slice a4 n4 c4] 83)=w0):=hw0;rw[hw0] at HA hb0;have HB0:Hid (Below w.heap.size w w0):=hb0;unfold maxLen at hn2;clear hn h1 h2 hs hy hR hl hb0 hw0;go_enter func86,ntmps86
 go_upto_block 0 with fail
 rw[HW0.out];clear HW0
 go_cut [5] from 10 to 23 (fun i w'=>∃k:Nat,k≤n∧i=.int i64 k∧(∀j x,k≤j→L[j]?=some x→faL y x=true)∧(∀x,0<k→L[k-1]?=some x→faL y x=false)∧Below w0.heap.size w0 w')
 case first =>
  go_wp2_with fail
  go_loopw [5] (fun i wr=>∃k:Nat,k≤n∧i=.int i64 k∧(∀j x,k≤j→L[j]?=some x→faL y x=true)∧Below w0.heap.size w0 wr) (fun i _=>(intOf i).toNat)
  case atStart=>exact⟨n,nLQ _,rfl,fun j x hj hx=>by
   have:=(List.getElem?_eq_some_iff.1 hx).1;have:=HX.out;omega,bRQ _ _⟩
  case round =>
   obtain⟨k,hk,rfl,hall,hB⟩:=hrel;have HB:Hid (Below w0.heap.size w0 wr):=hB;have HALL:Hid (∀j x,k≤j→L[j]?=some x→faL y x=true):=hall;clear hall;obtain⟨hF,hG,hV⟩:=HA.out wr hB;by_cases hk0:0<k
   ·obtain⟨j,rfl⟩:∃j,k=j+1:=⟨k-1,by omega⟩;obtain⟨g,o,x,a3,n3,c3,hao,hx,r0,r1,r2,hG3⟩:=hF.at (k:=j) (by omega);subst hao;have HXJ:Hid (L[j]?=some x):=hx;have HCL:Hid (CHs wr g (o+j*3) x a3 n3 c3 w.heap.size y a4 n4 c4 wr):=⟨bRQ _ _,r0,r1,r2,hV 0 _ rfl,hV 1 _ rfl,hV 2 _ rfl,hG3,hG⟩;have hsub:IntKind.i64.wrap (((j+1:Nat):Int)-1)=(j:Int):=by rw[IntKind.wrap_i64];omega
    have jb0:(0:Int)≤(j:Int):=by omega
    have jb1:(j:Int)<(n:Int):=by omega
    have kb0:decide ((0:Int)<((j+1:Nat):Int))=true:=by simp
    obtain⟨K,hK⟩:∃K,K=j+1:=⟨_,rfl⟩;rw[←hK] at hsub kb0 hk hk0 ⊢;have HKJ:Hid (K=j+1):=hK;obtain⟨B,hBf⟩:∃B,B=faL y x:=⟨_,rfl⟩;have HBF:Hid (faL y x=B):=hBf.symm;have HBF2:Hid (faL (y.1,y.2.1,y.2.2) (x.1,x.2.1,x.2.2)=B):=hBf.symm;clear hB hx r0 r1 r2 hG3 hF hG hV hK hBf;go_upto_region 2 with fail
    go_cut [20] from 10 to 21 (fun q w'=>q=.bool B∧Below wr.heap.size wr w')
    case first =>
     as_aux_lemma =>
      refine wp_region_quiet (C:=CHs wr g (o+j*3) x a3 n3 c3 w.heap.size y a4 n4 c4) (by kernel_rfl) (by kernel_rfl) (CHs.later (W:=wr) (Below.drew (bRQ _ _)) HCL.out) ?_;simp only[List.toList_toArray];go_big_quiet_want;refine qv (.int i64 (K:Int)) ?_ ?_
      ·rintro w' ⟨z0,z1,z2,z3,z4,z5,z6,z7,z8⟩;go_simp
      simp only[Act.put,AP];go_big_quiet_on;go_big_quiet_want;refine qv (.bool true) ?_ ?_
      ·rintro w' ⟨z0,z1,z2,z3,z4,z5,z6,z7,z8⟩;go_simp
      simp only[Act.put,AP];go_big_quiet_on;go_big_quiet_want;refine qv (.bool true) ?_ ?_
      ·rintro w' ⟨z0,z1,z2,z3,z4,z5,z6,z7,z8⟩;go_simp
      simp only[Act.put,AP];go_big_quiet_on;go_big_quiet_want;refine qv (.agg #[.int i64 y.1,.string y.2.1,.slice a4 n4 c4]) ?_ ?_
      ·rintro w' ⟨z0,z1,z2,z3,z4,z5,z6,z7,z8⟩;go_simp
      simp only[Act.put,AP];go_big_quiet_on;go_big_quiet_want;refine qv (.slice (some ⟨g,o,none⟩) n c) ?_ ?_
      ·rintro w' ⟨z0,z1,z2,z3,z4,z5,z6,z7,z8⟩;go_simp
      simp only[Act.put,AP];go_big_quiet_on;go_big_quiet_want;refine qv (.int i64 (K:Int)) ?_ ?_
      ·rintro w' ⟨z0,z1,z2,z3,z4,z5,z6,z7,z8⟩;go_simp
      simp only[Act.put,AP];go_big_quiet_on;go_big_quiet_want;refine qv (.int i64 (j:Int)) ?_ ?_
      ·rintro w' ⟨z0,z1,z2,z3,z4,z5,z6,z7,z8⟩;go_simp
      simp only[Act.put,AP];go_big_quiet_on;go_big_quiet_want;refine qv (.pointer (some ⟨g,o+j*3,none⟩)) ?_ ?_
      ·rintro w' ⟨z0,z1,z2,z3,z4,z5,z6,z7,z8⟩;go_simp
      simp only[Act.put,AP];go_big_quiet_on;go_big_quiet_want;refine qv (.agg #[.int i64 x.1,.string x.2.1,.slice a3 n3 c3]) ?_ ?_
      ·rintro w' ⟨z0,z1,z2,z3,z4,z5,z6,z7,z8⟩;go_simp
      simp only[Act.put,AP];go_big_quiet_on;go_big_quiet_want;refine quiet_call (f:=120) (args:=#[.agg #[.int i64 y.1,.string y.2.1,.slice a4 n4 c4],.agg #[.int i64 x.1,.string x.2.1,.slice a3 n3 c3]]) (v:=.bool B) (fun w'=>?_) (fun w' hC=>(less_any y.1 y.2.1 a4 n4 c4 x.1 x.2.1 a3 n3 c3 y.2.2 x.2.2 w' HY.out hC.2.2.2.2.2.2.2.2 hC.2.2.2.2.2.2.2.1).mono (fun e w2 h2=>⟨by rw[h2.1,HBF2.out],CHs.later h2.2 hC⟩)) ?_
      ·go_simp
      simp only[Act.put,AP];go_big_quiet_on;go_big_quiet_want;refine qv (.bool B) ?_ ?_
      ·rintro w' ⟨z0,z1,z2,z3,z4,z5,z6,z7,z8⟩;go_simp
      simp only[Act.put,AP];go_big_quiet_on;refine wpQuiet_nil ?_;intro w' hC
      go_wp2_with fail
      go_meet
      case rel=>exact⟨rfl,hC.1⟩
    case rest =>
     obtain⟨rfl,hB2⟩:=hcut;have HB2:Hid (Below w0.heap.size w0 wc):=HB.out.trans (hB2.mono HB.out.size);clear HCL hB2;cases B with
     | false =>
       have HE:Hid (∀x,0<K→L[K-1]?=some x→faL y x=false):=fun x' _ hx'=>by
        have e:K-1=j:=by have:=HKJ.out;omega
        rw[e,HXJ.out] at hx';cases hx';exact HBF.out
       go_wp2_with fail
       go_meet
       case rel=>exact⟨K,hk,rfl,fun i x' hi hx'=>HALL.out i x' (by have:=HKJ.out;omega) hx',HE.out,HB2.out⟩
     | true =>
       have HALL2:Hid (∀i x,j≤i→L[i]?=some x→faL y x=true):=fun i x' hi hx'=>by
        by_cases e:i=j
        ·subst e;rw[HXJ.out] at hx';cases hx';exact HBF.out
        exact HALL.out i x' (by have:=HKJ.out;omega) hx'
       go_wp2;go_roundw
       case rel=>exact⟨j,by have:=HKJ.out;omega,by first | rfl | (simp only[hsub]),HALL2.out,HB2.out⟩
       case measure=>simp[intOf,hsub];have:=HKJ.out;omega
   obtain rfl:k=0:=by omega
   have HCL:Hid (Below wr.heap.size wr wr):=bRQ _ _;have HE:Hid (∀x,0<0→L[0-1]?=some x→faL y x=false):=fun x h=>absurd h (by omega)
   clear hF hG hV hB;go_upto_region 2 with fail
   go_cut [20] from 10 to 21 (fun q w'=>q=.bool false∧Below wr.heap.size wr w')
   case first =>
    as_aux_lemma =>
     refine wp_region_quiet (C:=fun W=>Below wr.heap.size wr W) (by kernel_rfl) (by kernel_rfl) (Below.drew (bRQ _ _)) ?_;simp only[List.toList_toArray];go_big_quiet_want;refine qv (.int i64 0) ?_ ?_
     ·rintro w' z0;go_simp
     simp only[Act.put,AP];go_big_quiet_on;go_big_quiet_want;refine qv (.bool false) ?_ ?_
     ·rintro w' z0;go_simp
     simp only[Act.put,AP];go_big_quiet_on;go_big_quiet_want;refine qv (.bool false) ?_ ?_
     ·rintro w' z0;go_simp
     simp only[Act.put,AP];go_big_quiet_on;go_big_quiet_skip;go_big_quiet_skip;go_big_quiet_skip;go_big_quiet_skip;go_big_quiet_skip;go_big_quiet_skip;go_big_quiet_skip;go_big_quiet_want;refine qv (.bool false) ?_ ?_
     ·rintro w' z0;go_simp
     simp only[Act.put,AP];go_big_quiet_on;refine wpQuiet_nil ?_;intro w' hC
     go_wp2_with fail
     go_meet
     case rel=>exact⟨rfl,hC⟩
   case rest =>
    obtain⟨rfl,hB2⟩:=hcut;have HB2:Hid (Below w0.heap.size w0 wc):=HB.out.trans (hB2.mono HB.out.size);clear HCL hB2
    go_wp2_with fail
    go_meet
    case rel=>exact⟨0,by omega,rfl,HALL.out,HE.out,HB2.out⟩
 case rest =>
  obtain⟨k,hk,rfl,hall,hend,hB⟩:=hcut;have HB:Hid (Below w0.heap.size w0 wc):=hB;have HALL:Hid (∀j x,k≤j→L[j]?=some x→faL y x=true):=hall;have HEND:Hid (∀x,0<k→L[k-1]?=some x→faL y x=false):=hend;obtain⟨wz,hwz⟩:∃W,W=wc:=⟨wc,rfl⟩;subst hwz;clear hall hend
  go_upto_if 24 with fail
  go_cut [6] from 23 to 35 (fun _ w'=>(∀j x,j<k→L[j]?=some x→faL x y=true)∧Below wz.heap.size wz w')
  case first =>
   by_cases hk0:0<k
   ·obtain⟨j,hK⟩:∃j,k=j+1:=⟨k-1,by omega⟩;obtain⟨hF,hG,hV⟩:=HA.out wz hB;obtain⟨g,o,x,a3,n3,c3,hao2,hx,r0,r1,r2,hG3⟩:=hF.at (k:=j) (by omega);subst hao2;have HXJ:Hid (L[j]?=some x):=hx;have HSX:Hid (x.2.2.length≤1000):=HS.out x (List.mem_of_getElem? hx);have HCL:Hid (CHs wz g (o+j*3) x a3 n3 c3 w.heap.size y a4 n4 c4 wz):=⟨bRQ _ _,r0,r1,r2,hV 0 _ rfl,hV 1 _ rfl,hV 2 _ rfl,hG3,hG⟩;have HNF:Hid (faL y x=false):=HEND.out x hk0 (by rw[show k-1=j by omega];exact hx);have HFZ:Hid (∀W,Below wz.heap.size wz W→FTs W (.slice (some ⟨g,o,none⟩) n c) L):=fun W hb=>hF.later hb
    have hsub:IntKind.i64.wrap ((k:Int)-1)=(j:Int):=by rw[IntKind.wrap_i64];omega
    have jb0:(0:Int)≤(j:Int):=by omega
    have jb1:(j:Int)<(n:Int):=by omega
    have kb0:decide ((0:Int)<(k:Int))=true:=by simp;omega
    have HKJ:Hid (k=j+1):=hK;obtain⟨B,hBf⟩:∃B,B=faL x y:=⟨_,rfl⟩;have HBF:Hid (faL x y=B):=hBf.symm;have HBF2:Hid (faL (x.1,x.2.1,x.2.2) (y.1,y.2.1,y.2.2)=B):=hBf.symm;clear hB hx r0 r1 r2 hG3 hF hG hV hK hBf HEND HALL;go_upto_region 5 with fail
    go_cut [6] from 25 to 33 (fun q w'=>q=.bool B∧Below wz.heap.size wz w')
    case first =>
     as_aux_lemma =>
      refine wp_region_quiet (C:=CHs wz g (o+j*3) x a3 n3 c3 w.heap.size y a4 n4 c4) (by kernel_rfl) (by kernel_rfl) (CHs.later (W:=wz) (Below.drew (bRQ _ _)) HCL.out) ?_;simp only[List.toList_toArray];go_big_quiet_want;refine qv (.slice (some ⟨g,o,none⟩) n c) ?_ ?_
      ·rintro w' ⟨z0,z1,z2,z3,z4,z5,z6,z7,z8⟩;go_simp
      simp only[Act.put,AP];go_big_quiet_on;go_big_quiet_want;refine qv (.int i64 (k:Int)) ?_ ?_
      ·rintro w' ⟨z0,z1,z2,z3,z4,z5,z6,z7,z8⟩;go_simp
      simp only[Act.put,AP];go_big_quiet_on;go_big_quiet_want;refine qv (.int i64 (j:Int)) ?_ ?_
      ·rintro w' ⟨z0,z1,z2,z3,z4,z5,z6,z7,z8⟩;go_simp
      simp only[Act.put,AP];go_big_quiet_on;go_big_quiet_want;refine qv (.pointer (some ⟨g,o+j*3,none⟩)) ?_ ?_
      ·rintro w' ⟨z0,z1,z2,z3,z4,z5,z6,z7,z8⟩;go_simp
      simp only[Act.put,AP];go_big_quiet_on;go_big_quiet_want;refine qv (.agg #[.int i64 x.1,.string x.2.1,.slice a3 n3 c3]) ?_ ?_
      ·rintro w' ⟨z0,z1,z2,z3,z4,z5,z6,z7,z8⟩;go_simp
      simp only[Act.put,AP];go_big_quiet_on;go_big_quiet_want;refine qv (.agg #[.int i64 y.1,.string y.2.1,.slice a4 n4 c4]) ?_ ?_
      ·rintro w' ⟨z0,z1,z2,z3,z4,z5,z6,z7,z8⟩;go_simp
      simp only[Act.put,AP];go_big_quiet_on;go_big_quiet_want;refine quiet_call (f:=120) (args:=#[.agg #[.int i64 x.1,.string x.2.1,.slice a3 n3 c3],.agg #[.int i64 y.1,.string y.2.1,.slice a4 n4 c4]]) (v:=.bool B) (fun w'=>?_) (fun w' hC=>(less_any x.1 x.2.1 a3 n3 c3 y.1 y.2.1 a4 n4 c4 x.2.2 y.2.2 w' HSX.out hC.2.2.2.2.2.2.2.1 hC.2.2.2.2.2.2.2.2).mono (fun e w2 h2=>⟨by rw[h2.1,HBF2.out],CHs.later h2.2 hC⟩)) ?_
      ·go_simp
      simp only[Act.put,AP];go_big_quiet_on;go_big_quiet_want;refine qv (.bool B) ?_ ?_
      ·rintro w' ⟨z0,z1,z2,z3,z4,z5,z6,z7,z8⟩;go_simp
      simp only[Act.put,AP];go_big_quiet_on;refine wpQuiet_nil ?_;intro w' hC
      go_wp2_with fail
      go_meet
      case rel=>exact⟨rfl,hC.1⟩
    case rest =>
     obtain⟨rfl,hB2⟩:=hcut;have HB2:Hid (Below wz.heap.size wz wc):=hB2;clear HCL hB2;cases B with
     | false =>
       have HPU:Hid (puR faL y L=L):=by
        have e:x=y:=lo_fate.tot _ _ HBF.out HNF.out;exact pu_in lo_fate HRI.out (by rw[←e];exact List.mem_of_getElem? HXJ.out)
       have HFW:Hid (FTs wc (.slice (some ⟨g,o,none⟩) n c) L):=HFZ.out _ HB2.out;go_wp2;go_ret;exact⟨some ⟨g,o,none⟩,n,c,rfl,by rw[HPU.out];exact HFW.out,by omega,HB0.out.trans ((HB.out.trans (HB2.out.mono HB.out.size)).mono HB0.out.size)⟩
     | true =>
       have HLT:Hid (∀i x,i<k→L[i]?=some x→faL x y=true):=fun i x' hi hx'=>by
        by_cases e:i=j
        ·subst e;rw[HXJ.out] at hx';cases hx';exact HBF.out
        exact lo_fate.tr _ _ _ (ris_lt lo_fate HRI.out (by have:=HKJ.out;omega) hx' HXJ.out) HBF.out
       go_wp2_with fail
       go_meet
       case rel=>exact⟨HLT.out,HB2.out⟩
   obtain rfl:k=0:=by omega
   clear hB
   go_wp2_with fail
   go_meet
   case rel=>exact⟨fun j x h=>absurd h (by omega),bRQ _ _⟩
  case rest =>
   obtain⟨hlt,hBc⟩:=hcut;have hw0c:Below w0.heap.size w0 wc:=hB.trans (hBc.mono hB.size);have HPU:Hid (puR faL y L=L.take k++[y]++L.drop k):=pu_at lo_fate HRI.out (by rw[HX.out];exact hk) HALL.out hlt;obtain⟨⟨Z,hZ1,hZ2,hZ3⟩,hG,hV⟩:=HA.out wc hw0c;have HWC:Hid (Below w.heap.size w wc):=HB0.out.trans (hw0c.mono HB0.out.size);have HZ:Hid (GS ftE wc (.slice ao n c) Z∧Z.map Prod.fst=L∧∀z∈Z,GS hopE wc (slV z.2) z.1.2.2):=⟨hZ1,hZ2,hZ3⟩;have HGY:Hid (GS hopE wc (.slice a4 n4 c4) y.2.2):=hG;have HVY:Hid (∀W,Below wc.heap.size wc W→W.cell? ⟨w.heap.size,0,none⟩=some (.int i64 y.1)∧W.cell? ⟨w.heap.size,1,none⟩=some (.string y.2.1)∧W.cell? ⟨w.heap.size,2,none⟩=some (.slice a4 n4 c4)):=fun W hb=>by
    have q:=hV.later hb;exact⟨q 0 _ rfl,q 1 _ rfl,q 2 _ rfl⟩
   have hZn:Z.length=n:=hZ1.len;obtain⟨Z1,hq1⟩:∃q,q=Z.take k:=⟨_,rfl⟩;obtain⟨Z2,hq2⟩:∃q,q=Z.drop k:=⟨_,rfl⟩;have HZ1L:Hid (Z1.length=k):=show Z1.length=k by rw[hq1,List.length_take];omega
   have HZ2L:Hid (Z2.length=n-k):=show Z2.length=n-k by rw[hq2,List.length_drop];omega
   have HM1:Hid (Z1.map Prod.fst=L.take k):=show Z1.map Prod.fst=L.take k by rw[hq1,List.map_take,hZ2]
   have HM2:Hid (Z2.map Prod.fst=L.drop k):=show Z2.map Prod.fst=L.drop k by rw[hq2,List.map_drop,hZ2]
   have HI1:Hid (∀z∈Z1,z∈Z):=fun z hz=>List.mem_of_mem_take (by rw[hq1] at hz;exact hz)
   have HI2:Hid (∀z∈Z2,z∈Z):=fun z hz=>List.mem_of_mem_drop (by rw[hq2] at hz;exact hz)
   have HT1:Hid (GS ftE wc (.slice ao k c) Z1):=show GS ftE wc (.slice ao k c) Z1 by rw[hq1];exact hZ1.take hk
   have HD:Hid (∀g o,ao=some ⟨g,o,none⟩→GS ftE wc (.slice (some ⟨g,o+k*3,none⟩) (n-k) (c-k)) Z2):=show ∀g o,ao=some ⟨g,o,none⟩→GS ftE wc (.slice (some ⟨g,o+k*3,none⟩) (n-k) (c-k)) Z2 by
    rintro g o rfl;rw[hq2];exact hZ1.drop hk
   clear hB hlt hBc hw0c hZ1 hZ2 hZ3 hG hV HALL HEND HB hq1 hq2 hZn;obtain⟨i0,hi,hz0,hz1,hz2⟩:=info_parts fate_info;cases ao with
   | none =>
     obtain⟨rfl,rfl⟩:n=0∧c=0:=by
      rcases hao with ⟨_,h⟩ | h
      ·exact h
      rcases HZ.out.1 with ⟨_,_,e,_⟩ | ⟨_,_,_,e,_⟩
      ·cases e;omega
      cases e
     obtain rfl:k=0:=by omega
     have HT2:Hid (GS ftE wc (.slice none 0 0) Z2):=.inl ⟨none,0,rfl,List.length_eq_zero_iff.1 (by have:=HZ2L.out;omega)⟩;go_upto_region 9 with fail
     go_wp2_with (at_builtin;refine wpList_append_fts _ rfl _ _ 96 rfl underlying96 wc.heap.size (.slice none 0 0) rfl [] (World.ownsRow_nil _ _ _ _) _ rfl Z1 ?a1 ?a2 (nLQ _) ?_)
     case a1=>exact HT1.out
     case a2=>have:=HZ1L.out;simp;omega
     intro v1 w1 ho1 hg1
     try rw[List.nil_append] at ho1
     have hb1:Below wc.heap.size wc w1:=(Below.refl _ wc).grown hg1 (nLQ _) (fun g hg=>by cases hg);obtain⟨a1,c1,hv1⟩:=own_form ho1;subst hv1;rw[HZ1L.out] at ho1 ⊢;have HO1:Hid (w1.ownsRow wc.heap.size 83 ftE.n (.slice a1 0 c1) 0 (cellsG ftE Z1)):=ho1;have HB1:Hid (Below wc.heap.size wc w1):=hb1;obtain⟨q0,q1,q2⟩:=HVY.out _ hb1;clear ho1 hg1 hb1;go_upto_region 10 with fail
     go_wp2_with (at_builtin;refine wpList_append_blk (E:=ftE) _ rfl _ _ 96 83 rfl underlying96 i0 (.agg #[.int i64 0,.string ⟨#[]⟩,.slice none 0 0]) 48 hi hz0 hz1 hz2 fate_zero wc.heap.size (.slice a1 0 c1) rfl Z1 ?m0 w1.heap.size 0 1 rfl (y,(a4,n4,c4)) (vat_new w1 [.int i64 y.1,.string y.2.1,.slice a4 n4 c4] 83) ?m1 ?m2 ?m3 ?_)
     case m0=>rw[HZ1L.out];exact HO1.out.alloc _
     case m1=>rw[HZ1L.out];unfold maxLen;omega
     case m2=>rw[HZ1L.out];omega
     case m3=>have:=HB1.out.size;simp;omega
     intro v2 w2 ho2 hg2 _;have hb2:Below wc.heap.size w1 w2:=((Below.refl _ w1).alloc HB1.out.size _).grown hg2 (by have:=HB1.out.size;simp;omega) (fun g hg=>(HO1.out.lt g hg).1);have HB2:Hid (Below wc.heap.size wc w2):=HB1.out.trans hb2;obtain⟨a2,c2,hv2⟩:=own_form ho2;subst hv2;have HL2:Hid ((Z1++[(y,(a4,n4,c4))]).length=0+1):=hid_len HZ1L.out
     try rw[List.length_append] at ho2 ⊢
     try simp only[List.length_cons,List.length_nil,Nat.zero_add] at ho2 ⊢
     rw[HZ1L.out] at ho2 ⊢;have HO2:Hid (w2.ownsRow wc.heap.size 83 ftE.n (.slice a2 (0+1) c2) (0+1) (cellsG ftE (Z1++[(y,(a4,n4,c4))]))):=ho2;clear ho2 hg2 hb2 q0 q1 q2;go_upto_region 11 with fail
     go_wp2_with (at_builtin;refine wpList_append_fts _ rfl _ _ 96 rfl underlying96 wc.heap.size (.slice a2 (0+1) c2) rfl (Z1++[(y,(a4,n4,c4))]) ?b0 _ rfl Z2 ?b1 ?b2 ?b3 ?_)
     case b0=>rw[HL2.out];exact HO2.out
     case b1=>exact HT2.out.later HB2.out
     case b2=>rw[HL2.out,HZ2L.out];omega
     case b3=>exact HB2.out.size
     intro v3 w3 ho3 hg3;have hb3:Below wc.heap.size w2 w3:=(Below.refl _ w2).grown hg3 HB2.out.size (fun g hg=>(HO2.out.lt g hg).1);have HB3:Hid (Below wc.heap.size wc w3):=HB2.out.trans hb3;have hG3:GS ftE w3 v3 (Z1++[(y,(a4,n4,c4))]++Z2):=own_GS (by simpa using ho3);obtain⟨a3,n3,c3,hv3,hn3,_⟩:=hG3.form;subst hv3;have HG3:Hid (GS ftE w3 (.slice a3 n3 c3) (Z1++[(y,(a4,n4,c4))]++Z2)):=hG3;have hn30:0<n3:=by rw[←hn3];simp;omega
     clear ho3 hg3 hb3 hG3 hn3;go_wp2;go_ret;refine⟨a3,n3,c3,rfl,⟨_,HG3.out,?_,?_⟩,hn30,HWC.out.trans (HB3.out.mono HWC.out.size)⟩
     ·rw[HPU.out,List.map_append,List.map_append,HM1.out,HM2.out];rfl
     intro z hz
     rcases List.mem_append.1 hz with hz | hz
     ·rcases List.mem_append.1 hz with hz | hz
      ·exact (HZ.out.2.2 z (HI1.out z hz)).later HB3.out
      obtain rfl:z=(y,(a4,n4,c4)):=by simpa using hz
      exact HGY.out.later HB3.out
     exact (HZ.out.2.2 z (HI2.out z hz)).later HB3.out
   | some ad =>
     obtain⟨g,o,rfl⟩:∃g o,ad=⟨g,o,none⟩:=by
      rcases HZ.out.1 with ⟨_,_,e,_⟩ | ⟨_,_,_,e,_⟩
      ·cases e
       rcases hao with ⟨h,_⟩ | h
       ·cases h
       omega
      cases e;exact⟨_,_,rfl⟩
     by_cases hck:c=k
     ·obtain rfl:n=k:=by omega
      obtain rfl:n=c:=by omega
      have HT2:Hid (GS ftE wc (.slice (some ⟨g,o,none⟩) 0 0) Z2):=.inl ⟨_,_,rfl,List.length_eq_zero_iff.1 (by have:=HZ2L.out;omega)⟩;go_upto_region 9 with fail
      go_wp2_with (at_builtin;refine wpList_append_fts _ rfl _ _ 96 rfl underlying96 wc.heap.size (.slice none 0 0) rfl [] (World.ownsRow_nil _ _ _ _) _ rfl Z1 ?a1 ?a2 (nLQ _) ?_)
      case a1=>exact HT1.out
      case a2=>have:=HZ1L.out;simp;omega
      intro v1 w1 ho1 hg1
      try rw[List.nil_append] at ho1
      have hb1:Below wc.heap.size wc w1:=(Below.refl _ wc).grown hg1 (nLQ _) (fun g hg=>by cases hg);obtain⟨a1,c1,hv1⟩:=own_form ho1;subst hv1;rw[HZ1L.out] at ho1 ⊢;have HO1:Hid (w1.ownsRow wc.heap.size 83 ftE.n (.slice a1 n c1) n (cellsG ftE Z1)):=ho1;have HB1:Hid (Below wc.heap.size wc w1):=hb1;obtain⟨q0,q1,q2⟩:=HVY.out _ hb1;clear ho1 hg1 hb1;go_upto_region 10 with fail
      go_wp2_with (at_builtin;refine wpList_append_blk (E:=ftE) _ rfl _ _ 96 83 rfl underlying96 i0 (.agg #[.int i64 0,.string ⟨#[]⟩,.slice none 0 0]) 48 hi hz0 hz1 hz2 fate_zero wc.heap.size (.slice a1 n c1) rfl Z1 ?m0 w1.heap.size 0 1 rfl (y,(a4,n4,c4)) (vat_new w1 [.int i64 y.1,.string y.2.1,.slice a4 n4 c4] 83) ?m1 ?m2 ?m3 ?_)
      case m0=>rw[HZ1L.out];exact HO1.out.alloc _
      case m1=>rw[HZ1L.out];unfold maxLen;omega
      case m2=>rw[HZ1L.out];omega
      case m3=>have:=HB1.out.size;simp;omega
      intro v2 w2 ho2 hg2 _;have hb2:Below wc.heap.size w1 w2:=((Below.refl _ w1).alloc HB1.out.size _).grown hg2 (by have:=HB1.out.size;simp;omega) (fun g hg=>(HO1.out.lt g hg).1);have HB2:Hid (Below wc.heap.size wc w2):=HB1.out.trans hb2;obtain⟨a2,c2,hv2⟩:=own_form ho2;subst hv2;have HL2:Hid ((Z1++[(y,(a4,n4,c4))]).length=n+1):=hid_len HZ1L.out
      try rw[List.length_append] at ho2 ⊢
      try simp only[List.length_cons,List.length_nil,Nat.zero_add] at ho2 ⊢
      rw[HZ1L.out] at ho2 ⊢;have HO2:Hid (w2.ownsRow wc.heap.size 83 ftE.n (.slice a2 (n+1) c2) (n+1) (cellsG ftE (Z1++[(y,(a4,n4,c4))]))):=ho2;clear ho2 hg2 hb2 q0 q1 q2;go_upto_region 11 with fail
      go_wp2_with (at_builtin;refine wpList_append_fts _ rfl _ _ 96 rfl underlying96 wc.heap.size (.slice a2 (n+1) c2) rfl (Z1++[(y,(a4,n4,c4))]) ?b0 _ rfl Z2 ?b1 ?b2 ?b3 ?_)
      case b0=>rw[HL2.out];exact HO2.out
      case b1=>exact HT2.out.later HB2.out
      case b2=>rw[HL2.out,HZ2L.out];omega
      case b3=>exact HB2.out.size
      intro v3 w3 ho3 hg3;have hb3:Below wc.heap.size w2 w3:=(Below.refl _ w2).grown hg3 HB2.out.size (fun g hg=>(HO2.out.lt g hg).1);have HB3:Hid (Below wc.heap.size wc w3):=HB2.out.trans hb3;have hG3:GS ftE w3 v3 (Z1++[(y,(a4,n4,c4))]++Z2):=own_GS (by simpa using ho3);obtain⟨a3,n3,c3,hv3,hn3,_⟩:=hG3.form;subst hv3;have HG3:Hid (GS ftE w3 (.slice a3 n3 c3) (Z1++[(y,(a4,n4,c4))]++Z2)):=hG3;have hn30:0<n3:=by rw[←hn3];simp;omega
      clear ho3 hg3 hb3 hG3 hn3;go_wp2;go_ret;refine⟨a3,n3,c3,rfl,⟨_,HG3.out,?_,?_⟩,hn30,HWC.out.trans (HB3.out.mono HWC.out.size)⟩
      ·rw[HPU.out,List.map_append,List.map_append,HM1.out,HM2.out];rfl
      intro z hz
      rcases List.mem_append.1 hz with hz | hz
      ·rcases List.mem_append.1 hz with hz | hz
       ·exact (HZ.out.2.2 z (HI1.out z hz)).later HB3.out
       obtain rfl:z=(y,(a4,n4,c4)):=by simpa using hz
       exact HGY.out.later HB3.out
      exact (HZ.out.2.2 z (HI2.out z hz)).later HB3.out
     have HT2:Hid (GS ftE wc (.slice (some ⟨g,o+k*3,none⟩) (n-k) (c-k)) Z2):=HD.out g o rfl;go_upto_region 9 with fail
     go_wp2_with (at_builtin;refine wpList_append_fts _ rfl _ _ 96 rfl underlying96 wc.heap.size (.slice none 0 0) rfl [] (World.ownsRow_nil _ _ _ _) _ rfl Z1 ?a1 ?a2 (nLQ _) ?_)
     case a1=>exact HT1.out
     case a2=>have:=HZ1L.out;simp;omega
     intro v1 w1 ho1 hg1
     try rw[List.nil_append] at ho1
     have hb1:Below wc.heap.size wc w1:=(Below.refl _ wc).grown hg1 (nLQ _) (fun g hg=>by cases hg);obtain⟨a1,c1,hv1⟩:=own_form ho1;subst hv1;rw[HZ1L.out] at ho1 ⊢;have HO1:Hid (w1.ownsRow wc.heap.size 83 ftE.n (.slice a1 k c1) k (cellsG ftE Z1)):=ho1;have HB1:Hid (Below wc.heap.size wc w1):=hb1;obtain⟨q0,q1,q2⟩:=HVY.out _ hb1;clear ho1 hg1 hb1;go_upto_region 10 with fail
     go_wp2_with (at_builtin;refine wpList_append_blk (E:=ftE) _ rfl _ _ 96 83 rfl underlying96 i0 (.agg #[.int i64 0,.string ⟨#[]⟩,.slice none 0 0]) 48 hi hz0 hz1 hz2 fate_zero wc.heap.size (.slice a1 k c1) rfl Z1 ?m0 w1.heap.size 0 1 rfl (y,(a4,n4,c4)) (vat_new w1 [.int i64 y.1,.string y.2.1,.slice a4 n4 c4] 83) ?m1 ?m2 ?m3 ?_)
     case m0=>rw[HZ1L.out];exact HO1.out.alloc _
     case m1=>rw[HZ1L.out];unfold maxLen;omega
     case m2=>rw[HZ1L.out];omega
     case m3=>have:=HB1.out.size;simp;omega
     intro v2 w2 ho2 hg2 _;have hb2:Below wc.heap.size w1 w2:=((Below.refl _ w1).alloc HB1.out.size _).grown hg2 (by have:=HB1.out.size;simp;omega) (fun g hg=>(HO1.out.lt g hg).1);have HB2:Hid (Below wc.heap.size wc w2):=HB1.out.trans hb2;obtain⟨a2,c2,hv2⟩:=own_form ho2;subst hv2;have HL2:Hid ((Z1++[(y,(a4,n4,c4))]).length=k+1):=hid_len HZ1L.out
     try rw[List.length_append] at ho2 ⊢
     try simp only[List.length_cons,List.length_nil,Nat.zero_add] at ho2 ⊢
     rw[HZ1L.out] at ho2 ⊢;have HO2:Hid (w2.ownsRow wc.heap.size 83 ftE.n (.slice a2 (k+1) c2) (k+1) (cellsG ftE (Z1++[(y,(a4,n4,c4))]))):=ho2;clear ho2 hg2 hb2 q0 q1 q2;go_upto_region 11 with fail
     go_wp2_with (at_builtin;refine wpList_append_fts _ rfl _ _ 96 rfl underlying96 wc.heap.size (.slice a2 (k+1) c2) rfl (Z1++[(y,(a4,n4,c4))]) ?b0 _ rfl Z2 ?b1 ?b2 ?b3 ?_)
     case b0=>rw[HL2.out];exact HO2.out
     case b1=>exact HT2.out.later HB2.out
     case b2=>rw[HL2.out,HZ2L.out];omega
     case b3=>exact HB2.out.size
     intro v3 w3 ho3 hg3;have hb3:Below wc.heap.size w2 w3:=(Below.refl _ w2).grown hg3 HB2.out.size (fun g hg=>(HO2.out.lt g hg).1);have HB3:Hid (Below wc.heap.size wc w3):=HB2.out.trans hb3;have hG3:GS ftE w3 v3 (Z1++[(y,(a4,n4,c4))]++Z2):=own_GS (by simpa using ho3);obtain⟨a3,n3,c3,hv3,hn3,_⟩:=hG3.form;subst hv3;have HG3:Hid (GS ftE w3 (.slice a3 n3 c3) (Z1++[(y,(a4,n4,c4))]++Z2)):=hG3;have hn30:0<n3:=by rw[←hn3];simp;omega
     clear ho3 hg3 hb3 hG3 hn3;go_wp2;go_ret;refine⟨a3,n3,c3,rfl,⟨_,HG3.out,?_,?_⟩,hn30,HWC.out.trans (HB3.out.mono HWC.out.size)⟩
     ·rw[HPU.out,List.map_append,List.map_append,HM1.out,HM2.out];rfl
     intro z hz
     rcases List.mem_append.1 hz with hz | hz
     ·rcases List.mem_append.1 hz with hz | hz
      ·exact (HZ.out.2.2 z (HI1.out z hz)).later HB3.out
      obtain rfl:z=(y,(a4,n4,c4)):=by simpa using hz
      exact HGY.out.later HB3.out
     exact (HZ.out.2.2 z (HI2.out z hz)).later HB3.out
def WkE (W:World)(v1 v2 v3 u3:Value)(Ls:LkQ)(Hs:HoQ)(As Bs:TsQ):Prop:=GS lnkE W v1 Ls∧GS hstE W v2 Hs∧TS W v3 As∧TS W u3 Bs
theorem WkE.later {W W':World}{v1 v2 v3 u3:Value}{Ls:LkQ}{Hs:HoQ}{As Bs:TsQ}(h:WkE W v1 v2 v3 u3 Ls Hs As Bs)(hb:Below W.heap.size W W'):WkE W' v1 v2 v3 u3 Ls Hs As Bs:=⟨h.1.later hb,h.2.1.later hb,h.2.2.1.later hb,h.2.2.2.later hb⟩
def WkB (W:World)(g:Nat)(S:Int)(v1 v2 v3:Value)(S':Int)(u1 u2 u3 f:Value):Prop:=NeBox W g S v1 v2 v3∧NeBox W (g+1) S' u1 u2 u3∧VAt W (g+1+1) 0 [.int i64 0,.string ⟨#[]⟩,f]
theorem WkB.later {W W':World}{g:Nat}{S:Int}{v1 v2 v3:Value}{S':Int}{u1 u2 u3 f:Value}(h:WkB W g S v1 v2 v3 S' u1 u2 u3 f)(hb:Below W.heap.size W W'):WkB W' g S v1 v2 v3 S' u1 u2 u3 f:=⟨h.1.later hb,h.2.1.later hb,h.2.2.later hb⟩
theorem wkb_new (w:World)(S:Int)(v1 v2 v3:Value)(S':Int)(u1 u2 u3 f:Value)(t t2:TypeId):WkB (((w.alloc (.cells #[.int i64 S,v1,v2,v3] t)).alloc (.cells #[.int i64 S',u1,u2,u3] t)).alloc (.cells #[.int i64 0,.string ⟨#[]⟩,f] t2)) w.heap.size S v1 v2 v3 S' u1 u2 u3 f∧Below w.heap.size w (((w.alloc (.cells #[.int i64 S,v1,v2,v3] t)).alloc (.cells #[.int i64 S',u1,u2,u3] t)).alloc (.cells #[.int i64 0,.string ⟨#[]⟩,f] t2)):=by
 have hb:∀(W:World) (o:Obj),Below W.heap.size W (W.alloc o):=fun W o=>(bRQ _ _).alloc (nLQ _) _
 have h1:=nebox_new w S v1 v2 v3 t;have b1:=hb w (Obj.cells #[.int i64 S,v1,v2,v3] t);have e1:(w.alloc (.cells #[.int i64 S,v1,v2,v3] t)).heap.size=w.heap.size+1:=by simp
 generalize w.alloc (.cells #[.int i64 S,v1,v2,v3] t)=A at h1 b1 e1 ⊢
 have h2:=nebox_new A S' u1 u2 u3 t;have b2:=hb A (Obj.cells #[.int i64 S',u1,u2,u3] t);have e2:(A.alloc (.cells #[.int i64 S',u1,u2,u3] t)).heap.size=w.heap.size+1+1:=by simp[e1]
 rw[e1] at h2
 generalize A.alloc (.cells #[.int i64 S',u1,u2,u3] t)=C at h2 b2 e2 ⊢
 have h3:=vat_new C [.int i64 0,.string ⟨#[]⟩,f] t2;have b3:=hb C (Obj.cells #[.int i64 0,.string ⟨#[]⟩,f] t2);rw[e2] at h3;exact⟨⟨(h1.later b2).later b3,h2.later b3,h3⟩,(b1.trans (b2.mono (by omega))).trans (b3.mono (by omega))⟩
theorem walk_any (S S':Int)(ao:AdQ)(n cap:Nat)(ao2:AdQ)(n2 cap2:Nat)(ao3:AdQ)(n3 cap3:Nat)(u1 u2:Value)(bo3:AdQ)(m3 dap3:Nat)(Ls:LkQ)(Hs:HoQ)(As Bs:TsQ)
 (ht:tpN S Ls Hs=0) (hSA:(As.length:Int)=S) (hSB:(Bs.length:Int)=S) (hA:∀k,k<As.length→tbN (As.getD k [])=0) (hB:∀k,k<Bs.length→tbN (Bs.getD k [])=0):
 ∀(N:Nat) (l:HpQ) (met:List Int) (A:List Ft) (w:World) (a4:AdQ) (n4 c4:Nat) (a5:AdQ) (n5 c5:Nat) (a6:AdQ) (n6 c6:Nat),
 WkE w (.slice ao n cap) (.slice ao2 n2 cap2) (.slice ao3 n3 cap3) (.slice bo3 m3 dap3) Ls Hs As Bs→GS hopE w (.slice a4 n4 c4) l→GS inE w (.slice a5 n5 c5) met→FTs w (.slice a6 n6 c6) A→SK a6 n6 c6→l.length+N=25→1≤N→1≤l.length→met.length+N≤25→spB S (laH l).1=true→hdrB (laH l).2=true→GL N A →
 Calls prog 54 #[.agg #[.int i64 S,.slice ao n cap,.slice ao2 n2 cap2,.slice ao3 n3 cap3],.agg #[.int i64 S',u1,u2,.slice bo3 m3 dap3],.agg #[.int i64 0,.string ⟨#[]⟩,.slice a4 n4 c4],.slice a5 n5 c5,.slice a6 n6 c6] w fun e w'=>∃a7 n7 c7,e=.returned (.slice a7 n7 c7)∧FTs w' (.slice a7 n7 c7) (wkL Ls Hs As Bs N l met A)∧SK a7 n7 c7∧Below w.heap.size w w':=by
 intro N
 induction N with
 | zero =>
   intro l met A w a4 n4 c4 a5 n5 c5 a6 n6 c6 hE hG hM hF hK hlN hN1 hl1 hmN hsp hhd hGL;omega
 | succ N ih =>
   intro l met A w a4 n4 c4 a5 n5 c5 a6 n6 c6 hE hG hM hF hK hlN hN1 hl1 hmN hsp hhd hGL;obtain⟨hX,hb0⟩:=wkb_new w S (.slice ao n cap) (.slice ao2 n2 cap2) (.slice ao3 n3 cap3) S' u1 u2 (.slice bo3 m3 dap3) (.slice a4 n4 c4) 28 83;have hln:=hG.len;have hn3:As.length=n3:=hE.2.2.1.len;have hm3:Bs.length=m3:=hE.2.2.2.len;obtain⟨_,_,_,e5,_,_,_,hGa⟩:=hG.form;cases e5;obtain⟨g5,o5,hao5,hc5,_⟩:=hGa (by omega);subst hao5;obtain⟨p0,p1,p2,hkl,hLk,_,_,_⟩:=hop_at hc5 hln (show n4-1<n4 by omega);have hla:laH l=((p0,p1),p2):=by
    have e:laH l=l[n4-1]:=by
     unfold laH;rw[hln];simp[List.getD,hkl]
    rw[e,hLk]
   have hsp2:=sp_of hsp;rw[hla] at hsp2;simp only at hsp2;have hn6:=(tp_0 ht).1.2;obtain⟨j,hj⟩:∃j:Nat,p0-1=(j:Int):=⟨(p0-1).toNat,by omega⟩;have hjA:j<n3:=by omega
   have hjB:j<m3:=by omega
   have htA:taT As (laH l).1.1=As.getD j []:=by
    unfold taT;rw[hla];show As.getD (p0-1).toNat []=_;rw[hj,Int.toNat_natCast]
   have htB:taT Bs (laH l).1.1=Bs.getD j []:=by
    unfold taT;rw[hla];show Bs.getD (p0-1).toNat []=_;rw[hj,Int.toNat_natCast]
   have hg5:g5<w.heap.size:=bLQ _ _ (by assumption:w.cell? ⟨g5,_,none⟩=some (.int i64 p0));obtain⟨w0,hw0⟩:∃W,((w.alloc (.cells #[.int i64 S,.slice ao n cap,.slice ao2 n2 cap2,.slice ao3 n3 cap3] 28)).alloc (.cells #[.int i64 S',u1,u2,.slice bo3 m3 dap3] 28)).alloc (.cells #[.int i64 0,.string ⟨#[]⟩,.slice (some ⟨g5,o5,none⟩) n4 c4] 83)=W:=⟨_,rfl⟩;rw[hw0] at hX hb0;have HW0:Hid (((w.alloc (.cells #[.int i64 S,.slice ao n cap,.slice ao2 n2 cap2,.slice ao3 n3 cap3] 28)).alloc (.cells #[.int i64 S',u1,u2,.slice bo3 m3 dap3] 28)).alloc (.cells #[.int i64 0,.string ⟨#[]⟩,.slice (some ⟨g5,o5,none⟩) n4 c4] 83)=w0):=hw0;have HB0:Hid (Below w.heap.size w w0):=hb0;have HK:Hid (∀W,Below w0.heap.size w0 W→WkB W w.heap.size S (.slice ao n cap) (.slice ao2 n2 cap2) (.slice ao3 n3 cap3) S' u1 u2 (.slice bo3 m3 dap3) (.slice (some ⟨g5,o5,none⟩) n4 c4)∧WkE W (.slice ao n cap) (.slice ao2 n2 cap2) (.slice ao3 n3 cap3) (.slice bo3 m3 dap3) Ls Hs As Bs∧GS hopE W (.slice (some ⟨g5,o5,none⟩) n4 c4) l∧GS inE W (.slice a5 n5 c5) met):=fun W hb=>⟨hX.later hb,(hE.later hb0).later hb,(hG.later hb0).later hb,(hM.later hb0).later hb⟩
   have HF0:Hid (FTs w0 (.slice a6 n6 c6) A):=hF.later hb0;have HSK:Hid (SK a6 n6 c6):=hK;have HLN:Hid (l.length+(N+1)=25∧l.length=n4∧met.length+(N+1)≤25):=⟨hlN,hln,hmN⟩;have HTP:Hid (tpN S Ls Hs=0):=ht;have HIH:Hid _:=ih;have HHD:Hid (hdrB (laH l).2=true):=hhd;have HGL:Hid (GL (N+1) A):=hGL;have HLA:Hid (laH l=((p0,p1),p2)):=hla;have HTA:Hid (taT As (laH l).1.1=As.getD j []∧tbN (taT As (laH l).1.1)=0):=⟨htA,by rw[htA];exact hA j (by omega)⟩;have HTB:Hid (taT Bs (laH l).1.1=Bs.getD j []∧tbN (taT Bs (laH l).1.1)=0):=⟨htB,by rw[htB];exact hB j (by omega)⟩;have HAL:Hid (As.length=n3∧Bs.length=m3):=⟨hn3,hm3⟩;have n4b:0<n4∧n4≤24:=by omega
   obtain⟨n4a,n4z⟩:=n4b;have hpw:IntKind.i64.wrap (p0-1)=(j:Int):=by
    rw[hj];exact wrap_small (by omega) (by omega)
   have hmi:IntKind.i64.wrap ((n4:Int)-1)=((n4-1:Nat):Int):=by
    rw[show (n4:Int)-1=((n4-1:Nat):Int) by omega];exact wrap_small (by omega) (by omega)
   have jb0:(0:Int)≤(j:Int):=by omega
   have jb1:(j:Int)<(n3:Int):=by omega
   have jb2:(j:Int)<(m3:Int):=by omega
   have mb0:(0:Int)≤((n4-1:Nat):Int):=by omega
   have mb1:((n4-1:Nat):Int)<(n4:Int):=by omega
   obtain⟨B,hBB⟩:∃B,B=met.any fun y=>y==p0:=⟨_,rfl⟩
   have HBB:Hid ((met.any fun y=>y==p0)=B):=hBB.symm;obtain⟨CH,hCH⟩:∃C,C=chB As Bs p0:=⟨_,rfl⟩;have HCH:Hid (chB As Bs p0=CH):=hCH.symm;have HMEM:Hid (WkB w0 w.heap.size S (.slice ao n cap) (.slice ao2 n2 cap2) (.slice ao3 n3 cap3) S' u1 u2 (.slice bo3 m3 dap3) (.slice (some ⟨g5,o5,none⟩) n4 c4)∧GS hopE w0 (.slice (some ⟨g5,o5,none⟩) n4 c4) l):=⟨hX,hG.later hb0⟩;clear hE hG hM hF hK hlN hN1 hl1 hmN hsp hhd hGL hX hb0 hw0 hln hn3 hm3 hGa hc5 hkl hLk hla hsp2 hn6 hj htA htB hBB hCH ih ht;clear hSA hSB hA hB;obtain⟨⟨⟨b0,b1,b2,b3⟩,⟨d0,d1,d2,d3⟩,hV⟩,hGw⟩:=HMEM.out;have f0:=hV 0 _ rfl;have f1:=hV 1 _ rfl;have f2:=hV 2 _ rfl;simp only[Nat.zero_add] at f0 f1 f2;obtain⟨_,_,_,e5,_,_,_,hGa⟩:=hGw.form;cases e5;obtain⟨_,_,hao5,hc5,_⟩:=hGa n4a;cases hao5;obtain⟨r0,r1,r2,hkl,hLk,c0,c1,c2⟩:=hop_at hc5 HLN.out.2.1 (show n4-1<n4 by omega);obtain⟨rfl,rfl,rfl⟩:p0=r0∧p1=r1∧p2=r2:=by
    have e:laH l=l[n4-1]:=by
     unfold laH;rw[HLN.out.2.1];simp[List.getD,hkl]
    rw[HLA.out,hLk] at e;simp only[Prod.mk.injEq] at e;exact⟨e.1.1,e.1.2,e.2⟩
   clear hGa hc5 hkl hLk hGw hV HMEM;go_enter func54,ntmps54;go_upto_region 1 with fail;rw[HW0.out];clear HW0
   go_wp2_with fail
   refine (in_any a5 n5 c5 met p0 _ (HK.out _ (bRQ _ _)).2.2.2).mono ?_;rintro e w1 ⟨rfl,hw1⟩;rw[hw1];clear hw1 w1;rw[HBB.out]
   go_upto_if 33 with fail
   go_cut [4] from 32 to 56 (fun v w'=>∃a7 n7 c7,v=.slice a7 n7 c7∧FTs w' (.slice a7 n7 c7) (stA Ls Hs As Bs N l met A)∧SK a7 n7 c7∧Below w0.heap.size w0 w')
   case first =>
    cases B with
    | true =>
      have HST:Hid (stA Ls Hs As Bs N l met A=A):=show _=_ by
       unfold stA;rw[HLA.out,HBB.out];simp
      go_wp2_with fail
      go_meet
      case rel=>exact⟨a6,n6,c6,rfl,by rw[HST.out];exact HF0.out,HSK.out,bRQ _ _⟩
    | false =>
      have HST:Hid (stA Ls Hs As Bs N l met A=stW Ls Hs As Bs N l met A (taT As (laH l).1.1)):=show _=_ by
       unfold stA;rw[HLA.out,HBB.out];simp
      obtain⟨_,_,_,e8,_,_,_,hTa⟩:=(HK.out _ (bRQ _ _)).2.1.2.2.1.form;cases e8;obtain⟨g3,o3,hao3,hc3,_⟩:=hTa (by omega);subst hao3;obtain⟨at8,nt8,ct8,t0,hs8⟩:=hc3 j (by have:=HAL.out;omega);have HS8:Hid (SR w0 (.slice at8 nt8 ct8) (taT As (laH l).1.1)):=by
       show SR _ _ _;rw[HTA.out.1,getT (by have:=HAL.out;omega)];exact hs8
      obtain⟨G1,O,hGO⟩:∃G1 O,gnF Ls Hs (taT As (laH l).1.1) l=(G1,O):=⟨_,_,rfl⟩;have HGG:Hid (gnF Ls Hs (taT As (laH l).1.1) l=(G1,O)):=hGO;have y3:g3<w0.heap.size:=bLQ _ _ t0;have y0:w.heap.size<w0.heap.size:=bLQ _ _ b0;have y1:w.heap.size+1<w0.heap.size:=bLQ _ _ d0;have y2:w.heap.size+1+1<w0.heap.size:=bLQ _ _ f0;have HG5:Hid (∀g o,(some ⟨g5,o5,none⟩:AdQ)=some ⟨g,o,none⟩→g<w0.heap.size):=fun g o e=>by cases e;omega
      clear hTa hc3 hs8 hGO;have HGO:Hid (∀W,Below w0.heap.size w0 W→Calls prog 51 #[.agg #[.int i64 S,.slice ao n cap,.slice ao2 n2 cap2],.slice at8 nt8 ct8,.agg #[.int i64 0,.string ⟨#[]⟩,.slice (some ⟨g5,o5,none⟩) n4 c4]] W fun e w'=>∃a8 n8 c8,e=.returned (.tuple #[.agg #[.int i64 G1.1,.string G1.2.1,.slice a8 n8 c8],.bool O])∧GS hopE w' (.slice a8 n8 c8) G1.2.2∧Below W.heap.size W w'∧(a8=some ⟨g5,o5,none⟩∨∀g o,a8=some ⟨g,o,none⟩→W.heap.size≤g)):=fun W hW=>by
       have h0:=HK.out W ((Below.refl w0.heap.size w0).trans (hW.mono (Below.refl w0.heap.size w0).size));have q:=rgo_any S ao n cap ao2 n2 cap2 at8 nt8 ct8 (some ⟨g5,o5,none⟩) n4 c4 Ls Hs (taT As (laH l).1.1) l W h0.2.1.1 h0.2.1.2.1 (HS8.out.later hW) h0.2.2.1 HTA.out.2 HHD.out n4a n4z;rw[HGG.out] at q;exact q
      go_upto_region 4 with fail
      go_cut [13,14] from 34 to 46 (fun p q w'=>GN G1 O w0 p q w')
      case first =>
       have y5:g5<w0.heap.size:=HG5.out g5 o5 rfl;have HSW:Hid (∀W,Below w0.heap.size w0 W→W.cell? ⟨w.heap.size,0,none⟩=some (.int i64 S)∧W.cell? ⟨w.heap.size,1,none⟩=some (.slice ao n cap)∧W.cell? ⟨w.heap.size,2,none⟩=some (.slice ao2 n2 cap2)∧W.cell? ⟨w.heap.size,3,none⟩=some (.slice (some ⟨g3,o3,none⟩) n3 cap3)∧W.cell? ⟨g3,o3+j,none⟩=some (.slice at8 nt8 ct8)∧W.cell? ⟨w.heap.size+1+1,0,none⟩=some (.int i64 0)∧W.cell? ⟨w.heap.size+1+1,1,none⟩=some (.string ⟨#[]⟩)∧W.cell? ⟨w.heap.size+1+1,2,none⟩=some (.slice (some ⟨g5,o5,none⟩) n4 c4)):=fun W hW=>⟨cell_later hW b0,cell_later hW b1,cell_later hW b2,cell_later hW b3,cell_later hW t0,cell_later hW f0,cell_later hW f1,cell_later hW f2⟩
       go_region_held3 (fun W=>W.cell? ⟨w.heap.size,0,none⟩=some (.int i64 S)∧W.cell? ⟨w.heap.size,1,none⟩=some (.slice ao n cap)∧W.cell? ⟨w.heap.size,2,none⟩=some (.slice ao2 n2 cap2)∧W.cell? ⟨w.heap.size,3,none⟩=some (.slice (some ⟨g3,o3,none⟩) n3 cap3)∧W.cell? ⟨g3,o3+j,none⟩=some (.slice at8 nt8 ct8)∧W.cell? ⟨w.heap.size+1+1,0,none⟩=some (.int i64 0)∧W.cell? ⟨w.heap.size+1+1,1,none⟩=some (.string ⟨#[]⟩)∧W.cell? ⟨w.heap.size+1+1,2,none⟩=some (.slice (some ⟨g5,o5,none⟩) n4 c4))
        (first | (with_reducible assumption) | (with_reducible exact HSW.out _ (Below.drew (bRQ _ _))) | (with_reducible exact HSW.out _ ((Below.drew (bRQ _ _)).alloc (nLQ _) _)) | (with_reducible exact HSW.out _ ((bRQ _ _).alloc (nLQ _) _).drew) | (with_reducible exact HSW.out _ HBV.out) | (with_reducible exact HSW.out _ (HBV.out.alloc HBV.out.size _)) | (with_reducible exact HSW.out _ (below_3 HBV.out _ (nLQ _) _ _ _)) | (with_reducible exact HSW.out _ (below_3 HBV.out _ HBV.out.size _ _ _)))
        (first
         | (go_at_call 51;refine (HGO.out _ (by first | exact Below.drew (bRQ _ _) | exact (Below.drew (bRQ _ _)).alloc (nLQ _) _)).mono ?_;rintro e w' ⟨a8,n8,c8,rfl,hg8,hb8,hw8⟩;have HBV:Hid (Below w0.heap.size w0 w'):=(by first | exact bdrew hb8 | exact balloc hb8);have HG8:Hid (GS hopE w' (.slice a8 n8 c8) G1.2.2):=hg8;(try (have HN8:Hid (∀g o,a8=some ⟨g,o,none⟩→g≠w0.heap.size):=gn_ne hw8 y5));(try (have hbc:=zf_d hb8;obtain⟨hvz,yf⟩:=hbc;have v0:=hvz 0 _ rfl;have v1:=hvz 1 _ rfl;have v2:=hvz 2 _ rfl;simp only[Nat.zero_add] at v0 v1 v2;have yf0:=yf 0;have yf1:=yf 1;have yf2:=yf 2;clear yf hvz));clear hb8 hg8 hw8))
       all_goals (go_wp2_with fail;go_meet)
       all_goals first
        | (with_reducible exact gn_a HBV.out HG8.out)
        | (with_reducible exact gn_b HBV.out HG8.out HN8.out v0 v1 v2)
        | exact gn_b HBV.out HG8.out HN8.out v0 v1 v2
      case rest =>
       obtain⟨gb,a8,n8,c8,rfl,rfl,q0,q1,q2,hG8,hb8⟩:=hcut;obtain⟨⟨⟨b0,b1,b2,b3⟩,⟨d0,d1,d2,d3⟩,hV⟩,hE8,hH8,hM8⟩:=HK.out wc hb8;have f0:=hV 0 _ rfl;have f1:=hV 1 _ rfl;have f2:=hV 2 _ rfl;simp only[Nat.zero_add] at f0 f1 f2;have HB8:Hid (Below w0.heap.size w0 wc):=hb8;have HG8:Hid (GS hopE wc (.slice a8 n8 c8) G1.2.2):=hG8;have HE8:Hid (WkE wc (.slice ao n cap) (.slice ao2 n2 cap2) (.slice (some ⟨g3,o3,none⟩) n3 cap3) (.slice bo3 m3 dap3) Ls Hs As Bs∧GS inE wc (.slice a5 n5 c5) met):=⟨hE8,hM8⟩;clear hV hE8 hH8 hM8 hG8 hb8 t0 HGO;cases O with
       | true =>
         obtain⟨q,hq,_,hq24,hqs,hqh⟩:=gn_on (Ts:=As) (l:=l) HTP.out (by have:=HLN.out;omega) (by rw[HGG.out]);have hq2:=hq;rw[HGG.out] at hq2;simp only at hq2;subst hq2;have HQ:Hid (stW Ls Hs As Bs N l met A (taT As (laH l).1.1)=wkL Ls Hs As Bs N (l++[q]) met A):=st_on (by rw[HGG.out]) hq;have HQ2:Hid ((l++[q]).length≤24∧spB S q.1=true∧hdrB q.2=true):=⟨hq24,hqs,hqh⟩;clear hq hq24 hqs hqh
         go_wp2_with fail
         refine (HIH.out (l++[q]) met A _ a8 n8 c8 a5 n5 c5 a6 n6 c6 HE8.out.1 HG8.out HE8.out.2 (HF0.out.later HB8.out) HSK.out (by have:=HLN.out;simp;omega) (by have:=HQ2.out.1;have:=HLN.out;simp at *;omega) (by simp) (by have:=HLN.out;omega) (by rw[la_app];exact HQ2.out.2.1) (by rw[la_app];exact HQ2.out.2.2) HGL.out.less).mono ?_;rintro e w2 ⟨a9,n9,c9,rfl,hF9,hS9,hb9⟩;have HR:Hid (FTs w2 (.slice a9 n9 c9) (stA Ls Hs As Bs N l met A)∧SK a9 n9 c9∧Below w0.heap.size w0 w2):=⟨by rw[HST.out,HQ.out];exact hF9,hS9,HB8.out.trans (hb9.mono HB8.out.size)⟩;clear hF9 hS9 hb9 q0 q1 q2 b0 b1 b2 b3 d0 d1 d2 d3 f0 f1 f2
         go_wp2_with fail
         go_meet
         case rel=>exact⟨a9,n9,c9,rfl,HR.out⟩
       | false =>
         have HQ:Hid (stW Ls Hs As Bs N l met A (taT As (laH l).1.1)=puR faL G1 A∧G1.2.2=l):=show _∧_ by
          have h:=st_end (As:=As) (Bs:=Bs) (n:=N) (met:=met) (a:=A) (show (gnF Ls Hs (taT As (laH l).1.1) l).2=false by rw[HGG.out]);rw[HGG.out] at h;exact h
         go_wp2_with fail
         refine (put_any a6 n6 c6 G1 a8 n8 c8 A _ (HF0.out.later HB8.out) HG8.out HGL.out.1 HGL.out.2.1 (by rw[HQ.out.2];have:=HLN.out;omega) (by have:=HGL.out.2.2;have:=Nat.one_le_two_pow (n:=N);omega) HSK.out).mono ?_;rintro e w2 ⟨a9,n9,c9,rfl,hF9,hS9,hb9⟩;have HR:Hid (FTs w2 (.slice a9 n9 c9) (stA Ls Hs As Bs N l met A)∧SK a9 n9 c9∧Below w0.heap.size w0 w2):=⟨by rw[HST.out,HQ.out.1];exact hF9,.inr hS9,HB8.out.trans (hb9.mono HB8.out.size)⟩;clear hF9 hS9 hb9 q0 q1 q2 b0 b1 b2 b3 d0 d1 d2 d3 f0 f1 f2
         go_wp2_with fail
         go_meet
         case rel=>exact⟨a9,n9,c9,rfl,HR.out⟩
   case rest =>
    obtain⟨a7,n7,c7,rfl,hF7,hS7,hb7⟩:=hcut;obtain⟨wz,hwz⟩:∃X,X=wc:=⟨_,rfl⟩;subst hwz;have HB7:Hid (Below w0.heap.size w0 wz):=hb7;have HF7:Hid (FTs wz (.slice a7 n7 c7) (stA Ls Hs As Bs N l met A)):=hF7;have HS7:Hid (SK a7 n7 c7):=hS7;clear hF7 hS7 hb7 b0 b1 b2 b3 d0 d1 d2 d3 f0 f1 f2 c0 c1 c2;go_upto_region 8 with fail
    go_cut [15] from 57 to 72 (fun v w'=>v=.bool CH∧Below wz.heap.size wz w')
    case first =>
     obtain⟨⟨⟨b0,b1,b2,b3⟩,⟨d0,d1,d2,d3⟩,hV⟩,hE8,hH8,hM8⟩:=HK.out wz HB7.out;obtain⟨_,_,_,e8,_,_,_,hTa⟩:=hE8.2.2.1.form;cases e8;obtain⟨gA,oA,hao3,hcA,_⟩:=hTa (by omega);subst hao3;obtain⟨a3,l3,c3,t0,hs3⟩:=hcA j (by have:=HAL.out;omega);obtain⟨_,_,_,e9,_,_,_,hTb⟩:=hE8.2.2.2.form;cases e9;obtain⟨gB,oB,hbo3,hcB,_⟩:=hTb (by omega);subst hbo3;obtain⟨a9,l9,c9,t1,hs9⟩:=hcB j (by have:=HAL.out;omega);have HSA:Hid (SR wz (.slice a3 l3 c3) (taT As (laH l).1.1)):=by
      show SR _ _ _;rw[HTA.out.1,getT (by have:=HAL.out;omega)];exact hs3
     have HSB:Hid (SR wz (.slice a9 l9 c9) (taT Bs (laH l).1.1)):=by
      show SR _ _ _;rw[HTB.out.1,getT (by have:=HAL.out;omega)];exact hs9
     have HDF:Hid (∀W,Below wz.heap.size wz W→Calls prog 33 #[.slice a3 l3 c3,.slice a9 l9 c9,.int i64 p0] W fun e w'=>∃ad nd cd,e=.returned (.slice ad nd cd)∧decide ((0:Int)<(nd:Int))=CH∧Below wz.heap.size wz w'):=fun W hW=>by
      refine (refDiff_any a3 l3 c3 a9 l9 c9 p0 _ _ W (HSA.out.later hW) (HSB.out.later hW) (tb_iff.1 HTA.out.2).1 (tb_iff.1 HTB.out.2).1).mono ?_;rintro e w' ⟨v,e1,e2,e3⟩;obtain⟨ad,nd,cd,rfl,hnd,_⟩:=e2.gs.form;refine⟨ad,nd,cd,e1,?_,hW.trans (e3.mono hW.size)⟩;rw[←HCH.out,←hnd,List.length_append,ops_len,ops_len];unfold chB;rw[HLA.out];simp only[decide_eq_decide];omega
     have HMK:Hid (∀W,Below wz.heap.size wz W→Below wz.heap.size wz W∧W.cell? ⟨w.heap.size,3,none⟩=some (.slice (some ⟨gA,oA,none⟩) n3 cap3)∧W.cell? ⟨w.heap.size+1,3,none⟩=some (.slice (some ⟨gB,oB,none⟩) m3 dap3)∧W.cell? ⟨gA,oA+j,none⟩=some (.slice a3 l3 c3)∧W.cell? ⟨gB,oB+j,none⟩=some (.slice a9 l9 c9)):=fun W hW=>⟨hW,cell_later hW b3,cell_later hW d3,cell_later hW t0,cell_later hW t1⟩
     clear hV hE8 hH8 hM8 hTa hTb hcA hcB hs3 hs9
     go_region_held3 (fun W=>Below wz.heap.size wz W∧W.cell? ⟨w.heap.size,3,none⟩=some (.slice (some ⟨gA,oA,none⟩) n3 cap3)∧W.cell? ⟨w.heap.size+1,3,none⟩=some (.slice (some ⟨gB,oB,none⟩) m3 dap3)∧W.cell? ⟨gA,oA+j,none⟩=some (.slice a3 l3 c3)∧W.cell? ⟨gB,oB+j,none⟩=some (.slice a9 l9 c9))
      (first | assumption | exact HMK.out _ (Below.drew (bRQ _ _)) | exact HMK.out _ HBX.out)
      (first | (go_at_call 33;refine (HDF.out _ (by first | exact Below.drew (bRQ _ _) | exact bRQ _ _)).mono ?_;rintro e w' ⟨ad,nd,cd,rfl,hnd,hb⟩;have HBX:Hid (Below wz.heap.size wz w'):=hb;clear hb))
     all_goals (go_wp2_with fail;go_meet)
     all_goals exact⟨by (have h:=hnd;simp at h ⊢;exact h),HBX.out⟩
    case rest =>
     obtain⟨rfl,hb9⟩:=hcut;have HBZ:Hid (Below w0.heap.size w0 wc):=HB7.out.trans (hb9.mono HB7.out.size);have HFZ:Hid (FTs wc (.slice a7 n7 c7) (stA Ls Hs As Bs N l met A)):=HF7.out.later hb9;clear hb9 HF7 HB7;cases CH with
     | false =>
       have HWK:Hid (wkL Ls Hs As Bs (N+1) l met A=stA Ls Hs As Bs N l met A):=wk_no (by rw[HLA.out];exact HCH.out);go_wp2;go_ret;exact⟨a7,n7,c7,rfl,by rw[HWK.out];exact HFZ.out,HS7.out,HB0.out.trans (HBZ.out.mono HB0.out.size)⟩
     | true =>
       obtain⟨wy,hwy⟩:∃X,X=wc:=⟨_,rfl⟩;subst hwy;obtain⟨i0,hi,hz0,hz1,hz2⟩:=info_parts infoInt;have hml:met.length≤25:=by have:=HLN.out;omega
       have HM5:Hid (met.length=n5):=(HK.out _ HBZ.out).2.2.2.len;go_upto_region 12 with fail
       go_wp2_with (at_builtin;refine wpList_append_GS (E:=inE) _ rfl _ _ 54 3 rfl underlying54 i0 (.int i64 0) 8 hi hz0 hz1 hz2 rfl wy.heap.size (.slice none 0 0) rfl [] (World.ownsRow_nil _ _ _ _) _ rfl met ?a1 ?a2 ?a3 (nLQ _) ?_)
       case a1=>exact (HK.out _ HBZ.out).2.2.2
       case a2=>unfold maxLen;simp;omega
       case a3=>simp;omega
       intro v1 w1 ho1 hg1
       try rw[List.nil_append] at ho1
       have hb1:Below wy.heap.size wy w1:=(Below.refl _ wy).grown hg1 (nLQ _) (fun g hg=>by cases hg);obtain⟨a1,c1,hv1⟩:=own_form ho1;subst hv1;obtain⟨nm,hnm⟩:∃q,q=met.length:=⟨_,rfl⟩;rw[←hnm];have HNM:Hid (met.length=nm):=hnm.symm;have HO1:Hid (w1.ownsRow wy.heap.size 3 inE.n (.slice a1 nm c1) met.length (cellsG inE met)):=by
        show World.ownsRow _ _ _ _ _ _ _;rw[hnm];exact ho1
       have HB1:Hid (Below wy.heap.size wy w1):=hb1;clear ho1 hg1 hb1 hnm
       go_upto_if 80 with fail
       go_cut [16] from 79 to 84 (fun v w'=>∃ax nx cx,v=.slice ax nx cx∧GS inE w' (.slice ax nx cx) (met++if B=true then [] else [p0])∧Below wy.heap.size wy w')
       case first =>
        cases B with
        | true =>
          go_wp2_with fail
          go_meet
          case rel=>exact⟨a1,nm,c1,rfl,by simp only[if_true,List.append_nil];exact own_GS HO1.out,HB1.out⟩
        | false =>
          go_wp2_with (at_builtin;refine wpList_append_blk (E:=inE) _ rfl _ _ 54 3 rfl underlying54 i0 (.int i64 0) 8 hi hz0 hz1 hz2 rfl wy.heap.size (.slice a1 nm c1) rfl met ?m0 w1.heap.size 0 1 rfl p0 (vat_new w1 [.int i64 p0] 3) ?m1 ?m2 ?m3 ?_)
          case m0=>exact HO1.out.alloc _
          case m1=>unfold maxLen;omega
          case m2=>omega
          case m3=>have:=HB1.out.size;simp;omega
          intro v2 w2 ho2 hg2 _;have hb2:Below wy.heap.size w1 w2:=((Below.refl _ w1).alloc HB1.out.size _).grown hg2 (by have:=HB1.out.size;simp;omega) (fun g hg=>(HO1.out.lt g hg).1);have hG2:GS inE w2 v2 (met++[p0]):=own_GS (by simpa using ho2);obtain⟨ax,nx,cx,hv2,_⟩:=hG2.form;subst hv2;have HG2:Hid (GS inE w2 (.slice ax nx cx) (met++[p0])∧Below wy.heap.size wy w2):=⟨hG2,HB1.out.trans hb2⟩;clear hG2 ho2 hg2 hb2
          go_wp2_with fail
          go_meet
          case rel=>exact⟨ax,nx,cx,rfl,HG2.out⟩
       case rest =>
        obtain⟨ax,nx,cx,rfl,hGx,hbx⟩:=hcut;obtain⟨wx,hwx⟩:∃X,X=wc:=⟨_,rfl⟩;subst hwx;have HBX:Hid (Below w0.heap.size w0 wx):=HBZ.out.trans (hbx.mono HBZ.out.size);have HMX:Hid (GS inE wx (.slice ax nx cx) (met++if B=true then [] else [p0])):=hGx;have HFX:Hid (FTs wx (.slice a7 n7 c7) (stA Ls Hs As Bs N l met A)):=HFZ.out.later hbx;clear hGx hbx HO1 HB1 HBZ HFZ;obtain⟨⟨⟨b0,b1,b2,b3⟩,⟨d0,d1,d2,d3⟩,hV⟩,_,_,_⟩:=HK.out wx HBX.out;have f0:=hV 0 _ rfl;have f1:=hV 1 _ rfl;have f2:=hV 2 _ rfl;simp only[Nat.zero_add] at f0 f1 f2;clear hV;obtain⟨_,_,_,e8,_,_,_,hTa⟩:=(HK.out _ HBX.out).2.1.2.2.2.form;cases e8;obtain⟨g3,o3,hao3,hc3,_⟩:=hTa (by omega);subst hao3;obtain⟨at8,nt8,ct8,t0,hs8⟩:=hc3 j (by have:=HAL.out;omega);have HS8:Hid (SR wx (.slice at8 nt8 ct8) (taT Bs (laH l).1.1)):=by
         show SR _ _ _;rw[HTB.out.1,getT (by have:=HAL.out;omega)];exact hs8
        obtain⟨G1,O,hGO⟩:∃G1 O,gnF Ls Hs (taT Bs (laH l).1.1) l=(G1,O):=⟨_,_,rfl⟩;have HGG:Hid (gnF Ls Hs (taT Bs (laH l).1.1) l=(G1,O)):=hGO;have y3:g3<wx.heap.size:=bLQ _ _ t0;have y0:w.heap.size<wx.heap.size:=bLQ _ _ b0;have y1:w.heap.size+1<wx.heap.size:=bLQ _ _ d0;have y2:w.heap.size+1+1<wx.heap.size:=bLQ _ _ f0;have HG5:Hid (∀g o,(some ⟨g5,o5,none⟩:AdQ)=some ⟨g,o,none⟩→g<wx.heap.size):=fun g o e=>by cases e;omega
        clear hTa hc3 hs8 hGO;have HGO:Hid (∀W,Below wx.heap.size wx W→Calls prog 51 #[.agg #[.int i64 S,.slice ao n cap,.slice ao2 n2 cap2],.slice at8 nt8 ct8,.agg #[.int i64 0,.string ⟨#[]⟩,.slice (some ⟨g5,o5,none⟩) n4 c4]] W fun e w'=>∃a8 n8 c8,e=.returned (.tuple #[.agg #[.int i64 G1.1,.string G1.2.1,.slice a8 n8 c8],.bool O])∧GS hopE w' (.slice a8 n8 c8) G1.2.2∧Below W.heap.size W w'∧(a8=some ⟨g5,o5,none⟩∨∀g o,a8=some ⟨g,o,none⟩→W.heap.size≤g)):=fun W hW=>by
         have h0:=HK.out W (HBX.out.trans (hW.mono HBX.out.size));have q:=rgo_any S ao n cap ao2 n2 cap2 at8 nt8 ct8 (some ⟨g5,o5,none⟩) n4 c4 Ls Hs (taT Bs (laH l).1.1) l W h0.2.1.1 h0.2.1.2.1 (HS8.out.later hW) h0.2.2.1 HTB.out.2 HHD.out n4a n4z;rw[HGG.out] at q;exact q
        go_upto_region 15 with fail
        go_cut [17,18] from 85 to 97 (fun p q w'=>GN G1 O wx p q w')
        case first =>
         have y5:g5<wx.heap.size:=HG5.out g5 o5 rfl;have HSW:Hid (∀W,Below wx.heap.size wx W→W.cell? ⟨w.heap.size,0,none⟩=some (.int i64 S)∧W.cell? ⟨w.heap.size,1,none⟩=some (.slice ao n cap)∧W.cell? ⟨w.heap.size,2,none⟩=some (.slice ao2 n2 cap2)∧W.cell? ⟨w.heap.size+1,3,none⟩=some (.slice (some ⟨g3,o3,none⟩) m3 dap3)∧W.cell? ⟨g3,o3+j,none⟩=some (.slice at8 nt8 ct8)∧W.cell? ⟨w.heap.size+1+1,0,none⟩=some (.int i64 0)∧W.cell? ⟨w.heap.size+1+1,1,none⟩=some (.string ⟨#[]⟩)∧W.cell? ⟨w.heap.size+1+1,2,none⟩=some (.slice (some ⟨g5,o5,none⟩) n4 c4)):=fun W hW=>⟨cell_later hW b0,cell_later hW b1,cell_later hW b2,cell_later hW d3,cell_later hW t0,cell_later hW f0,cell_later hW f1,cell_later hW f2⟩
         go_region_held3 (fun W=>W.cell? ⟨w.heap.size,0,none⟩=some (.int i64 S)∧W.cell? ⟨w.heap.size,1,none⟩=some (.slice ao n cap)∧W.cell? ⟨w.heap.size,2,none⟩=some (.slice ao2 n2 cap2)∧W.cell? ⟨w.heap.size+1,3,none⟩=some (.slice (some ⟨g3,o3,none⟩) m3 dap3)∧W.cell? ⟨g3,o3+j,none⟩=some (.slice at8 nt8 ct8)∧W.cell? ⟨w.heap.size+1+1,0,none⟩=some (.int i64 0)∧W.cell? ⟨w.heap.size+1+1,1,none⟩=some (.string ⟨#[]⟩)∧W.cell? ⟨w.heap.size+1+1,2,none⟩=some (.slice (some ⟨g5,o5,none⟩) n4 c4))
          (first | (with_reducible assumption) | (with_reducible exact HSW.out _ (Below.drew (bRQ _ _))) | (with_reducible exact HSW.out _ ((Below.drew (bRQ _ _)).alloc (nLQ _) _)) | (with_reducible exact HSW.out _ ((bRQ _ _).alloc (nLQ _) _).drew) | (with_reducible exact HSW.out _ HBV.out) | (with_reducible exact HSW.out _ (HBV.out.alloc HBV.out.size _)) | (with_reducible exact HSW.out _ (below_3 HBV.out _ (nLQ _) _ _ _)) | (with_reducible exact HSW.out _ (below_3 HBV.out _ HBV.out.size _ _ _)))
          (first
           | (go_at_call 51;refine (HGO.out _ (by first | exact Below.drew (bRQ _ _) | exact (Below.drew (bRQ _ _)).alloc (nLQ _) _)).mono ?_;rintro e w' ⟨a8,n8,c8,rfl,hg8,hb8,hw8⟩;have HBV:Hid (Below wx.heap.size wx w'):=(by first | exact bdrew hb8 | exact balloc hb8);have HG8:Hid (GS hopE w' (.slice a8 n8 c8) G1.2.2):=hg8;(try (have HN8:Hid (∀g o,a8=some ⟨g,o,none⟩→g≠wx.heap.size):=gn_ne hw8 y5));(try (have hbc:=zf_d hb8;obtain⟨hvz,yf⟩:=hbc;have v0:=hvz 0 _ rfl;have v1:=hvz 1 _ rfl;have v2:=hvz 2 _ rfl;simp only[Nat.zero_add] at v0 v1 v2;have yf0:=yf 0;have yf1:=yf 1;have yf2:=yf 2;clear yf hvz));clear hb8 hg8 hw8))
         all_goals (go_wp2_with fail;go_meet)
         all_goals first
          | (with_reducible exact gn_a HBV.out HG8.out)
          | (with_reducible exact gn_b HBV.out HG8.out HN8.out v0 v1 v2)
          | exact gn_b HBV.out HG8.out HN8.out v0 v1 v2
        case rest =>
         obtain⟨gb,a8,n8,c8,rfl,rfl,q0,q1,q2,hG8,hb8⟩:=hcut;have HB8:Hid (Below w0.heap.size w0 wc):=HBX.out.trans (hb8.mono HBX.out.size);have HBY:Hid (Below wx.heap.size wx wc):=hb8;obtain⟨⟨⟨b0,b1,b2,b3⟩,⟨d0,d1,d2,d3⟩,hV⟩,hE8,hH8,hM8⟩:=HK.out wc HB8.out;have HG8:Hid (GS hopE wc (.slice a8 n8 c8) G1.2.2):=hG8;have HE8:Hid (WkE wc (.slice ao n cap) (.slice ao2 n2 cap2) (.slice ao3 n3 cap3) (.slice (some ⟨g3,o3,none⟩) m3 dap3) Ls Hs As Bs):=hE8;have HMR:Hid (GS inE wc (.slice ax nx cx) (met++if B=true then [] else [p0])):=HMX.out.later hb8;have HFR:Hid (FTs wc (.slice a7 n7 c7) (stA Ls Hs As Bs N l met A)):=HFX.out.later hb8;clear hV hE8 hH8 hM8 hG8 hb8 t0 HGO;have HWK:Hid (wkL Ls Hs As Bs (N+1) l met A=stW Ls Hs As Bs N l (met++if B=true then [] else [p0]) (stA Ls Hs As Bs N l met A) (taT Bs (laH l).1.1)):=show _=_ by
          rw[wk_yes (by rw[HLA.out];exact HCH.out)];rw[HLA.out,HBB.out]
         obtain⟨MT,hMT⟩:∃M,M=met++if B=true then [] else [p0]:=⟨_,rfl⟩
         have HML:Hid (MT.length+N≤25):=show _≤_ by
          rw[hMT];have:=HLN.out;cases B <;> simp <;> omega
         rw[←hMT] at HWK HMR;clear hMT;have HGA:Hid (GL N (stA Ls Hs As Bs N l met A)):=HGL.out.sa (by have:=HLN.out;omega);obtain⟨A1,hA1⟩:∃X,X=stA Ls Hs As Bs N l met A:=⟨_,rfl⟩;rw[←hA1] at HGA HWK HFR;clear hA1;cases O with
         | true =>
           obtain⟨q,hq,_,hq24,hqs,hqh⟩:=gn_on (Ts:=Bs) (l:=l) HTP.out (by have:=HLN.out;omega) (by rw[HGG.out]);have hq2:=hq;rw[HGG.out] at hq2;simp only at hq2;subst hq2;have HQ:Hid (stW Ls Hs As Bs N l MT A1 (taT Bs (laH l).1.1)=wkL Ls Hs As Bs N (l++[q]) MT A1):=st_on (by rw[HGG.out]) hq;have HQ2:Hid ((l++[q]).length≤24∧spB S q.1=true∧hdrB q.2=true):=⟨hq24,hqs,hqh⟩;clear hq hq24 hqs hqh
           go_wp2_with fail
           refine (HIH.out (l++[q]) MT A1 _ a8 n8 c8 ax nx cx a7 n7 c7 HE8.out HG8.out HMR.out HFR.out HS7.out (by have:=HLN.out;simp;omega) (by have:=HQ2.out.1;have:=HLN.out;simp at *;omega) (by simp) HML.out (by rw[la_app];exact HQ2.out.2.1) (by rw[la_app];exact HQ2.out.2.2) HGA.out).mono ?_;rintro e w2 ⟨a9,n9,c9,rfl,hF9,hS9,hb9⟩;have HR:Hid (FTs w2 (.slice a9 n9 c9) (wkL Ls Hs As Bs (N+1) l met A)∧SK a9 n9 c9∧Below w.heap.size w w2):=⟨by rw[HWK.out,HQ.out];exact hF9,hS9,HB0.out.trans ((HB8.out.trans (hb9.mono HB8.out.size)).mono HB0.out.size)⟩;clear hF9 hS9 hb9 q0 q1 q2 b0 b1 b2 b3 d0 d1 d2 d3;go_wp2;go_ret;exact⟨a9,n9,c9,rfl,HR.out⟩
         | false =>
           have HQ:Hid (stW Ls Hs As Bs N l MT A1 (taT Bs (laH l).1.1)=puR faL G1 A1∧G1.2.2=l):=show _∧_ by
            have h:=st_end (As:=As) (Bs:=Bs) (n:=N) (met:=MT) (a:=A1) (show (gnF Ls Hs (taT Bs (laH l).1.1) l).2=false by rw[HGG.out]);rw[HGG.out] at h;exact h
           go_wp2_with fail
           refine (put_any a7 n7 c7 G1 a8 n8 c8 A1 _ HFR.out HG8.out HGA.out.1 HGA.out.2.1 (by rw[HQ.out.2];have:=HLN.out;omega) (by have:=HGA.out.2.2;have:=Nat.one_le_two_pow (n:=N);omega) HS7.out).mono ?_;rintro e w2 ⟨a9,n9,c9,rfl,hF9,hS9,hb9⟩;have HR:Hid (FTs w2 (.slice a9 n9 c9) (wkL Ls Hs As Bs (N+1) l met A)∧SK a9 n9 c9∧Below w.heap.size w w2):=⟨by rw[HWK.out,HQ.out.1];exact hF9,.inr hS9,HB0.out.trans ((HB8.out.trans (hb9.mono HB8.out.size)).mono HB0.out.size)⟩;clear hF9 hS9 hb9 q0 q1 q2 b0 b1 b2 b3 d0 d1 d2 d3;go_wp2;go_ret;exact⟨a9,n9,c9,rfl,HR.out⟩
theorem gl_nil:GL 24 []:=⟨List.Pairwise.nil,fun x h=>by simp at h,by decide⟩
theorem rseen_any (S S':Int)(ao:AdQ)(n cap:Nat)(ao2:AdQ)(n2 cap2:Nat)(ao3:AdQ)(n3 cap3:Nat)(u1 u2:Value)(bo3:AdQ)(m3 dap3:Nat)(Ls:LkQ)(Hs:HoQ)(As Bs:TsQ)
 (ht:tpN S Ls Hs=0) (hSA:(As.length:Int)=S) (hSB:(Bs.length:Int)=S) (hA:∀k,k<As.length→tbN (As.getD k [])=0) (hB:∀k,k<Bs.length→tbN (Bs.getD k [])=0) (x y h:Int) (w:World)
 (hE:WkE w (.slice ao n cap) (.slice ao2 n2 cap2) (.slice ao3 n3 cap3) (.slice bo3 m3 dap3) Ls Hs As Bs) (hsp:spB S (x,y)=true) (hhd:hdrB h=true):
 Calls prog 32 #[.agg #[.int i64 S,.slice ao n cap,.slice ao2 n2 cap2,.slice ao3 n3 cap3],.agg #[.int i64 S',u1,u2,.slice bo3 m3 dap3],.agg #[.int i64 x,.int i64 y],.int i64 h] w fun e w'=>∃a7 n7 c7,e=.returned (.slice a7 n7 c7)∧FTs w' (.slice a7 n7 c7) (seeL Ls Hs As Bs (x,y) h)∧Below w.heap.size w w':=by
 have hb:∀(W:World) (o:Obj),Below W.heap.size W (W.alloc o):=fun W o=>(bRQ _ _).alloc (nLQ _) _
 obtain⟨w0,hw0⟩:∃W,((w.alloc (.cells #[.int i64 S,.slice ao n cap,.slice ao2 n2 cap2,.slice ao3 n3 cap3] 28)).alloc (.cells #[.int i64 S',u1,u2,.slice bo3 m3 dap3] 28)).alloc (.cells #[.int i64 x,.int i64 y] 75)=W:=⟨_,rfl⟩;have hX:NeBox w0 w.heap.size S (.slice ao n cap) (.slice ao2 n2 cap2) (.slice ao3 n3 cap3)∧NeBox w0 (w.heap.size+1) S' u1 u2 (.slice bo3 m3 dap3)∧VAt w0 (w.heap.size+1+1) 0 [.int i64 x,.int i64 y]∧Below w.heap.size w w0:=by
  rw[←hw0];have h1:=nebox_new w S (.slice ao n cap) (.slice ao2 n2 cap2) (.slice ao3 n3 cap3) 28;have b1:=hb w (Obj.cells #[.int i64 S,.slice ao n cap,.slice ao2 n2 cap2,.slice ao3 n3 cap3] 28);have e1:(w.alloc (.cells #[.int i64 S,.slice ao n cap,.slice ao2 n2 cap2,.slice ao3 n3 cap3] 28)).heap.size=w.heap.size+1:=by simp
  generalize w.alloc (.cells #[.int i64 S,.slice ao n cap,.slice ao2 n2 cap2,.slice ao3 n3 cap3] 28)=A at h1 b1 e1 ⊢
  have h2:=nebox_new A S' u1 u2 (.slice bo3 m3 dap3) 28;have b2:=hb A (Obj.cells #[.int i64 S',u1,u2,.slice bo3 m3 dap3] 28);have e2:(A.alloc (.cells #[.int i64 S',u1,u2,.slice bo3 m3 dap3] 28)).heap.size=w.heap.size+1+1:=by simp[e1]
  rw[e1] at h2
  generalize A.alloc (.cells #[.int i64 S',u1,u2,.slice bo3 m3 dap3] 28)=C at h2 b2 e2 ⊢
  have h3:=vat_new C [.int i64 x,.int i64 y] 75;have b3:=hb C (Obj.cells #[.int i64 x,.int i64 y] 75);rw[e2] at h3;exact⟨(h1.later b2).later b3,h2.later b3,h3,(b1.trans (b2.mono (by omega))).trans (b3.mono (by omega))⟩
 have HW0:Hid (((w.alloc (.cells #[.int i64 S,.slice ao n cap,.slice ao2 n2 cap2,.slice ao3 n3 cap3] 28)).alloc (.cells #[.int i64 S',u1,u2,.slice bo3 m3 dap3] 28)).alloc (.cells #[.int i64 x,.int i64 y] 75)=w0):=hw0;have hB1:Below w0.heap.size w0 (w0.alloc (.cells #[.int i64 x,.int i64 y,.int i64 h] 127)):=hb _ _;have HGH:Hid (GS hopE (w0.alloc (.cells #[.int i64 x,.int i64 y,.int i64 h] 127)) (.slice (some ⟨w0.heap.size,0,none⟩) 1 1) [((x,y),h)]):=gs_one (E:=hopE) w0 ((x,y),h) 127 (vs:=[.int i64 x,.int i64 y,.int i64 h]) rfl;have HE1:Hid (WkE (w0.alloc (.cells #[.int i64 x,.int i64 y,.int i64 h] 127)) (.slice ao n cap) (.slice ao2 n2 cap2) (.slice ao3 n3 cap3) (.slice bo3 m3 dap3) Ls Hs As Bs):=(hE.later hX.2.2.2).later hB1;have HB1:Hid (Below w.heap.size w (w0.alloc (.cells #[.int i64 x,.int i64 y,.int i64 h] 127))):=hX.2.2.2.trans (hB1.mono hX.2.2.2.size);have HC:Hid (tpN S Ls Hs=0∧(As.length:Int)=S∧(Bs.length:Int)=S∧(∀k,k<As.length→tbN (As.getD k [])=0)∧(∀k,k<Bs.length→tbN (Bs.getD k [])=0)∧spB S (x,y)=true∧hdrB h=true):=⟨ht,hSA,hSB,hA,hB,hsp,hhd⟩;obtain⟨⟨b0,b1,b2,b3⟩,⟨d0,d1,d2,d3⟩,hV,_⟩:=hX;have f0:=hV 0 _ rfl;have f1:=hV 1 _ rfl;simp only[Nat.zero_add] at f0 f1;clear hV ht hSA hSB hA hB hE hsp hhd hw0 hB1 hb;go_enter func32,ntmps32;go_upto_region 1 with fail;rw[HW0.out];clear HW0
 go_wp2_with fail
 refine (walk_any S S' ao n cap ao2 n2 cap2 ao3 n3 cap3 u1 u2 bo3 m3 dap3 Ls Hs As Bs HC.out.1 HC.out.2.1 HC.out.2.2.1 HC.out.2.2.2.1 HC.out.2.2.2.2.1 24 [((x,y),h)] [] [] _ (some ⟨w0.heap.size,0,none⟩) 1 1 none 0 0 none 0 0 HE1.out HGH.out (.inl ⟨none,0,rfl,rfl⟩) ⟨[],.inl ⟨none,0,rfl,rfl⟩,rfl,fun z hz=>by simp at hz⟩ (.inl ⟨rfl,rfl,rfl⟩) rfl (by decide) (by simp) (by simp) HC.out.2.2.2.2.2.1 HC.out.2.2.2.2.2.2 gl_nil).mono ?_;rintro e w2 ⟨a7,n7,c7,rfl,hF,_,hb2⟩;have HR:Hid (FTs w2 (.slice a7 n7 c7) (seeL Ls Hs As Bs (x,y) h)∧Below w.heap.size w w2):=⟨hF,HB1.out.trans (hb2.mono HB1.out.size)⟩;clear hF hb2 b0 b1 b2 b3 d0 d1 d2 d3 f0 f1;go_wp2;go_ret;exact⟨a7,n7,c7,rfl,HR.out⟩
theorem hd_16 {h:Nat}(h3:h<16):hdrB (h:Int)=true:=by
 have:∀f:Fin 16,hdrB ((f:Nat):Int)=true:=by decide +kernel
 exact this ⟨h,h3⟩
structure SaBox (w W:World)(S:Int)(v1 v2 v3:Value)(S':Int)(u1 u2 u3:Value):Prop where
 below:Below w.heap.size w W
 n:NeBox W w.heap.size S v1 v2 v3
 b:NeBox W (w.heap.size+1) S' u1 u2 u3
 p:PrBox w W (w.heap.size+1+1) 0 ⟨#[]⟩ 0
theorem SaBox.later {w W W':World}{S:Int}{v1 v2 v3:Value}{S':Int}{u1 u2 u3:Value}(k:SaBox w W S v1 v2 v3 S' u1 u2 u3)(hb:Below W.heap.size W W'):SaBox w W' S v1 v2 v3 S' u1 u2 u3:=
 ⟨k.below.trans (hb.mono k.below.size),k.n.later hb,k.b.later hb,k.p.later hb⟩
theorem sabox_new (w:World)(S:Int)(v1 v2 v3:Value)(S':Int)(u1 u2 u3:Value):SaBox w (((w.alloc (.cells #[.int i64 S,v1,v2,v3] 28)).alloc (.cells #[.int i64 S',u1,u2,u3] 28)).alloc (.cells #[.int i64 0,.string ⟨#[]⟩,.int i64 0] 43)) S v1 v2 v3 S' u1 u2 u3:=by
 have hb:∀(W:World) (o:Obj),Below W.heap.size W (W.alloc o):=fun W o=>(bRQ _ _).alloc (nLQ _) _
 have h1:=nebox_new w S v1 v2 v3 28;have b1:=hb w (Obj.cells #[.int i64 S,v1,v2,v3] 28);have e1:(w.alloc (.cells #[.int i64 S,v1,v2,v3] 28)).heap.size=w.heap.size+1:=by simp
 generalize w.alloc (.cells #[.int i64 S,v1,v2,v3] 28)=A at h1 b1 e1 ⊢
 have h2:=nebox_new A S' u1 u2 u3 28;have b2:=hb A (Obj.cells #[.int i64 S',u1,u2,u3] 28);have e2:(A.alloc (.cells #[.int i64 S',u1,u2,u3] 28)).heap.size=w.heap.size+1+1:=by simp[e1]
 rw[e1] at h2
 generalize A.alloc (.cells #[.int i64 S',u1,u2,u3] 28)=C at h2 b2 e2 ⊢
 have h3:=prbox_new C w 0 ⟨#[]⟩ 0;have b3:=hb C (Obj.cells #[.int i64 0,.string ⟨#[]⟩,.int i64 0] 43);rw[e2] at h3;exact⟨(b1.trans (b2.mono (by omega))).trans (b3.mono (by omega)),(h1.later b2).later b3,h2.later b3,h3⟩
theorem any_no {α:Type}{L:List α}{p:α→Bool}(h:∀(k:Nat) (x:α),L[k]?=some x→p x=false):L.any p=false:=by
 rw[List.any_eq_false];intro x hx;obtain⟨k,hk⟩:=List.getElem?_of_mem hx;rw[h k x hk];simp
theorem any_yes {α:Type}{L:List α}{p:α→Bool}{k:Nat}{x:α}(h:L[k]?=some x)(hp:p x=true):L.any p=true:=List.any_eq_true.2 ⟨x,List.mem_of_getElem? h,hp⟩
theorem bsH_skip {Ls:LkQ}{Hs:HoQ}{As Bs:TsQ}{w:Wi}{x:ByteArray×(Int×Int)}(h:abW w x.1=false):∀k:Nat,bsH Ls Hs As Bs w x k<0
 | 0=>by simp[bsH]
 | k+1=>bsH_no (bsH_skip h k) (bsB_off h _)
theorem by_same (a b:ByteArray):(a.toList==b.toList)=(a==b):=by
 rw[Bool.eq_iff_iff,beq_iff_eq,ba_iff];constructor
 ·intro h;exact nm_inj h
 rintro rfl;rfl
def W8 (w0:World)(g p:Nat)(y0:Int)(y1 y2:ByteArray)(y3:Int)(gh:Nat)(z0:ByteArray)(g7 p7:Nat)(x:Ft)(ah:AdQ)(nh ch:Nat)(W:World):Prop:=
 Below w0.heap.size w0 W∧W.cell? ⟨g,p,none⟩=some (.int i64 y0)∧W.cell? ⟨g,p+1,none⟩=some (.string y1)∧W.cell? ⟨g,p+2,none⟩=some (.string y2)∧W.cell? ⟨g,p+3,none⟩=some (.int i64 y3)∧W.cell? ⟨gh,0,none⟩=some (.string z0)∧W.cell? ⟨g7,p7,none⟩=some (.int i64 x.1)∧W.cell? ⟨g7,p7+1,none⟩=some (.string x.2.1)∧W.cell? ⟨g7,p7+2,none⟩=some (.slice ah nh ch)∧GS hopE W (.slice ah nh ch) x.2.2
theorem W8.later {w0:World}{g p:Nat}{y0:Int}{y1 y2:ByteArray}{y3:Int}{gh:Nat}{z0:ByteArray}{g7 p7:Nat}{x:Ft}{ah:AdQ}{nh ch:Nat}{W W':World}(hb:Below W.heap.size W W')(h:W8 w0 g p y0 y1 y2 y3 gh z0 g7 p7 x ah nh ch W):W8 w0 g p y0 y1 y2 y3 gh z0 g7 p7 x ah nh ch W':=by
 obtain⟨h0,h1,h2,h3,h4,h5,h6,h7,h8,h9⟩:=h;exact⟨h0.trans (hb.mono h0.size),cell_later hb h1,cell_later hb h2,cell_later hb h3,cell_later hb h4,cell_later hb h5,cell_later hb h6,cell_later hb h7,cell_later hb h8,h9.later hb⟩
theorem rsafe_any (S:Int)(ao:AdQ)(n cap:Nat)(ao2:AdQ)(n2 cap2:Nat)(ao3:AdQ)(n3 cap3:Nat)(S':Int)(u1 u2:Value)(bo3:AdQ)(m3 dap3:Nat)(a4:AdQ)(n4 c4:Nat)(Ls:LkQ)(Hs:HoQ)(As Bs:TsQ)(l:List Wi)(w:World)
 (hE:WkE w (.slice ao n cap) (.slice ao2 n2 cap2) (.slice ao3 n3 cap3) (.slice bo3 m3 dap3) Ls Hs As Bs) (hl:GS wisE w (.slice a4 n4 c4) l) (hN:ntN S Ls Hs As=0) (hN':ntN S Ls Hs Bs=0):
 Calls prog 12 #[.agg #[.int i64 S,.slice ao n cap,.slice ao2 n2 cap2,.slice ao3 n3 cap3],.agg #[.int i64 S',u1,u2,.slice bo3 m3 dap3],.slice a4 n4 c4] w fun e w'=>e=.returned (.tuple #[.agg #[.int i64 (prV Hs (bsW Ls Hs As Bs l Hs l.length)).1,.string (prV Hs (bsW Ls Hs As Bs l Hs l.length)).2.1,.int i64 (prV Hs (bsW Ls Hs As Bs l Hs l.length)).2.2],.bool (bsW Ls Hs As Bs l Hs l.length).isNone])∧Below w.heap.size w w':=by
 have HEW:Hid (∀W,Below w.heap.size w W→WkE W (.slice ao n cap) (.slice ao2 n2 cap2) (.slice ao3 n3 cap3) (.slice bo3 m3 dap3) Ls Hs As Bs):=fun W hb=>hE.later hb
 have hX:=sabox_new w S (.slice ao n cap) (.slice ao2 n2 cap2) (.slice ao3 n3 cap3) S' u1 u2 (.slice bo3 m3 dap3);obtain⟨w0,hw0⟩:∃W,((w.alloc (.cells #[.int i64 S,.slice ao n cap,.slice ao2 n2 cap2,.slice ao3 n3 cap3] 28)).alloc (.cells #[.int i64 S',u1,u2,.slice bo3 m3 dap3] 28)).alloc (.cells #[.int i64 0,.string ⟨#[]⟩,.int i64 0] 43)=W:=⟨_,rfl⟩;rw[hw0] at hX;have HX:Hid (SaBox w w0 S (.slice ao n cap) (.slice ao2 n2 cap2) (.slice ao3 n3 cap3) S' u1 u2 (.slice bo3 m3 dap3)):=hX;have HW0:Hid (((w.alloc (.cells #[.int i64 S,.slice ao n cap,.slice ao2 n2 cap2,.slice ao3 n3 cap3] 28)).alloc (.cells #[.int i64 S',u1,u2,.slice bo3 m3 dap3] 28)).alloc (.cells #[.int i64 0,.string ⟨#[]⟩,.int i64 0] 43)=w0):=hw0;have HB0:Hid (Below w.heap.size w w0):=hX.below;have HN:Hid (ntN S Ls Hs As=0∧ntN S Ls Hs Bs=0):=⟨hN,hN'⟩;obtain⟨_,_,_,e5,hGn,hGm,_,hGa⟩:=hl.form;cases e5;obtain⟨_,_,_,e6,hHn,hHm,_,hHa⟩:=hE.2.1.form;cases e6;have HGN:Hid (l.length=n4):=hGn;have HGA:Hid (0<n4→∃g o,a4=some ⟨g,o,none⟩∧GAt wisE w g o l∧c4≤maxLen):=hGa;have HHN:Hid (Hs.length=n2):=hHn;have HHA:Hid (0<n2→∃g o,ao2=some ⟨g,o,none⟩∧GAt hstE w g o Hs∧cap2≤maxLen):=hHa;have HHG:Hid (∀h∈Hs,nmB h.1=true∧spB S h.2=true):=(tp_0 (nt_0 hN).1).2.2.2.2.1;obtain⟨R,hR⟩:∃R,R=bsW Ls Hs As Bs l Hs l.length:=⟨_,rfl⟩;have HR:Hid (bsW Ls Hs As Bs l Hs n4=R):=by
  show _=_;rw[hR,hGn]
 have HRL:Hid (bsW Ls Hs As Bs l Hs l.length=R):=hR.symm;rw[←hR];have hn4:n4≤maxLen:=hGm;have hn2:n2≤maxLen:=hHm;unfold maxLen at hn4 hn2;clear hE hl hX hw0 hN hN' hGn hGm hGa hHn hHm hHa hR;go_enter func12,ntmps12;go_upto_region 1 with fail;rw[HW0.out];clear HW0;go_wp2
 go_loopw [8] (fun i wr=>∃j:Nat,j≤n4∧i=.int i64 j∧bsW Ls Hs As Bs l Hs j=none∧Below w0.heap.size w0 wr) (fun i _=>n4-(intOf i).toNat)
 case atStart=>exact⟨0,by omega,rfl,rfl,bRQ _ _⟩
 case round =>
  obtain⟨j,hj,rfl,hno,hB⟩:=hrel;obtain⟨w1,hw1⟩:∃X,X=wr:=⟨_,rfl⟩;subst hw1;have HB:Hid (Below w0.heap.size w0 w1):=hB;have HBw:Hid (Below w.heap.size w w1):=HB0.out.trans (hB.mono HB0.out.size);have HNO:Hid (bsW Ls Hs As Bs l Hs j=none):=hno;clear hno hB;by_cases hlt:j<n4
  ·obtain⟨g1,o1,hao,hc,_⟩:=HGA.out (by omega);subst hao;obtain⟨y0,y1,y2,y3,hkl,hLk,_,_,_,_⟩:=wis_at hc HGN.out hlt;have HLK:Hid (l[j]=⟨y0,y1,y2,y3⟩):=hLk;have HYC:Hid (∀W,Below w.heap.size w W→W.cell? ⟨g1,o1+j*4,none⟩=some (.int i64 y0)∧W.cell? ⟨g1,o1+j*4+1,none⟩=some (.string y1)∧W.cell? ⟨g1,o1+j*4+2,none⟩=some (.string y2)∧W.cell? ⟨g1,o1+j*4+3,none⟩=some (.int i64 y3)):=fun W hW=>by
    obtain⟨a0,a1,a2,a3,b1,b2,q0,q1,q2,q3⟩:=wis_at (hc.later hW) HGN.out hlt;rw[hLk] at b2;cases b2;exact⟨q0,q1,q2,q3⟩
   obtain⟨X,hX⟩:∃q,q=bsX Ls Hs As Bs ⟨y0,y1,y2,y3⟩ Hs Hs.length:=⟨_,rfl⟩;have HXX:Hid (bsX Ls Hs As Bs ⟨y0,y1,y2,y3⟩ Hs Hs.length=X):=hX.symm;have kb0:(0:Int)≤(j:Int):=by omega
   have kb1:(j:Int)<(n4:Int):=by omega
   clear hc hLk hX;go_upto_region 4 with fail;go_wp2
   go_loopw [9] (fun i wr=>∃z:Nat,z≤n2∧i=.int i64 z∧bsX Ls Hs As Bs ⟨y0,y1,y2,y3⟩ Hs z=none∧Below w1.heap.size w1 wr) (fun i _=>n2-(intOf i).toNat)
   case atStart=>exact⟨0,by omega,rfl,rfl,bRQ _ _⟩
   case round =>
    obtain⟨z,hz,rfl,hno,hB⟩:=hrel;obtain⟨w2,hw2⟩:∃X,X=wr:=⟨_,rfl⟩;subst hw2;have HB2:Hid (Below w1.heap.size w1 w2):=hB;have HB02:Hid (Below w0.heap.size w0 w2):=HB.out.trans (hB.mono HB.out.size);have HBw2:Hid (Below w.heap.size w w2):=HB0.out.trans (HB02.out.mono HB0.out.size);have HNO2:Hid (bsX Ls Hs As Bs ⟨y0,y1,y2,y3⟩ Hs z=none):=hno;obtain⟨_,⟨b0,b1,b2,b3⟩,_,_⟩:=HX.out.later HB02.out;have hlw:w.heap.size<w2.heap.size:=bLQ _ _ b0;clear hno hB;by_cases hlt2:z<n2
    ·obtain⟨g2,o2,hao2,hc2,_⟩:=HHA.out (by omega);subst hao2;obtain⟨z0,z1,z2,hzl,hZk,p0,p1,p2⟩:=hst_at (hc2.later HBw2.out) HHN.out hlt2;have HZK:Hid (Hs[z]=(z0,(z1,z2))):=hZk;have hmem:(z0,(z1,z2))∈Hs:=by
      rw[←hZk];exact List.getElem_mem hzl
     have HSP:Hid (spB S (z1,z2)=true):=(HHG.out _ hmem).2;have zb0:(0:Int)≤(z:Int):=by omega
     have zb1:(z:Int)<(n2:Int):=by omega
     have hba:Below w2.heap.size w2 (w2.alloc (.cells #[Value.string z0,.int i64 z1,.int i64 z2] 77)):=(bRQ _ _).alloc (nLQ _) _;have hhb:=hsbox_new w2 z0 z1 z2 77;obtain⟨w4,hw4⟩:∃W,w2.alloc (.cells #[Value.string z0,.int i64 z1,.int i64 z2] 77)=W:=⟨_,rfl⟩;obtain⟨gh,hgh⟩:∃q,q=w2.heap.size:=⟨_,rfl⟩;rw[hw4] at hba hhb;rw[←hgh] at hhb;have HW4:Hid (w2.alloc (.cells #[Value.string z0,.int i64 z1,.int i64 z2] 77)=w4):=hw4;have HGH:Hid (w2.heap.size=gh):=hgh.symm;have HHB:Hid (HsBox w4 gh z0 z1 z2):=hhb;have HB24:Hid (Below w1.heap.size w1 w4):=HB2.out.trans (hba.mono HB2.out.size);have HB04:Hid (Below w0.heap.size w0 w4):=HB02.out.trans (hba.mono HB02.out.size);have HBw4:Hid (Below w.heap.size w w4):=HBw2.out.trans (hba.mono HBw2.out.size);have HLH:Hid (w.heap.size+1+1<gh):=by
      show _<_;rw[hgh];have h1:=bLQ _ _ (HX.out.later HB02.out).p.c0;simpa using h1
     clear hc2 hZk hmem hba hhb hw4 hgh;go_upto_region 8 with fail;rw[HW4.out,HGH.out];clear HW4 HGH p0 p1 p2 b0 b1 b2 b3 hlw;obtain⟨SP,hSP⟩:∃b:Bool,b = !(abW ⟨y0,y1,y2,y3⟩ z0):=⟨_,rfl⟩;have HSPB:Hid (abW ⟨y0,y1,y2,y3⟩ z0 = !SP):=show _=_ by rw[hSP,Bool.not_not]
     have HCQ:Hid ((fun W=>Below w4.heap.size w4 W∧W.cell? ⟨g1,o1+j*4,none⟩=some (.int i64 y0)∧W.cell? ⟨g1,o1+j*4+1,none⟩=some (.string y1)∧W.cell? ⟨gh,0,none⟩=some (.string z0)) w4):=⟨bRQ _ _,(HYC.out _ HBw4.out).1,(HYC.out _ HBw4.out).2.1,HHB.out.1⟩
     go_cut [50] from 35 to 49 (fun q w'=>q=.bool SP∧Below w4.heap.size w4 w')
     case first =>
      by_cases h4:y0=4
      ·have hs0:SP=false:=by rw[hSP,abW,h4];rfl
       clear hSP;subst hs0;subst h4
       as_aux_lemma =>
        refine wp_region_quiet (C:=fun W=>Below w4.heap.size w4 W∧W.cell? ⟨g1,o1+j*4,none⟩=some (.int i64 4)∧W.cell? ⟨g1,o1+j*4+1,none⟩=some (.string y1)∧W.cell? ⟨gh,0,none⟩=some (.string z0)) (by kernel_rfl) (by kernel_rfl) ⟨(Below.drew (bRQ _ _)),HCQ.out.2⟩ ?_;simp only[List.toList_toArray];go_big_quiet_want;refine qv (.slice (some ⟨g1,o1,none⟩) n4 c4) ?_ ?_
        ·rintro w' ⟨q0,q1,q2,q3⟩;go_simp
        simp only[Act.put,AP];go_big_quiet_on;go_big_quiet_want;refine qv (.int i64 (j:Int)) ?_ ?_
        ·rintro w' ⟨q0,q1,q2,q3⟩;go_simp
        simp only[Act.put,AP];go_big_quiet_on;go_big_quiet_want;refine qv (.pointer (some ⟨g1,o1+j*4,none⟩)) ?_ ?_
        ·rintro w' ⟨q0,q1,q2,q3⟩;go_simp
        simp only[Act.put,AP];go_big_quiet_on;go_big_quiet_want;refine qv (.pointer (some ⟨g1,o1+j*4,none⟩)) ?_ ?_
        ·rintro w' ⟨q0,q1,q2,q3⟩;go_simp
        simp only[Act.put,AP];go_big_quiet_on;go_big_quiet_want;refine qv (.int i64 4) ?_ ?_
        ·rintro w' ⟨q0,q1,q2,q3⟩;go_simp
        simp only[Act.put,AP];go_big_quiet_on;go_big_quiet_want;refine qv (.bool false) ?_ ?_
        ·rintro w' ⟨q0,q1,q2,q3⟩;go_simp
        simp only[Act.put,AP];go_big_quiet_on;go_big_quiet_want;refine qv (.bool false) ?_ ?_
        ·rintro w' ⟨q0,q1,q2,q3⟩;go_simp
        simp only[Act.put,AP];go_big_quiet_on;go_big_quiet_skip;go_big_quiet_skip;go_big_quiet_skip;go_big_quiet_skip;go_big_quiet_skip;go_big_quiet_skip;go_big_quiet_skip;go_big_quiet_skip;go_big_quiet_want;refine qv (.bool false) ?_ ?_
        ·rintro w' ⟨q0,q1,q2,q3⟩;go_simp
        simp only[Act.put,AP];go_big_quiet_on;refine wpQuiet_nil ?_;intro w' hC
        go_wp2_with fail
        go_meet
        case rel=>exact⟨rfl,hC.1⟩
      have hs0:SP = !(y1==z0):=by
       rw[hSP,abW];simp[h4]
      have h4b:(y0==4)=false:=by simpa using h4
      obtain⟨D,hD⟩:∃D,D=(y1==z0):=⟨_,rfl⟩;rw[←hD] at hs0;have hD2:(y1.toList==z0.toList)=D:=by rw[hD];exact by_same y1 z0
      clear hSP hD;subst hs0
      as_aux_lemma =>
       refine wp_region_quiet (C:=fun W=>Below w4.heap.size w4 W∧W.cell? ⟨g1,o1+j*4,none⟩=some (.int i64 y0)∧W.cell? ⟨g1,o1+j*4+1,none⟩=some (.string y1)∧W.cell? ⟨gh,0,none⟩=some (.string z0)) (by kernel_rfl) (by kernel_rfl) ⟨(Below.drew (bRQ _ _)),HCQ.out.2⟩ ?_;simp only[List.toList_toArray];go_big_quiet_want;refine qv (.slice (some ⟨g1,o1,none⟩) n4 c4) ?_ ?_
       ·rintro w' ⟨q0,q1,q2,q3⟩;go_simp
       simp only[Act.put,AP];go_big_quiet_on;go_big_quiet_want;refine qv (.int i64 (j:Int)) ?_ ?_
       ·rintro w' ⟨q0,q1,q2,q3⟩;go_simp
       simp only[Act.put,AP];go_big_quiet_on;go_big_quiet_want;refine qv (.pointer (some ⟨g1,o1+j*4,none⟩)) ?_ ?_
       ·rintro w' ⟨q0,q1,q2,q3⟩;go_simp
       simp only[Act.put,AP];go_big_quiet_on;go_big_quiet_want;refine qv (.pointer (some ⟨g1,o1+j*4,none⟩)) ?_ ?_
       ·rintro w' ⟨q0,q1,q2,q3⟩;go_simp
       simp only[Act.put,AP];go_big_quiet_on;go_big_quiet_want;refine qv (.int i64 y0) ?_ ?_
       ·rintro w' ⟨q0,q1,q2,q3⟩;go_simp
       simp only[Act.put,AP];go_big_quiet_on;go_big_quiet_want;refine qv (.bool true) ?_ ?_
       ·rintro w' ⟨q0,q1,q2,q3⟩;go_simp
       simp only[Act.put,AP];go_big_quiet_on;go_big_quiet_want;refine qv (.bool true) ?_ ?_
       ·rintro w' ⟨q0,q1,q2,q3⟩;go_simp
       simp only[Act.put,AP];go_big_quiet_on;go_big_quiet_want;refine qv (.slice (some ⟨g1,o1,none⟩) n4 c4) ?_ ?_
       ·rintro w' ⟨q0,q1,q2,q3⟩;go_simp
       simp only[Act.put,AP];go_big_quiet_on;go_big_quiet_want;refine qv (.int i64 (j:Int)) ?_ ?_
       ·rintro w' ⟨q0,q1,q2,q3⟩;go_simp
       simp only[Act.put,AP];go_big_quiet_on;go_big_quiet_want;refine qv (.pointer (some ⟨g1,o1+j*4,none⟩)) ?_ ?_
       ·rintro w' ⟨q0,q1,q2,q3⟩;go_simp
       simp only[Act.put,AP];go_big_quiet_on;go_big_quiet_want;refine qv (.pointer (some ⟨g1,o1+j*4+1,none⟩)) ?_ ?_
       ·rintro w' ⟨q0,q1,q2,q3⟩;go_simp
       simp only[Act.put,AP];go_big_quiet_on;go_big_quiet_want;refine qv (.string y1) ?_ ?_
       ·rintro w' ⟨q0,q1,q2,q3⟩;go_simp
       simp only[Act.put,AP];go_big_quiet_on;go_big_quiet_want;refine qv (.pointer (some ⟨gh,0,none⟩)) ?_ ?_
       ·rintro w' ⟨q0,q1,q2,q3⟩;go_simp
       simp only[Act.put,AP];go_big_quiet_on;go_big_quiet_want;refine qv (.string z0) ?_ ?_
       ·rintro w' ⟨q0,q1,q2,q3⟩;go_simp
       simp only[Act.put,AP];go_big_quiet_on;go_big_quiet_want;refine qv (.bool (!D)) ?_ ?_
       ·rintro w' ⟨q0,q1,q2,q3⟩;go_simp
       simp only[Act.put,AP];go_big_quiet_on;go_big_quiet_want;refine qv (.bool (!D)) ?_ ?_
       ·rintro w' ⟨q0,q1,q2,q3⟩;go_simp
       simp only[Act.put,AP];go_big_quiet_on;refine wpQuiet_nil ?_;intro w' hC
       go_wp2_with fail
       go_meet
       case rel=>exact⟨rfl,hC.1⟩
     case rest =>
      obtain⟨rfl,hbs⟩:=hcut;obtain⟨w5,hw5⟩:∃X,X=wc:=⟨_,rfl⟩;subst hw5;have HB25:Hid (Below w1.heap.size w1 w5):=HB24.out.trans (hbs.mono HB24.out.size);have HB05:Hid (Below w0.heap.size w0 w5):=HB04.out.trans (hbs.mono HB04.out.size);have HBw5:Hid (Below w.heap.size w w5):=HBw4.out.trans (hbs.mono HBw4.out.size);have HHB5:Hid (HsBox w5 gh z0 z1 z2):=HHB.out.later hbs;clear hbs hSP HCQ HHB HB24 HB04 HBw4;cases SP with
      | true =>
        have HXN:Hid (bsX Ls Hs As Bs ⟨y0,y1,y2,y3⟩ Hs (z+1)=none):=bsX_no hzl HNO2.out (by rw[HZK.out];exact bsH_skip HSPB.out 16);go_wp2;go_roundw
        case rel=>exact⟨z+1,by omega,by go_num,HXN.out,HB25.out⟩
        case measure=>simp[intOf];omega
      | false =>
        go_wp2
        go_loopw [11] (fun i wr=>∃q:Nat,q≤16∧i=.int i64 q∧bsH Ls Hs As Bs ⟨y0,y1,y2,y3⟩ (z0,(z1,z2)) q<0∧Below w5.heap.size w5 wr) (fun i _=>16-(intOf i).toNat)
        case atStart=>exact⟨0,by omega,rfl,by simp[bsH],bRQ _ _⟩
        case round =>
         obtain⟨q,hq,rfl,hno,hB⟩:=hrel;obtain⟨wi,hwi⟩:∃X,X=wr:=⟨_,rfl⟩;subst hwi;have HB4:Hid (Below w5.heap.size w5 wi):=hB;have HB0i:Hid (Below w0.heap.size w0 wi):=HB05.out.trans (hB.mono HB05.out.size);have HB1i:Hid (Below w1.heap.size w1 wi):=HB25.out.trans (hB.mono HB25.out.size);have HBwi:Hid (Below w.heap.size w wi):=HBw5.out.trans (hB.mono HBw5.out.size);have HNO4:Hid (bsH Ls Hs As Bs ⟨y0,y1,y2,y3⟩ (z0,(z1,z2)) q<0):=hno;have HHBi:Hid (HsBox wi gh z0 z1 z2):=HHB5.out.later hB;clear hno hB;by_cases hlt4:q<16
         ·have HHD:Hid (hdrB (q:Int)=true):=hd_16 hlt4;obtain⟨E,hE⟩:∃u,u=bsB Ls Hs As Bs ⟨y0,y1,y2,y3⟩ (z0,(z1,z2)) (q:Int):=⟨_,rfl⟩;have HE:Hid (bsB Ls Hs As Bs ⟨y0,y1,y2,y3⟩ (z0,(z1,z2)) (q:Int)=E):=hE.symm;clear hE;obtain⟨_,⟨b0,b1,b2,b3⟩,⟨d0,d1,d2,d3⟩,_⟩:=HX.out.later HB0i.out;obtain⟨s0,s1,s2⟩:=HHBi.out;go_upto_region 12 with fail;rw[show decide ((q:Int)<16)=true from by simp;omega]
          go_wp2_with fail
          refine (rseen_any S S' ao n cap _ n2 cap2 ao3 n3 cap3 u1 u2 bo3 m3 dap3 Ls Hs As Bs (nt_0 HN.out.1).1 (nt_0 HN.out.1).2.1 (nt_0 HN.out.2).2.1 (nt_0 HN.out.1).2.2 (nt_0 HN.out.2).2.2 z1 z2 (q:Int) _ (HEW.out _ HBwi.out) HSP.out HHD.out).mono ?_;rintro e w7 ⟨a7,n7,c7,rfl,hF7,hb7⟩;have HB7:Hid (Below wi.heap.size wi w7):=hb7;obtain⟨V,hV⟩:∃u,u=seeL Ls Hs As Bs (z1,z2) (q:Int):=⟨_,rfl⟩;have HV:Hid (bsB Ls Hs As Bs ⟨y0,y1,y2,y3⟩ (z0,(z1,z2)) (q:Int)=V.any fun F => !fiB ⟨y0,y1,y2,y3⟩ z0 F):=show _=_ by rw[hV];rfl
          rw[←hV] at hF7;have HF7:Hid (FTs w7 (.slice a7 n7 c7) V):=hF7;have HVN:Hid (V.length=n7):=hF7.len;obtain⟨_,_,_,e7,_,hn7,_⟩:=hF7.form;cases e7;unfold maxLen at hn7;have HB57:Hid (Below w5.heap.size w5 w7):=HB4.out.trans (hb7.mono HB4.out.size);have HB07:Hid (Below w0.heap.size w0 w7):=HB0i.out.trans (hb7.mono HB0i.out.size);have HBw7:Hid (Below w.heap.size w w7):=HBwi.out.trans (hb7.mono HBwi.out.size);have HHB7:Hid (HsBox w7 gh z0 z1 z2):=HHBi.out.later hb7;clear hF7 hb7 hV b0 b1 b2 b3 d0 d1 d2 d3 s0 s1 s2;go_wp2
          go_loopw [13] (fun i wr=>∃f:Nat,f≤n7∧i=.int i64 f∧(∀(k:Nat) (x:Ft),k<f→V[k]?=some x→fiB ⟨y0,y1,y2,y3⟩ z0 x=true)∧Below w7.heap.size w7 wr) (fun i _=>n7-(intOf i).toNat)
          case atStart=>exact⟨0,by omega,rfl,fun k x h=>absurd h (by omega),bRQ _ _⟩
          case round =>
           obtain⟨f,hf,rfl,hno,hB⟩:=hrel;obtain⟨w8,hw8⟩:∃X,X=wr:=⟨_,rfl⟩;subst hw8;have HB78:Hid (Below w7.heap.size w7 w8):=hB;have HNO7:Hid (∀(k:Nat) (x:Ft),k<f→V[k]?=some x→fiB ⟨y0,y1,y2,y3⟩ z0 x=true):=hno;clear hno hB;by_cases hlt7:f<n7
           ·obtain⟨g7,o7,x,a3,nn3,c3,ha7,hx7,_,_,_,_⟩:=HF7.out.at hlt7;subst ha7;have HX7:Hid (V[f]?=some x):=hx7;have HC7:Hid (∀W,Below w7.heap.size w7 W→W.cell? ⟨g7,o7+f*3,none⟩=some (.int i64 x.1)∧W.cell? ⟨g7,o7+f*3+1,none⟩=some (.string x.2.1)∧∃a3 n3 c3,W.cell? ⟨g7,o7+f*3+2,none⟩=some (.slice a3 n3 c3)∧GS hopE W (.slice a3 n3 c3) x.2.2):=fun W hW=>by
             obtain⟨_,_,x',a3',n3',c3',e,hx',r0,r1,r2,hG3⟩:=(HF7.out.later hW).at hlt7;cases e;rw[hx7] at hx';cases hx';exact⟨r0,r1,a3',n3',c3',r2,hG3⟩
            obtain⟨k0,k1,ah,nh,ch,k2,hG3⟩:=HC7.out w8 HB78.out;obtain⟨P,hP⟩:∃u,u=fiB ⟨y0,y1,y2,y3⟩ z0 x:=⟨_,rfl⟩;have HP:Hid (fiB ⟨y0,y1,y2,y3⟩ z0 (x.1,x.2.1,x.2.2)=P):=hP.symm;have fb0:(0:Int)≤(f:Int):=by omega
            have fb1:(f:Int)<(n7:Int):=by omega
            obtain⟨d0,d1,d2,d3⟩:=HYC.out w8 (HBw7.out.trans (HB78.out.mono HBw7.out.size));obtain⟨s0,s1,s2⟩:=HHB7.out.later HB78.out;have HCQ:Hid (W8 w8 g1 (o1+j*4) y0 y1 y2 y3 gh z0 g7 (o7+f*3) x ah nh ch w8):=⟨bRQ _ _,d0,d1,d2,d3,s0,k0,k1,k2,hG3⟩;clear hx7 hP k0 k1 k2 hG3 d0 d1 d2 d3 s0 s1 s2;go_upto_region 16 with fail
            go_cut [14] from 67 to 77 (fun b w'=>b=.bool P∧Below w8.heap.size w8 w')
            case first =>
             as_aux_lemma =>
              refine wp_region_quiet (C:=W8 w8 g1 (o1+j*4) y0 y1 y2 y3 gh z0 g7 (o7+f*3) x ah nh ch) (by kernel_rfl) (by kernel_rfl) (W8.later (W:=w8) (Below.drew (bRQ _ _)) HCQ.out) ?_;simp only[List.toList_toArray];go_big_quiet_want;refine qv (.slice (some ⟨g1,o1,none⟩) n4 c4) ?_ ?_
              ·rintro w' ⟨q0,q1,q2,q3,q4,q5,q6,q7,q8,q9⟩;go_simp
              simp only[Act.put,AP];go_big_quiet_on;go_big_quiet_want;refine qv (.int i64 (j:Int)) ?_ ?_
              ·rintro w' ⟨q0,q1,q2,q3,q4,q5,q6,q7,q8,q9⟩;go_simp
              simp only[Act.put,AP];go_big_quiet_on;go_big_quiet_want;refine qv (.pointer (some ⟨g1,o1+j*4,none⟩)) ?_ ?_
              ·rintro w' ⟨q0,q1,q2,q3,q4,q5,q6,q7,q8,q9⟩;go_simp
              simp only[Act.put,AP];go_big_quiet_on;go_big_quiet_want;refine qv (.agg #[.int i64 y0,.string y1,.string y2,.int i64 y3]) ?_ ?_
              ·rintro w' ⟨q0,q1,q2,q3,q4,q5,q6,q7,q8,q9⟩;go_simp
              simp only[Act.put,AP];go_big_quiet_on;go_big_quiet_want;refine qv (.pointer (some ⟨gh,0,none⟩)) ?_ ?_
              ·rintro w' ⟨q0,q1,q2,q3,q4,q5,q6,q7,q8,q9⟩;go_simp
              simp only[Act.put,AP];go_big_quiet_on;go_big_quiet_want;refine qv (.string z0) ?_ ?_
              ·rintro w' ⟨q0,q1,q2,q3,q4,q5,q6,q7,q8,q9⟩;go_simp
              simp only[Act.put,AP];go_big_quiet_on;go_big_quiet_want;refine qv (.slice (some ⟨g7,o7,none⟩) n7 c7) ?_ ?_
              ·rintro w' ⟨q0,q1,q2,q3,q4,q5,q6,q7,q8,q9⟩;go_simp
              simp only[Act.put,AP];go_big_quiet_on;go_big_quiet_want;refine qv (.int i64 (f:Int)) ?_ ?_
              ·rintro w' ⟨q0,q1,q2,q3,q4,q5,q6,q7,q8,q9⟩;go_simp
              simp only[Act.put,AP];go_big_quiet_on;go_big_quiet_want;refine qv (.pointer (some ⟨g7,o7+f*3,none⟩)) ?_ ?_
              ·rintro w' ⟨q0,q1,q2,q3,q4,q5,q6,q7,q8,q9⟩;go_simp
              simp only[Act.put,AP];go_big_quiet_on;go_big_quiet_want;refine qv (.agg #[.int i64 x.1,.string x.2.1,.slice ah nh ch]) ?_ ?_
              ·rintro w' ⟨q0,q1,q2,q3,q4,q5,q6,q7,q8,q9⟩;go_simp
              simp only[Act.put,AP];go_big_quiet_on;go_big_quiet_want;refine quiet_call (f:=28) (args:=#[.agg #[.int i64 y0,.string y1,.string y2,.int i64 y3],.string z0,.agg #[.int i64 x.1,.string x.2.1,.slice ah nh ch]]) (v:=.bool P) (fun w'=>?_) (fun w' hC=>(rfits_any y0 y1 y2 y3 z0 x.1 x.2.1 ah nh ch x.2.2 w' hC.2.2.2.2.2.2.2.2.2).mono (fun e w2 h2=>⟨by rw[h2.1,HP.out],W8.later h2.2 hC⟩)) ?_
              ·go_simp
              simp only[Act.put,AP];go_big_quiet_on;go_big_quiet_want;refine qv (.bool P) ?_ ?_
              ·rintro w' ⟨q0,q1,q2,q3,q4,q5,q6,q7,q8,q9⟩;go_simp
              simp only[Act.put,AP];go_big_quiet_on;refine wpQuiet_nil ?_;intro w' hC
              go_wp2_with fail
              go_meet
              case rel=>exact⟨rfl,hC.1⟩
            case rest =>
             obtain⟨rfl,hbc⟩:=hcut;have HB7c:Hid (Below w7.heap.size w7 wc):=HB78.out.trans (hbc.mono HB78.out.size);have HB0c:Hid (Below w0.heap.size w0 wc):=HB07.out.trans (HB7c.out.mono HB07.out.size);have HBwc:Hid (Below w.heap.size w wc):=HBw7.out.trans (HB7c.out.mono HBw7.out.size);have HHBc:Hid (HsBox wc gh z0 z1 z2):=HHB7.out.later HB7c.out;clear hbc HCQ;cases P with
             | true =>
               have HNN:Hid (∀(k:Nat) (x:Ft),k<f+1→V[k]?=some x→fiB ⟨y0,y1,y2,y3⟩ z0 x=true):=fun k x' hk hx'=>by
                by_cases e:k=f
                ·subst e;rw[HX7.out] at hx';cases hx';exact HP.out
                exact HNO7.out k x' (by omega) hx'
               go_wp2;go_roundw
               case rel=>exact⟨f+1,by omega,by go_num,HNN.out,HB7c.out⟩
               case measure=>simp[intOf];omega
             | false =>
               have hbr:bsB Ls Hs As Bs ⟨y0,y1,y2,y3⟩ (z0,(z1,z2)) (q:Int)=true:=by
                rw[HV.out];exact any_yes HX7.out (by show (!fiB _ _ _)=true;rw[show fiB ⟨y0,y1,y2,y3⟩ z0 x=false from HP.out];rfl)
               have HN4:Hid (bsH Ls Hs As Bs ⟨y0,y1,y2,y3⟩ (z0,(z1,z2)) 16=(q:Int)):=bsH_yes hlt4 HNO4.out hbr;have HXS:Hid (X=some (z,(q:Int))):=by
                show _=_;rw[←HXX.out,bsX_yes hzl HNO2.out (by rw[HZK.out,HN4.out];omega),HZK.out,HN4.out]
               have HRS:Hid (R=some (j,z,(q:Int))):=by
                show _=_;rw[←HRL.out,bsW_yes hkl HNO.out (p:=(z,(q:Int))) (by rw[HLK.out,HXX.out,HXS.out])]
               have HPV:Hid (prV Hs (some (j,z,(q:Int)))=((j:Int),z0,(q:Int))):=by
                show _=_;rw[prV];simp only;rw[getO hzl,HZK.out]
               obtain⟨s0,s1,s2⟩:=HHBc.out;obtain⟨r0,r1,r2,rf⟩:=(HX.out.later HB0c.out).p;have f0:=rf 0;have f1:=rf 1;have f2:=rf 2;clear rf hbr;go_wp2;refine bodyPost_ret (v:=.tuple #[.agg #[.int i64 (j:Int),.string z0,.int i64 (q:Int)],.bool false]) (by simp[results,results12,go_sem, *]) rfl ⟨by rw[HRS.out,HPV.out];rfl,below_put3 HBwc.out _ (by omega) _ _ _⟩
           obtain rfl:f=n7:=by omega
           have hbr:bsB Ls Hs As Bs ⟨y0,y1,y2,y3⟩ (z0,(z1,z2)) (q:Int)=false:=by
            rw[HV.out];refine any_no (fun k x' hx'=>?_);have hk:=(List.getElem?_eq_some_iff.1 hx').1;rw[HNO7.out k x' (by have:=HVN.out;omega) hx'];rfl
           have HBR:Hid (bsH Ls Hs As Bs ⟨y0,y1,y2,y3⟩ (z0,(z1,z2)) (q+1)<0):=bsH_no HNO4.out hbr;have HBc:Hid (Below w5.heap.size w5 w8):=HB57.out.trans (HB78.out.mono HB57.out.size);clear hbr;go_wp2;go_roundw
           case rel=>exact⟨q+1,by omega,by go_num,HBR.out,HBc.out⟩
           case measure=>simp[intOf];omega
         obtain rfl:q=16:=by omega
         have HXN:Hid (bsX Ls Hs As Bs ⟨y0,y1,y2,y3⟩ Hs (z+1)=none):=bsX_no hzl HNO2.out (by rw[HZK.out];exact HNO4.out);go_wp2;go_roundw
         case rel=>exact⟨z+1,by omega,by go_num,HXN.out,HB1i.out⟩
         case measure=>simp[intOf];omega
    obtain rfl:z=n2:=by omega
    have HWN:Hid (bsW Ls Hs As Bs l Hs (j+1)=none):=bsW_no hkl HNO.out (by rw[HLK.out,HHN.out];exact HNO2.out);go_wp2;go_roundw
    case rel=>exact⟨j+1,by omega,by go_num,HWN.out,HB02.out⟩
    case measure=>simp[intOf];omega
  obtain rfl:j=n4:=by omega
  have HRN:Hid (R=none):=by
   show _=_;rw[←HR.out,HNO.out]
  obtain⟨r0,r1,r2,rf⟩:=(HX.out.later HB.out).p;have f0:=rf 0;have f1:=rf 1;have f2:=rf 2;clear rf;go_wp2;refine bodyPost_ret (v:=.tuple #[.agg #[.int i64 0,.string ⟨#[]⟩,.int i64 0],.bool true]) (by simp[results,results12,go_sem, *]) rfl ⟨by rw[HRN.out];rfl,below_put3 HBw.out _ (by omega) _ _ _⟩
theorem rmay_any (S:Int)(ao:AdQ)(n cap:Nat)(ao2:AdQ)(n2 cap2:Nat)(ao3:AdQ)(n3 cap3:Nat)(a5:AdQ)(n5 c5:Nat)(a4:AdQ)(n4 c4:Nat)(Ls:List LkT)(Hs:List HoT)(Ts:TsQ)(l:List Op8)(ws:List Wi)(w0 w:World)
 (hN:NI w0 (.slice ao n cap) (.slice ao2 n2 cap2) (.slice ao3 n3 cap3) Ls Hs Ts) (hw0:Below w0.heap.size w0 w) (hl:GS opE w (.slice a5 n5 c5) l) (hws:GS wisE w (.slice a4 n4 c4) ws) (hnt:ntN S Ls Hs Ts=0):
 Calls prog 18 #[.agg #[.int i64 S,.slice ao n cap,.slice ao2 n2 cap2,.slice ao3 n3 cap3],.slice a5 n5 c5,.slice a4 n4 c4] w fun e w'=>∃b3 k3 d3,e=.returned (.tuple #[.agg #[.int i64 S,.slice ao n cap,.slice ao2 n2 cap2,.slice b3 k3 d3],.bool (decide (mfN S Ls Hs Ts l ws=0))])∧(mfN S Ls Hs Ts l ws=0→∃vs,TR 93 w' w0.heap.size w.heap.size (.slice b3 k3 d3) vs (caT Ts l))∧Below w.heap.size w w':=by
 obtain⟨wp,hwp⟩:∃W,W=w.alloc (.cells #[.int i64 S,.slice ao n cap,.slice ao2 n2 cap2,.slice ao3 n3 cap3] 28):=⟨_,rfl⟩;obtain⟨w1,hw1⟩:∃W,W=wp.alloc (.cells #[.int i64 0,.slice none 0 0,.slice none 0 0,.slice none 0 0] 28):=⟨_,rfl⟩;have hbp:Below w.heap.size w wp:=by rw[hwp];exact (bRQ _ _).alloc (nLQ _) _
 have hsp:wp.heap.size=w.heap.size+1:=by rw[hwp];simp
 have hp1:Below wp.heap.size wp w1:=by rw[hw1];exact (bRQ _ _).alloc (nLQ _) _
 have hs1:w1.heap.size=w.heap.size+1+1:=by rw[hw1];simp[hsp]
 have hb1:Below w.heap.size w w1:=hbp.trans (hp1.mono hbp.size);have hnb:NeBox w1 w.heap.size S (.slice ao n cap) (.slice ao2 n2 cap2) (.slice ao3 n3 cap3):=by
  have h:=nebox_new w S (.slice ao n cap) (.slice ao2 n2 cap2) (.slice ao3 n3 cap3) 28;rw[←hwp] at h;exact h.later hp1
 have hzb:ZB w1 (w.heap.size+1):=by
  have h:ZB w1 wp.heap.size:=zb_a (w:=wp) (w':=w1) (t:=28) (by rw[hw1];exact bRQ _ _);rw[hsp] at h;exact h
 have HNW:Hid (∀W,Below w1.heap.size w1 W→NI W (.slice ao n cap) (.slice ao2 n2 cap2) (.slice ao3 n3 cap3) Ls Hs Ts∧GS wisE W (.slice a4 n4 c4) ws):=fun W h=>⟨((hN.later hw0).later hb1).later h,(hws.later hb1).later h⟩
 have HOP:Hid (GS opE w1 (.slice a5 n5 c5) l):=hl.later hb1;have HNB:Hid (∀W,Below w1.heap.size w1 W→NeBox W w.heap.size S (.slice ao n cap) (.slice ao2 n2 cap2) (.slice ao3 n3 cap3)∧ZB W (w.heap.size+1)):=fun W h=>⟨hnb.later h,hzb.later h⟩
 have HB1:Hid (Below w.heap.size w w1):=hb1;have HB01:Hid (Below w0.heap.size w0 w1):=hw0.trans (hb1.mono hw0.size);have HT0:Hid (TS w0 (.slice ao3 n3 cap3) Ts):=hN.t;have HS1:Hid (w1.heap.size=w.heap.size+1+1∧w0.heap.size≤w.heap.size):=⟨hs1,hw0.size⟩;have HW1:Hid ((w.alloc (.cells #[.int i64 S,.slice ao n cap,.slice ao2 n2 cap2,.slice ao3 n3 cap3] 28)).alloc (.cells #[.int i64 0,.slice none 0 0,.slice none 0 0,.slice none 0 0] 28)=w1):=by rw[hw1,hwp];exact rfl
 have HNT:Hid (ntN S Ls Hs Ts=0):=hnt;obtain⟨X,hX⟩:∃q,q=cgN S Ls Hs Ts l:=⟨_,rfl⟩;have HX:Hid (cgN S Ls Hs Ts l=X):=hX.symm;obtain⟨F,hF⟩:∃q,q=mfN S Ls Hs Ts l ws:=⟨_,rfl⟩;have HF:Hid (F=if X=0 then (if (bsW Ls Hs Ts (caT Ts l) ws Hs ws.length).isNone then 0 else 9) else X):=by rw[hF,mfN,hX];exact rfl
 rw[←hF];clear hN hw0 hl hws hnt hbp hsp hp1 hs1 hb1 hnb hzb hw1 hwp hX hF;go_enter func18,ntmps18;go_upto_region 1 with fail;rw[HW1.out];clear HW1;obtain⟨⟨q0,q1,q2,q3⟩,_⟩:=HNB.out w1 (bRQ _ _)
 go_wp2_with fail
 refine (refApply_own S ao n cap ao2 n2 cap2 ao3 n3 cap3 a5 n5 c5 Ls Hs Ts l w0 w1 HT0.out HB01.out HOP.out HNT.out).mono ?_;rintro e w2 ⟨b3,k3,d3,rfl,⟨vs,hTR⟩,hb2⟩;rw[HX.out] at hTR ⊢;have HB2:Hid (Below w1.heap.size w1 w2):=hb2;have HTR:Hid (∀W,Below w2.heap.size w2 W→TR 93 W w0.heap.size w1.heap.size (.slice b3 k3 d3) vs (nvL X (caT Ts l))):=fun W h=>hTR.later h
 clear hb2 hTR q0 q1 q2 q3;by_cases hX0:X=0
 ·have HX0:Hid (cgN S Ls Hs Ts l=0):=HX.out.trans hX0;have HFA:Hid (F=if (bsW Ls Hs Ts (caT Ts l) ws Hs ws.length).isNone then 0 else 9):=HF.out.trans (if_pos hX0);have HTR2:Hid (∀W,Below w2.heap.size w2 W→TR 93 W w0.heap.size w1.heap.size (.slice b3 k3 d3) vs (caT Ts l)):=fun W h=>by
   have h2:=HTR.out W h;unfold nvL at h2;rw[if_pos hX0] at h2;exact h2
  subst hX0;simp only[nvS,nvV,if_true];obtain⟨w3,hw3⟩:∃W,w2.alloc (.cells #[.int i64 S,.slice ao n cap,.slice ao2 n2 cap2,.slice b3 k3 d3] 28)=W:=⟨_,rfl⟩;have hb3:Below w2.heap.size w2 w3:=by rw[←hw3];exact (bRQ _ _).alloc (nLQ _) _
  have hne:NeBox w3 w2.heap.size S (.slice ao n cap) (.slice ao2 n2 cap2) (.slice b3 k3 d3):=by rw[←hw3];exact nebox_new w2 S _ _ _ 28
  have HW3:Hid (w2.alloc (.cells #[.int i64 S,.slice ao n cap,.slice ao2 n2 cap2,.slice b3 k3 d3] 28)=w3):=hw3;have HB23:Hid (Below w2.heap.size w2 w3):=hb3;have HB3:Hid (Below w1.heap.size w1 w3):=HB2.out.trans (hb3.mono HB2.out.size);have HOB:Hid (∀W,Below w3.heap.size w3 W→NeBox W w2.heap.size S (.slice ao n cap) (.slice ao2 n2 cap2) (.slice b3 k3 d3)):=fun W h=>hne.later h
  clear hw3 hb3 hne;go_upto_region 2 with fail;rw[HW3.out];clear HW3;obtain⟨⟨q0,q1,q2,q3⟩,_⟩:=HNB.out w3 HB3.out;obtain⟨o0,o1,o2,o3⟩:=HOB.out w3 (bRQ _ _);have HWK:Hid (WkE w3 (.slice ao n cap) (.slice ao2 n2 cap2) (.slice ao3 n3 cap3) (.slice b3 k3 d3) Ls Hs Ts (caT Ts l)):=by
   have h:=(HNW.out w3 HB3.out).1;exact⟨h.l,h.h,h.t,(HTR2.out w3 HB23.out).ts⟩
  go_wp2_with fail
  refine (rsafe_any S ao n cap ao2 n2 cap2 ao3 n3 cap3 S _ _ b3 k3 d3 a4 n4 c4 Ls Hs Ts (caT Ts l) ws w3 HWK.out (HNW.out _ HB3.out).2 HNT.out (nt_ca HNT.out (cg_nt HX0.out).2)).mono ?_;rintro e w4 ⟨rfl,hb4⟩;obtain⟨BR,hBR⟩:∃q,q=(bsW Ls Hs Ts (caT Ts l) ws Hs ws.length).isNone:=⟨_,rfl⟩;have HFB:Hid (decide (F=0)=BR):=by
   have h:=HFA.out;rw[←hBR] at h;show _=BR;cases BR with
   | true=>simp at h;simp[h]
   | false=>simp at h;simp[h]
  rw[←hBR];obtain⟨P1,P2,P3,hP⟩:∃a b c,prV Hs (bsW Ls Hs Ts (caT Ts l) ws Hs ws.length)=(a,b,c):=⟨_,_,_,rfl⟩;rw[hP];obtain⟨w5,hw5⟩:∃W,w4.alloc (.cells #[.int i64 P1,.string P2,.int i64 P3] 43)=W:=⟨_,rfl⟩;have hb5:Below w4.heap.size w4 w5:=by rw[←hw5];exact (bRQ _ _).alloc (nLQ _) _
  have h35:Below w3.heap.size w3 w5:=hb4.trans (hb5.mono hb4.size);have HW5:Hid (w4.alloc (.cells #[.int i64 P1,.string P2,.int i64 P3] 43)=w5):=hw5;have HB35:Hid (Below w3.heap.size w3 w5):=h35;have HB5:Hid (Below w1.heap.size w1 w5):=HB3.out.trans (h35.mono HB3.out.size);clear hBR hP hb4 hw5 hb5 h35 q0 q1 q2 q3 o0 o1 o2 o3;go_upto_region 5 with fail;rw[HW5.out];clear HW5;obtain⟨o0,o1,o2,o3⟩:=HOB.out w5 HB35.out;obtain⟨⟨z0,z1,z2,z3⟩,zf⟩:=(HNB.out w5 HB5.out).2;have zf0:=zf 0;have zf1:=zf 1;have zf2:=zf 2;have zf3:=zf 3;have HTRN:Hid (∃vs,TR 93 (put4 w5 (w.heap.size+1) (.int i64 S) (.slice ao n cap) (.slice ao2 n2 cap2) (.slice b3 k3 d3)) w0.heap.size w.heap.size (.slice b3 k3 d3) vs (caT Ts l)):=by
   have h1:=HTR2.out w5 (HB23.out.trans (HB35.out.mono HB23.out.size));have h2:=HS1.out;have h3:=h1.grown (grown_put4 w5 (w.heap.size+1) (.int i64 S) (.slice ao n cap) (.slice ao2 n2 cap2) (.slice b3 k3 d3)) (by omega) (by omega);exact⟨vs,h3.mono (by omega)⟩
  have HBE:Hid (Below w.heap.size w (put4 w5 (w.heap.size+1) (.int i64 S) (.slice ao n cap) (.slice ao2 n2 cap2) (.slice b3 k3 d3))):=below_pn4 (HB1.out.trans (HB5.out.mono HB1.out.size)) (w.heap.size+1) (by omega) _ _ _ _;clear zf;go_wp2;refine bodyPost_ret (v:=.tuple #[.agg #[.int i64 S,.slice ao n cap,.slice ao2 n2 cap2,.slice b3 k3 d3],.bool BR]) (by simp[results,results18,go_sem, *]) rfl ⟨b3,k3,d3,by rw[HFB.out],fun _=>HTRN.out,HBE.out⟩
 have HFX:Hid (F≠0):=by rw[HF.out,if_neg hX0];exact hX0
 have hq:(X==0)=false:=by simpa using hX0
 have HX0:Hid (X≠0):=hX0;simp only[nvS,nvV,hX0,if_false];obtain⟨⟨q0,q1,q2,q3⟩,⟨z0,z1,z2,z3⟩,zf⟩:=HNB.out (w2.alloc (.cells #[.int i64 0,.slice none 0 0,.slice none 0 0,.slice b3 k3 d3] 28)) (HB2.out.alloc HB2.out.size _);have zf0:=zf 0;have zf1:=zf 1;have zf2:=zf 2;have zf3:=zf 3;obtain⟨w3,hw3⟩:∃W,w2.alloc (.cells #[.int i64 0,.slice none 0 0,.slice none 0 0,.slice b3 k3 d3] 28)=W:=⟨_,rfl⟩;have HW3:Hid (w2.alloc (.cells #[.int i64 0,.slice none 0 0,.slice none 0 0,.slice b3 k3 d3] 28)=w3):=hw3;rw[hw3] at q0 q1 q2 q3 z0 z1 z2 z3 zf0 zf1 zf2 zf3;have HBE:Hid (Below w.heap.size w (put4 w3 (w.heap.size+1) (.int i64 S) (.slice ao n cap) (.slice ao2 n2 cap2) (.slice ao3 n3 cap3))):=by
  have h:Below w.heap.size w w3:=by rw[←hw3];exact (HB1.out.trans (HB2.out.mono HB1.out.size)).alloc (HB1.out.trans (HB2.out.mono HB1.out.size)).size _
  exact below_pn4 h (w.heap.size+1) (by omega) _ _ _ _
 clear zf hw3 hX0;go_upto_region 2 with fail;rw[HW3.out];clear HW3;go_wp2;refine bodyPost_ret (v:=.tuple #[.agg #[.int i64 S,.slice ao n cap,.slice ao2 n2 cap2,.slice ao3 n3 cap3],.bool false]) (by simp[results,results18,go_sem, *]) rfl ⟨ao3,n3,cap3,by rw[decide_eq_false HFX.out],fun h=>absurd h HFX.out,HBE.out⟩
theorem fil_next {D:List Op8}{k:Nat}(hk:k<D.length)(p:Op8→Bool):(D.take (k+1)).filter p=(D.take k).filter p++(if p D[k]=true then [D[k]] else []):=by
 rw[List.take_succ_eq_append_getElem hk,List.filter_append];by_cases h:p D[k]=true
 ·simp[h]
 simp[h]
theorem rof_any (ao:AdQ)(n cap:Nat)(a2:AdQ)(n2 c2:Nat)(D:List Op8)(l:List Int)(w:World)(hD:GS opE w (.slice ao n cap) D)(hl:GS inE w (.slice a2 n2 c2) l)(hn0:D.length≤1000):
 Calls prog 19 #[.slice ao n cap,.slice a2 n2 c2] w fun e w'=>∃v,e=.returned v∧NO w' w.heap.size v (D.filter fun o=>l.any fun y=>y==o.w)∧Below w.heap.size w w':=by
 obtain⟨_,_,_,e1,hn,hn2,_,ha⟩:=hD.form;cases e1;have HN:Hid (D.length=n):=hn;have HA:Hid (0<n→∃g o,ao=some ⟨g,o,none⟩∧GAt opE w g o D∧cap≤maxLen):=ha;have HL:Hid (∀W,Below w.heap.size w W→GS inE W (.slice a2 n2 c2) l):=fun W h=>hl.later h
 have n63:n≤9223372036854775807:=by omega
 have HN0:Hid (n≤1000):=by show _≤_;omega
 clear hD hl hn ha hn2 hn0;obtain⟨i0,hi,hz0,hz1,hz2⟩:=info_parts op_info;go_enter func19,ntmps19;go_wp2
 go_loopw [5,6] (fun v i wr=>∃k:Nat,k≤n∧i=.int i64 (k:Int)∧NO wr w.heap.size v ((D.take k).filter fun o=>l.any fun y=>y==o.w)∧Below w.heap.size w wr) (fun _ i _=>n-(intOf i).toNat)
 case atStart=>exact⟨0,by omega,rfl,NO.nil _ _,bRQ _ _⟩
 case round =>
  obtain⟨k,hk,rfl,hNO,hB⟩:=hrel;obtain⟨wi,hwi⟩:∃X,X=wr:=⟨_,rfl⟩;subst hwi;have HNO:Hid (NO wi w.heap.size u5 ((D.take k).filter fun o=>l.any fun y=>y==o.w)):=hNO;have HB:Hid (Below w.heap.size w wi):=hB;clear hNO hB;by_cases hlt:k<n
  ·obtain⟨g,o,hao,hga,_⟩:=HA.out (by omega);subst hao;obtain⟨x0,x1,x2,x3,x4,x5,x6,x7,hkl,hLk,y0,y1,y2,y3,y4,y5,y6,y7⟩:=op_at (hga.later HB.out) HN.out hlt;obtain⟨T,hT⟩:∃T,T=l.any fun y=>y==x0:=⟨_,rfl⟩
   have HT:Hid ((l.any fun y=>y==x0)=T):=hT.symm;have HNX:Hid (((D.take (k+1)).filter fun o=>l.any fun y=>y==o.w)=((D.take k).filter fun o=>l.any fun y=>y==o.w)++(if T=true then [(⟨x0,x1,⟨x2,x3,x4,x5,x6,x7⟩⟩:Op8)] else [])):=show _=_ by
    rw[fil_next hkl,hLk,hT]
   have HLEN:Hid (((D.take k).filter fun o=>l.any fun y=>y==o.w).length≤1000):=by
    have h1:=List.length_filter_le (fun o:Op8=>l.any fun y=>y==o.w) (D.take k);have h2:(D.take k).length≤D.length:=by rw[List.length_take];omega
    have h3:=HN.out;have h4:=HN0.out;show _≤_;omega
   have kb0:(0:Int)≤(k:Int):=by omega
   have kb1:(k:Int)<(n:Int):=by omega
   clear hga hLk hT
   go_wp2_with fail
   refine (in_any a2 n2 c2 l x0 wi (HL.out wi HB.out)).mono ?_;rintro e w2 ⟨rfl,hw2⟩;have hw2:=hw2.symm;subst hw2;rw[HT.out];cases T with
   | false =>
     have HN2:Hid (((D.take (k+1)).filter fun o=>l.any fun y=>y==o.w)=(D.take k).filter fun o=>l.any fun y=>y==o.w):=HNX.out.trans (by simp);clear y0 y1 y2 y3 y4 y5 y6 y7;go_wp2;go_roundw
     case rel=>exact⟨k+1,by omega,by go_num,by rw[HN2.out];exact HNO.out,HB.out⟩
     case measure=>simp[intOf];omega
   | true =>
     have HN2:Hid (((D.take (k+1)).filter fun o=>l.any fun y=>y==o.w)=((D.take k).filter fun o=>l.any fun y=>y==o.w)++[(⟨x0,x1,⟨x2,x3,x4,x5,x6,x7⟩⟩:Op8)]):=HNX.out.trans (by simp);have hal:Below wi.heap.size wi (wi.alloc (.cells #[.int i64 x0,.bool x1,.int i64 x2,.int i64 x3,.int i64 x4,.int i64 x5,.int i64 x6,.int i64 x7] 90)):=(bRQ _ _).alloc (nLQ _) _;have HO4:Hid (NO (wi.alloc (.cells #[.int i64 x0,.bool x1,.int i64 x2,.int i64 x3,.int i64 x4,.int i64 x5,.int i64 x6,.int i64 x7] 90)) w.heap.size u5 ((D.take k).filter fun o=>l.any fun y=>y==o.w)):=HNO.out.later hal;have HB4:Hid (Below w.heap.size w (wi.alloc (.cells #[.int i64 x0,.bool x1,.int i64 x2,.int i64 x3,.int i64 x4,.int i64 x5,.int i64 x6,.int i64 x7] 90))):=HB.out.trans (hal.mono HB.out.size);have HVA:Hid (VAt (wi.alloc (.cells #[.int i64 x0,.bool x1,.int i64 x2,.int i64 x3,.int i64 x4,.int i64 x5,.int i64 x6,.int i64 x7] 90)) wi.heap.size 0 (opE.c ⟨x0,x1,⟨x2,x3,x4,x5,x6,x7⟩⟩)):=op_new wi x0 x1 x2 x3 x4 x5 x6 x7 90;have HL1:Hid (((D.take k).filter fun o=>l.any fun y=>y==o.w).length+1≤maxLen):=by have:=HLEN.out;show _≤_;unfold maxLen;omega
     have HL2:Hid ((((D.take k).filter fun o=>l.any fun y=>y==o.w).length+1)*64≤140737488355328):=by have:=HLEN.out;show _≤_;omega
     clear hal
     go_wp2_with (at_builtin;refine wpList_append_blk (E:=opE) _ rfl _ _ 39 90 rfl underlying39 i0 _ 64 hi hz0 hz1 hz2 op_zero w.heap.size u5 rfl _ HO4.out wi.heap.size 0 1 rfl ⟨x0,x1,⟨x2,x3,x4,x5,x6,x7⟩⟩ HVA.out HL1.out HL2.out HB4.out.size ?_)
     intro v5 w5 ho5 hg5 hl5;have HO5:Hid (NO w5 w.heap.size v5 ((D.take (k+1)).filter fun o=>l.any fun y=>y==o.w)):=by
      rw[HN2.out];exact NO.ofn ho5 rfl (by simp)
     have HB5:Hid (Below w.heap.size w w5):=HB4.out.trans (below_grown hg5 HB4.out.size (fun b hb=>(HNO.out.lt b hb).1));clear ho5 hg5 hl5 y0 y1 y2 y3 y4 y5 y6 y7;go_wp2;go_roundw
     case rel=>exact⟨k+1,by omega,by go_num,HO5.out,HB5.out⟩
     case measure=>simp[intOf];omega
  obtain rfl:k=n:=by omega
  have hall:D.take k=D:=by rw[←HN.out];exact List.take_length
  rw[hall] at HNO;go_wp2;go_ret;exact⟨_,rfl,HNO.out,HB.out⟩
theorem cp_of {S:Int}{Ls:LkQ}{Hs:HoQ}{Ts:TsQ}{s:Int×Int}{h:Nat}(h1:ntN S Ls Hs Ts=0)(h2:spB S s=true)(h3:h<16):cpN S Ls Hs Ts s (h:Int)=0:=by
 have:∀f:Fin 16,hdrB ((f:Nat):Int)=true:=by decide +kernel
 rw[cpN,if_pos h1,h2,this ⟨h,h3⟩];rfl
theorem rholds_any (S:Int)(ao:AdQ)(n cap:Nat)(ao2:AdQ)(n2 cap2:Nat)(ao3:AdQ)(n3 cap3:Nat)(a4:AdQ)(n4 c4:Nat)(Ls:LkQ)(Hs:HoQ)(Ts:TsQ)(l:List Wi)(w:World)
 (hL:GS lnkE w (.slice ao n cap) Ls) (hH:GS hstE w (.slice ao2 n2 cap2) Hs) (hT:TS w (.slice ao3 n3 cap3) Ts) (hl:GS wisE w (.slice a4 n4 c4) l) (hN:ntN S Ls Hs Ts=0):
 Calls prog 10 #[.agg #[.int i64 S,.slice ao n cap,.slice ao2 n2 cap2,.slice ao3 n3 cap3],.slice a4 n4 c4] w fun e w'=>e=.returned (.tuple #[.agg #[.int i64 (prV Hs (brW Ls Hs Ts l Hs l.length)).1,.string (prV Hs (brW Ls Hs Ts l Hs l.length)).2.1,.int i64 (prV Hs (brW Ls Hs Ts l Hs l.length)).2.2],.bool (brW Ls Hs Ts l Hs l.length).isNone])∧Below w.heap.size w w':=by
 have HLW:Hid (∀W,Below w.heap.size w W→GS lnkE W (.slice ao n cap) Ls):=fun W hb=>hL.later hb
 have HHW:Hid (∀W,Below w.heap.size w W→GS hstE W (.slice ao2 n2 cap2) Hs):=fun W hb=>hH.later hb
 have HTW:Hid (∀W,Below w.heap.size w W→TS W (.slice ao3 n3 cap3) Ts):=fun W hb=>hT.later hb
 have hX:=hobox_new w S (.slice ao n cap) (.slice ao2 n2 cap2) (.slice ao3 n3 cap3);obtain⟨w0,hw0⟩:∃W,(w.alloc (.cells #[.int i64 S,.slice ao n cap,.slice ao2 n2 cap2,.slice ao3 n3 cap3] 28)).alloc (.cells #[.int i64 0,.string ⟨#[]⟩,.int i64 0] 43)=W:=⟨_,rfl⟩;rw[hw0] at hX;have HX:Hid (HoBox w w0 S (.slice ao n cap) (.slice ao2 n2 cap2) (.slice ao3 n3 cap3)):=hX;have HW0:Hid ((w.alloc (.cells #[.int i64 S,.slice ao n cap,.slice ao2 n2 cap2,.slice ao3 n3 cap3] 28)).alloc (.cells #[.int i64 0,.string ⟨#[]⟩,.int i64 0] 43)=w0):=hw0;have HB0:Hid (Below w.heap.size w w0):=hX.below;have HN:Hid (ntN S Ls Hs Ts=0):=hN;obtain⟨_,_,_,e5,hGn,hGm,_,hGa⟩:=hl.form;cases e5;obtain⟨_,_,_,e6,hHn,hHm,_,hHa⟩:=hH.form;cases e6;have HGN:Hid (l.length=n4):=hGn;have HGA:Hid (0<n4→∃g o,a4=some ⟨g,o,none⟩∧GAt wisE w g o l∧c4≤maxLen):=hGa;have HHN:Hid (Hs.length=n2):=hHn;have HHA:Hid (0<n2→∃g o,ao2=some ⟨g,o,none⟩∧GAt hstE w g o Hs∧cap2≤maxLen):=hHa;have HHG:Hid (∀h∈Hs,nmB h.1=true∧spB S h.2=true):=(tp_0 (nt_0 hN).1).2.2.2.2.1;obtain⟨R,hR⟩:∃R,R=brW Ls Hs Ts l Hs l.length:=⟨_,rfl⟩;have HR:Hid (brW Ls Hs Ts l Hs n4=R):=by
  show _=_;rw[hR,hGn]
 have HRL:Hid (brW Ls Hs Ts l Hs l.length=R):=hR.symm;rw[←hR];have hn4:n4≤maxLen:=hGm;have hn2:n2≤maxLen:=hHm;unfold maxLen at hn4 hn2;clear hL hH hT hl hX hw0 hN hGn hGm hGa hHn hHm hHa hR;go_enter func10,ntmps10;go_upto_region 1 with fail;rw[HW0.out];clear HW0;go_wp2
 go_loopw [6] (fun i wr=>∃j:Nat,j≤n4∧i=.int i64 j∧brW Ls Hs Ts l Hs j=none∧Below w0.heap.size w0 wr) (fun i _=>n4-(intOf i).toNat)
 case atStart=>exact⟨0,by omega,rfl,rfl,bRQ _ _⟩
 case round =>
  obtain⟨j,hj,rfl,hno,hB⟩:=hrel;obtain⟨w1,hw1⟩:∃X,X=wr:=⟨_,rfl⟩;subst hw1;have HB:Hid (Below w0.heap.size w0 w1):=hB;have HBw:Hid (Below w.heap.size w w1):=HB0.out.trans (hB.mono HB0.out.size);have HNO:Hid (brW Ls Hs Ts l Hs j=none):=hno;clear hno hB;by_cases hlt:j<n4
  ·obtain⟨g1,o1,hao,hc,_⟩:=HGA.out (by omega);subst hao;obtain⟨y0,y1,y2,y3,hkl,hLk,_,_,_,_⟩:=wis_at hc HGN.out hlt;have HLK:Hid (l[j]=⟨y0,y1,y2,y3⟩):=hLk;have HYC:Hid (∀W,Below w.heap.size w W→W.cell? ⟨g1,o1+j*4,none⟩=some (.int i64 y0)∧W.cell? ⟨g1,o1+j*4+1,none⟩=some (.string y1)∧W.cell? ⟨g1,o1+j*4+2,none⟩=some (.string y2)∧W.cell? ⟨g1,o1+j*4+3,none⟩=some (.int i64 y3)):=fun W hW=>by
    obtain⟨a0,a1,a2,a3,b1,b2,q0,q1,q2,q3⟩:=wis_at (hc.later hW) HGN.out hlt;rw[hLk] at b2;cases b2;exact⟨q0,q1,q2,q3⟩
   obtain⟨X,hX⟩:∃q,q=brX Ls Hs Ts ⟨y0,y1,y2,y3⟩ Hs Hs.length:=⟨_,rfl⟩;have HXX:Hid (brX Ls Hs Ts ⟨y0,y1,y2,y3⟩ Hs Hs.length=X):=hX.symm;have kb0:(0:Int)≤(j:Int):=by omega
   have kb1:(j:Int)<(n4:Int):=by omega
   clear hc hLk hX;go_upto_region 4 with fail;go_wp2
   go_loopw [7] (fun i wr=>∃z:Nat,z≤n2∧i=.int i64 z∧brX Ls Hs Ts ⟨y0,y1,y2,y3⟩ Hs z=none∧Below w1.heap.size w1 wr) (fun i _=>n2-(intOf i).toNat)
   case atStart=>exact⟨0,by omega,rfl,rfl,bRQ _ _⟩
   case round =>
    obtain⟨z,hz,rfl,hno,hB⟩:=hrel;obtain⟨w2,hw2⟩:∃X,X=wr:=⟨_,rfl⟩;subst hw2;have HB2:Hid (Below w1.heap.size w1 w2):=hB;have HB02:Hid (Below w0.heap.size w0 w2):=HB.out.trans (hB.mono HB.out.size);have HBw2:Hid (Below w.heap.size w w2):=HB0.out.trans (HB02.out.mono HB0.out.size);have HNO2:Hid (brX Ls Hs Ts ⟨y0,y1,y2,y3⟩ Hs z=none):=hno;obtain⟨_,⟨b0,b1,b2,b3⟩,_⟩:=HX.out.later HB02.out;have hlw:w.heap.size<w2.heap.size:=bLQ _ _ b0;clear hno hB;by_cases hlt2:z<n2
    ·obtain⟨g2,o2,hao2,hc2,_⟩:=HHA.out (by omega);subst hao2;obtain⟨z0,z1,z2,hzl,hZk,p0,p1,p2⟩:=hst_at (hc2.later HBw2.out) HHN.out hlt2;have HZK:Hid (Hs[z]=(z0,(z1,z2))):=hZk;have hmem:(z0,(z1,z2))∈Hs:=by
      rw[←hZk];exact List.getElem_mem hzl
     have HSP:Hid (spB S (z1,z2)=true):=(HHG.out _ hmem).2;have zb0:(0:Int)≤(z:Int):=by omega
     have zb1:(z:Int)<(n2:Int):=by omega
     have hba:Below w2.heap.size w2 (w2.alloc (.cells #[Value.string z0,.int i64 z1,.int i64 z2] 77)):=(bRQ _ _).alloc (nLQ _) _;have hhb:=hsbox_new w2 z0 z1 z2 77;obtain⟨w4,hw4⟩:∃W,w2.alloc (.cells #[Value.string z0,.int i64 z1,.int i64 z2] 77)=W:=⟨_,rfl⟩;obtain⟨gh,hgh⟩:∃q,q=w2.heap.size:=⟨_,rfl⟩;rw[hw4] at hba hhb;rw[←hgh] at hhb;have HW4:Hid (w2.alloc (.cells #[Value.string z0,.int i64 z1,.int i64 z2] 77)=w4):=hw4;have HGH:Hid (w2.heap.size=gh):=hgh.symm;have HHB:Hid (HsBox w4 gh z0 z1 z2):=hhb;have HB24:Hid (Below w1.heap.size w1 w4):=HB2.out.trans (hba.mono HB2.out.size);have HB04:Hid (Below w0.heap.size w0 w4):=HB02.out.trans (hba.mono HB02.out.size);have HBw4:Hid (Below w.heap.size w w4):=HBw2.out.trans (hba.mono HBw2.out.size);have HLH:Hid (w.heap.size+1<gh):=by
      show _<_;rw[hgh];have h1:=bLQ _ _ (HX.out.later HB02.out).p.c0;simpa using h1
     clear hc2 hZk hmem hba hhb hw4 hgh;go_upto_region 8 with fail;rw[HW4.out,HGH.out];clear HW4 HGH p0 p1 p2 b0 b1 b2 b3 hlw;go_wp2
     go_loopw [9] (fun i wr=>∃q:Nat,q≤16∧i=.int i64 q∧brH Ls Hs Ts ⟨y0,y1,y2,y3⟩ (z0,(z1,z2)) q<0∧Below w4.heap.size w4 wr) (fun i _=>16-(intOf i).toNat)
     case atStart=>exact⟨0,by omega,rfl,by simp[brH],bRQ _ _⟩
     case round =>
      obtain⟨q,hq,rfl,hno,hB⟩:=hrel;obtain⟨wi,hwi⟩:∃X,X=wr:=⟨_,rfl⟩;subst hwi;have HB4:Hid (Below w4.heap.size w4 wi):=hB;have HB0i:Hid (Below w0.heap.size w0 wi):=HB04.out.trans (hB.mono HB04.out.size);have HB1i:Hid (Below w1.heap.size w1 wi):=HB24.out.trans (hB.mono HB24.out.size);have HBwi:Hid (Below w.heap.size w wi):=HBw4.out.trans (hB.mono HBw4.out.size);have HNO4:Hid (brH Ls Hs Ts ⟨y0,y1,y2,y3⟩ (z0,(z1,z2)) q<0):=hno;have HHBi:Hid (HsBox wi gh z0 z1 z2):=HHB.out.later hB;clear hno hB;by_cases hlt4:q<16
      ·obtain⟨P,hP⟩:∃u,u=fiB ⟨y0,y1,y2,y3⟩ z0 (frF Ls Hs Ts (z1,z2) (q:Int)):=⟨_,rfl⟩;have HP:Hid (fiB ⟨y0,y1,y2,y3⟩ z0 (frF Ls Hs Ts (z1,z2) (q:Int))=P):=hP.symm;have HCP:Hid (cpN S Ls Hs Ts (z1,z2) (q:Int)=0):=cp_of HN.out HSP.out hlt4;clear hP;go_upto_region 11 with fail;rw[show decide ((q:Int)<16)=true from by simp;omega];have HFR:Hid (∀W,Below wi.heap.size wi W→Calls prog 29 #[.agg #[.int i64 S,.slice ao n cap,.slice (some ⟨g2,o2,none⟩) n2 cap2,.slice ao3 n3 cap3],.agg #[.int i64 z1,.int i64 z2],.int i64 (q:Int)] W fun e w'=>∃ao4 n4 cap4,e=.returned (.agg #[.int i64 (frF Ls Hs Ts (z1,z2) (q:Int)).1,.string (frF Ls Hs Ts (z1,z2) (q:Int)).2.1,.slice ao4 n4 cap4])∧GS hopE w' (.slice ao4 n4 cap4) (frF Ls Hs Ts (z1,z2) (q:Int)).2.2∧Below wi.heap.size wi w'):=fun W hW=>by
        have hWw:=HBwi.out.trans (hW.mono HBwi.out.size);refine (rfrom_any S ao n cap _ n2 cap2 ao3 n3 cap3 Ls Hs Ts z1 z2 (q:Int) W (HLW.out _ hWw) (HHW.out _ hWw) (HTW.out _ hWw) HCP.out).mono ?_;rintro e w' ⟨ao5,n5,cap5,h1,h2,h3,_⟩;exact⟨ao5,n5,cap5,h1,h2,hW.trans (h3.mono hW.size)⟩
       have HMK:Hid (∀W,Below wi.heap.size wi W→Below wi.heap.size wi W∧W.cell? ⟨w.heap.size,0,none⟩=some (.int i64 S)∧W.cell? ⟨w.heap.size,1,none⟩=some (.slice ao n cap)∧W.cell? ⟨w.heap.size,2,none⟩=some (.slice (some ⟨g2,o2,none⟩) n2 cap2)∧W.cell? ⟨w.heap.size,3,none⟩=some (.slice ao3 n3 cap3)∧W.cell? ⟨g1,o1+j*4,none⟩=some (.int i64 y0)∧W.cell? ⟨g1,o1+j*4+1,none⟩=some (.string y1)∧W.cell? ⟨g1,o1+j*4+2,none⟩=some (.string y2)∧W.cell? ⟨g1,o1+j*4+3,none⟩=some (.int i64 y3)∧W.cell? ⟨gh,0,none⟩=some (.string z0)∧W.cell? ⟨gh,1,none⟩=some (.int i64 z1)∧W.cell? ⟨gh,2,none⟩=some (.int i64 z2)):=fun W hW=>by
        have hWw:=HBwi.out.trans (hW.mono HBwi.out.size);obtain⟨c0,c1,c2,c3⟩:=(HX.out.later (HB0i.out.trans (hW.mono HB0i.out.size))).n;obtain⟨d0,d1,d2,d3⟩:=HYC.out W hWw;obtain⟨s0,s1,s2⟩:=HHBi.out.later hW;exact⟨hW,c0,c1,c2,c3,d0,d1,d2,d3,s0,s1,s2⟩
       have hm0:=HMK.out wi (bRQ _ _);obtain⟨_,c0,c1,c2,c3,d0,d1,d2,d3,s0,s1,s2⟩:=hm0
       go_cut [10] from 35 to 47 (fun b w'=>b=.bool P∧Below wi.heap.size wi w')
       case first =>
        go_region_held3 (fun W=>Below wi.heap.size wi W∧W.cell? ⟨w.heap.size,0,none⟩=some (.int i64 S)∧W.cell? ⟨w.heap.size,1,none⟩=some (.slice ao n cap)∧W.cell? ⟨w.heap.size,2,none⟩=some (.slice (some ⟨g2,o2,none⟩) n2 cap2)∧W.cell? ⟨w.heap.size,3,none⟩=some (.slice ao3 n3 cap3)∧W.cell? ⟨g1,o1+j*4,none⟩=some (.int i64 y0)∧W.cell? ⟨g1,o1+j*4+1,none⟩=some (.string y1)∧W.cell? ⟨g1,o1+j*4+2,none⟩=some (.string y2)∧W.cell? ⟨g1,o1+j*4+3,none⟩=some (.int i64 y3)∧W.cell? ⟨gh,0,none⟩=some (.string z0)∧W.cell? ⟨gh,1,none⟩=some (.int i64 z1)∧W.cell? ⟨gh,2,none⟩=some (.int i64 z2))
         (first | assumption | exact HMK.out _ (Below.drew (bRQ _ _)) | exact HMK.out _ HBY.out | exact HMK.out _ HBX.out)
         (first | (go_at_call 29;refine (HFR.out _ (by first | exact Below.drew (bRQ _ _) | exact bRQ _ _)).mono ?_;rintro e w' ⟨ao5,n5,cap5,rfl,hG,hb⟩;have HBX:Hid (Below wi.heap.size wi w'):=hb;have HGX:Hid (GS hopE w' (.slice ao5 n5 cap5) (frF Ls Hs Ts (z1,z2) (q:Int)).2.2):=hG;clear hb hG) | (go_at_call 28;refine (rfits_any y0 y1 y2 y3 z0 _ _ _ _ _ _ _ HGX.out).mono ?_;rintro e w'' ⟨rfl,hb⟩;have HBY:Hid (Below wi.heap.size wi w''):=HBX.out.trans (hb.mono HBX.out.size);clear hb))
        all_goals (go_wp2_with fail;go_meet)
        all_goals exact⟨by rw[←HP.out],HBY.out⟩
       case rest =>
        obtain⟨rfl,hbc⟩:=hcut;have HBc:Hid (Below w4.heap.size w4 wc):=HB4.out.trans (hbc.mono HB4.out.size);have HB0c:Hid (Below w0.heap.size w0 wc):=HB0i.out.trans (hbc.mono HB0i.out.size);have HBwc:Hid (Below w.heap.size w wc):=HBwi.out.trans (hbc.mono HBwi.out.size);have HHBc:Hid (HsBox wc gh z0 z1 z2):=HHBi.out.later hbc;clear hbc c0 c1 c2 c3 d0 d1 d2 d3 s0 s1 s2 HFR HMK;cases P with
        | true =>
          have hbr:brB Ls Hs Ts ⟨y0,y1,y2,y3⟩ (z0,(z1,z2)) (q:Int)=false:=by rw[brB,HP.out];rfl
          have HBR:Hid (brH Ls Hs Ts ⟨y0,y1,y2,y3⟩ (z0,(z1,z2)) (q+1)<0):=brH_no HNO4.out hbr;clear hbr;go_wp2;go_roundw
          case rel=>exact⟨q+1,by omega,by go_num,HBR.out,HBc.out⟩
          case measure=>simp[intOf];omega
        | false =>
          have hbr:brB Ls Hs Ts ⟨y0,y1,y2,y3⟩ (z0,(z1,z2)) (q:Int)=true:=by rw[brB,HP.out];rfl
          have HN4:Hid (brH Ls Hs Ts ⟨y0,y1,y2,y3⟩ (z0,(z1,z2)) 16=(q:Int)):=brH_yes hlt4 HNO4.out hbr;have HXS:Hid (X=some (z,(q:Int))):=by
           show _=_;rw[←HXX.out,brX_yes hzl HNO2.out (by rw[HZK.out,HN4.out];omega),HZK.out,HN4.out]
          have HRS:Hid (R=some (j,z,(q:Int))):=by
           show _=_;rw[←HRL.out,brW_yes hkl HNO.out (p:=(z,(q:Int))) (by rw[HLK.out,HXX.out,HXS.out])]
          have HPV:Hid (prV Hs (some (j,z,(q:Int)))=((j:Int),z0,(q:Int))):=by
           show _=_;rw[prV];simp only;rw[getO hzl,HZK.out]
          obtain⟨s0,s1,s2⟩:=HHBc.out;obtain⟨r0,r1,r2,rf⟩:=(HX.out.later HB0c.out).p;have f0:=rf 0;have f1:=rf 1;have f2:=rf 2;clear rf hbr;go_wp2;refine bodyPost_ret (v:=.tuple #[.agg #[.int i64 (j:Int),.string z0,.int i64 (q:Int)],.bool false]) (by simp[results,results10,go_sem, *]) rfl ⟨by rw[HRS.out,HPV.out];rfl,below_put3 HBwc.out _ (by omega) _ _ _⟩
      obtain rfl:q=16:=by omega
      have HXN:Hid (brX Ls Hs Ts ⟨y0,y1,y2,y3⟩ Hs (z+1)=none):=brX_no hzl HNO2.out (by rw[HZK.out];exact HNO4.out);go_wp2;go_roundw
      case rel=>exact⟨z+1,by omega,by go_num,HXN.out,HB1i.out⟩
      case measure=>simp[intOf];omega
    obtain rfl:z=n2:=by omega
    have HWN:Hid (brW Ls Hs Ts l Hs (j+1)=none):=brW_no hkl HNO.out (by rw[HLK.out,HHN.out];exact HNO2.out);go_wp2;go_roundw
    case rel=>exact⟨j+1,by omega,by go_num,HWN.out,HB02.out⟩
    case measure=>simp[intOf];omega
  obtain rfl:j=n4:=by omega
  have HRN:Hid (R=none):=by
   show _=_;rw[←HR.out,HNO.out]
  obtain⟨r0,r1,r2,rf⟩:=(HX.out.later HB.out).p;have f0:=rf 0;have f1:=rf 1;have f2:=rf 2;clear rf;go_wp2;refine bodyPost_ret (v:=.tuple #[.agg #[.int i64 0,.string ⟨#[]⟩,.int i64 0],.bool true]) (by simp[results,results10,go_sem, *]) rfl ⟨by rw[HRN.out];rfl,below_put3 HBw.out _ (by omega) _ _ _⟩
theorem intInfo:(Tryz.prog.info? 3).map (fun i=>(i.zero,i.size,i.bytes))=some (some (.int i64 0),1,8):=by kernel_rfl
theorem own_sl {w:World}{B e n k:Nat}{v:Value}{xs:List Value}(h:w.ownsRow B e k v n xs):∃x:SlT,v=slV x∧∀b,b<B→offB x b:=by
 rcases h.2 with ⟨h3,h4⟩ | ⟨g,cap,cur,h3,hb,_⟩
 ·exact⟨(none,0,0),h3,fun b _=>.inl rfl⟩
 refine⟨(some ⟨g,0,none⟩,n,cap),h3,fun b hlt=>.inr fun a ha=>?_⟩;cases ha;show g≠b;omega
theorem sets_len:∀l:List Int,(stI l).length+1=2 ^ l.length
 | []=>rfl
 | a :: l=>by
   have:=sets_len l;rw[stI,List.length_append,List.length_append,List.length_map,List.length_cons,List.length_cons,List.length_nil,Nat.pow_succ];omega
theorem st_few {l:List Int}(h:l.length≤6):(stI l).length≤63:=by
 have h1:=sets_len l;have h2:2 ^ l.length≤2 ^ 6:=Nat.pow_le_pow_right (by decide) h;omega
theorem st_in:∀{l s:List Int},s∈stI l→s.length≤l.length
 | [],s,h=>by cases h
 | a :: l,s,h=>by
   rw[stI,List.mem_append,List.mem_append] at h
   rcases h with (h | h) | h
   ·obtain⟨t,ht,rfl⟩:=List.mem_map.1 h;have:=st_in ht;simp;omega
   ·rw[List.mem_singleton] at h;subst h;simp
   have:=st_in h;simp;omega
theorem lst_info:(Tryz.prog.info? 54).map (fun i=>(i.zero,i.size,i.bytes))=some (some (.slice none 0 0),1,24):=by kernel_rfl
theorem rsets_step (a:Int)(l:List Int)(h6:(a :: l).length≤6)
 (ih:∀(ao:AdQ) (n cap:Nat) (w:World),GS inE w (.slice ao n cap) l→Calls prog 73 #[.slice ao n cap] w fun e w'=>∃v,e=.returned v∧RG inE w' v (stI l)∧Below w.heap.size w w')
 (ao:AdQ) (n cap:Nat) (w:World) (h:GS inE w (.slice ao n cap) (a :: l)):
 Calls prog 73 #[.slice ao n cap] w fun e w'=>∃v,e=.returned v∧RG inE w' v (stI (a :: l))∧Below w.heap.size w w':=by
 obtain⟨_,_,_,e1,hn,hn2,hnc,ha⟩:=h.form;cases e1;have hn1:n=l.length+1:=by rw[←hn];simp
 obtain⟨g,o,rfl,hga,hcm⟩:=ha (by omega);have c0:w.cell? ⟨g,o,none⟩=some (.int i64 a):=by
  have:=hga 0 (by simp) 0 _ rfl;simpa using this
 have HC0:Hid (∀W,Below w.heap.size w W→W.cell? ⟨g,o,none⟩=some (.int i64 a)):=fun W h=>cell_later h c0
 have HIH:Hid (∀(ao:AdQ) (n cap:Nat) (w:World),GS inE w (.slice ao n cap) l→Calls prog 73 #[.slice ao n cap] w fun e w'=>∃v,e=.returned v∧RG inE w' v (stI l)∧Below w.heap.size w w'):=ih;have HSF:Hid ((stI l).length≤63∧∀s∈stI l,s.length≤6):=⟨st_few (by simp at h6;omega),fun s hs=>by have:=st_in hs;simp at h6;omega⟩;have HNL:Hid (n=l.length+1∧n≤cap∧n≤6):=⟨hn1,hnc,by rw[←hn];exact h6⟩;have hdr:=h.drop (c:=1) (by omega);have HDR:Hid (GS inE w (.slice (some ⟨g,o+1,none⟩) (n-1) (cap-1)) l):=hdr;obtain⟨R,hR0⟩:∃R,R=stI l:=⟨_,rfl⟩;have HST:Hid (stI (a :: l)=(R.map fun s=>a :: s)++[[a]]++R):=by rw[hR0];rfl
 rw[←hR0] at HIH HSF;obtain⟨L0,hL0⟩:∃L,L=stI (a :: l):=⟨_,rfl⟩;rw[←hL0] at HST ⊢;have hq:((n:Int)==0)=false:=by rw[beq_eq_false_iff_ne];omega
 have n1:(1:Int)≤(n:Int):=by omega
 have nb:(n:Int)≤(cap:Int):=by omega
 have n63:n≤9223372036854775807:=by have:=HNL.out;omega
 obtain⟨i0,hi,hz0,hz1,hz2⟩:=info_parts intInfo;have HIN:Hid (Tryz.prog.info? 3=some i0∧i0.zero=some (.int i64 0)∧i0.size=inE.n∧i0.bytes=8):=⟨hi,hz0,hz1,hz2⟩;obtain⟨j0,gi,gz0,gz1,gz2⟩:=info_parts lst_info;have HIJ:Hid (Tryz.prog.info? 54=some j0∧j0.zero=some (.slice none 0 0)∧j0.size=slE.n∧j0.bytes=24):=⟨gi,gz0,gz1,gz2⟩;clear h h6 ih hn hn2 hnc ha hn1 hga hcm hdr hR0 hL0 hi hz0 hz1 hz2 gi gz0 gz1 gz2 c0;go_enter func73,ntmps73;go_upto_region 3 with fail
 go_cut [3] from 3 (fun v w2=>∃a3 m3 c3,v=.slice a3 m3 c3∧RG inE w2 (.slice a3 m3 c3) R∧Below w.heap.size w w2)
 case first =>
  by_cases hc1:cap=1
  ·obtain rfl:n=1:=by have:=HNL.out;omega
   have HL0:Hid (l=[]):=List.length_eq_zero_iff.1 (by have:=HNL.out;omega);subst hc1
   go_wp2_with fail
   refine (HIH.out _ _ _ _ (.inl ⟨_,_,rfl,HL0.out⟩)).mono ?_;rintro e w2 ⟨v,rfl,hR,hb⟩;obtain⟨a3,m3,c3,rfl,_⟩:=hR.form;have HR:Hid (RG inE w2 (.slice a3 m3 c3) R∧Below w.heap.size w w2):=⟨hR,hb⟩;clear hR hb
   go_wp2_with fail
   go_meet
   case rel=>exact⟨_,_,_,rfl,HR.out⟩
  have hc2:¬(cap:Int)=1:=by omega
  go_wp2_with fail
  refine (HIH.out _ _ _ _ HDR.out).mono ?_;rintro e w2 ⟨v,rfl,hR,hb⟩;obtain⟨a3,m3,c3,rfl,_⟩:=hR.form;have HR:Hid (RG inE w2 (.slice a3 m3 c3) R∧Below w.heap.size w w2):=⟨hR,hb⟩;clear hR hb
  go_wp2_with fail
  go_meet
  case rel=>exact⟨_,_,_,rfl,HR.out⟩
 obtain⟨a3,m3,c3,rfl,hR,hb2⟩:=hcut;obtain⟨w2,hw2⟩:∃X,X=wc:=⟨_,rfl⟩;subst hw2;have HR:Hid (∀W,Below w2.heap.size w2 W→RG inE W (.slice a3 m3 c3) R):=fun W h=>hR.later h
 have HB2:Hid (Below w.heap.size w w2):=hb2;have hm3:R.length=m3:=by
  obtain⟨_,_,_,e,h1,_⟩:=hR.form;cases e;exact h1
 have HM3:Hid (R.length=m3):=hm3;have m63:m3≤9223372036854775807:=by have:=HSF.out.1;omega
 clear hR hb2 hm3 HDR;go_upto_region 6 with fail
 go_loopw [4,5] (fun v i wr=>∃(k:Nat) (vs:List SlT),k≤m3∧i=.int i64 (k:Int)∧OG inE 54 wr w2.heap.size v vs ((R.take k).map fun s=>a :: s)∧Below w2.heap.size w2 wr) (fun _ i _=>m3-(intOf i).toNat)
 case atStart=>exact⟨0,[],by omega,rfl,og_nil _ _,bRQ _ _⟩
 case round =>
  obtain⟨k,vs,hk,rfl,hOG,hB⟩:=hrel;obtain⟨wi,hwi⟩:∃X,X=wr:=⟨_,rfl⟩;subst hwi;have HOG:Hid (OG inE 54 wi w2.heap.size u4 vs ((R.take k).map fun s=>a :: s)):=hOG;have HB:Hid (Below w2.heap.size w2 wi):=hB;have c0:=HC0.out wi (HB2.out.trans (hB.mono HB2.out.size));clear hOG hB;by_cases hlt:k<m3
  ·obtain⟨g1,o1,s,a1,n1',c1,rfl,hs,hc,hG⟩:=(HR.out wi HB.out).at hlt;have HS:Hid (R[k]?=some s):=hs;have hsm:s.length≤6:=HSF.out.2 s (List.mem_of_getElem? hs);have HG:Hid (∀W,Below wi.heap.size wi W→GS inE W (.slice a1 n1' c1) s∧W.cell? ⟨g1,o1+k,none⟩=some (.slice a1 n1' c1)):=fun W h=>⟨hG.later h,cell_later h hc⟩
   have HSM:Hid (s.length≤6):=hsm;have HV63:Hid (vs.length≤63):=by
    have h1:=HOG.out.lv;rw[List.length_map,List.length_take] at h1;have:=HSF.out.1;show _≤_;omega
   have hal:Below wi.heap.size wi (wi.alloc (.cells #[.int i64 a] 3)):=(bRQ _ _).alloc (nLQ _) _;have HO1:Hid ((wi.alloc (.cells #[.int i64 a] 3)).ownsRow wi.heap.size 3 inE.n (.slice (some ⟨wi.heap.size,0,none⟩) 1 1) [a].length (cellsG inE [a])):=World.ownsRow_lit wi #[.int i64 a] 1 (nLQ _) (by unfold maxLen;omega) rfl;have HAL:Hid (Below wi.heap.size wi (wi.alloc (.cells #[.int i64 a] 3))):=hal;have hc2:=(HG.out _ hal).2;have HN1:Hid ([a].length+s.length≤maxLen∧([a].length+s.length)*8≤140737488355328):=⟨by unfold maxLen;simp;omega,by simp;omega⟩;have kb0:(0:Int)≤(k:Int):=by omega
   have kb1:(k:Int)<(m3:Int):=by omega
   clear hs hc hG hsm hal
   go_wp2_with (at_builtin;refine wpList_append_GS (E:=inE) _ rfl _ _ 54 3 rfl underlying54 i0 (.int i64 0) 8 HIN.out.1 HIN.out.2.1 HIN.out.2.2.1 HIN.out.2.2.2 rfl wi.heap.size _ rfl [a] HO1.out _ rfl s (HG.out _ HAL.out).1 HN1.out.1 HN1.out.2 HAL.out.size ?_)
   intro v5 w5 ho5 hg5;have hb5:Below wi.heap.size wi w5:=HAL.out.trans (below_grown hg5 HAL.out.size (fun b hb=>by cases hb;exact nLQ _));obtain⟨⟨a6,n6,c6⟩,hv6,hoff6⟩:=own_sl ho5
   replace hv6:v5=.slice a6 n6 c6:=hv6
   subst hv6;have hG6:GS inE w5 (slV (a6,n6,c6)) (a :: s):=own_GS (E:=inE) ho5;have hal7:Below w5.heap.size w5 (w5.alloc (.cells #[.slice a6 n6 c6] 54)):=(bRQ _ _).alloc (nLQ _) _;have hb7:Below wi.heap.size wi (w5.alloc (.cells #[.slice a6 n6 c6] 54)):=hb5.trans (hal7.mono hb5.size);have HOG7:Hid (OG inE 54 (w5.alloc (.cells #[.slice a6 n6 c6] 54)) w2.heap.size u4 vs ((R.take k).map fun s=>a :: s)):=HOG.out.later hb7;have HG7:Hid (GS inE (w5.alloc (.cells #[.slice a6 n6 c6] 54)) (slV (a6,n6,c6)) (a :: s)):=hG6.later hal7;have HOF7:Hid (∀b,u4.ownBlock=some b→offB (a6,n6,c6) b):=fun b hb=>hoff6 b (HOG.out.ov.lt b hb).2
   have HVA:Hid (VAt (w5.alloc (.cells #[.slice a6 n6 c6] 54)) w5.heap.size 0 (slE.c (a6,n6,c6))):=vat_new w5 [.slice a6 n6 c6] 54;have HB7:Hid (Below w2.heap.size w2 (w5.alloc (.cells #[.slice a6 n6 c6] 54))):=HB.out.trans (hb7.mono HB.out.size);have HN7:Hid (vs.length+1≤maxLen∧(vs.length+1)*24≤140737488355328):=by
    have:=HV63.out;exact⟨by unfold maxLen;omega,by omega⟩
   clear ho5 hg5 hb5 hoff6 hG6 hal7 hb7 c0 hc2
   go_wp2_with (at_builtin;refine wpList_append_blk (E:=slE) _ rfl _ _ 156 54 rfl underlying156 j0 (.slice none 0 0) 24 HIJ.out.1 HIJ.out.2.1 HIJ.out.2.2.1 HIJ.out.2.2.2 rfl w2.heap.size u4 rfl vs HOG7.out.ov w5.heap.size 0 1 rfl (a6,n6,c6) HVA.out HN7.out.1 HN7.out.2 HB7.out.size ?_)
   intro v8 w8 ho8 hg8 hl8;have HOG8:Hid (OG inE 54 w8 w2.heap.size v8 (vs++[(a6,n6,c6)]) ((R.take (k+1)).map fun s=>a :: s)):=by
    have e:(R.take (k+1)).map (fun s=>a :: s)=((R.take k).map fun s=>a :: s)++[a :: s]:=by
     rw[List.take_add_one,HS.out];simp
    show OG _ _ _ _ _ _ _;rw[e];exact HOG7.out.push HG7.out HOF7.out hg8 (by rw[List.length_append];exact ho8) (by simpa using hl8)
   have HB8:Hid (Below w2.heap.size w2 w8):=HB7.out.trans (below_grown hg8 HB7.out.size (fun b hb=>(HOG.out.ov.lt b hb).1));clear ho8 hg8 hl8;go_wp2;go_roundw
   case rel=>exact⟨k+1,_,by omega,by go_num,HOG8.out,HB8.out⟩
   case measure=>simp[intOf];omega
  obtain rfl:k=m3:=by omega
  have hall:R.take k=R:=by rw[←HM3.out];exact List.take_length
  rw[hall] at HOG;have hV:vs.length≤63:=by
   have h1:=HOG.out.lv;rw[List.length_map] at h1;have:=HSF.out.1;omega
  have HV:Hid (vs.length≤63):=hV;have hba:Below wi.heap.size wi (wi.alloc (.cells #[.int i64 a] 3)):=(bRQ _ _).alloc (nLQ _) _;have hga:GS inE (wi.alloc (.cells #[.int i64 a] 3)) (slV (some ⟨wi.heap.size,0,none⟩,1,1)) [a]:=gs_one (E:=inE) wi a 3 (vs:=[.int i64 a]) rfl;have hal7:Below (wi.alloc (.cells #[.int i64 a] 3)).heap.size (wi.alloc (.cells #[.int i64 a] 3)) ((wi.alloc (.cells #[.int i64 a] 3)).alloc (.cells #[.slice (some ⟨wi.heap.size,0,none⟩) 1 1] 54)):=(bRQ _ _).alloc (nLQ _) _;have hb7:Below wi.heap.size wi ((wi.alloc (.cells #[.int i64 a] 3)).alloc (.cells #[.slice (some ⟨wi.heap.size,0,none⟩) 1 1] 54)):=hba.trans (hal7.mono hba.size);have HOG7:Hid (OG inE 54 ((wi.alloc (.cells #[.int i64 a] 3)).alloc (.cells #[.slice (some ⟨wi.heap.size,0,none⟩) 1 1] 54)) w2.heap.size u4 vs (R.map fun s=>a :: s)):=HOG.out.later hb7;have HG7:Hid (GS inE ((wi.alloc (.cells #[.int i64 a] 3)).alloc (.cells #[.slice (some ⟨wi.heap.size,0,none⟩) 1 1] 54)) (slV (some ⟨wi.heap.size,0,none⟩,1,1)) [a]):=hga.later hal7;have HOF7:Hid (∀b,u4.ownBlock=some b→offB (some ⟨wi.heap.size,0,none⟩,1,1) b):=fun b hb=>.inr fun x hx=>by
   cases hx;have:=(HOG.out.ov.lt b hb).2;show wi.heap.size≠b;omega
  have HVA:Hid (VAt ((wi.alloc (.cells #[.int i64 a] 3)).alloc (.cells #[.slice (some ⟨wi.heap.size,0,none⟩) 1 1] 54)) (wi.heap.size+1) 0 (slE.c (some ⟨wi.heap.size,0,none⟩,1,1))):=by
   have h:=vat_new (wi.alloc (.cells #[.int i64 a] 3)) [.slice (some ⟨wi.heap.size,0,none⟩) 1 1] 54;rw[World.size_alloc] at h;exact h
  have HB7:Hid (Below w2.heap.size w2 ((wi.alloc (.cells #[.int i64 a] 3)).alloc (.cells #[.slice (some ⟨wi.heap.size,0,none⟩) 1 1] 54))):=HB.out.trans (hb7.mono HB.out.size);have HN7:Hid (vs.length+1≤maxLen∧(vs.length+1)*24≤140737488355328):=⟨by unfold maxLen;omega,by omega⟩;clear hba hga hal7 hb7 hall hV;go_upto_region 11 with fail
  go_wp2_with (at_builtin;refine wpList_append_blk (E:=slE) _ rfl _ _ 156 54 rfl underlying156 j0 (.slice none 0 0) 24 HIJ.out.1 HIJ.out.2.1 HIJ.out.2.2.1 HIJ.out.2.2.2 rfl w2.heap.size u4 rfl vs HOG7.out.ov (wi.heap.size+1) 0 1 rfl (some ⟨wi.heap.size,0,none⟩,1,1) HVA.out HN7.out.1 HN7.out.2 HB7.out.size ?_)
  intro v8 w8 ho8 hg8 hl8;have hOG8:=HOG7.out.push (L:=[a]) HG7.out HOF7.out hg8 (by rw[List.length_append];exact ho8) (by simpa using hl8);have HB8:Hid (Below w2.heap.size w2 w8):=HB7.out.trans (below_grown hg8 HB7.out.size (fun b hb=>(HOG.out.ov.lt b hb).1));obtain⟨us,hu1,hu2,hu3⟩:=HR.out w8 HB8.out;have HOG8:Hid (OG inE 54 w8 w2.heap.size v8 (vs++[(some ⟨wi.heap.size,0,none⟩,1,1)]) ((R.map fun s=>a :: s)++[[a]])):=hOG8;have HU:Hid (GS slE w8 (.slice a3 k c3) us∧us.length=R.length∧∀(i:Nat) (x:SlT) (L:List Int),us[i]?=some x→R[i]?=some L→GS inE w8 (slV x) L∧∀b,v8.ownBlock=some b→offB x b):=by
   refine⟨hu1,hu2,fun i x L h1 h2=>⟨hu3 i x L h1 h2,fun b hb=>?_⟩⟩;obtain⟨ut,hv1,hv2,hv3⟩:=HR.out w2 (bRQ _ _);have e:us=ut:=gs_sl_one hu1 (hv1.later HB8.out);rw[e] at h1;exact (hv3 i x L h1 h2).off (hOG8.ov.lt b hb).1
  have HN8:Hid ((vs++[((some ⟨wi.heap.size,0,none⟩,1,1):SlT)]).length+us.length≤maxLen∧((vs++[((some ⟨wi.heap.size,0,none⟩,1,1):SlT)]).length+us.length)*24≤140737488355328):=by
   have h1:=HV.out;have h2:=HSF.out.1;rw[hu2];exact⟨by unfold maxLen;simp;omega,by simp;omega⟩
  clear ho8 hg8 hl8 hOG8 hu1 hu2 hu3
  go_wp2_with (at_builtin;refine wpList_append_GS (E:=slE) _ rfl _ _ 156 54 rfl underlying156 j0 (.slice none 0 0) 24 HIJ.out.1 HIJ.out.2.1 HIJ.out.2.2.1 HIJ.out.2.2.2 rfl w2.heap.size v8 rfl _ HOG8.out.ov _ rfl us HU.out.1 HN8.out.1 HN8.out.2 HB8.out.size ?_)
  intro v9 w9 ho9 hg9;have HRG:Hid (RG inE w9 v9 L0):=by
   show RG _ _ _ _;rw[HST.out];exact HOG8.out.app HU.out.2.1 HU.out.2.2 hg9 (by simpa using ho9)
  have HB9:Hid (Below w.heap.size w w9):=HB2.out.trans ((HB8.out.trans (below_grown hg9 HB8.out.size (fun b hb=>(HOG8.out.ov.lt b hb).1))).mono HB2.out.size);clear ho9 hg9;go_wp2;go_ret;exact⟨_,rfl,HRG.out,HB9.out⟩
theorem rsets_any:∀(l:List Int),l.length≤6→∀(ao:AdQ) (n cap:Nat) (w:World),GS inE w (.slice ao n cap) l→Calls prog 73 #[.slice ao n cap] w fun e w'=>∃v,e=.returned v∧RG inE w' v (stI l)∧Below w.heap.size w w'
 | [],_,ao,n,cap,w,h=>by
   have hn:=h.len;simp at hn;subst hn;clear h;go_enter func73,ntmps73;go_wp2;go_ret;exact⟨_,rfl,RG.nil _,bRQ _ _⟩
 | a :: l,h6,ao,n,cap,w,h=>rsets_step a l h6 (rsets_any l (by simp at h6;omega)) ao n cap w h
theorem wt_next {D l:List Int}{k:Nat}(hk:k<D.length):wtI (D.take (k+1)) l=wtI (D.take k) l++(if (l.any fun y=>y==D[k])=true then [] else [D[k]]):=by
 unfold wtI;rw[List.take_succ_eq_append_getElem hk,List.filter_append];cases h:l.any fun y=>y==D[k]
 ·simp[h]
 simp[h]
theorem wt_le (D l:List Int):(wtI D l).length≤D.length:=List.length_filter_le _ _
theorem rwithout_any (ao:AdQ)(n cap:Nat)(a2:AdQ)(n2 c2:Nat)(D l:List Int)(w:World)(hD:GS inE w (.slice ao n cap) D)(hl:GS inE w (.slice a2 n2 c2) l)(hn0:D.length≤1000):
 Calls prog 74 #[.slice ao n cap,.slice a2 n2 c2] w fun e w'=>∃a3 n3 c3,e=.returned (.slice a3 n3 c3)∧GS inE w' (.slice a3 n3 c3) (wtI D l)∧Below w.heap.size w w':=by
 obtain⟨_,_,_,e1,hn,hn2,_,ha⟩:=hD.form;cases e1;have HN:Hid (D.length=n):=hn;have HA:Hid (0<n→∃g o,ao=some ⟨g,o,none⟩∧GAt inE w g o D∧cap≤maxLen):=ha;have HL:Hid (∀W,Below w.heap.size w W→GS inE W (.slice a2 n2 c2) l):=fun W h=>hl.later h
 have n63:n≤9223372036854775807:=by omega
 have HN0:Hid (n≤1000):=by show _≤_;omega
 clear hD hl hn ha hn2 hn0;obtain⟨i0,hi,hz0,hz1,hz2⟩:=info_parts intInfo;have HIN:Hid (Tryz.prog.info? 3=some i0∧i0.zero=some (.int i64 0)∧i0.size=inE.n∧i0.bytes=8):=⟨hi,hz0,hz1,hz2⟩;clear hi hz0 hz1 hz2;go_enter func74,ntmps74;go_wp2
 go_loopw [5,6] (fun v i wr=>∃k:Nat,k≤n∧i=.int i64 (k:Int)∧wr.ownsRow w.heap.size 3 inE.n v (wtI (D.take k) l).length (cellsG inE (wtI (D.take k) l))∧Below w.heap.size w wr) (fun _ i _=>n-(intOf i).toNat)
 case atStart=>exact⟨0,by omega,rfl,World.ownsRow_nil _ _ _ _,bRQ _ _⟩
 case round =>
  obtain⟨k,hk,rfl,hNO,hB⟩:=hrel;obtain⟨wi,hwi⟩:∃X,X=wr:=⟨_,rfl⟩;subst hwi;have HNO:Hid (wi.ownsRow w.heap.size 3 inE.n u5 (wtI (D.take k) l).length (cellsG inE (wtI (D.take k) l))):=hNO;have HB:Hid (Below w.heap.size w wi):=hB;clear hNO hB;by_cases hlt:k<n
  ·obtain⟨g,o,hao,hga,_⟩:=HA.out (by omega);subst hao;obtain⟨x,hkl,hLk,y0⟩:=in_at (hga.later HB.out) HN.out hlt;obtain⟨T,hT⟩:∃T,T=l.any fun y=>y==x:=⟨_,rfl⟩
   have HT:Hid ((l.any fun y=>y==x)=T):=hT.symm;have HNX:Hid (wtI (D.take (k+1)) l=wtI (D.take k) l++(if T=true then [] else [x])):=show _=_ by
    rw[wt_next hkl,hLk,hT]
   have HLEN:Hid ((wtI (D.take k) l).length≤1000):=by
    have h1:=wt_le (D.take k) l;have h2:(D.take k).length≤D.length:=by rw[List.length_take];omega
    have h3:=HN.out;have h4:=HN0.out;show _≤_;omega
   have kb0:(0:Int)≤(k:Int):=by omega
   have kb1:(k:Int)<(n:Int):=by omega
   clear hga hLk hT
   go_wp2_with fail
   refine (in_any a2 n2 c2 l x wi (HL.out wi HB.out)).mono ?_;rintro e w2 ⟨rfl,hw2⟩;have hw2:=hw2.symm;subst hw2;rw[HT.out];cases T with
   | true =>
     have HN2:Hid (wtI (D.take (k+1)) l=wtI (D.take k) l):=HNX.out.trans (by simp);clear y0;go_wp2;go_roundw
     case rel=>exact⟨k+1,by omega,by go_num,by rw[HN2.out];exact HNO.out,HB.out⟩
     case measure=>simp[intOf];omega
   | false =>
     have HN2:Hid (wtI (D.take (k+1)) l=wtI (D.take k) l++[x]):=HNX.out.trans (by simp);have hal:Below wi.heap.size wi (wi.alloc (.cells #[.int i64 x] 3)):=(bRQ _ _).alloc (nLQ _) _;have HO4:Hid ((wi.alloc (.cells #[.int i64 x] 3)).ownsRow w.heap.size 3 inE.n u5 (wtI (D.take k) l).length (cellsG inE (wtI (D.take k) l))):=HNO.out.kept (grown_below hal) (none_or _);have HB4:Hid (Below w.heap.size w (wi.alloc (.cells #[.int i64 x] 3))):=HB.out.trans (hal.mono HB.out.size);have HVA:Hid (VAt (wi.alloc (.cells #[.int i64 x] 3)) wi.heap.size 0 (inE.c x)):=vat_new wi [.int i64 x] 3;have HL1:Hid ((wtI (D.take k) l).length+1≤maxLen):=by have:=HLEN.out;show _≤_;unfold maxLen;omega
     have HL2:Hid (((wtI (D.take k) l).length+1)*8≤140737488355328):=by have:=HLEN.out;show _≤_;omega
     clear hal
     go_wp2_with (at_builtin;refine wpList_append_blk (E:=inE) _ rfl _ _ 54 3 rfl underlying54 i0 (.int i64 0) 8 HIN.out.1 HIN.out.2.1 HIN.out.2.2.1 HIN.out.2.2.2 rfl w.heap.size u5 rfl _ HO4.out wi.heap.size 0 1 rfl x HVA.out HL1.out HL2.out HB4.out.size ?_)
     intro v5 w5 ho5 hg5 hl5;have HO5:Hid (w5.ownsRow w.heap.size 3 inE.n v5 (wtI (D.take (k+1)) l).length (cellsG inE (wtI (D.take (k+1)) l))):=by
      rw[HN2.out,List.length_append];exact ho5
     have HB5:Hid (Below w.heap.size w w5):=HB4.out.trans (below_grown hg5 HB4.out.size (fun b hb=>(HNO.out.lt b hb).1));clear ho5 hg5 hl5 y0;go_wp2;go_roundw
     case rel=>exact⟨k+1,by omega,by go_num,HO5.out,HB5.out⟩
     case measure=>simp[intOf];omega
  obtain rfl:k=n:=by omega
  have hall:D.take k=D:=by rw[←HN.out];exact List.take_length
  rw[hall] at HNO;obtain⟨a3,n3,c3,rfl,_⟩:=(own_GS HNO.out).form;go_wp2;go_ret;exact⟨_,_,_,rfl,own_GS HNO.out,HB.out⟩
end
end Go.Proofs.YtiokpmlhmlcojaaGreatDoor
