/- Contracts and facts on the way to DriveSays, joined into one text: DriveSay, RefDrMay, CcInt, DrivePgRd, StHop, WishMath, WishFirst, WishHold, MixWalk1, RefTouched, TouchMath, SlSortInt, MixTouched, DrivePgNext, DriveDel. -/
import Derived.Test.YtpgjkmefomldfaaDoorDriveSaysP2
namespace Go.Proofs.YtpgjkmefomldfaaDoor
set_option linter.unusedSimpArgs false
set_option linter.unusedVariables false
set_option maxHeartbeats 16000000
set_option maxRecDepth 100000
open Go.Proofs.Tryd
open IntKind (i64)
section
open Go.RowKit
theorem step_append_many {P:Program}{α:Type}{E:Enc α}(w:World){ops:Array Oper}{o:Oper}{a:Act}{K:Act→World→Prop}{Q:Exit→Act→World→Prop}{X:Prop}(hgd:o.guard=none)(s x:Operand)(t e:TypeId)
 (ho:o.op=.call { callee:=.builtin .append,args:=#[s,x],argTypes:=#[t,t] }) (ht:P.underlying t=some (.slice e)) (i:TypeInfo) (z:Value) (bytes:Nat) (hi:P.info? e=some i) (hz:i.zero=some z)
 (hsize:i.size=E.n) (hby:i.bytes=bytes) (hzs:z.cells.size=E.n) (base:Nat)
 (v:Value) (hs:a.eval s=v) (L:List α) (hown:w.ownsRow base e E.n v L.length (cellsG E L)) (g q m c:Nat) (hx:a.eval x=.slice (some ⟨g,q,none⟩) m c) (M:List α) (hM:GAt E w g q M) (hm:M.length=m)
 (h63:L.length+m≤maxLen) (hbytes:(L.length+m)*bytes≤140737488355328) (hbase:base≤w.heap.size)
 (h:∀v' w',w'.ownsRow base e E.n v' (L++M).length (cellsG E (L++M))→w.grownBy w' v.ownBlock→K (a.put o.dst v') w'):
 if Region.wanted o (yielded ops a.tmps)=true then Oper.wp P o a w K Q else X:=by
 have hw:Region.wanted o (yielded ops a.tmps)=true:=by simp[Region.wanted,hgd]
 rw[if_pos hw];subst hm;obtain⟨v',w',hr,h2,h3,_⟩:=run_append_own (P:=P) w base t o.type e i z E.n bytes ht hi hz hsize hby hzs E.pos v _ _ hown ⟨g,q,none⟩ M.length c (cellsG E M) (cellsG_len M) hM.cells (cellsG_all M) h63 hbytes hbase;unfold Oper.wp execOp;simp only[ho,resolve,invoke,builtin,Sem.run_bind,Sem.run_pure,Result.andThen_ok,List.map_toArray,List.map_cons,List.map_nil,hs,hx,hr];exact h v' w' (by rw[List.length_append,cellsG_app];exact h2) h3
theorem own_at_some {α:Type}{E:Enc α}{w:World}{B e m c:Nat}{ao:AdQ}{L:List α}(h:w.ownsRow B e E.n (.slice ao m c) L.length (cellsG E L))(h0:0<L.length):∃g,ao=some ⟨g,0,none⟩∧m=L.length∧GAt E w g 0 L∧B≤g:=by
 rcases h.2 with ⟨h1,h2⟩ | ⟨g,cap,cur,h1,hB,_⟩
 ·omega
 have hg:=own_GS h;cases h1
 rcases hg with ⟨_,_,e,e2⟩ | ⟨g',o',cap',e,_,_,h3⟩
 ·rw[e2] at h0;simp at h0
 cases e;exact⟨_,rfl,rfl,h3,hB⟩
theorem say_pos (R:List Op8)(i s:Int):0<(sayS R i s).length:=by simp[sayS]
theorem psay_any {p B0:Nat}{O:Nat→Prop}{D:DrT}{xr:SlT}{vd:Value}{t B1 M K:Nat}(w:World)(h:PdC w p B0 O D xr vd t B1 M)(hok:DrOK D K):
 Calls prog 23 #[.pointer (some ⟨p,0,none⟩)] w fun e w'=>∃a1 n1 c1,e=.returned (.slice a1 n1 c1)∧GS msgE w' (.slice a1 n1 c1) (saD D)∧(∀ad,a1=some ad→w.heap.size≤ad.block)∧Below w.heap.size w w':=by
 obtain⟨ar,nr,cr⟩:=xr;obtain⟨al,cl,hvd⟩:=own_form h.l;obtain⟨nl,hnl⟩:∃nl,nl=D.l.length:=⟨_,rfl⟩;rw[←hnl] at hvd;subst hvd;have HH:Hid (∀V,Below w.heap.size w V→PdC V p B0 O D (ar,nr,cr) (.slice al nl cl) t B1 M):=fun V hb=>h.later hb
 obtain⟨_,_,_,e1,hn,_,_,ha⟩:=h.gl.form;cases e1;have HNL:Hid (D.l.length=nl):=hn;have HLA:Hid (0<nl→∃g o,al=some ⟨g,o,none⟩∧GAt inE w g o D.l):=fun h=>by
  obtain⟨g,o,h1,h2,_⟩:=ha h;exact⟨g,o,h1,h2⟩
 have HNR:Hid (D.L.length=nr):=(h.r w (Kb.refl _ _)).len;have HOK:Hid (DrOK D K):=hok;have HRS:Hid (RS w (.slice ar nr cr) D.L):=h.r w (Kb.refl _ _);have hs20:D.s≤20:=Nat.le_trans hok.s hok.L;have hnl6:nl≤6:=by
  have h6:=hok.six;have h7:D.l.length=nl:=hn;omega
 obtain⟨I,hI⟩:∃I,I=(D.s:Int)-1:=⟨_,rfl⟩;have HI:Hid (I=(D.s:Int)-1):=hI;obtain⟨R,hR⟩:∃R,R=D.L.getD (D.s-1) []:=⟨_,rfl⟩;have HR:Hid (R=D.L.getD (D.s-1) []):=hR;have HRL:Hid (R.length≤200):=by
  show _≤_;rw[hR]
  rcases getd_mem (L:=D.L) (i:=D.s-1) with e | e
  ·rw[e];simp
  exact hok.r _ e
 have HSA:Hid (saD D=sayL R I D.l):=by
  show _=_;rw[saD,hR,hI]
 have c3:=h.c3;obtain⟨j0,hj0,hz0,hz1,hz2⟩:=info_parts msg_info;have HI1:Hid (Tryd.prog.info? 39=some j0):=hj0;have HI2:Hid (j0.zero=some (.agg #[.int i64 0,.int i64 0,.int i64 0,.int i64 0,.int i64 0,.bool false,.int i64 0,.int i64 0,.int i64 0,.int i64 0,.int i64 0,.int i64 0])):=hz0;have HI3:Hid (j0.size=12):=hz1;have HI4:Hid (j0.bytes=96):=hz2;clear h hok hn ha hI hR hj0 hz0 hz1 hz2 hnl;go_enter func23,ntmps23;go_wp2;clear c3
 go_loopw [3,11] (fun v i wr=>∃(k:Nat) (a5:AdQ) (m5 c5:Nat),k≤nl∧i=.int i64 (k:Int)∧v=.slice a5 m5 c5∧wr.ownsRow w.heap.size 39 msgE.n (.slice a5 m5 c5) (sayL R I (D.l.take k)).length (cellsG msgE (sayL R I (D.l.take k)))∧Below w.heap.size w wr) (fun _ i _=>nl-(intOf i).toNat)
 case atStart=>exact⟨0,none,0,0,by omega,rfl,rfl,World.ownsRow_nil _ _ _ _,bRQ _ _⟩
 case round =>
  obtain⟨k,a5,m5,c5,hk,rfl,rfl,ho,hb⟩:=hrel;obtain⟨wz,hwz⟩:∃X,X=wr:=⟨_,rfl⟩;subst hwz;have HB:Hid (Below w.heap.size w wz):=hb;by_cases hlt:k<nl
  ·obtain⟨gl,ol,hal,hGl⟩:=HLA.out (by omega);subst hal;obtain⟨x,hkl,hLk,y0⟩:=in_at (hGl.later HB.out) HNL.out hlt;obtain⟨s1,hs1⟩:∃s1,D.s=s1+1:=⟨D.s-1,by
    by_cases h0:D.s=0
    ·have:=HOK.out.p h0;rw[this] at hkl;simp at hkl
    omega⟩
   obtain rfl:I=(s1:Int):=by have:=HI.out;omega
   have hsn:s1<nr:=by
    have:=HOK.out.s;have:=HNR.out;omega
   obtain⟨gr,qr,R',a1,n1,c1,har,hRs,hc1,hGr⟩:=HRS.out.at hsn;subst har;obtain rfl:R'=R:=by
    rw[HR.out];have:D.s-1=s1:=by omega
    rw[this];simp[List.getD,hRs]
   have HSN:Hid (sayL R' (s1:Int) (D.l.take (k+1))=sayL R' (s1:Int) (D.l.take k)++sayS R' (s1:Int) x):=by
    show _=_;rw[say_next _ _ hkl,hLk]
   obtain⟨X,hX⟩:∃X,X=sayL R' (s1:Int) (D.l.take k):=⟨_,rfl⟩;rw[←hX] at HSN ho;have HXL:Hid (X.length≤1206):=by
    show _≤_;have h1:=say_len R' (s1:Int) (D.l.take k);have h2:(D.l.take k).length≤6:=by rw[List.length_take];omega
    have h3:(D.l.take k).length*(R'.length+1)≤6*201:=Nat.mul_le_mul h2 (by have:=HRL.out;omega);rw[hX];omega
   have hn1:n1≤200:=by
    have:=HRL.out;have:=hGr.len;omega
   obtain⟨N,hN⟩:∃N,N=sayS R' (s1:Int) x:=⟨_,rfl⟩;have HNS:Hid (N=sayS R' (s1:Int) x):=hN;have HNL2:Hid (0<N.length∧N.length≤201):=by
    refine⟨by rw[hN];exact say_pos _ _ _,?_⟩;rw[hN,sayS,List.length_append,do_len];have h1:=cw_le R' x;have:=HRL.out;simp;omega
   rw[←hN] at HSN;obtain⟨sd,hsd⟩:∃sd:Int,sd=(D.s:Int):=⟨_,rfl⟩;have HKR:Hid (∀V,Below wz.heap.size wz V→(V.cell? ⟨p,0,none⟩=some (.slice (some ⟨gr,qr,none⟩) nr cr)∧V.cell? ⟨p,2,none⟩=some (.int i64 sd)∧V.cell? ⟨gr,qr+s1,none⟩=some (.slice a1 n1 c1))):=fun V hV=>by
    have hV2:Below w.heap.size w V:=HB.out.trans (hV.mono HB.out.size);have hx:=HH.out V hV2;exact⟨hx.c0,by rw[hsd];exact hx.c2,cell_later hV2 hc1⟩
   have HKG:Hid (∀V V',Below wz.heap.size wz V→V.grownBy V' (Value.slice a5 m5 c5).ownBlock→(V'.cell? ⟨p,0,none⟩=some (.slice (some ⟨gr,qr,none⟩) nr cr)∧V'.cell? ⟨p,2,none⟩=some (.int i64 sd)∧V'.cell? ⟨gr,qr+s1,none⟩=some (.slice a1 n1 c1))):=fun V V' hV hg=>by
    obtain⟨z0,z2,zc⟩:=HKR.out V hV;have hlp:p<w.heap.size:=(HH.out w (bRQ _ _)).pl;have hlg:gr<w.heap.size:=bLQ w ⟨gr,qr+s1,none⟩ hc1;exact⟨hg.cell z0 (fun e=>by have:=(ho.lt p e.symm).1;omega),hg.cell z2 (fun e=>by have:=(ho.lt p e.symm).1;omega),hg.cell zc (fun e=>by have:=(ho.lt gr e.symm).1;omega)⟩
   have HGR:Hid (∀V,Below wz.heap.size wz V→GS opE V (.slice a1 n1 c1) R'):=fun V hV=>hGr.later (HB.out.trans (hV.mono HB.out.size))
   have HOV:Hid (∀V,Below wz.heap.size wz V→V.ownsRow w.heap.size 39 msgE.n (.slice a5 m5 c5) X.length (cellsG msgE X)):=fun V hV=>own_below ho hV
   have HOL:Hid (∀g,(Value.slice a5 m5 c5).ownBlock=some g→w.heap.size≤g):=fun g hg=>(ho.lt g hg).1
   have kb0:(0:Int)≤(k:Int):=by omega
   have kb1:(k:Int)<(nl:Int):=by omega
   have hw1:IntKind.i64.wrap (sd-1)=(s1:Int):=by rw[IntKind.wrap_i64];omega
   have sb0:(0:Int)≤(s1:Int):=by omega
   have sb1:(s1:Int)<(nr:Int):=by omega
   have HLV1:Hid (X.length+N.length≤maxLen):=by
    show _≤_;have:=HXL.out;have:=HNL2.out;unfold maxLen;omega
   have HLV2:Hid ((X.length+N.length)*96≤140737488355328):=by
    show _≤_;have:=HXL.out;have:=HNL2.out;omega
   obtain⟨q0,q2,qc⟩:=HKR.out wz (bRQ _ _);clear hGl hLk hX hc1 hGr hs1 hRs hN hsd ho hb hsn;go_upto_region 5 with fail
   go_region_held3 (fun W=>W.cell? ⟨p,0,none⟩=some (.slice (some ⟨gr,qr,none⟩) nr cr)∧W.cell? ⟨p,2,none⟩=some (.int i64 sd)∧W.cell? ⟨gr,qr+s1,none⟩=some (.slice a1 n1 c1))
    (first | (with_reducible assumption) | (with_reducible exact HKR.out _ (Below.drew (bRQ _ _))) | (with_reducible exact HKR.out _ HBX.out) | (with_reducible exact HK5.out))
    (first
     | (go_at_call 42;refine (share_any a1 n1 c1 R' (s1:Int) x _ (HGR.out _ (Below.drew (bRQ _ _))) hn1).mono ?_;rintro e w9 ⟨a9,n9,c9,rfl,ho9,hb9⟩;have HBX:Hid (Below wz.heap.size wz w9):=(Below.drew (bRQ _ _)).trans hb9;obtain⟨g9,rfl,hm9,hG9,_⟩:=own_at_some ho9 (say_pos _ _ _);subst hm9;rw[←HNS.out] at hG9 ⊢;have HG9:Hid (GAt msgE w9 g9 0 N):=hG9;clear ho9 hb9 hG9)
     | (refine step_append_many (E:=msgE) _ (by rfl) _ _ 29 39 (by rfl) underlying29 j0 _ 96 HI1.out HI2.out HI3.out HI4.out msg_zero w.heap.size (.slice a5 m5 c5) (by rfl) X (HOV.out _ HBX.out) g9 0 N.length _ (by rfl) N HG9.out rfl HLV1.out HLV2.out ?_ ?_;(focus (exact Nat.le_trans HB.out.size HBX.out.size));intro v5 w5 ho5 hg5;have HK5:Hid _:=HKG.out _ _ HBX.out hg5;obtain⟨z0,z2,zc⟩:=HK5.out;have HO5:Hid (w5.ownsRow w.heap.size 39 msgE.n v5 (sayL R' (s1:Int) (D.l.take (k+1))).length (cellsG msgE (sayL R' (s1:Int) (D.l.take (k+1))))):=(by rw[HSN.out];exact ho5);have HB5:Hid (Below w.heap.size w w5):=(HB.out.trans (HBX.out.mono HB.out.size)).grown hg5 (Nat.le_trans HB.out.size HBX.out.size) HOL.out;clear ho5 hg5))
   all_goals (clear q0 q2 qc y0 z0 z2 zc;obtain⟨a9,m9,c9,rfl⟩:∃a m c,v5=Value.slice a m c:=(by obtain⟨a,c,hf⟩:=own_form HO5.out;exact⟨a,_,c,hf⟩);go_wp2)
   all_goals go_roundw
   all_goals first
    | (simp[intOf];omega)
    | exact⟨k+1,_,_,_,by omega,by go_num,rfl,HO5.out,HB5.out⟩
  obtain rfl:k=nl:=by omega
  have htk:D.l.take k=D.l:=by rw[←HNL.out];exact List.take_length
  rw[htk] at ho;have HO:Hid (wz.ownsRow w.heap.size 39 msgE.n (.slice a5 m5 c5) (sayL R I D.l).length (cellsG msgE (sayL R I D.l))):=ho;clear ho hb;go_wp2;go_ret;exact⟨_,_,_,rfl,by rw[HSA.out];exact own_GS HO.out,fun ad ha=>by subst ha;exact (HO.out.lt ad.block rfl).1,HB.out⟩
theorem below_drwN (w:World)(n:Nat):Below w.heap.size w (w.drewN n):=⟨rfl,rfl,rfl,nLQ _,fun _ _=>rfl⟩
theorem emp_iff {l:List Int}{n:Nat}(h:l.length=n):l.isEmpty=decide ((n:Int)=0):=by
 subst h;cases l with
 | nil=>rfl
 | cons x l =>
   have:¬(((x :: l).length:Nat):Int)=0:=by simp;omega
   rw[decide_eq_false this];rfl
theorem in_zero:(Value.int i64 0).cells.size=1:=by simp[Value.cells]
theorem in_grow_nil (n:Nat)(w:World)(hn:n≤1000):
 Calls prog 43 #[.slice none 0 0,.int i64 n] w fun e w'=>∃v,e=.returned v∧w'.ownsRow w.heap.size 3 1 v 0 []∧Below w.heap.size w w':=by
 have h1:¬((n:Int)<0):=by omega
 by_cases h0:n=0
 ·subst h0;go_enter func43,ntmps43;go_wp2;go_ret;exact⟨_,rfl,World.ownsRow_nil _ _ _ _,bRQ _ _⟩
 obtain⟨i0,hi,hz0,hz1,hz2⟩:=info_parts infoInt;have h3:wrap64 ((n:Int)-0)=(n:Int):=by unfold wrap64;omega
 have h4:(n:Int) > 0:=by omega
 have hrz:∀ty,(Builtin.append_ #[40,3] ty #[.slice none 0 0,.int i64 n]).run prog w =
  .ok (.slice (some ⟨w.heap.size,0,none⟩) n (grownCap w n 0 3)) (w.drew.alloc (.cells (Builtin.zeroCells (Value.int i64 0).cells n++Builtin.zeroCells (Value.int i64 0).cells (grownCap w n 0 3-n)) 3)):=fun ty =>
  Lib.run_append_nil_zeros w 40 3 ty 3 i0 _ .i64 .i64 underlying40 underlying3 hi hz0 n (by omega) (by rw[hz1];decide) (by omega) (by rw[hz2];omega)
 have hGn:n≤grownCap w n 0 3:=grownCap_ge w _ _ _;have hGm:grownCap w n 0 3≤maxLen:=grownCap_le_maxLen w n 0 3 (by unfold maxLen;omega)
 generalize grownCap w n 0 3=G at *
 have HM:Hid (G≤maxLen):=hGm;have hG63:G≤9223372036854775807:=by unfold maxLen at hGm;omega
 have HO:Hid ((w.drew.alloc (.cells (Builtin.zeroCells (Value.int i64 0).cells n++Builtin.zeroCells (Value.int i64 0).cells (G-n)) 3)).ownsRow w.heap.size 3 1 (.slice (some ⟨w.heap.size,0,none⟩) 0 G) 0 []):=
  World.ownsRow_made w.drew _ G (nLQ _) HM.out (by
   simp only[Array.size_append,size_zeroCells,in_zero,←Nat.add_mul]
   congr 1
   omega)
 clear hGm;go_enter func43,ntmps43
 go_wp2_with (at_builtin;refine Lib.wpList_append_run _ rfl _ _ _ _ rfl _ _ rfl rfl _ _ (hrz _) ?_)
 all_goals (go_ret;exact⟨_,rfl,HO.out,((bRQ _ _).drew).alloc (nLQ _) _⟩)
def inPt (w:World)(g o:Nat)(Ls:List (List Int)):Prop:=∀i (h:i<Ls.length),∃ao n cap,w.cell? ⟨g,o+i,none⟩=some (.slice ao n cap)∧GS inE w (.slice ao n cap) Ls[i]
theorem inPt.later {w w':World}{g o:Nat}{Ls:List (List Int)}(h:inPt w g o Ls)(hb:Below w.heap.size w w'):inPt w' g o Ls:=fun i hi=>by
 obtain⟨ao,n,cap,h1,h2⟩:=h i hi;exact⟨ao,n,cap,cell_later hb h1,h2.later hb⟩
theorem in_flat_next {Ls:List (List Int)}{k:Nat}(hk:k<Ls.length):(Ls.take (k+1)).flatten=(Ls.take k).flatten++Ls[k]:=by
 rw[List.take_succ_eq_append_getElem hk];simp only[List.flatten_append,List.flatten_cons,List.flatten_nil,List.append_nil]
theorem in_flat_le {Ls:List (List Int)}(k:Nat):(Ls.take k).flatten.length≤Ls.flatten.length:=by
 have:Ls.flatten=(Ls.take k).flatten++(Ls.drop k).flatten:=by rw[←List.flatten_append,List.take_append_drop]
 rw[this,List.length_append];omega
theorem in_append (w:World){ops:Array Oper}{rest:List Oper}{o:Oper}{a:Act}{Q:Exit→Act→World→Prop}(hgd:o.guard=none)(s x:Operand)(t:TypeId)
 (ho:o.op=.call { callee:=.builtin .append,args:=#[s,x],argTypes:=#[t,t] }) (ht:Tryd.prog.underlying t=some (.slice 3)) (base:Nat)
 (v:Value) (hs:a.eval s=v) (L:List Int) (hown:w.ownsRow base 3 1 v L.length (cellsG inE L)) (u:Value) (hx:a.eval x=u) (M:List Int) (hM:GS inE w u M)
 (h100:L.length+M.length≤1000000) (hbase:base≤w.heap.size)
 (h:∀v' w',w'.ownsRow base 3 1 v' (L++M).length (cellsG inE (L++M))→w.grownBy w' v.ownBlock→wpList prog ops Q rest (a.put o.dst v') w'):wpList prog ops Q (o :: rest) a w:=by
 obtain⟨i0,hi,hz0,hz1,hz2⟩:=info_parts infoInt;exact wpList_append_GS (E:=inE) w hgd s x t 3 ho ht i0 _ 8 hi hz0 hz1 hz2 in_zero base v hs L hown u hx M hM (by unfold maxLen;omega) (by omega) hbase h
theorem in_concat (g o m cap:Nat)(Ls:List (List Int))(w:World)(hm:Ls.length=m)(hm2:m≤1000)(hc:inPt w g o Ls)(hs:Ls.flatten.length≤1000):
 Calls prog 24 #[.slice (some ⟨g,o,none⟩) m cap] w fun e w'=>∃v,e=.returned v∧w'.ownsRow w.heap.size 3 1 v Ls.flatten.length (cellsG inE Ls.flatten)∧Below w.heap.size w w':=by
 have HM:Hid (Ls.length=m):=hm;have HC:Hid (inPt w g o Ls):=hc;have HS:Hid (Ls.flatten.length≤1000):=hs;obtain⟨N,hN⟩:∃N,N=Ls.flatten.length:=⟨_,rfl⟩;have HN:Hid (N=Ls.flatten.length):=hN;have hN2:N≤1000:=by omega
 clear hm hc hs hN;go_enter func24,ntmps24
 go_upto_block 0 with fail
 go_cut [3] from 3 (fun z w'=>z=.int i64 (N:Int)∧w'=w)
 case first =>
  go_wp2
  go_loopw [3,11] (fun z i wr=>∃k:Nat,k≤m∧i=.int i64 k∧z=.int i64 ((Ls.take k).flatten.length:Int)∧wr=w) (fun _ i _=>m-(intOf i).toNat)
  case atStart=>exact⟨0,by omega,rfl,rfl,rfl⟩
  case round =>
   obtain⟨k,hk,rfl,rfl,rfl⟩:=hrel;by_cases hlt:k<m
   ·have hkl:k<Ls.length:=by rw[HM.out];exact hlt
    obtain⟨ao,n,cap2,q0,hsr⟩:=HC.out k hkl;have HT:Hid ((Ls.take (k+1)).flatten.length=(Ls.take k).flatten.length+n):=by
     show _=_;rw[in_flat_next hkl,List.length_append,hsr.len]
    have hb1:(Ls.take k).flatten.length+n≤1000:=by
     have h1:=in_flat_le (Ls:=Ls) (k+1);have h2:=HS.out;have h3:=HT.out;omega
    generalize (Ls.take k).flatten.length=z at *
    clear hsr;go_wp2;go_roundw
    case rel=>exact⟨k+1,by omega,by go_num,by rw[HT.out];go_num,by simp⟩
    case measure=>simp[intOf];omega
   obtain rfl:k=m:=by omega
   go_wp2_with fail
   go_meet
   case rel=>exact⟨by rw[←HM.out,List.take_length,HN.out],rfl⟩
 case rest =>
  obtain⟨rfl,rfl⟩:=hcut
  go_wp2_with fail
  refine (in_grow_nil N _ hN2).mono ?_;rintro e w1 ⟨v,rfl,hown,hB⟩;have HO:Hid (w1.ownsRow wc.heap.size 3 1 v 0 []):=hown;have HB:Hid (Below wc.heap.size wc w1):=hB;clear hown hB;go_wp2
  go_loopw [6,27] (fun u i wr=>∃k:Nat,k≤m∧i=.int i64 k∧wr.ownsRow wc.heap.size 3 1 u (Ls.take k).flatten.length (cellsG inE (Ls.take k).flatten)∧Below wc.heap.size wc wr) (fun _ i _=>m-(intOf i).toNat)
  case atStart=>exact⟨0,by omega,rfl,HO.out,HB.out⟩
  case round =>
   obtain⟨k,hk,rfl,hown,hB⟩:=hrel;have HOW:Hid (wr.ownsRow wc.heap.size 3 1 u6 (Ls.take k).flatten.length (cellsG inE (Ls.take k).flatten)):=hown;have HBW:Hid (Below wc.heap.size wc wr):=hB;clear hown;by_cases hlt:k<m
   ·have hkl:k<Ls.length:=by rw[HM.out];exact hlt
    obtain⟨ao,n,cap2,q0,hsr⟩:=(HC.out.later hB) k hkl;have HSR:Hid (GS inE wr (.slice ao n cap2) Ls[k]):=hsr;have HL1:Hid ((Ls.take k).flatten.length+Ls[k].length≤1000000):=by
     have h1:=in_flat_le (Ls:=Ls) (k+1);rw[in_flat_next hkl,List.length_append] at h1;have h2:=HS.out;show _≤_;omega
    clear hsr hB
    go_wp2_with (at_builtin;refine in_append _ rfl _ _ 40 rfl underlying40 wc.heap.size _ rfl _ HOW.out _ rfl _ HSR.out HL1.out HBW.out.size ?_)
    intro v' w3 hown3 hgrow;have HO5:Hid (w3.ownsRow wc.heap.size 3 1 v' (Ls.take (k+1)).flatten.length (cellsG inE (Ls.take (k+1)).flatten)):=by
     show w3.ownsRow _ _ _ _ _ _;rw[in_flat_next hkl,show ((Ls.take k).flatten++Ls[k]).length=(List.take k (List.map List.length Ls)).sum+Ls[k].length by simp];exact hown3
    have HB5:Hid (Below wc.heap.size wc w3):=HBW.out.grown hgrow HBW.out.size (fun g hg=>(HOW.out.lt g hg).1);clear hown3 hgrow q0;go_wp2;go_roundw
    case rel=>exact⟨k+1,by omega,by go_num,HO5.out,HB5.out⟩
    case measure=>simp[intOf];omega
   obtain rfl:k=m:=by omega
   go_wp2;go_ret;refine⟨_,rfl,?_,HBW.out⟩;have:=HOW.out;rw[←HM.out,List.take_length] at this;exact this
theorem in_ptd {W:World}{a1:AdQ}{n1 c1:Nat}{L1:List Int}(t:TypeId)(h1:GS inE W (.slice a1 n1 c1) L1):inPt (W.alloc (.cells #[.slice a1 n1 c1] t)) W.heap.size 0 [L1]:=by
 have hb:Below W.heap.size W (W.alloc (.cells #[.slice a1 n1 c1] t)):=(bRQ _ _).alloc (nLQ _) _;intro i hi
 match i,hi with
 | 0,_=>exact⟨a1,n1,c1,by simp,h1.later hb⟩
theorem pleft_any {p B0:Nat}{O:Nat→Prop}{D:DrT}{K:Nat}(w:World)(h:Pd w p B0 O D)(hok:DrOK D K):
 Calls prog 8 #[.pointer (some ⟨p,0,none⟩)] w fun e w'=>∃a1 n1 c1,e=.returned (.slice a1 n1 c1)∧GS inE w' (.slice a1 n1 c1) D.l∧(∀ad,a1=some ad→w.heap.size≤ad.block)∧Below w.heap.size w w':=by
 obtain⟨xr,vd,t,B1,M,h,_⟩:=h;obtain⟨ao,c,e0⟩:=own_form h.l;have hs:GS inE w vd D.l:=h.gl;have c3:=h.c3;have hd:D.l.length≤1000:=by have:=hok.six;omega
 rw[e0] at hs c3;obtain⟨n,hn⟩:∃n,n=D.l.length:=⟨_,rfl⟩;rw[←hn] at hs c3;have hpl:=h.pl;have HP:Hid (inPt (w.alloc (.cells #[.slice ao n c] 40)) w.heap.size 0 [D.l]):=in_ptd 40 hs;have HB0:Hid (Below w.heap.size w (w.alloc (.cells #[.slice ao n c] 40))):=(bRQ _ _).alloc (nLQ _) _;have HL:Hid ([D.l].flatten.length≤1000):=by show _≤1000;simpa using hd
 obtain⟨L,hte⟩:∃L,L=D.l:=⟨_,rfl⟩;rw[←hte] at HP HL ⊢;clear h hs hd hte e0 hn hok;go_enter func8,ntmps8
 go_wp2_with fail
 refine (in_concat _ 0 1 1 [L] _ rfl (by omega) HP.out HL.out).mono ?_;rintro e w1 ⟨u,rfl,hown,hb1⟩;have e1:[L].flatten=L:=by simp
 rw[e1] at hown;obtain⟨ao3,cap3,rfl⟩:=own_form hown;have HS1:Hid (GS inE w1 (.slice ao3 L.length cap3) L):=own_GS (E:=inE) hown;have HN1:Hid (∀ad,ao3=some ad→w.heap.size≤ad.block):=fun ad ha=>by
  subst ha;exact Nat.le_trans HB0.out.size (hown.lt ad.block rfl).1
 have HB1:Hid (Below w.heap.size w w1):=HB0.out.trans (hb1.mono HB0.out.size);clear hown hb1 HP HL e1;obtain⟨n3,hn3⟩:∃n3,n3=L.length:=⟨_,rfl⟩;rw[←hn3] at HS1 ⊢;clear hn3;go_wp2;go_ret;exact⟨_,_,_,rfl,HS1.out,HN1.out,HB1.out⟩
theorem pround_any {p B0:Nat}{O:Nat→Prop}{D:DrT}(w:World)(h:Pd w p B0 O D):
 Calls prog 11 #[.pointer (some ⟨p,0,none⟩)] w fun e w'=>e=.returned (.int i64 (D.s:Int))∧Below w.heap.size w w':=by
 obtain⟨xr,vd,t,B1,M,h,_⟩:=h;have c2:=h.c2;obtain⟨s,hs⟩:∃s:Int,s=(D.s:Int):=⟨_,rfl⟩;rw[←hs] at c2 ⊢;clear h hs;go_enter func11,ntmps11;go_wp2;go_ret;exact⟨rfl,bRQ _ _⟩
theorem pddone_any {p B0:Nat}{O:Nat→Prop}{D:DrT}{K:Nat}(w:World)(h:Pd w p B0 O D)(hok:DrOK D K):
 Calls prog 10 #[.pointer (some ⟨p,0,none⟩)] w fun e w'=>e=.returned (.bool (doneD D))∧Below w.heap.size w w':=by
 obtain⟨⟨ar,nr,cr⟩,vd,t,B1,M,h,_⟩:=h;obtain⟨al,cl,e0⟩:=own_form h.l;obtain⟨nl,hnl⟩:∃nl,nl=D.l.length:=⟨_,rfl⟩;rw[←hnl] at e0;subst e0;have hr:D.L.length=nr:=(h.r w (Kb.refl _ _)).len;obtain⟨s,hs⟩:∃s:Int,s=(D.s:Int):=⟨_,rfl⟩;obtain⟨r,hr2⟩:∃r:Int,r=(nr:Int):=⟨_,rfl⟩;have HM:Hid (doneD D=(decide ((nl:Int)=0)&&decide (s=(nr:Int)))):=by
  show _=_;rw[doneD,emp_iff hnl.symm,hr]
  congr 1
  by_cases e:D.s=nr
  ·rw[decide_eq_true (by omega)];simpa using e
  rw[decide_eq_false (by omega)];simpa using e
 rw[HM.out];have c0:w.cell? ⟨p,0,none⟩=some (.slice ar nr cr):=h.c0;have c2:w.cell? ⟨p,2,none⟩=some (.int i64 s):=by rw[hs];exact h.c2
 have c3:w.cell? ⟨p,3,none⟩=some (.slice al nl cl):=h.c3;clear h hr hs hr2 HM hnl hok;by_cases h0:s=(nr:Int)
 ·have hb2:(s==(nr:Int))=true:=by simp[h0]
  go_enter func10,ntmps10;go_wp2
  go_quiet (fail)
  go_wp2;go_ret;have e2:((nl:Int)==0)=decide ((nl:Int)=0):=rfl;exact⟨by rw[e2];simp[h0],below_drwN _ _⟩
 have hb2:(s==(nr:Int))=false:=beq_false_of_ne h0;go_enter func10,ntmps10;go_wp2
 go_quiet (fail)
 go_wp2;go_ret;exact⟨by simp[h0],below_drwN _ _⟩
theorem pdvt_nil {w w':World}{p B0:Nat}{O:Nat→Prop}{D':DrT}(h:Pd w' p B0 O D')(hk:Kb (fun b=>¬O b) w w'):DvT Pd w p B0 O D' [] (.returned (.slice none 0 0)) w':=
 ⟨none,0,0,rfl,GS.nil _,(fun _ h=>by cases h),O,h,fun b h=>.inl h,(fun _ h=>by cases h),hk⟩
theorem tw_next {D:DrT}{t:Nat}(h:TwOK D t)(hw:1≤D.W):((t:Int)+1<D.W→TwOK (tkS D) (t+1)∧tkA D=[])∧(¬(t:Int)+1<D.W→TwOK (tkS D) 0∧tkA D=saD (tkS D)):=by
 obtain⟨h1,h2⟩:=h;by_cases he:D.l=[]
 ·have e1:tkS D=D:=by rw[tkS,he];rfl
  have e2:tkA D=[]:=by rw[tkA,he];rfl
  rw[e1,e2];refine⟨fun h3=>⟨⟨by push_cast;exact h3,.inl he⟩,rfl⟩,fun h3=>⟨⟨by omega,.inl he⟩,?_⟩⟩;rw[saD,he];rfl
 have h4:(t:Int)=(D.k:Int) % D.W:=h2.resolve_left he;have hi:D.l.isEmpty=false:=by
  cases hl:D.l with
  | nil=>exact absurd hl he
  | cons x l=>rfl
 have e1:tkS D={ D with k:=D.k+1 }:=by rw[tkS,hi];rfl
 have e2:tkA D=if ((D.k+1:Nat):Int) % D.W=0 then saD D else []:=by rw[tkA,hi];rfl
 have e3:((D.k+1:Nat):Int) % D.W=((t:Int)+1) % D.W:=by
  rw[h4]
  push_cast
  rw[Int.emod_add_emod]
 have e4:saD (tkS D)=saD D:=by rw[e1];rfl
 rw[e2,e3,e4,e1];refine⟨fun h3=>?_,fun h3=>?_⟩
 ·have h5:((t:Int)+1) % D.W=(t:Int)+1:=Int.emod_eq_of_lt (by omega) h3;refine⟨⟨by push_cast;exact h3,.inr ?_⟩,?_⟩
  ·show ((t+1:Nat):Int)=((D.k+1:Nat):Int) % D.W;rw[e3,h5]
   push_cast
   rfl
  rw[h5,if_neg (by omega)]
 have h5:(t:Int)+1=D.W:=by omega
 have h6:((t:Int)+1) % D.W=0:=by rw[h5];exact Int.emod_self
 refine⟨⟨by show ((0:Nat):Int)<D.W;omega,.inr ?_⟩,by rw[if_pos h6]⟩;show ((0:Nat):Int)=((D.k+1:Nat):Int) % D.W;rw[e3,h6];rfl
theorem ptick_any {p B0:Nat}{O:Nat→Prop}{D:DrT}{K:Nat}(w:World)(h:Pd w p B0 O D)(hok:DrOK D K):
 Calls prog 15 #[.pointer (some ⟨p,0,none⟩)] w fun e w'=>DvT Pd w p B0 O (tkS D) (tkA D) e w':=by
 obtain⟨xr,vd,t,B1,M,h,htw⟩:=h;have hw1:=hok.w;have hn:=tw_next htw hw1.1;have ht:=htw.1;have e1:tkS D={ D with k:=(tkS D).k }:=by
  unfold tkS
  split <;> rfl
 obtain⟨D1,hD1⟩:∃D1,D1=tkS D:=⟨_,rfl⟩;obtain⟨A,hA⟩:∃A,A=tkA D:=⟨_,rfl⟩;have HOK:Hid (DrOK D1 (K+1)):=by show DrOK _ _;rw[hD1];exact dk_tk hok
 rw[←hD1,←hA] at hn ⊢;rw[←hD1] at e1;obtain⟨q,hq⟩:∃q:Int,q=(t:Int)+1:=⟨_,rfl⟩;obtain⟨z,hz⟩:∃z:Int,z=(t:Int):=⟨_,rfl⟩;obtain⟨T,hTW⟩:∃T:Int,T=D.W:=⟨_,rfl⟩;have c4:w.cell? ⟨p,4,none⟩=some (.int i64 z):=by rw[hz];exact h.c4
 have f4:=h.f 4;have hwr:IntKind.i64.wrap (z+1)=q:=by rw[IntKind.wrap_i64];omega
 have h1:PdC (w.setCell ⟨p,4,none⟩ (.int i64 q)) p B0 O D1 xr vd (t+1) B1 M:=by
  have h2:=h.set4 (t+1) D1.k;rw[←e1] at h2;have e2:((t+1:Nat):Int)=q:=by rw[hq];push_cast;rfl
  rw[e2] at h2;exact h2
 have HK1:Hid (Kb (fun b=>¬O b) w (w.setCell ⟨p,4,none⟩ (.int i64 q))):=(Kb.refl _ _).setCell (fun _ hn=>hn h.pO) _;have d1:(w.setCell ⟨p,4,none⟩ (.int i64 q)).cell? ⟨p,1,none⟩=some (.int i64 T):=by
  rw[hTW];exact cl_off h.c1 (by omega) _
 obtain⟨w1,hw1'⟩:∃V,V=w.setCell ⟨p,4,none⟩ (.int i64 q):=⟨_,rfl⟩;have HW1:Hid (w.setCell ⟨p,4,none⟩ (.int i64 q)=w1):=hw1'.symm;rw[←hw1'] at h1 HK1 d1;have d4:w1.cell? ⟨p,4,none⟩=some (.int i64 q):=by
  rw[hw1'];exact World.cell?_setCell_same _ _ _ c4
 have HH:Hid (PdC w1 p B0 O D1 xr vd (t+1) B1 M):=h1;by_cases hlt:q<T
 ·obtain⟨hn1,hn2⟩:=hn.1 (by omega);have HF:Hid (DvT Pd w p B0 O D1 A (.returned (.slice none 0 0)) w1):=by
   show DvT _ _ _ _ _ _ _ _ _;rw[hn2];exact pdvt_nil ⟨_,_,_,_,_,HH.out,hn1⟩ HK1.out
  have HF2:Hid (∀n,DvT Pd w p B0 O D1 A (.returned (.slice none 0 0)) (w1.drewN n)):=fun n=>by
   rw[hn2];exact pdvt_nil ⟨_,_,_,_,_,HH.out.later (below_drwN _ _),hn1⟩ (HK1.out.trans (Kb.of_below (below_drwN _ _) fun b hl _=>hl))
  clear h hok hw1 hn ht e1 hD1 hA hq hz hTW hw1' h1 htw hn1 hn2;go_enter func15,ntmps15;go_upto_region 2 with fail;rw[HW1.out];clear HW1
  go_quiet (fail)
  go_wp2;go_ret;exact HF2.out _
 obtain⟨hn1,hn2⟩:=hn.2 (by omega);have HT0:Hid (TwOK D1 0):=hn1;have HA:Hid (A=saD D1):=hn2;have g4:=h1.f 4;have HH2:Hid (∀V,Below w1.heap.size w1 V→PdC (V.setCell ⟨p,4,none⟩ (.int i64 0)) p B0 O D1 xr vd 0 B1 M):=fun V hV=>(h1.later hV).set4 0 D1.k
 have HPO:Hid (O p):=h.pO;have HLT:Hid (∀b,O b→b<w.heap.size):=fun b hb=>(h.lt b hb).2
 have HSZ:Hid (w1.heap.size=w.heap.size):=show _=_ by rw[hw1'];exact set_size _ _ _
 clear h hok hw1 hn ht e1 hD1 hA hq hz hTW hw1' h1 htw hn1 hn2;go_enter func15,ntmps15;go_upto_region 2 with fail;rw[HW1.out];clear HW1
 go_quiet (fail)
 have HB2:Hid (Below w1.heap.size w1 (w1.drewN nq)):=below_drwN _ _;obtain⟨w2,hw2⟩:∃V,V=w1.drewN nq:=⟨_,rfl⟩;rw[←hw2] at HB2 ⊢;have k4:=cell_later HB2.out d4;have kf4:w2.frozen? ⟨p,4,none⟩=false:=by rw[hw2];exact g4
 have h3:=HH2.out _ HB2.out;obtain⟨w3,hw3⟩:∃V,V=w2.setCell ⟨p,4,none⟩ (.int i64 0):=⟨_,rfl⟩;have HW3:Hid (w2.setCell ⟨p,4,none⟩ (.int i64 0)=w3):=hw3.symm;rw[←hw3] at h3;have HK3:Hid (Kb (fun b=>¬O b) w w3):=by
  show Kb _ _ _;rw[hw3];exact (HK1.out.trans (Kb.of_below HB2.out fun b hl _=>hl)).setCell (fun _ hn=>hn HPO.out) _
 have HH3:Hid (PdC w3 p B0 O D1 xr vd 0 B1 M):=h3;clear hw2 hw3 h3 d1 d4 c4 f4;go_upto_region 5 with fail;rw[HW3.out];clear HW3 k4 kf4
 go_wp2_with fail
 refine (psay_any _ HH3.out HOK.out).mono ?_;rintro e w4 ⟨a1,n1,c1,rfl,hg,hn,hb⟩;have HF:Hid (DvT Pd w p B0 O D1 A (.returned (.slice a1 n1 c1)) w4):=by
  show DvT _ _ _ _ _ _ _ _ _;rw[HA.out];have hsz:=HK3.out.size;refine⟨a1,n1,c1,rfl,hg,fun ad ha=>Nat.le_trans hsz (hn ad ha),O,⟨_,_,_,_,_,HH3.out.later hb,HT0.out⟩,fun b h=>.inl h,fun ad ha h=>?_,HK3.out.trans (Kb.of_below hb fun b hl _=>hl)⟩;have h3:=hn ad ha;have h4:=HLT.out _ h;omega
 clear hg hn hb;go_wp2;go_ret;exact HF.out
end
section
open Go.ChangeShapes Go.WideShapes Go.ChangeAt Go.RowKit Go.Joins
def hopE:Enc ((Int×Int)×Int) where
 c:=fun x=>[.int i64 x.1.1,.int i64 x.1.2,.int i64 x.2]
 n:=3
 len:=fun _=>rfl
 pos:=by decide
 one:=by
  intro x u hu;simp at hu
  rcases hu with rfl | rfl | rfl <;> rfl
end
section
open Go.RowKit
structure Wi where
 k:Int
 f:ByteArray
 t:ByteArray
 v:Int
section
variable (Ls:LkQ)(Hs:HoQ)(Ts:TsQ)
end
section
variable {Ls:LkQ}{Hs:HoQ}{Ts:TsQ}
variable {Xs:HoQ}
variable {l:List Wi}
end
abbrev Ft:=Int×ByteArray×HpQ
section
variable {l:List Wi}{m:ByteArray}
end
section
variable {l:List Wi}{Hs:HoQ}{Fs:Nat→Nat→List Ft}
end
section
variable {Ls:LkQ}{Hs:HoQ}{Ts:TsQ}{Xs:HoQ}{l:List Wi}
end
end
section
open Go.RowKit Go.Shelf
attribute [local go_sem] Oper.semAt_some
theorem GS.kb {α:Type}{E:Enc α}{W W':World}{v:Value}{L:List α}{p:Nat→Prop}(h:GS E W v L)(hk:Kb p W W')(hp:∀q u,W.cell? q=some u→p q.block):GS E W' v L:=by
 rcases h with ⟨ao',cap',e,rfl⟩ | ⟨g,o,cap',e,h1,h2,h3⟩
 ·exact .inl ⟨ao',cap',e,rfl⟩
 exact .inr ⟨g,o,cap',e,h1,h2,fun i hi j u hu=>hk.at (h3 i hi j u hu) (hp _ _ (h3 i hi j u hu))⟩
end
section
open Go.RowKit Go.Shelf
attribute [local go_sem] Oper.semAt_some
theorem own_kbm {W W':World}{B e size n:Nat}{v:Value}{xs:List Value}{p:Nat→Prop}(h:W.ownsRow B e size v n xs)(hk:Kb p W W')(hp:∀g,v.ownBlock=some g→p g):W'.ownsRow B e size v n xs:=by
 refine⟨h.1,?_⟩
 rcases h.2 with ⟨rfl,rfl⟩ | ⟨g,cap,cur,rfl,h1,hg,h2⟩
 ·exact .inl ⟨rfl,rfl⟩
 exact .inr ⟨g,cap,cur,rfl,h1,(hk.block g (Array.getElem?_eq_some_iff.1 hg).1 (hp g rfl)).trans hg,h2⟩
section
variable {l lo n₀:Nat}{J:Nat→(Nat→Prop)→World→Prop}{Jx:World→Prop}{L:List Ft}{w:World}{vo vy:Value}{m:Nat}{Ls:LkQ}{Hs:HoQ}{As Bs:TsQ}
end
end
section
open Go.RowKit
theorem hid_len2 {α:Type}{l:List α}{x:α}{k:Nat}(h:l.length=k):(l++[x]).length=k+1:=by simp[h]
end
section
open Go.RowKit Go.Lib
theorem cu_all (d:Array Int)(hd:∀i,i+1<d.size→d[i]! ≤ d[i+1]!):∀m,m≤d.size→Ris ltI (compactUpTo d m)∧(∀x∈compactUpTo d m,0<m∧x≤d[m-1]!)∧(∀j,j<m→d[j]! ∈ compactUpTo d m)∧(∀x∈compactUpTo d m,∃j,j<m∧d[j]! = x)
 | 0,_=>by
   have e:compactUpTo d 0=[]:=rfl;rw[e];exact⟨List.Pairwise.nil,fun x h=>by simp at h,fun j h=>absurd h (by omega),fun x h=>by simp at h⟩
 | m+1,hm=>by
   obtain⟨h1,h2,h3,h4⟩:=cu_all d hd m (by omega);rw[compactUpTo_succ,show m+1-1=m by omega];cases hk:keeps d m
   ·have hk2:¬(m=0∨d[m]! ≠ d[m-1]!):=of_decide_eq_false hk;rw[not_or] at hk2;have e:d[m]! = d[m-1]! := Classical.not_not.1 hk2.2;simp only[Bool.false_eq_true,if_false,List.append_nil];refine⟨h1,fun x hx=>⟨by omega,by rw[e];exact (h2 x hx).2⟩,fun j hj=>?_,fun x hx=>?_⟩
    ·by_cases ej:j=m
     ·rw[ej,e];exact h3 (m-1) (by omega)
     exact h3 j (by omega)
    obtain⟨j,hj,e2⟩:=h4 x hx;exact⟨j,by omega,e2⟩
   have hk2:m=0∨d[m]! ≠ d[m-1]! := of_decide_eq_true hk;have hlt:∀x∈compactUpTo d m,x<d[m]! := fun x hx=>by
    obtain⟨h0,hle⟩:=h2 x hx;have h5:=hd (m-1) (by omega);rw[show m-1+1=m by omega] at h5;have h6:d[m]! ≠ d[m-1]! := hk2.resolve_left (by omega);omega
   simp only[if_true];refine⟨?_,fun x hx=>⟨by omega,?_⟩,fun j hj=>?_,fun x hx=>?_⟩
   ·unfold Ris at h1 ⊢;rw[List.pairwise_append];refine⟨h1,List.pairwise_singleton _ _,fun x hx y hy=>?_⟩;obtain rfl:y=d[m]! := by simpa using hy
    simpa[ltI] using hlt x hx
   ·rcases List.mem_append.1 hx with hx | hx
    ·have:=hlt x hx;omega
    have:x=d[m]! := by simpa using hx
    omega
   ·by_cases ej:j=m
    ·rw[ej];simp
    exact List.mem_append_left _ (h3 j (by omega))
   rcases List.mem_append.1 hx with hx | hx
   ·obtain⟨j,hj,e2⟩:=h4 x hx;exact⟨j,by omega,e2⟩
   have e2:x=d[m]! := by simpa using hx
   exact⟨m,by omega,e2.symm⟩
theorem cu_touch (l:List Op8):compact ((l.map fun o=>o.w).mergeSort fun x y=>decide (x≤y))=tcL l:=by
 obtain⟨L,hL⟩:∃L,L=(l.map fun o=>o.w).mergeSort fun x y=>decide (x≤y):=⟨_,rfl⟩
 have hp:L.Perm (l.map fun o=>o.w):=by rw[hL];exact List.mergeSort_perm _ _
 have hs:L.Pairwise (fun x y=>decide (x≤y)=true):=by
  rw[hL];exact List.pairwise_mergeSort (fun a b c h1 h2=>by simp at *;omega) (fun a b=>by simp;omega) _
 rw[←hL];have hsz:L.toArray.size=L.length:=by simp
 have hd:∀i,i+1<L.toArray.size→L.toArray[i]! ≤ L.toArray[i+1]! := fun i hi=>by
  rw[getElem!_pos L.toArray i (by omega),getElem!_pos L.toArray (i+1) hi];have:=List.pairwise_iff_getElem.1 hs i (i+1) (by omega) (by omega) (by omega);simpa using this
 obtain⟨h1,_,h3,h4⟩:=cu_all L.toArray hd L.length (by omega);refine ris_ext lo_ltI h1 (tc_ris l [] List.Pairwise.nil) (fun x=>?_);rw[tcL,tc_mem];constructor
 ·intro hx;obtain⟨j,hj,e⟩:=h4 x hx;rw[getElem!_pos L.toArray j (by omega)] at e;have hm:x∈L:=by
   rw[←e];simp
  rw[hp.mem_iff,List.mem_map] at hm;exact .inr hm
 rintro (h | h)
 ·simp at h
 have hm:x∈L:=by
  rw[hp.mem_iff,List.mem_map];exact h
 obtain⟨j,hj,e⟩:=List.getElem_of_mem hm;have:=h3 j hj;rw[getElem!_pos L.toArray j (by omega)] at this;simp only[List.getElem_toArray] at this;rw[e] at this;exact this
end
section
open Go.Shelf
def sortInt_ren:Go.Shelf.Ren:=⟨fun | 189=>40 | 125=>56 | 257=>55 | 128=>72 | 129=>73 | 294=>63 | 295=>64 | 296=>65 | 297=>66 | 298=>67 | 299=>68 | 216=>69 | 300=>70 | 301=>71 | 328=>74 | 329=>75 | 330=>76 | 331=>77 | 332=>78 | 215=>79 | 343=>80 | n=>n,fun | 28=>40 | 3=>3 | 46=>106 | 0=>0 | 51=>132 | 53=>134 | 4=>4 | 183=>125 | 182=>124 | 131=>129 | 5=>5 | 9=>9 | 218=>135 | 222=>139 | 228=>141 | 229=>142 | n=>n,fun | n=>n⟩
theorem sortInt:Go.Proofs.Lays.n189 prog sortInt_ren:={
 mixed:=by kernel_rfl
 f125:=func56.trans (congrArg some (by kernel_rfl))
 f128:=func72.trans (congrArg some (by kernel_rfl))
 f129:=func73.trans (congrArg some (by kernel_rfl))
 f189:=func40.trans (congrArg some (by kernel_rfl))
 f215:=func79.trans (congrArg some (by kernel_rfl))
 f216:=func69.trans (congrArg some (by kernel_rfl))
 f257:=func55.trans (congrArg some (by kernel_rfl))
 f294:=func63.trans (congrArg some (by kernel_rfl))
 f295:=func64.trans (congrArg some (by kernel_rfl))
 f296:=func65.trans (congrArg some (by kernel_rfl))
 f297:=func66.trans (congrArg some (by kernel_rfl))
 f298:=func67.trans (congrArg some (by kernel_rfl))
 f299:=func68.trans (congrArg some (by kernel_rfl))
 f300:=func70.trans (congrArg some (by kernel_rfl))
 f301:=func71.trans (congrArg some (by kernel_rfl))
 f328:=func74.trans (congrArg some (by kernel_rfl))
 f329:=func75.trans (congrArg some (by kernel_rfl))
 f330:=func76.trans (congrArg some (by kernel_rfl))
 f331:=func77.trans (congrArg some (by kernel_rfl))
 f332:=func78.trans (congrArg some (by kernel_rfl))
 f343:=func80.trans (congrArg some (by kernel_rfl))
 t0:=underlying0
 a0:=Tryd.isAgg0
 z0:=Tryd.sizeOf0
 v0:=Tryd.zeroValue0
 t3:=underlying3
 a3:=Tryd.isAgg3
 z3:=Tryd.sizeOf3
 v3:=Tryd.zeroValue3
 t4:=underlying4
 a4:=Tryd.isAgg4
 z4:=Tryd.sizeOf4
 v4:=Tryd.zeroValue4
 t5:=underlying5
 a5:=Tryd.isAgg5
 z5:=Tryd.sizeOf5
 v5:=Tryd.zeroValue5
 t9:=underlying9
 a9:=Tryd.isAgg9
 z9:=Tryd.sizeOf9
 v9:=Tryd.zeroValue9
 t28:=underlying40
 a28:=Tryd.isAgg40
 z28:=Tryd.sizeOf40
 v28:=Tryd.zeroValue40
 t46:=underlying106
 a46:=Tryd.isAgg106
 z46:=Tryd.sizeOf106
 v46:=Tryd.zeroValue106
 t51:=underlying132
 a51:=Tryd.isAgg132
 z51:=Tryd.sizeOf132
 v51:=Tryd.zeroValue132
 t53:=underlying134
 a53:=Tryd.isAgg134
 z53:=Tryd.sizeOf134
 v53:=Tryd.zeroValue134
 t131:=underlying129
 a131:=Tryd.isAgg129
 z131:=Tryd.sizeOf129
 v131:=Tryd.zeroValue129
 t182:=underlying124
 a182:=Tryd.isAgg124
 z182:=Tryd.sizeOf124
 v182:=Tryd.zeroValue124
 t183:=underlying125
 a183:=Tryd.isAgg125
 z183:=Tryd.sizeOf125
 v183:=Tryd.zeroValue125
 t218:=underlying135
 a218:=Tryd.isAgg135
 z218:=Tryd.sizeOf135
 v218:=Tryd.zeroValue135
 t222:=underlying139
 a222:=Tryd.isAgg139
 z222:=Tryd.sizeOf139
 v222:=Tryd.zeroValue139
 t228:=underlying141
 a228:=Tryd.isAgg141
 z228:=Tryd.sizeOf141
 v228:=Tryd.zeroValue141
 t229:=underlying142
 a229:=Tryd.isAgg142
 z229:=Tryd.sizeOf142
 v229:=Tryd.zeroValue142 }
def compactInt_ren:Go.Shelf.Ren:=⟨fun | 20=>41 | n=>n,fun | 22=>40 | 3=>3 | 4=>4 | 0=>0 | n=>n,fun | n=>n⟩
theorem compactInt:Go.Proofs.Lays2.n20 prog compactInt_ren:={
 mixed:=by kernel_rfl
 f20:=func41.trans (congrArg some (by kernel_rfl))
 t0:=underlying0
 a0:=Tryd.isAgg0
 z0:=Tryd.sizeOf0
 v0:=Tryd.zeroValue0
 t3:=underlying3
 a3:=Tryd.isAgg3
 z3:=Tryd.sizeOf3
 v3:=Tryd.zeroValue3
 t4:=underlying4
 a4:=Tryd.isAgg4
 z4:=Tryd.sizeOf4
 v4:=Tryd.zeroValue4
 t22:=underlying40
 a22:=Tryd.isAgg40
 z22:=Tryd.sizeOf40
 v22:=Tryd.zeroValue40
 i3:=by kernel_rfl }
end
section
open Go.RowKit Go.Shelf Go.Sort
theorem holds_ints {w:World}{B e g cap:Nat}{L:List Int}(ho:w.ownsRow B e inE.n (.slice (some ⟨g,0,none⟩) L.length cap) L.length (cellsG inE L)):Holds (Value.int i64) w g 0 L.toArray:=by
 intro j hj;have hj2:j<L.length:=by simpa using hj
 refine⟨?_,?_⟩
 ·rw[Nat.zero_add,ho.cellAt j (by show j<L.length*1;omega)];have h1:=cellsG_at (E:=inE) L j hj2 0 (by decide);have e1:j*inE.n+0=j:=by show j*1+0=j;omega
  rw[e1] at h1;rw[h1,getElem!_pos L.toArray j hj];rfl
 rw[Nat.zero_add];exact ho.frozenAt j
theorem below_row {base:Nat}{w:World}(g off m:Nat)(d:Array Int)(os:Array Obj)(hg:base≤g)(hb:base≤w.heap.size):Below base w (grow (putRow (Value.int i64) (Sort.ahead w m) g off d) os):=by
 have hs:(putRow (Value.int i64) (Sort.ahead w m) g off d).heap.size=w.heap.size:=by simp
 refine⟨rfl,rfl,rfl,?_,fun j hj=>?_⟩
 ·show w.heap.size≤((putRow (Value.int i64) (Sort.ahead w m) g off d).heap++os).size;rw[Array.size_append,hs];omega
 show ((putRow (Value.int i64) (Sort.ahead w m) g off d).heap++os)[j]?=_;rw[Array.getElem?_append_left (by rw[hs];omega)];show ((w.heap).modify g _)[j]?=_;rw[Array.getElem?_modify,if_neg (by omega)]
theorem holds_row {w:World}{g m:Nat}{d0 d:Array Int}{os:Array Obj}(h:Holds (Value.int i64) w g 0 d0)(hs:d.size=d0.size):Holds (Value.int i64) (grow (putRow (Value.int i64) (Sort.ahead w m) g 0 d) os) g 0 d:=by
 have h2:=holds_putRow (Value.int i64) (Sort.ahead w m) g 0 d0 d (holds_ahead _ w m g 0 d0 h) hs;intro j hj;obtain⟨c1,c2⟩:=h2 j hj;have hl:g<(putRow (Value.int i64) (Sort.ahead w m) g 0 d).heap.size:=bLQ _ _ c1;have e:(grow (putRow (Value.int i64) (Sort.ahead w m) g 0 d) os).heap[g]?=(putRow (Value.int i64) (Sort.ahead w m) g 0 d).heap[g]?:=by
  show ((putRow (Value.int i64) (Sort.ahead w m) g 0 d).heap++os)[g]?=_;rw[Array.getElem?_append_left hl]
 exact⟨(World.cell?_of_block e).trans c1,(World.frozen?_of_block e).trans c2⟩
theorem sort_ints (g cap:Nat)(zs:List Int)(w:World)(hH:Holds (Value.int i64) w g 0 zs.toArray)(hblk:g<w.heap.size)(hsz:zs.length<4611686018427387904):
 Calls prog 40 #[.slice (some ⟨g,0,none⟩) zs.length cap] w fun e w'=>e=.returned (.tuple #[])∧∃n os,w'=grow (putRow (Value.int i64) (Sort.ahead w n) g 0 (zs.mergeSort fun x y=>decide (x≤y)).toArray) os:=Any.slices_Sort_int sortInt g 0 cap zs w hH hblk hsz
theorem sort_none (p:AdQ)(cap:Nat)(w:World):Calls prog 40 #[.slice p 0 cap] w fun e w'=>e=.returned (.tuple #[])∧w'=w:=Any.slices_Sort_int_none sortInt p cap w
theorem comp_ints (g cap:Nat)(zs:List Int)(w:World)(hH:Holds (Value.int i64) w g 0 zs.toArray)(hsz:zs.length≤9223372036854775807)(hcap:zs.length≤cap):
 Calls prog 41 #[.slice (some ⟨g,0,none⟩) zs.length cap] w fun e w'=>e=.returned (.slice (some ⟨g,0,none⟩) (Lib.compact zs).length cap)∧∃q,w'=putRow (Value.int i64) (Sort.ahead w q) g 0 (Lib.compact zs++List.replicate (zs.length-(Lib.compact zs).length) 0).toArray:=Any.slices_Compact_int compactInt g 0 cap zs w hH hsz hcap
theorem comp_none (p:AdQ)(cap:Nat)(w:World):Calls prog 41 #[.slice p 0 cap] w fun e w'=>e=.returned (.slice p 0 cap)∧w'=w:=Any.slices_Compact_int_empty compactInt p cap w
theorem comp_few (zs:List Int):(Lib.compact zs).length≤zs.length:=by
 unfold Lib.compact Lib.compactUpTo;rw[List.length_map];have:=List.length_filter_le (Lib.keeps zs.toArray) (List.range zs.length);rw[List.length_range] at this;exact this
theorem grow_no (w:World):grow w #[]=w:=by simp[grow]
theorem row_obj {w:World}{g off m:Nat}{d:Array Int}{os:Array Obj}{cur:Array Value}{e:TypeId}{fr:Nat×Nat}(h:w.heap[g]?=some (.cells cur e fr)):
 ∃cur',(grow (putRow (Value.int i64) (Sort.ahead w m) g off d) os).heap[g]?=some (.cells cur' e fr)∧cur'.size=cur.size:=by
 have hl:g<w.heap.size:=(Array.getElem?_eq_some_iff.1 h).1;refine⟨putCells (Value.int i64) off d cur,?_,by simp[putCells]⟩;have hs:(putRow (Value.int i64) (Sort.ahead w m) g off d).heap.size=w.heap.size:=by simp
 show ((putRow (Value.int i64) (Sort.ahead w m) g off d).heap++os)[g]?=_;rw[Array.getElem?_append_left (by rw[hs];exact hl)];show ((w.heap).modify g _)[g]?=_;rw[Array.getElem?_modify,if_pos rfl,h];rfl
theorem own_holds {w:World}{B g n cap:Nat}{cur:Array Value}{e:TypeId}{d:Array Int}{L:List Int}(hg:B≤g)(h:w.heap[g]?=some (.cells cur e (0,0)))(hn:n≤cap)(hc:cap≤maxLen)(hs:cur.size=cap)
 (hH:Holds (Value.int i64) w g 0 d) (hL:L.length=n) (hd:∀j x,L[j]?=some x→j<d.size∧d[j]! = x):w.ownsRow B e inE.n (.slice (some ⟨g,0,none⟩) n cap) n (cellsG inE L):=by
 refine⟨by rw[cellsG_len,hL],.inr ⟨g,cap,cur,rfl,hg,h,hn,hc,by show _=cap*1;omega,?_⟩⟩;have e1:n*inE.n=n:=by show n*1=n;omega
 rw[e1,in_cells];refine List.ext_getElem? fun j=>?_
 by_cases hj:j<n
 ·obtain⟨h1,h2⟩:=hd j L[j] (List.getElem?_eq_getElem (by omega));have h3:=(hH j h1).1;rw[Nat.zero_add] at h3;have h4:w.cell? ⟨g,j,none⟩=cur[j]?:=by simp[World.cell?,h]
  rw[List.getElem?_take_of_lt hj,Array.getElem?_toList,←h4,h3,h2,List.getElem?_map,List.getElem?_eq_getElem (by omega)];rfl
 rw[List.getElem?_eq_none (by rw[List.length_take];omega),List.getElem?_eq_none (by rw[List.length_map];omega)]
theorem touched_own (ao:AdQ)(n cap:Nat)(l:List Op8)(w:World)(h:GS opE w (.slice ao n cap) l)(hn0:n≤2199023255552):
 Calls prog 22 #[.slice ao n cap] w fun e w'=>∃a3 m c3,e=.returned (.slice a3 m c3)∧m=(tcL l).length∧w'.ownsRow w.heap.size 3 inE.n (.slice a3 m c3) m (cellsG inE (tcL l))∧Below w.heap.size w w':=by
 obtain⟨_,_,_,e1,hn,hn2,_,ha⟩:=h.form;cases e1;have HN:Hid (l.length=n):=hn;have HA:Hid (0<n→∃g o,ao=some ⟨g,o,none⟩∧GAt opE w g o l∧cap≤maxLen):=ha;obtain⟨i0,hi0,hz0,hz1,hz2⟩:=info_parts infoInt;unfold maxLen at hn2;clear h hn ha;go_enter func22,ntmps22;go_wp2
 go_loopw [3,8] (fun v i wr=>∃k:Nat,k≤n∧i=.int i64 k∧wr.ownsRow w.heap.size 3 inE.n v k (cellsG inE ((l.take k).map fun o=>o.w))∧Below w.heap.size w wr) (fun _ i _=>n-(intOf i).toNat)
 case atStart=>exact⟨0,by omega,rfl,World.ownsRow_nil _ _ _ _,bRQ _ _⟩
 case round =>
  obtain⟨k,hk,rfl,hO,hB⟩:=hrel;obtain⟨wr0,hw0⟩:∃X,X=wr:=⟨_,rfl⟩;subst hw0;have HB:Hid (Below w.heap.size w wr0):=hB;have HKL:Hid (((l.take k).map fun o=>o.w).length=k):=show _=_ by
   rw[List.length_map,List.length_take,HN.out];omega
  obtain⟨a5,c5,hv5⟩:=own_form hO;subst hv5;have HO:Hid (wr0.ownsRow w.heap.size 3 inE.n (.slice a5 k c5) k (cellsG inE ((l.take k).map fun o=>o.w))):=hO;clear hO;by_cases hlt:k<n
  ·obtain⟨g,o,hao,hc,_⟩:=HA.out (by omega);subst hao;obtain⟨x0,x1,x2,x3,x4,x5,x6,x7,hil,hLi,c0,c1,c2,c3,c4,c6,c7,c8⟩:=op_at (hc.later hB) HN.out hlt;have kb0:(0:Int)≤(k:Int):=by omega
   have kb1:(k:Int)<(n:Int):=by omega
   have HTN:Hid (((l.take (k+1)).map fun o=>o.w)=((l.take k).map fun o=>o.w)++[x0]):=show _=_ by
    rw[List.take_succ_eq_append_getElem hil,List.map_append,hLi];rfl
   have hb1:Below w.heap.size w (wr0.alloc (.cells #[.int i64 x0,.bool x1,.int i64 x2,.int i64 x3,.int i64 x4,.int i64 x5,.int i64 x6,.int i64 x7] 37)):=hB.alloc hB.size _;have hr1:=(vat_new wr0 [.int i64 x0,.bool x1,.int i64 x2,.int i64 x3,.int i64 x4,.int i64 x5,.int i64 x6,.int i64 x7] 37) 0 _ rfl;have ho1:=HO.out.alloc (.cells #[.int i64 x0,.bool x1,.int i64 x2,.int i64 x3,.int i64 x4,.int i64 x5,.int i64 x6,.int i64 x7] 37);obtain⟨w1,hw1⟩:∃W,wr0.alloc (.cells #[.int i64 x0,.bool x1,.int i64 x2,.int i64 x3,.int i64 x4,.int i64 x5,.int i64 x6,.int i64 x7] 37)=W:=⟨_,rfl⟩;rw[hw1] at hb1 hr1 ho1;have HW1:Hid (wr0.alloc (.cells #[.int i64 x0,.bool x1,.int i64 x2,.int i64 x3,.int i64 x4,.int i64 x5,.int i64 x6,.int i64 x7] 37)=w1):=hw1;have HB1:Hid (Below w.heap.size w w1):=hb1;have HO1:Hid (w1.ownsRow w.heap.size 3 inE.n (.slice a5 k c5) k (cellsG inE ((l.take k).map fun o=>o.w))):=ho1;simp only[Nat.zero_add] at hr1;clear hB hc hLi hb1 ho1 hw1;go_upto_region 5 with fail;rw[HW1.out];clear HW1
   go_wp2_with (at_builtin;refine wpList_append_blk (E:=inE) _ rfl _ _ 40 3 rfl underlying40 i0 (.int i64 0) 8 hi0 hz0 hz1 hz2 rfl w.heap.size (.slice a5 k c5) rfl ((l.take k).map fun o=>o.w) ?m0 w1.heap.size 0 1 rfl x0 (vat_new w1 [.int i64 x0] 3) ?m1 ?m2 ?m3 ?_)
   case m0=>rw[HKL.out];exact HO1.out.alloc _
   case m1=>rw[HKL.out];unfold maxLen;omega
   case m2=>rw[HKL.out];omega
   case m3=>have:=HB1.out.size;simp;omega
   intro v2 w2 ho2 hg2 _;have HB2:Hid (Below w.heap.size w w2):=(HB1.out.alloc HB1.out.size _).grown hg2 (by have:=HB1.out.size;simp;omega) (fun g hg=>(HO1.out.lt g hg).1);have HO2:Hid (w2.ownsRow w.heap.size 3 inE.n v2 (k+1) (cellsG inE ((l.take (k+1)).map fun o=>o.w))):=show World.ownsRow _ _ _ _ _ _ _ by
    rw[HTN.out];have e:(((l.take k).map fun o=>o.w)++[x0]).length=k+1:=hid_len2 HKL.out;rw[←e];simpa using ho2
   clear ho2 hg2 hr1 c0 c1 c2 c3 c4 c6 c7 c8;go_wp2;go_roundw
   case rel=>exact⟨k+1,by omega,by go_num,HO2.out,HB2.out⟩
   case measure=>simp[intOf];omega
  obtain rfl:k=n:=by omega
  have HALL:Hid (((l.take k).map fun o=>o.w)=l.map fun o=>o.w):=show _=_ by rw[←HN.out,List.take_length]
  clear hB
  rcases HO.out with ⟨_,⟨hv,hk0⟩ | ⟨g,cp,cur,hv,hg,hcur,hnc,hcm,hcs,_⟩⟩
  ·cases hv;have HT0:Hid (tcL l=[]):=show _=_ by
    have:l=[]:=List.length_eq_zero_iff.1 HN.out;rw[this];rfl
   go_wp2_with fail
   refine (sort_none none 0 _).mono ?_;rintro e w2 ⟨rfl,hw2⟩;rw[hw2];clear hw2 w2
   go_wp2_with fail
   refine (comp_none none 0 _).mono ?_;rintro e w2 ⟨rfl,hw2⟩;rw[hw2];clear hw2 w2;go_wp2;go_ret;exact⟨none,0,0,rfl,by rw[HT0.out];rfl,by rw[HT0.out];exact World.ownsRow_nil _ _ _ _,HB.out⟩
  cases hv;have hH:=holds_ints (L:=l.map fun o=>o.w) (by rw[←HALL.out,HKL.out];exact HO.out);have hgl:g<wr0.heap.size:=by
   have:=(Array.getElem?_eq_some_iff.1 hcur).1;exact this
  have HCU:Hid (wr0.heap[g]?=some (.cells cur 3 (0,0))∧cur.size=c5):=⟨hcur,by rw[hcs];show c5*1=c5;omega⟩;clear hcs;have HLL:Hid ((l.map fun o=>o.w).length=k):=show _=_ by rw[List.length_map,HN.out]
  have HH:Hid (Holds (Value.int i64) wr0 g 0 (l.map fun o=>o.w).toArray):=hH;have HGC:Hid (w.heap.size≤g∧k≤c5∧c5≤maxLen∧g<wr0.heap.size):=⟨hg,hnc,hcm,hgl⟩;obtain⟨M,hM⟩:∃M,M=(l.map fun o=>o.w).mergeSort fun x y=>decide (x≤y):=⟨_,rfl⟩
  have HML:Hid (M.length=k):=show _=_ by rw[hM,List.length_mergeSort,HLL.out]
  have HMT:Hid (Lib.compact M=tcL l):=show _=_ by rw[hM];exact cu_touch l
  have HSO:=sort_ints g c5 (l.map fun o=>o.w) wr0 hH hgl (by rw[HLL.out];omega);rw[HLL.out,←hM] at HSO;clear hH hcur hnc hcm hgl hM
  go_wp2_with fail
  refine HSO.mono ?_;rintro e w2 ⟨rfl,q,os,hw2⟩;have hH2:Holds (Value.int i64) w2 g 0 M.toArray:=by
   rw[hw2];exact holds_row HH.out (by simp[HML.out,HLL.out])
  have hB2:Below w.heap.size w w2:=by
   rw[hw2];exact HB.out.trans (below_row g 0 q _ os HGC.out.1 HB.out.size)
  have HH2:Hid (Holds (Value.int i64) w2 g 0 M.toArray):=hH2;have HC2:Hid (∃cur2,w2.heap[g]?=some (.cells cur2 3 (0,0))∧cur2.size=c5):=show ∃_,_ by
   rw[hw2];obtain⟨cur2,h1,h2⟩:=row_obj (g:=g) (off:=0) (m:=q) (d:=M.toArray) (os:=os) HCU.out.1;exact⟨cur2,h1,by rw[h2];exact HCU.out.2⟩
  have HB2:Hid (Below w.heap.size w w2):=hB2;have HCO:=comp_ints g c5 M w2 hH2 (by rw[HML.out];omega) (by rw[HML.out];exact HGC.out.2.1);rw[HML.out] at HCO;clear hH2 hB2 hw2 HSO
  go_wp2_with fail
  refine HCO.mono ?_;rintro e w3 ⟨rfl,q3,hw3⟩;have hfew:=comp_few M;have HB3:Hid (Below w.heap.size w w3):=show Below _ _ _ by
   rw[hw3,←grow_no (putRow _ _ _ _ _)];exact HB2.out.trans (below_row g 0 q3 _ #[] HGC.out.1 HB2.out.size)
  have HG3:Hid (w3.ownsRow w.heap.size 3 inE.n (.slice (some ⟨g,0,none⟩) (Lib.compact M).length c5) (Lib.compact M).length (cellsG inE (tcL l))):=show World.ownsRow _ _ _ _ _ _ _ by
   have hh:Holds (Value.int i64) w3 g 0 (Lib.compact M++List.replicate (k-(Lib.compact M).length) 0).toArray:=by
    rw[hw3,←grow_no (putRow _ _ _ _ _)];exact holds_row HH2.out (by have:=HML.out;simp;omega)
   obtain⟨cur3,h3,h4⟩:∃cur3,w3.heap[g]?=some (.cells cur3 3 (0,0))∧cur3.size=c5:=by
    obtain⟨cur2,h1,h2⟩:=HC2.out;obtain⟨cur3,h3,h4⟩:=row_obj (g:=g) (off:=0) (m:=q3) (d:=(Lib.compact M++List.replicate (k-(Lib.compact M).length) 0).toArray) (os:=#[]) h1;refine⟨cur3,?_,by rw[h4];exact h2⟩;rw[hw3,←grow_no (putRow _ _ _ _ _)];exact h3
   refine own_holds HGC.out.1 h3 (by have:=HML.out;have:=HGC.out;omega) HGC.out.2.2.1 h4 hh (by rw[HMT.out]) (fun j x hx=>?_);rw[←HMT.out] at hx;have hj:=(List.getElem?_eq_some_iff.1 hx).1;have hj2:j<(Lib.compact M++List.replicate (k-(Lib.compact M).length) 0).toArray.size:=by simp;omega
   refine⟨hj2,?_⟩;rw[getElem!_pos _ j hj2];simp only[List.getElem_toArray];rw[List.getElem_append_left hj];exact (List.getElem?_eq_some_iff.1 hx).2
  clear hw3 hfew HCO;go_wp2;go_ret;exact⟨_,_,_,rfl,by rw[HMT.out],HG3.out,HB3.out⟩
end
section
open Go.RowKit
theorem nx_pdc {w w1:World}{p B0:Nat}{O:Nat→Prop}{D:DrT}{xr:SlT}{vd:Value}{t B1 M:Nat}{a3:AdQ}{m3 c3:Nat}(h:PdC w p B0 O D xr vd t B1 M)(hb:Below w.heap.size w w1)
 (hg:w1.ownsRow w.heap.size 3 inE.n (.slice a3 m3 c3) (tcL (D.L.getD D.s [])).length (cellsG inE (tcL (D.L.getD D.s [])))):
 PdC (((w1.setCell ⟨p,3,none⟩ (.slice a3 m3 c3)).setCell ⟨p,2,none⟩ (.int i64 ((D.s+1:Nat):Int))).setCell ⟨p,4,none⟩ (.int i64 0)) p B0 (fun b=>O b∨(Value.slice a3 m3 c3).ownBlock=some b)
  { D with s:=D.s+1,l:=tcL (D.L.getD D.s []),k:=0 } xr (.slice a3 m3 c3) 0 B1 M:=by
 have h3:=(h.later hb).set3 (own_mono hg h.pB.2.2) h.low;exact (h3.set2 (D.s+1)).set4 0 0
theorem pnext_any {p B0:Nat}{O:Nat→Prop}{D:DrT}{K:Nat}(w:World)(h:Pd w p B0 O D)(hok:DrOK D K):
 Calls prog 7 #[.pointer (some ⟨p,0,none⟩)] w fun e w'=>DvN Pd noV w p B0 O (nxS D) (nxN D) (nxA D) e w':=by
 have HP:Hid (Pd w p B0 O D):=h;obtain⟨⟨ar,nr,cr⟩,vd,t,B1,M,h,htw⟩:=h;obtain⟨al,cl,e0⟩:=own_form h.l;obtain⟨nl,hnl⟩:∃nl,nl=D.l.length:=⟨_,rfl⟩;rw[←hnl] at e0;subst e0;have HH:Hid (PdC w p B0 O D (ar,nr,cr) (.slice al nl cl) t B1 M):=h;have HOK:Hid (DrOK D K):=hok;have hnr:D.L.length=nr:=(h.r w (Kb.refl _ _)).len;obtain⟨s,hs⟩:∃s:Int,s=(D.s:Int):=⟨_,rfl⟩;have c0:w.cell? ⟨p,0,none⟩=some (.slice ar nr cr):=h.c0;have c2:w.cell? ⟨p,2,none⟩=some (.int i64 s):=by rw[hs];exact h.c2
 have c3:w.cell? ⟨p,3,none⟩=some (.slice al nl cl):=h.c3;have HS:Hid (s=(D.s:Int)):=hs;have HNL:Hid (nl=D.l.length):=hnl;have HNR:Hid (D.L.length=nr):=hnr;have HNO:Hid (mayD D=false→∀w',Below w.heap.size w w'→DvN Pd noV w p B0 O (nxS D) (nxN D) (nxA D) (.returned (.tuple #[.slice none 0 0,.iface 63 (.int i64 6)])) w'):=fun hm w' hb=>by
  rw[nxS,nxN,nxA,hm];have e6:noV (if false=true then 0 else 6)=.iface 63 (.int i64 6):=no_ne (by decide);refine⟨none,0,0,?_,GS.nil _,(fun _ h=>by cases h),O,HP.out.kb (Kb.of_below hb fun b hl _=>hl),fun b h=>.inl h,(fun _ h=>by cases h),Kb.of_below hb fun b hl _=>hl⟩;rw[e6]
 by_cases hl0:(nl:Int) > 0
 ·have HM:Hid (mayD D=false):=show _=_ by
   rw[mayD,emp_iff hnl.symm,decide_eq_false (by omega)];rfl
  have hl1:decide ((nl:Int) > 0)=true:=decide_eq_true hl0;have hl2:decide (0<nl)=true:=decide_eq_true (by omega);have hl3:0<nl:=by omega
  clear h hok hnr hs hnl htw;go_enter func7,ntmps7;go_wp2
  go_quiet (fail)
  go_wp2;refine bodyPost_ret (v:=.tuple #[.slice none 0 0,.iface 63 (.int i64 6)]) (by simp[results,results7,go_sem, *]) rfl ?_;exact HNO.out HM.out _ (below_drwN _ _)
 have hl1:decide ((nl:Int) > 0)=false:=decide_eq_false hl0;have hl2:decide (0<nl)=false:=decide_eq_false (by omega);have hl3:¬0<nl:=by omega
 by_cases hsr:s=(nr:Int)
 ·have HM:Hid (mayD D=false):=show _=_ by
   rw[mayD,decide_eq_false (by omega),Bool.and_false]
  have hsb:(s==(nr:Int))=true:=by simp[hsr]
  clear h hok hnr hs hnl htw;go_enter func7,ntmps7;go_wp2
  go_quiet (fail)
  go_wp2;refine bodyPost_ret (v:=.tuple #[.slice none 0 0,.iface 63 (.int i64 6)]) (by simp[results,results7,go_sem, *]) rfl ?_;exact HNO.out HM.out _ (below_drwN _ _)
 have hsb:(s==(nr:Int))=false:=beq_false_of_ne hsr;have hsn:D.s<nr:=by
  have:=hok.s;omega
 have hm:mayD D=true:=by
  rw[mayD,emp_iff hnl.symm,decide_eq_true (by omega),decide_eq_true (by omega)];rfl
 have hs20:D.s≤20:=Nat.le_trans hok.s hok.L;obtain⟨gr,qr,R,a1,n1,c1,har,hRs,hc1,hGr⟩:=(h.r w (Kb.refl _ _)).at hsn;subst har;have hR:D.L.getD D.s []=R:=by simp[List.getD,hRs]
 have HRN:Hid (R.length=n1):=hGr.len;have HRL:Hid (R.length≤200):=hok.r R (List.mem_of_getElem? hRs);have HRG:Hid (∀V,Below w.heap.size w V→GS opE V (.slice a1 n1 c1) R):=fun V hV=>hGr.later hV
 have HNX:Hid (nxS D={ D with s:=D.s+1,l:=tcL R,k:=0 }∧nxN D=0∧nxA D=saD { D with s:=D.s+1,l:=tcL R,k:=0 }):=by
  have e:nxS D={ D with s:=D.s+1,l:=tcL R,k:=0 }:=by rw[nxS,hm,hR];rfl
  refine⟨e,by rw[nxN,hm];rfl,?_⟩;rw[nxA,hm,e];rfl
 have HOK2:Hid (DrOK { D with s:=D.s+1,l:=tcL R,k:=0 } (K+1)):=by
  show DrOK _ _;rw[←HNX.out.1];exact dk_nx hok
 have HTW:Hid (TwOK { D with s:=D.s+1,l:=tcL R,k:=0 } 0):=by
  have h1:=hok.w.1;refine⟨?_,.inr ?_⟩
  ·show ((0:Nat):Int)<D.W;omega
  show ((0:Nat):Int)=((0:Nat):Int) % D.W;simp
 have HRE:Hid (∀(w4:World) (a3:AdQ) (m3 c3:Nat),Below w.heap.size w w4→w4.ownsRow w.heap.size 3 inE.n (.slice a3 m3 c3) (tcL R).length (cellsG inE (tcL R)) →
  PdC (((w4.setCell ⟨p,3,none⟩ (.slice a3 m3 c3)).setCell ⟨p,2,none⟩ (.int i64 (s+1))).setCell ⟨p,4,none⟩ (.int i64 0)) p B0 (fun b=>O b∨(Value.slice a3 m3 c3).ownBlock=some b)
   { D with s:=D.s+1,l:=tcL R,k:=0 } (some ⟨gr,qr,none⟩,nr,cr) (.slice a3 m3 c3) 0 B1 M):=fun w4 a3 m3 c3 hb hg=>by
  have:=nx_pdc HH.out hb (by rw[hR];exact hg);rw[hR] at this;rw[hs];exact this
 have HC0:Hid (∀V,Below w.heap.size w V→V.cell? ⟨p,0,none⟩=some (.slice (some ⟨gr,qr,none⟩) nr cr)∧V.cell? ⟨p,2,none⟩=some (.int i64 s)∧V.cell? ⟨p,3,none⟩=some (.slice al nl cl)∧V.cell? ⟨p,4,none⟩=some (.int i64 (t:Int))∧(∀i,V.frozen? ⟨p,i,none⟩=false)∧V.cell? ⟨gr,qr+s.toNat,none⟩=some (.slice a1 n1 c1)):=fun V hV=>by
  have hx:=HH.out.later hV;have e:s.toNat=D.s:=by omega
  refine⟨hx.c0,by rw[hs];exact hx.c2,hx.c3,hx.c4,hx.f,?_⟩;rw[e];exact cell_later hV hc1
 have s0:0≤s:=by omega
 have s1:s<(nr:Int):=by omega
 have s2:s≤20:=by omega
 have hwr:IntKind.i64.wrap (s+1)=s+1:=by rw[IntKind.wrap_i64];omega
 have hn12:n1≤2199023255552:=by have:=HRL.out;have:=HRN.out;omega
 clear h hm hs20 hnr hsn hRs hc1 hGr hR hs htw hok hnl;go_enter func7,ntmps7;go_wp2
 go_quiet (fail)
 obtain⟨w1,hw1⟩:∃V,V=w.drewN nq:=⟨_,rfl⟩;have HB1:Hid (Below w.heap.size w w1):=by show Below _ _ _;rw[hw1];exact below_drwN _ _
 rw[←hw1];clear hw1 c0 c2 c3;have HC1:Hid (∀V,Below w1.heap.size w1 V→V.cell? ⟨p,0,none⟩=some (.slice (some ⟨gr,qr,none⟩) nr cr)∧V.cell? ⟨p,2,none⟩=some (.int i64 s)∧V.cell? ⟨p,3,none⟩=some (.slice al nl cl)∧V.cell? ⟨p,4,none⟩=some (.int i64 (t:Int))∧(∀i,V.frozen? ⟨p,i,none⟩=false)∧V.cell? ⟨gr,qr+s.toNat,none⟩=some (.slice a1 n1 c1)):=fun V hV=>HC0.out V (HB1.out.trans (hV.mono HB1.out.size))
 obtain⟨e0,e2,e3,e4,ef,e1⟩:=HC1.out w1 (bRQ _ _);go_upto_region 3 with fail
 go_cut [] from 23 to 37 (fun w'=>∃(w4:World) (a3:AdQ) (m3 c3:Nat),Below w1.heap.size w1 w4∧w4.ownsRow w1.heap.size 3 inE.n (.slice a3 m3 c3) (tcL R).length (cellsG inE (tcL R))∧w'=w4.setCell ⟨p,3,none⟩ (.slice a3 m3 c3))
 case first =>
  have f3:=ef 3;clear ef
  go_region_with (go_at_call 22;refine (touched_own a1 n1 c1 R _ (HRG.out _ (HB1.out.trans (Below.mono (by first | exact Below.drew (bRQ _ _) | exact bRQ _ _) HB1.out.size))) hn12).mono ?_;rintro e w9 ⟨a3,m3,c3,rfl,hm3,hg3,hb3⟩;have HB3:Hid (Below w1.heap.size w1 w9):=(Below.drew (bRQ _ _)).trans hb3;have HG3:Hid (w9.ownsRow w1.heap.size 3 inE.n (.slice a3 m3 c3) (tcL R).length (cellsG inE (tcL R))):=(by rw[←hm3];exact hg3);obtain⟨t0,t2,t3,t4,tf,t1⟩:=HC1.out _ HB3.out;have tf3:=tf 3;clear hg3 hm3 hb3 tf)
  all_goals (go_wp2_with fail;go_meet)
  all_goals exact⟨_,_,_,_,HB3.out,HG3.out,rfl⟩
 case rest =>
  obtain⟨w4,a3,m3,c3,hb4,hg4,rfl⟩:=hcut;have hbw4:Below w.heap.size w w4:=HB1.out.trans (hb4.mono HB1.out.size);have hF:=HRE.out w4 a3 m3 c3 hbw4 (own_mono hg4 HB1.out.size);obtain⟨w7,hw7⟩:∃V,V=(((w4.setCell ⟨p,3,none⟩ (.slice a3 m3 c3)).setCell ⟨p,2,none⟩ (.int i64 (s+1))).setCell ⟨p,4,none⟩ (.int i64 0)):=⟨_,rfl⟩;have HW7:Hid ((((w4.setCell ⟨p,3,none⟩ (.slice a3 m3 c3)).setCell ⟨p,2,none⟩ (.int i64 (s+1))).setCell ⟨p,4,none⟩ (.int i64 0))=w7):=hw7.symm;rw[←hw7] at hF;obtain⟨O',hO'⟩:∃O':Nat→Prop,O'=fun b=>O b∨(Value.slice a3 m3 c3).ownBlock=some b:=⟨_,rfl⟩
  rw[←hO'] at hF;have HF:Hid (PdC w7 p B0 O' { D with s:=D.s+1,l:=tcL R,k:=0 } (some ⟨gr,qr,none⟩,nr,cr) (.slice a3 m3 c3) 0 B1 M):=hF;have HO':Hid (∀b,O' b→O b∨w.heap.size≤b):=fun b hb=>by
   rw[hO'] at hb
   rcases hb with hb | hb
   ·exact .inl hb
   exact .inr (Nat.le_trans HB1.out.size (hg4.lt b hb).1)
  have HK7:Hid (Kb (fun b=>¬O b) w w7):=by
   have hpO:=HH.out.pO;have h4:Kb (fun b=>¬O b) w w4:=Kb.of_below hbw4 fun b hl _=>hl
   show Kb _ _ _;rw[hw7];exact ((h4.setCell (fun _ hn=>hn hpO) _).setCell (fun _ hn=>hn hpO) _).setCell (fun _ hn=>hn hpO) _
  clear hF hw7 hO';obtain⟨d0,d2,d3,d4,df,d1⟩:=HC1.out _ hb4;have df2:=df 2;have df3:=df 3;have df4:=df 4;clear hb4 hg4 e0 e1 e2 e3 e4 ef df hbw4;go_upto_region 6 with fail;rw[HW7.out];clear d0 d1 d2 d3 d4 df2 df3 df4 HW7
  go_wp2_with fail
  refine (psay_any _ HF.out HOK2.out).mono ?_;rintro e w8 ⟨a5,n5,c5,rfl,hg5,hn5,hb5⟩;have HR8:Hid (DvN Pd noV w p B0 O (nxS D) (nxN D) (nxA D) (.returned (.tuple #[.slice a5 n5 c5,.nilIface])) w8):=by
   show DvN _ _ _ _ _ _ _ _ _ _ _;rw[HNX.out.1,HNX.out.2.1,HNX.out.2.2];have hsz:=HK7.out.size;refine⟨a5,n5,c5,by rw[no_ok rfl],hg5,fun ad ha=>Nat.le_trans hsz (hn5 ad ha),O',⟨_,_,_,_,_,HF.out.later hb5,HTW.out⟩,HO'.out,fun ad ha h=>?_,HK7.out.trans (Kb.of_below hb5 fun b hl _=>hl)⟩;have h3:=hn5 ad ha;have h4:=(HF.out.lt _ h).2;omega
  clear hg5 hn5 hb5;go_wp2;refine bodyPost_ret (v:=.tuple #[.slice a5 n5 c5,.nilIface]) (by simp[results,results7,go_sem, *]) rfl ?_;exact HR8.out
theorem own_cut1 {w:World}{base e g n cap i:Nat}{xs:List Value}(h:w.ownsRow base e 1 (.slice (some ⟨g,0,none⟩) n cap) n xs)(hi:i≤n):w.ownsRow base e 1 (.slice (some ⟨g,0,none⟩) i cap) i (xs.take i):=by
 rcases h.2 with ⟨h',_⟩ | ⟨g',cap',cur,h',hb,hg,hnc,hcm,hcs,htake⟩
 ·simp at h'
 simp only[Value.slice.injEq,Option.some.injEq,Addr.mk.injEq,and_true,true_and] at h';obtain⟨rfl,rfl⟩:=h';refine⟨by rw[List.length_take,h.1];omega,.inr ⟨g,cap,cur,rfl,hb,hg,by omega,hcm,hcs,?_⟩⟩;rw[←htake,List.take_take,Nat.min_eq_left (by omega),Nat.mul_one]
theorem own_behind1 {base e g cap i:Nat}:∀(vs:List Value) (o:Nat) (w:World) (xs:List Value),w.ownsRow base e 1 (.slice (some ⟨g,0,none⟩) i cap) i xs→i≤o →
 (w.setCells g o vs).ownsRow base e 1 (.slice (some ⟨g,0,none⟩) i cap) i xs∧w.grownBy (w.setCells g o vs) (some g)
 | [],o,w,xs,h,_=>⟨h,rfl,rfl,rfl,nLQ _,fun _ _ _=>rfl⟩
 | v :: vs,o,w,xs,h,ho=>by
   have h1:=h.stored o v;have e1:xs.set o v=xs:=List.set_eq_of_length_le (by rw[h.1];omega);rw[e1] at h1;have h2:=own_behind1 vs (o+1) _ xs h1.1 (by omega);refine⟨h2.1,?_⟩;exact⟨h2.2.os.trans h1.2.os,h2.2.tape.trans h1.2.tape,h2.2.output.trans h1.2.output,Nat.le_trans h1.2.size h2.2.size,fun k hk hne=>(h2.2.block k (Nat.lt_of_lt_of_le hk h1.2.size) hne).trans (h1.2.block k hk hne)⟩
theorem run_clear1 (w:World)(t ty:TypeId)(ht:Tryd.prog.underlying t=some (.slice 3))(b o n c:Nat)(hn:0<n)
 (hc:∀j,j<n→(w.cell? ⟨b,o+j,none⟩).isSome=true) (hf:∀j,w.frozen? ⟨b,j,none⟩=false):
 (Builtin.clear_ #[t] ty #[.slice (some ⟨b,o,none⟩) n c]).run prog w=.ok (.tuple #[]) (w.setCells b o (Builtin.zeroCells (Value.int i64 0).cells n).toList):=by
 obtain⟨i0,hi,hz0,hz1,hz2⟩:=info_parts infoInt;have hv:∀w,(zeroValue 3).run prog w=.ok (.int i64 0) w:=fun w=>by simp[zeroValue,typeInfo,hi,hz0]
 have hs1:(Value.int i64 0).cells.size=1:=by simp[Value.cells]
 have hl:(Builtin.zeroCells (Value.int i64 0).cells n).toList.length=n:=by rw[Array.length_toList,size_zeroCells,hs1,Nat.mul_one]
 have h1:∀u∈(Builtin.zeroCells (Value.int i64 0).cells n).toList,u.oneCell'=true:=by
  intro u hu;simp only[Builtin.zeroCells,Array.toList_map,List.mem_map] at hu;obtain⟨i,_,rfl⟩:=hu;rw[hs1,Nat.mod_one];rfl
 have hst:=run_storeCells_cells (P:=prog) b o (Builtin.zeroCells (Value.int i64 0).cells n).toList 0 w (by rw[hl];simpa using hc) (fun j _=>hf _) h1;simp only[Nat.add_zero] at hst;exact run_clear_of w _ t _ ty ht b o n c hn _ hv _ rfl hst
theorem step_append_room {P:Program}{α:Type}{E:Enc α}(w:World){ops:Array Oper}{o:Oper}{a:Act}{K:Act→World→Prop}{Q:Exit→Act→World→Prop}{X:Prop}(hgd:o.guard=none)(s x:Operand)(t e:TypeId)
 (ho:o.op=.call { callee:=.builtin .append,args:=#[s,x],argTypes:=#[t,t] }) (ht:P.underlying t=some (.slice e)) (i:TypeInfo) (hi:P.info? e=some i) (hsize:i.size=E.n) (base g n cap:Nat)
 (hs:a.eval s=.slice (some ⟨g,0,none⟩) n cap) (L:List α) (hown:w.ownsRow base e E.n (.slice (some ⟨g,0,none⟩) n cap) n (cellsG E L)) (ad:Addr) (m c:Nat) (hx:a.eval x=.slice (some ad) m c) (M:List α)
 (hM:∀j u,(cellsG E M)[j]?=some u→w.cell? (ad.add j)=some u) (hm:M.length=m) (r:Nat) (hr:n+m=r) (hroom:r≤cap)
 (h:∀w',w'.ownsRow base e E.n (.slice (some ⟨g,0,none⟩) r cap) r (cellsG E (L++M))→w.grownBy w' (some g)→K (a.put o.dst (.slice (some ⟨g,0,none⟩) r cap)) w'):
 if Region.wanted o (yielded ops a.tmps)=true then Oper.wp P o a w K Q else X:=by
 have hw:Region.wanted o (yielded ops a.tmps)=true:=by simp[Region.wanted,hgd]
 rw[if_pos hw];subst hr;obtain⟨w',hrun,r1,r2⟩:=run_append_fits (P:=P) w base t o.type e i E.n ht hi hsize g n cap (cellsG E L) hown ad m c (cellsG E M) (by rw[cellsG_len,hm]) hM (cellsG_all M) hroom;unfold Oper.wp;simp[execOp,ho,resolve,invoke,builtin,hs,hx,hrun,Result.andThen];refine h w' ?_ r2;rw[cellsG_app];exact r1
theorem del_grown {w w5 w6:World}{r:Option Nat}(h:w.drew.grownBy w5 r)(h2:w5.grownBy w6 r):w.grownBy w6 r:=
 ⟨h2.os.trans h.os,h2.tape.trans h.tape,h2.output.trans h.output,Nat.le_trans h.size h2.size,fun k hk hn=>(h2.block k (Nat.lt_of_lt_of_le hk h.size) hn).trans (h.block k hk hn)⟩
theorem del_any (g n cap B:Nat)(L:List Int)(i j q:Nat)(w:World)(ho:w.ownsRow B 3 inE.n (.slice (some ⟨g,0,none⟩) n cap) n (cellsG inE L))(hL:L.length=n)(hi:i<n)(hj:j=i+1)(hq:n=q+1):
 Calls prog 27 #[.slice (some ⟨g,0,none⟩) n cap,.int i64 (i:Int),.int i64 (j:Int)] w fun e w'=>e=.returned (.slice (some ⟨g,0,none⟩) q cap)∧w'.ownsRow B 3 inE.n (.slice (some ⟨g,0,none⟩) q cap) q (cellsG inE (L.take i++L.drop j))∧w.grownBy w' (some g):=by
 obtain⟨hB,hnc,hcm⟩:B≤g∧n≤cap∧cap≤maxLen:=by
  rcases ho.2 with ⟨h',_⟩ | ⟨g',cap',cur,h',hb,_,h1,h2,_⟩
  ·simp at h'
  simp only[Value.slice.injEq,Option.some.injEq,Addr.mk.injEq,and_true,true_and] at h';obtain⟨rfl,rfl⟩:=h';exact⟨hb,h1,h2⟩
 have hc63:(cap:Int)≤9223372036854775807:=by unfold maxLen at hcm;omega
 obtain⟨i0,hi0,hz0,hz1,hz2⟩:=info_parts infoInt;have HI1:Hid (Tryd.prog.info? 3=some i0):=hi0;have HI3:Hid (i0.size=1):=hz1;have HL:Hid (L.length=n):=hL;have hG:GAt inE w g 0 L:=by
  have h1:w.ownsRow B 3 inE.n (.slice (some ⟨g,0,none⟩) n cap) L.length (cellsG inE L):=by rw[hL];exact ho
  rcases own_GS h1 with ⟨_,_,e,e2⟩ | ⟨g',o',cap',e,_,_,h3⟩
  ·rw[e2] at hL;simp at hL;omega
  cases e;exact h3
 have HO:Hid (∀V,Below w.heap.size w V→V.ownsRow B 3 1 (.slice (some ⟨g,0,none⟩) i cap) i (cellsG inE (L.take i))):=fun V hV=>by
  have h1:=own_cut1 (own_below ho hV) (Nat.le_of_lt hi);rw[in_cells,←List.map_take,←in_cells] at h1;exact h1
 have HD:Hid (∀V,Below w.heap.size w V→GAt inE V g (0+j*inE.n) (L.drop j)):=fun V hV=>(hG.later hV).drop j
 have HDC:Hid (∀V,Below w.heap.size w V→∀(t:Nat) (u:Value),(cellsG inE (L.drop j))[t]?=some u→V.cell? ((⟨g,j,none⟩:Addr).add t)=some u):=fun V hV t u hu=>by
  have h1:=(HD.out V hV).cells t u hu;have e:(0+j*inE.n:Nat)=j:=by show 0+j*1=j;omega
  rw[e] at h1;exact h1
 have HDL:Hid ((L.drop j).length=n-j):=show _=_ by rw[List.length_drop,hL]
 have HFZ:Hid (∀V,V.ownsRow B 3 1 (.slice (some ⟨g,0,none⟩) q cap) q (cellsG inE (L.take i++L.drop j))→∀ty,(Builtin.clear_ #[40] ty #[.slice (some ⟨g,q,none⟩) (n-q) (cap-q)]).run prog V=.ok (.tuple #[]) (V.setCells g q (Builtin.zeroCells (Value.int i64 0).cells (n-q)).toList)):=fun V hV ty =>
  run_clear1 V _ ty underlying40 g q (n-q) (cap-q) (by omega) (fun t ht=>by
   rcases hV.2 with ⟨h',_⟩ | ⟨g',cap',cur,h',hb,hg,h1,h2,hcs,_⟩
   ·simp at h'
   simp only[Value.slice.injEq,Option.some.injEq,Addr.mk.injEq,and_true,true_and] at h';obtain⟨rfl,rfl⟩:=h';have hlt:q+t<cur.size:=by rw[hcs];omega
   simp[World.cell?,hg,hlt]) (fun t=>hV.frozenAt t)
 have b0:(0:Int)≤(i:Int):=by omega
 have b1:(i:Int)≤(j:Int):=by omega
 have b2:(j:Int)≤(n:Int):=by omega
 have b3:(n:Int)≤(cap:Int):=by omega
 have b4:((i:Int)==(j:Int))=false:=beq_false_of_ne (by omega);have b5:(0:Int)≤(q:Int):=by omega
 have b6:(q:Int)≤(n:Int):=by omega
 have b7:(i:Int)≤(cap:Int):=by omega
 have b8:(j:Int)≤(cap:Int):=by omega
 have b9:¬cap=q:=by omega
 have b10:¬cap=i:=by omega
 have b11:¬n=i:=by omega
 have HQ:Hid (i+(n-j)=q∧q≤cap):=⟨by omega,by omega⟩;clear ho hL hG hi0 hz0 hz1 hz2 hj hq;go_enter func27,ntmps27;by_cases hcj:cap=j
 ·subst hcj;have hqi:q=i:=by have:=HQ.out.1;omega
  subst hqi;have hic:q≤cap:=by omega
  have HO5:Hid (w.drew.ownsRow B 3 inE.n (.slice (some ⟨g,0,none⟩) q cap) q (cellsG inE (L.take q++L.drop cap))):=show World.ownsRow _ _ _ _ _ _ _ by
   have e:L.drop cap=[]:=List.length_eq_zero_iff.1 (by have:=HDL.out;omega);rw[e,List.append_nil];exact HO.out _ (Below.drew (bRQ _ _))
  go_upto_region 5 with fail
  go_region
  all_goals (have hcl:=HFZ.out _ HO5.out;generalize (Builtin.zeroCells (Value.int i64 0).cells (n-q)).toList=Z at hcl;have hoc:=own_behind1 Z q w.drew _ HO5.out (nLQ _);have HOC:Hid ((w.drew.setCells g q Z).ownsRow B 3 inE.n (.slice (some ⟨g,0,none⟩) q cap) q (cellsG inE (L.take q++L.drop cap))∧w.grownBy (w.drew.setCells g q Z) (some g)):=⟨hoc.1,del_grown (gnn_refl w.drew |> fun h=>⟨h.os,h.tape,h.output,h.size,fun k hk _=>rfl⟩) hoc.2⟩;clear hoc;go_wp2;go_ret;exact⟨rfl,HOC.out.1,HOC.out.2⟩)
 go_upto_region 5 with fail
 go_region_law ((refine step_append_room (E:=inE) _ (by rfl) _ _ 40 3 (by rfl) underlying40 i0 HI1.out HI3.out B g i cap (by rfl) (L.take i) (HO.out _ (Below.drew (bRQ _ _))) ⟨g,j,none⟩ (n-j) _ (by rfl) (L.drop j) (HDC.out _ (Below.drew (bRQ _ _))) HDL.out q HQ.out.1 HQ.out.2 ?_;intro w5 ho5 hg5;have HO5:Hid (w5.ownsRow B 3 inE.n (.slice (some ⟨g,0,none⟩) q cap) q (cellsG inE (L.take i++L.drop j))):=ho5;have HG5:Hid (w.drew.grownBy w5 (some g)):=hg5;clear ho5 hg5))
 all_goals (have hcl:=HFZ.out _ HO5.out;generalize (Builtin.zeroCells (Value.int i64 0).cells (n-q)).toList=Z at hcl;have hoc:=own_behind1 Z q w5 _ HO5.out (nLQ _);have HOC:Hid ((w5.setCells g q Z).ownsRow B 3 inE.n (.slice (some ⟨g,0,none⟩) q cap) q (cellsG inE (L.take i++L.drop j))∧w.grownBy (w5.setCells g q Z) (some g)):=⟨hoc.1,del_grown HG5.out hoc.2⟩;clear hoc;go_wp2;go_ret;exact⟨rfl,HOC.out.1,HOC.out.2⟩)
end
end Go.Proofs.YtpgjkmefomldfaaDoor
