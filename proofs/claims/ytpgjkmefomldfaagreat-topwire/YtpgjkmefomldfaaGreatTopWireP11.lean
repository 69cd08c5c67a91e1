/- Contracts and facts on the way to TopWire, joined into one text: MixTouched, DrivePgNext, DriveDel, SlNum, DrivePgHear, DrivePg, AgentPart, StKept, RefAgMem, AgentPgMem, AgentPgNew. -/
import Derived.Test.YtpgjkmefomldfaaGreatTopWireP10
namespace Go.Proofs.YtpgjkmefomldfaaGreat
set_option linter.unusedSimpArgs false
set_option linter.unusedVariables false
set_option maxHeartbeats 16000000
set_option maxRecDepth 100000
open Go.Proofs.Tryz
open IntKind (i64)
section
open Go.RowKit Go.Shelf Go.Sort
theorem holds_ints {w:World}{B e g cap:Nat}{L:List Int}(ho:w.ownsRow B e inE.n (.slice (some ⟨g,0,none⟩) L.length cap) L.length (cellsG inE L)):Holds (Value.int i64) w g 0 L.toArray:=by
 intro j hj;have hj2:j<L.length:=by simpa using hj
 refine⟨?_,?_⟩
 ·rw[Nat.zero_add,ho.cellAt j (by show j<L.length*1;omega)];have h1:=cellsG_at (E:=inE) L j hj2 0 (by decide);have e1:j*inE.n+0=j:=by show j*1+0=j;omega
  rw[e1] at h1;rw[h1,getElem!_pos L.toArray j hj];rfl
 rw[Nat.zero_add];exact ho.frozenAt j
theorem below_row {base:Nat}{w:World}(g off m:Nat)(d:Array Int)(os:Array Obj)(hg:base≤g)(hb:base≤w.heap.size):Below base w (grow (putRow (Value.int i64) (Sort.ahead w m) g off d) os):=by
 have hs:(putRow (Value.int i64) (Sort.ahead w m) g off d).heap.size=w.heap.size:=by simp
 refine⟨rfl,rfl,rfl,?_,fun j hj=>?_⟩
 ·show w.heap.size≤((putRow (Value.int i64) (Sort.ahead w m) g off d).heap++os).size;rw[Array.size_append,hs];omega
 show ((putRow (Value.int i64) (Sort.ahead w m) g off d).heap++os)[j]?=_;rw[Array.getElem?_append_left (by rw[hs];omega)];show ((w.heap).modify g _)[j]?=_;rw[Array.getElem?_modify,if_neg (by omega)]
theorem holds_row {w:World}{g m:Nat}{d0 d:Array Int}{os:Array Obj}(h:Holds (Value.int i64) w g 0 d0)(hs:d.size=d0.size):Holds (Value.int i64) (grow (putRow (Value.int i64) (Sort.ahead w m) g 0 d) os) g 0 d:=by
 have h2:=holds_putRow (Value.int i64) (Sort.ahead w m) g 0 d0 d (holds_ahead _ w m g 0 d0 h) hs;intro j hj;obtain⟨c1,c2⟩:=h2 j hj;have hl:g<(putRow (Value.int i64) (Sort.ahead w m) g 0 d).heap.size:=bLQ _ _ c1;have e:(grow (putRow (Value.int i64) (Sort.ahead w m) g 0 d) os).heap[g]?=(putRow (Value.int i64) (Sort.ahead w m) g 0 d).heap[g]?:=by
  show ((putRow (Value.int i64) (Sort.ahead w m) g 0 d).heap++os)[g]?=_;rw[Array.getElem?_append_left hl]
 exact⟨(World.cell?_of_block e).trans c1,(World.frozen?_of_block e).trans c2⟩
theorem sort_ints (g cap:Nat)(zs:List Int)(w:World)(hH:Holds (Value.int i64) w g 0 zs.toArray)(hblk:g<w.heap.size)(hsz:zs.length<4611686018427387904):
 Calls prog 59 #[.slice (some ⟨g,0,none⟩) zs.length cap] w fun e w'=>e=.returned (.tuple #[])∧∃n os,w'=grow (putRow (Value.int i64) (Sort.ahead w n) g 0 (zs.mergeSort fun x y=>decide (x≤y)).toArray) os:=Any.slices_Sort_int sortInt g 0 cap zs w hH hblk hsz
theorem sort_none (p:AdQ)(cap:Nat)(w:World):Calls prog 59 #[.slice p 0 cap] w fun e w'=>e=.returned (.tuple #[])∧w'=w:=Any.slices_Sort_int_none sortInt p cap w
theorem comp_ints (g cap:Nat)(zs:List Int)(w:World)(hH:Holds (Value.int i64) w g 0 zs.toArray)(hsz:zs.length≤9223372036854775807)(hcap:zs.length≤cap):
 Calls prog 60 #[.slice (some ⟨g,0,none⟩) zs.length cap] w fun e w'=>e=.returned (.slice (some ⟨g,0,none⟩) (Lib.compact zs).length cap)∧∃q,w'=putRow (Value.int i64) (Sort.ahead w q) g 0 (Lib.compact zs++List.replicate (zs.length-(Lib.compact zs).length) 0).toArray:=Any.slices_Compact_int compactInt g 0 cap zs w hH hsz hcap
theorem comp_none (p:AdQ)(cap:Nat)(w:World):Calls prog 60 #[.slice p 0 cap] w fun e w'=>e=.returned (.slice p 0 cap)∧w'=w:=Any.slices_Compact_int_empty compactInt p cap w
theorem comp_few (zs:List Int):(Lib.compact zs).length≤zs.length:=by
 unfold Lib.compact Lib.compactUpTo;rw[List.length_map];have:=List.length_filter_le (Lib.keeps zs.toArray) (List.range zs.length);rw[List.length_range] at this;exact this
theorem grow_no (w:World):grow w #[]=w:=by simp[grow]
theorem row_obj {w:World}{g off m:Nat}{d:Array Int}{os:Array Obj}{cur:Array Value}{e:TypeId}{fr:Nat×Nat}(h:w.heap[g]?=some (.cells cur e fr)):
 ∃cur',(grow (putRow (Value.int i64) (Sort.ahead w m) g off d) os).heap[g]?=some (.cells cur' e fr)∧cur'.size=cur.size:=by
 have hl:g<w.heap.size:=(Array.getElem?_eq_some_iff.1 h).1;refine⟨putCells (Value.int i64) off d cur,?_,by simp[putCells]⟩;have hs:(putRow (Value.int i64) (Sort.ahead w m) g off d).heap.size=w.heap.size:=by simp
 show ((putRow (Value.int i64) (Sort.ahead w m) g off d).heap++os)[g]?=_;rw[Array.getElem?_append_left (by rw[hs];exact hl)];show ((w.heap).modify g _)[g]?=_;rw[Array.getElem?_modify,if_pos rfl,h];rfl
theorem own_holds {w:World}{B g n cap:Nat}{cur:Array Value}{e:TypeId}{d:Array Int}{L:List Int}(hg:B≤g)(h:w.heap[g]?=some (.cells cur e (0,0)))(hn:n≤cap)(hc:cap≤maxLen)(hs:cur.size=cap)
 (hH:Holds (Value.int i64) w g 0 d) (hL:L.length=n) (hd:∀j x,L[j]?=some x→j<d.size∧d[j]! = x):w.ownsRow B e inE.n (.slice (some ⟨g,0,none⟩) n cap) n (cellsG inE L):=by
 refine⟨by rw[cellsG_len,hL],.inr ⟨g,cap,cur,rfl,hg,h,hn,hc,by show _=cap*1;omega,?_⟩⟩;have e1:n*inE.n=n:=by show n*1=n;omega
 rw[e1,in_cells];refine List.ext_getElem? fun j=>?_
 by_cases hj:j<n
 ·obtain⟨h1,h2⟩:=hd j L[j] (List.getElem?_eq_getElem (by omega));have h3:=(hH j h1).1;rw[Nat.zero_add] at h3;have h4:w.cell? ⟨g,j,none⟩=cur[j]?:=by simp[World.cell?,h]
  rw[List.getElem?_take_of_lt hj,Array.getElem?_toList,←h4,h3,h2,List.getElem?_map,List.getElem?_eq_getElem (by omega)];rfl
 rw[List.getElem?_eq_none (by rw[List.length_take];omega),List.getElem?_eq_none (by rw[List.length_map];omega)]
theorem touched_own (ao:AdQ)(n cap:Nat)(l:List Op8)(w:World)(h:GS opE w (.slice ao n cap) l)(hn0:n≤2199023255552):
 Calls prog 25 #[.slice ao n cap] w fun e w'=>∃a3 m c3,e=.returned (.slice a3 m c3)∧m=(tcL l).length∧w'.ownsRow w.heap.size 3 inE.n (.slice a3 m c3) m (cellsG inE (tcL l))∧Below w.heap.size w w':=by
 obtain⟨_,_,_,e1,hn,hn2,_,ha⟩:=h.form;cases e1;have HN:Hid (l.length=n):=hn;have HA:Hid (0<n→∃g o,ao=some ⟨g,o,none⟩∧GAt opE w g o l∧cap≤maxLen):=ha;obtain⟨i0,hi0,hz0,hz1,hz2⟩:=info_parts infoInt;unfold maxLen at hn2;clear h hn ha;go_enter func25,ntmps25;go_wp2
 go_loopw [3,8] (fun v i wr=>∃k:Nat,k≤n∧i=.int i64 k∧wr.ownsRow w.heap.size 3 inE.n v k (cellsG inE ((l.take k).map fun o=>o.w))∧Below w.heap.size w wr) (fun _ i _=>n-(intOf i).toNat)
 case atStart=>exact⟨0,by omega,rfl,World.ownsRow_nil _ _ _ _,bRQ _ _⟩
 case round =>
  obtain⟨k,hk,rfl,hO,hB⟩:=hrel;obtain⟨wr0,hw0⟩:∃X,X=wr:=⟨_,rfl⟩;subst hw0;have HB:Hid (Below w.heap.size w wr0):=hB;have HKL:Hid (((l.take k).map fun o=>o.w).length=k):=show _=_ by
   rw[List.length_map,List.length_take,HN.out];omega
  obtain⟨a5,c5,hv5⟩:=own_form hO;subst hv5;have HO:Hid (wr0.ownsRow w.heap.size 3 inE.n (.slice a5 k c5) k (cellsG inE ((l.take k).map fun o=>o.w))):=hO;clear hO;by_cases hlt:k<n
  ·obtain⟨g,o,hao,hc,_⟩:=HA.out (by omega);subst hao;obtain⟨x0,x1,x2,x3,x4,x5,x6,x7,hil,hLi,c0,c1,c2,c3,c4,c6,c7,c8⟩:=op_at (hc.later hB) HN.out hlt;have kb0:(0:Int)≤(k:Int):=by omega
   have kb1:(k:Int)<(n:Int):=by omega
   have HTN:Hid (((l.take (k+1)).map fun o=>o.w)=((l.take k).map fun o=>o.w)++[x0]):=show _=_ by
    rw[List.take_succ_eq_append_getElem hil,List.map_append,hLi];rfl
   have hb1:Below w.heap.size w (wr0.alloc (.cells #[.int i64 x0,.bool x1,.int i64 x2,.int i64 x3,.int i64 x4,.int i64 x5,.int i64 x6,.int i64 x7] 49)):=hB.alloc hB.size _;have hr1:=(vat_new wr0 [.int i64 x0,.bool x1,.int i64 x2,.int i64 x3,.int i64 x4,.int i64 x5,.int i64 x6,.int i64 x7] 49) 0 _ rfl;have ho1:=HO.out.alloc (.cells #[.int i64 x0,.bool x1,.int i64 x2,.int i64 x3,.int i64 x4,.int i64 x5,.int i64 x6,.int i64 x7] 49);obtain⟨w1,hw1⟩:∃W,wr0.alloc (.cells #[.int i64 x0,.bool x1,.int i64 x2,.int i64 x3,.int i64 x4,.int i64 x5,.int i64 x6,.int i64 x7] 49)=W:=⟨_,rfl⟩;rw[hw1] at hb1 hr1 ho1;have HW1:Hid (wr0.alloc (.cells #[.int i64 x0,.bool x1,.int i64 x2,.int i64 x3,.int i64 x4,.int i64 x5,.int i64 x6,.int i64 x7] 49)=w1):=hw1;have HB1:Hid (Below w.heap.size w w1):=hb1;have HO1:Hid (w1.ownsRow w.heap.size 3 inE.n (.slice a5 k c5) k (cellsG inE ((l.take k).map fun o=>o.w))):=ho1;simp only[Nat.zero_add] at hr1;clear hB hc hLi hb1 ho1 hw1;go_upto_region 5 with fail;rw[HW1.out];clear HW1
   go_wp2_with (at_builtin;refine wpList_append_blk (E:=inE) _ rfl _ _ 87 3 rfl underlying87 i0 (.int i64 0) 8 hi0 hz0 hz1 hz2 rfl w.heap.size (.slice a5 k c5) rfl ((l.take k).map fun o=>o.w) ?m0 w1.heap.size 0 1 rfl x0 (vat_new w1 [.int i64 x0] 3) ?m1 ?m2 ?m3 ?_)
   case m0=>rw[HKL.out];exact HO1.out.alloc _
   case m1=>rw[HKL.out];unfold maxLen;omega
   case m2=>rw[HKL.out];omega
   case m3=>have:=HB1.out.size;simp;omega
   intro v2 w2 ho2 hg2 _;have HB2:Hid (Below w.heap.size w w2):=(HB1.out.alloc HB1.out.size _).grown hg2 (by have:=HB1.out.size;simp;omega) (fun g hg=>(HO1.out.lt g hg).1);have HO2:Hid (w2.ownsRow w.heap.size 3 inE.n v2 (k+1) (cellsG inE ((l.take (k+1)).map fun o=>o.w))):=show World.ownsRow _ _ _ _ _ _ _ by
    rw[HTN.out];have e:(((l.take k).map fun o=>o.w)++[x0]).length=k+1:=hid_len2 HKL.out;rw[←e];simpa using ho2
   clear ho2 hg2 hr1 c0 c1 c2 c3 c4 c6 c7 c8;go_wp2;go_roundw
   case rel=>exact⟨k+1,by omega,by go_num,HO2.out,HB2.out⟩
   case measure=>simp[intOf];omega
  obtain rfl:k=n:=by omega
  have HALL:Hid (((l.take k).map fun o=>o.w)=l.map fun o=>o.w):=show _=_ by rw[←HN.out,List.take_length]
  clear hB
  rcases HO.out with ⟨_,⟨hv,hk0⟩ | ⟨g,cp,cur,hv,hg,hcur,hnc,hcm,hcs,_⟩⟩
  ·cases hv;have HT0:Hid (tcL l=[]):=show _=_ by
    have:l=[]:=List.length_eq_zero_iff.1 HN.out;rw[this];rfl
   go_wp2_with fail
   refine (sort_none none 0 _).mono ?_;rintro e w2 ⟨rfl,hw2⟩;rw[hw2];clear hw2 w2
   go_wp2_with fail
   refine (comp_none none 0 _).mono ?_;rintro e w2 ⟨rfl,hw2⟩;rw[hw2];clear hw2 w2;go_wp2;go_ret;exact⟨none,0,0,rfl,by rw[HT0.out];rfl,by rw[HT0.out];exact World.ownsRow_nil _ _ _ _,HB.out⟩
  cases hv;have hH:=holds_ints (L:=l.map fun o=>o.w) (by rw[←HALL.out,HKL.out];exact HO.out);have hgl:g<wr0.heap.size:=by
   have:=(Array.getElem?_eq_some_iff.1 hcur).1;exact this
  have HCU:Hid (wr0.heap[g]?=some (.cells cur 3 (0,0))∧cur.size=c5):=⟨hcur,by rw[hcs];show c5*1=c5;omega⟩;clear hcs;have HLL:Hid ((l.map fun o=>o.w).length=k):=show _=_ by rw[List.length_map,HN.out]
  have HH:Hid (Holds (Value.int i64) wr0 g 0 (l.map fun o=>o.w).toArray):=hH;have HGC:Hid (w.heap.size≤g∧k≤c5∧c5≤maxLen∧g<wr0.heap.size):=⟨hg,hnc,hcm,hgl⟩;obtain⟨M,hM⟩:∃M,M=(l.map fun o=>o.w).mergeSort fun x y=>decide (x≤y):=⟨_,rfl⟩
  have HML:Hid (M.length=k):=show _=_ by rw[hM,List.length_mergeSort,HLL.out]
  have HMT:Hid (Lib.compact M=tcL l):=show _=_ by rw[hM];exact cu_touch l
  have HSO:=sort_ints g c5 (l.map fun o=>o.w) wr0 hH hgl (by rw[HLL.out];omega);rw[HLL.out,←hM] at HSO;clear hH hcur hnc hcm hgl hM
  go_wp2_with fail
  refine HSO.mono ?_;rintro e w2 ⟨rfl,q,os,hw2⟩;have hH2:Holds (Value.int i64) w2 g 0 M.toArray:=by
   rw[hw2];exact holds_row HH.out (by simp[HML.out,HLL.out])
  have hB2:Below w.heap.size w w2:=by
   rw[hw2];exact HB.out.trans (below_row g 0 q _ os HGC.out.1 HB.out.size)
  have HH2:Hid (Holds (Value.int i64) w2 g 0 M.toArray):=hH2;have HC2:Hid (∃cur2,w2.heap[g]?=some (.cells cur2 3 (0,0))∧cur2.size=c5):=show ∃_,_ by
   rw[hw2];obtain⟨cur2,h1,h2⟩:=row_obj (g:=g) (off:=0) (m:=q) (d:=M.toArray) (os:=os) HCU.out.1;exact⟨cur2,h1,by rw[h2];exact HCU.out.2⟩
  have HB2:Hid (Below w.heap.size w w2):=hB2;have HCO:=comp_ints g c5 M w2 hH2 (by rw[HML.out];omega) (by rw[HML.out];exact HGC.out.2.1);rw[HML.out] at HCO;clear hH2 hB2 hw2 HSO
  go_wp2_with fail
  refine HCO.mono ?_;rintro e w3 ⟨rfl,q3,hw3⟩;have hfew:=comp_few M;have HB3:Hid (Below w.heap.size w w3):=show Below _ _ _ by
   rw[hw3,←grow_no (putRow _ _ _ _ _)];exact HB2.out.trans (below_row g 0 q3 _ #[] HGC.out.1 HB2.out.size)
  have HG3:Hid (w3.ownsRow w.heap.size 3 inE.n (.slice (some ⟨g,0,none⟩) (Lib.compact M).length c5) (Lib.compact M).length (cellsG inE (tcL l))):=show World.ownsRow _ _ _ _ _ _ _ by
   have hh:Holds (Value.int i64) w3 g 0 (Lib.compact M++List.replicate (k-(Lib.compact M).length) 0).toArray:=by
    rw[hw3,←grow_no (putRow _ _ _ _ _)];exact holds_row HH2.out (by have:=HML.out;simp;omega)
   obtain⟨cur3,h3,h4⟩:∃cur3,w3.heap[g]?=some (.cells cur3 3 (0,0))∧cur3.size=c5:=by
    obtain⟨cur2,h1,h2⟩:=HC2.out;obtain⟨cur3,h3,h4⟩:=row_obj (g:=g) (off:=0) (m:=q3) (d:=(Lib.compact M++List.replicate (k-(Lib.compact M).length) 0).toArray) (os:=#[]) h1;refine⟨cur3,?_,by rw[h4];exact h2⟩;rw[hw3,←grow_no (putRow _ _ _ _ _)];exact h3
   refine own_holds HGC.out.1 h3 (by have:=HML.out;have:=HGC.out;omega) HGC.out.2.2.1 h4 hh (by rw[HMT.out]) (fun j x hx=>?_);rw[←HMT.out] at hx;have hj:=(List.getElem?_eq_some_iff.1 hx).1;have hj2:j<(Lib.compact M++List.replicate (k-(Lib.compact M).length) 0).toArray.size:=by simp;omega
   refine⟨hj2,?_⟩;rw[getElem!_pos _ j hj2];simp only[List.getElem_toArray];rw[List.getElem_append_left hj];exact (List.getElem?_eq_some_iff.1 hx).2
  clear hw3 hfew HCO;go_wp2;go_ret;exact⟨_,_,_,rfl,by rw[HMT.out],HG3.out,HB3.out⟩
end
section
open Go.RowKit
theorem nx_pdc {w w1:World}{p B0:Nat}{O:Nat→Prop}{D:DrT}{xr:SlT}{vd:Value}{t B1 M:Nat}{a3:AdQ}{m3 c3:Nat}(h:PdC w p B0 O D xr vd t B1 M)(hb:Below w.heap.size w w1)
 (hg:w1.ownsRow w.heap.size 3 inE.n (.slice a3 m3 c3) (tcL (D.L.getD D.s [])).length (cellsG inE (tcL (D.L.getD D.s [])))):
 PdC (((w1.setCell ⟨p,3,none⟩ (.slice a3 m3 c3)).setCell ⟨p,2,none⟩ (.int i64 ((D.s+1:Nat):Int))).setCell ⟨p,4,none⟩ (.int i64 0)) p B0 (fun b=>O b∨(Value.slice a3 m3 c3).ownBlock=some b)
  { D with s:=D.s+1,l:=tcL (D.L.getD D.s []),k:=0 } xr (.slice a3 m3 c3) 0 B1 M:=by
 have h3:=(h.later hb).set3 (own_mono hg h.pB.2.2) h.low;exact (h3.set2 (D.s+1)).set4 0 0
theorem pnext_any {p B0:Nat}{O:Nat→Prop}{D:DrT}{K:Nat}(w:World)(h:Pd w p B0 O D)(hok:DrOK D K):
 Calls prog 7 #[.pointer (some ⟨p,0,none⟩)] w fun e w'=>DvN Pd noV w p B0 O (nxS D) (nxN D) (nxA D) e w':=by
 have HP:Hid (Pd w p B0 O D):=h;obtain⟨⟨ar,nr,cr⟩,vd,t,B1,M,h,htw⟩:=h;obtain⟨al,cl,e0⟩:=own_form h.l;obtain⟨nl,hnl⟩:∃nl,nl=D.l.length:=⟨_,rfl⟩;rw[←hnl] at e0;subst e0;have HH:Hid (PdC w p B0 O D (ar,nr,cr) (.slice al nl cl) t B1 M):=h;have HOK:Hid (DrOK D K):=hok;have hnr:D.L.length=nr:=(h.r w (Kb.refl _ _)).len;obtain⟨s,hs⟩:∃s:Int,s=(D.s:Int):=⟨_,rfl⟩;have c0:w.cell? ⟨p,0,none⟩=some (.slice ar nr cr):=h.c0;have c2:w.cell? ⟨p,2,none⟩=some (.int i64 s):=by rw[hs];exact h.c2
 have c3:w.cell? ⟨p,3,none⟩=some (.slice al nl cl):=h.c3;have HS:Hid (s=(D.s:Int)):=hs;have HNL:Hid (nl=D.l.length):=hnl;have HNR:Hid (D.L.length=nr):=hnr;have HNO:Hid (mayD D=false→∀w',Below w.heap.size w w'→DvN Pd noV w p B0 O (nxS D) (nxN D) (nxA D) (.returned (.tuple #[.slice none 0 0,.iface 81 (.int i64 6)])) w'):=fun hm w' hb=>by
  rw[nxS,nxN,nxA,hm];have e6:noV (if false=true then 0 else 6)=.iface 81 (.int i64 6):=no_ne (by decide);refine⟨none,0,0,?_,GS.nil _,(fun _ h=>by cases h),O,HP.out.kb (Kb.of_below hb fun b hl _=>hl),fun b h=>.inl h,(fun _ h=>by cases h),Kb.of_below hb fun b hl _=>hl⟩;rw[e6]
 by_cases hl0:(nl:Int) > 0
 ·have HM:Hid (mayD D=false):=show _=_ by
   rw[mayD,emp_iff hnl.symm,decide_eq_false (by omega)];rfl
  have hl1:decide ((nl:Int) > 0)=true:=decide_eq_true hl0;have hl2:decide (0<nl)=true:=decide_eq_true (by omega);have hl3:0<nl:=by omega
  clear h hok hnr hs hnl htw;go_enter func7,ntmps7;go_wp2
  go_quiet (fail)
  go_wp2;refine bodyPost_ret (v:=.tuple #[.slice none 0 0,.iface 81 (.int i64 6)]) (by simp[results,results7,go_sem, *]) rfl ?_;exact HNO.out HM.out _ (below_drwN _ _)
 have hl1:decide ((nl:Int) > 0)=false:=decide_eq_false hl0;have hl2:decide (0<nl)=false:=decide_eq_false (by omega);have hl3:¬0<nl:=by omega
 by_cases hsr:s=(nr:Int)
 ·have HM:Hid (mayD D=false):=show _=_ by
   rw[mayD,decide_eq_false (by omega),Bool.and_false]
  have hsb:(s==(nr:Int))=true:=by simp[hsr]
  clear h hok hnr hs hnl htw;go_enter func7,ntmps7;go_wp2
  go_quiet (fail)
  go_wp2;refine bodyPost_ret (v:=.tuple #[.slice none 0 0,.iface 81 (.int i64 6)]) (by simp[results,results7,go_sem, *]) rfl ?_;exact HNO.out HM.out _ (below_drwN _ _)
 have hsb:(s==(nr:Int))=false:=beq_false_of_ne hsr;have hsn:D.s<nr:=by
  have:=hok.s;omega
 have hm:mayD D=true:=by
  rw[mayD,emp_iff hnl.symm,decide_eq_true (by omega),decide_eq_true (by omega)];rfl
 have hs20:D.s≤20:=Nat.le_trans hok.s hok.L;obtain⟨gr,qr,R,a1,n1,c1,har,hRs,hc1,hGr⟩:=(h.r w (Kb.refl _ _)).at hsn;subst har;have hR:D.L.getD D.s []=R:=by simp[List.getD,hRs]
 have HRN:Hid (R.length=n1):=hGr.len;have HRL:Hid (R.length≤200):=hok.r R (List.mem_of_getElem? hRs);have HRG:Hid (∀V,Below w.heap.size w V→GS opE V (.slice a1 n1 c1) R):=fun V hV=>hGr.later hV
 have HNX:Hid (nxS D={ D with s:=D.s+1,l:=tcL R,k:=0 }∧nxN D=0∧nxA D=saD { D with s:=D.s+1,l:=tcL R,k:=0 }):=by
  have e:nxS D={ D with s:=D.s+1,l:=tcL R,k:=0 }:=by rw[nxS,hm,hR];rfl
  refine⟨e,by rw[nxN,hm];rfl,?_⟩;rw[nxA,hm,e];rfl
 have HOK2:Hid (DrOK { D with s:=D.s+1,l:=tcL R,k:=0 } (K+1)):=by
  show DrOK _ _;rw[←HNX.out.1];exact dk_nx hok
 have HTW:Hid (TwOK { D with s:=D.s+1,l:=tcL R,k:=0 } 0):=by
  have h1:=hok.w.1;refine⟨?_,.inr ?_⟩
  ·show ((0:Nat):Int)<D.W;omega
  show ((0:Nat):Int)=((0:Nat):Int) % D.W;simp
 have HRE:Hid (∀(w4:World) (a3:AdQ) (m3 c3:Nat),Below w.heap.size w w4→w4.ownsRow w.heap.size 3 inE.n (.slice a3 m3 c3) (tcL R).length (cellsG inE (tcL R)) →
  PdC (((w4.setCell ⟨p,3,none⟩ (.slice a3 m3 c3)).setCell ⟨p,2,none⟩ (.int i64 (s+1))).setCell ⟨p,4,none⟩ (.int i64 0)) p B0 (fun b=>O b∨(Value.slice a3 m3 c3).ownBlock=some b)
   { D with s:=D.s+1,l:=tcL R,k:=0 } (some ⟨gr,qr,none⟩,nr,cr) (.slice a3 m3 c3) 0 B1 M):=fun w4 a3 m3 c3 hb hg=>by
  have:=nx_pdc HH.out hb (by rw[hR];exact hg);rw[hR] at this;rw[hs];exact this
 have HC0:Hid (∀V,Below w.heap.size w V→V.cell? ⟨p,0,none⟩=some (.slice (some ⟨gr,qr,none⟩) nr cr)∧V.cell? ⟨p,2,none⟩=some (.int i64 s)∧V.cell? ⟨p,3,none⟩=some (.slice al nl cl)∧V.cell? ⟨p,4,none⟩=some (.int i64 (t:Int))∧(∀i,V.frozen? ⟨p,i,none⟩=false)∧V.cell? ⟨gr,qr+s.toNat,none⟩=some (.slice a1 n1 c1)):=fun V hV=>by
  have hx:=HH.out.later hV;have e:s.toNat=D.s:=by omega
  refine⟨hx.c0,by rw[hs];exact hx.c2,hx.c3,hx.c4,hx.f,?_⟩;rw[e];exact cell_later hV hc1
 have s0:0≤s:=by omega
 have s1:s<(nr:Int):=by omega
 have s2:s≤20:=by omega
 have hwr:IntKind.i64.wrap (s+1)=s+1:=by rw[IntKind.wrap_i64];omega
 have hn12:n1≤2199023255552:=by have:=HRL.out;have:=HRN.out;omega
 clear h hm hs20 hnr hsn hRs hc1 hGr hR hs htw hok hnl;go_enter func7,ntmps7;go_wp2
 go_quiet (fail)
 obtain⟨w1,hw1⟩:∃V,V=w.drewN nq:=⟨_,rfl⟩;have HB1:Hid (Below w.heap.size w w1):=by show Below _ _ _;rw[hw1];exact below_drwN _ _
 rw[←hw1];clear hw1 c0 c2 c3;have HC1:Hid (∀V,Below w1.heap.size w1 V→V.cell? ⟨p,0,none⟩=some (.slice (some ⟨gr,qr,none⟩) nr cr)∧V.cell? ⟨p,2,none⟩=some (.int i64 s)∧V.cell? ⟨p,3,none⟩=some (.slice al nl cl)∧V.cell? ⟨p,4,none⟩=some (.int i64 (t:Int))∧(∀i,V.frozen? ⟨p,i,none⟩=false)∧V.cell? ⟨gr,qr+s.toNat,none⟩=some (.slice a1 n1 c1)):=fun V hV=>HC0.out V (HB1.out.trans (hV.mono HB1.out.size))
 obtain⟨e0,e2,e3,e4,ef,e1⟩:=HC1.out w1 (bRQ _ _);go_upto_region 3 with fail
 go_cut [] from 23 to 37 (fun w'=>∃(w4:World) (a3:AdQ) (m3 c3:Nat),Below w1.heap.size w1 w4∧w4.ownsRow w1.heap.size 3 inE.n (.slice a3 m3 c3) (tcL R).length (cellsG inE (tcL R))∧w'=w4.setCell ⟨p,3,none⟩ (.slice a3 m3 c3))
 case first =>
  have f3:=ef 3;clear ef
  go_region_with (go_at_call 25;refine (touched_own a1 n1 c1 R _ (HRG.out _ (HB1.out.trans (Below.mono (by first | exact Below.drew (bRQ _ _) | exact bRQ _ _) HB1.out.size))) hn12).mono ?_;rintro e w9 ⟨a3,m3,c3,rfl,hm3,hg3,hb3⟩;have HB3:Hid (Below w1.heap.size w1 w9):=(Below.drew (bRQ _ _)).trans hb3;have HG3:Hid (w9.ownsRow w1.heap.size 3 inE.n (.slice a3 m3 c3) (tcL R).length (cellsG inE (tcL R))):=(by rw[←hm3];exact hg3);obtain⟨t0,t2,t3,t4,tf,t1⟩:=HC1.out _ HB3.out;have tf3:=tf 3;clear hg3 hm3 hb3 tf)
  all_goals (go_wp2_with fail;go_meet)
  all_goals exact⟨_,_,_,_,HB3.out,HG3.out,rfl⟩
 case rest =>
  obtain⟨w4,a3,m3,c3,hb4,hg4,rfl⟩:=hcut;have hbw4:Below w.heap.size w w4:=HB1.out.trans (hb4.mono HB1.out.size);have hF:=HRE.out w4 a3 m3 c3 hbw4 (own_mono hg4 HB1.out.size);obtain⟨w7,hw7⟩:∃V,V=(((w4.setCell ⟨p,3,none⟩ (.slice a3 m3 c3)).setCell ⟨p,2,none⟩ (.int i64 (s+1))).setCell ⟨p,4,none⟩ (.int i64 0)):=⟨_,rfl⟩;have HW7:Hid ((((w4.setCell ⟨p,3,none⟩ (.slice a3 m3 c3)).setCell ⟨p,2,none⟩ (.int i64 (s+1))).setCell ⟨p,4,none⟩ (.int i64 0))=w7):=hw7.symm;rw[←hw7] at hF;obtain⟨O',hO'⟩:∃O':Nat→Prop,O'=fun b=>O b∨(Value.slice a3 m3 c3).ownBlock=some b:=⟨_,rfl⟩
  rw[←hO'] at hF;have HF:Hid (PdC w7 p B0 O' { D with s:=D.s+1,l:=tcL R,k:=0 } (some ⟨gr,qr,none⟩,nr,cr) (.slice a3 m3 c3) 0 B1 M):=hF;have HO':Hid (∀b,O' b→O b∨w.heap.size≤b):=fun b hb=>by
   rw[hO'] at hb
   rcases hb with hb | hb
   ·exact .inl hb
   exact .inr (Nat.le_trans HB1.out.size (hg4.lt b hb).1)
  have HK7:Hid (Kb (fun b=>¬O b) w w7):=by
   have hpO:=HH.out.pO;have h4:Kb (fun b=>¬O b) w w4:=Kb.of_below hbw4 fun b hl _=>hl
   show Kb _ _ _;rw[hw7];exact ((h4.setCell (fun _ hn=>hn hpO) _).setCell (fun _ hn=>hn hpO) _).setCell (fun _ hn=>hn hpO) _
  clear hF hw7 hO';obtain⟨d0,d2,d3,d4,df,d1⟩:=HC1.out _ hb4;have df2:=df 2;have df3:=df 3;have df4:=df 4;clear hb4 hg4 e0 e1 e2 e3 e4 ef df hbw4;go_upto_region 6 with fail;rw[HW7.out];clear d0 d1 d2 d3 d4 df2 df3 df4 HW7
  go_wp2_with fail
  refine (psay_any _ HF.out HOK2.out).mono ?_;rintro e w8 ⟨a5,n5,c5,rfl,hg5,hn5,hb5⟩;have HR8:Hid (DvN Pd noV w p B0 O (nxS D) (nxN D) (nxA D) (.returned (.tuple #[.slice a5 n5 c5,.nilIface])) w8):=by
   show DvN _ _ _ _ _ _ _ _ _ _ _;rw[HNX.out.1,HNX.out.2.1,HNX.out.2.2];have hsz:=HK7.out.size;refine⟨a5,n5,c5,by rw[no_ok rfl],hg5,fun ad ha=>Nat.le_trans hsz (hn5 ad ha),O',⟨_,_,_,_,_,HF.out.later hb5,HTW.out⟩,HO'.out,fun ad ha h=>?_,HK7.out.trans (Kb.of_below hb5 fun b hl _=>hl)⟩;have h3:=hn5 ad ha;have h4:=(HF.out.lt _ h).2;omega
  clear hg5 hn5 hb5;go_wp2;refine bodyPost_ret (v:=.tuple #[.slice a5 n5 c5,.nilIface]) (by simp[results,results7,go_sem, *]) rfl ?_;exact HR8.out
theorem own_cut1 {w:World}{base e g n cap i:Nat}{xs:List Value}(h:w.ownsRow base e 1 (.slice (some ⟨g,0,none⟩) n cap) n xs)(hi:i≤n):w.ownsRow base e 1 (.slice (some ⟨g,0,none⟩) i cap) i (xs.take i):=by
 rcases h.2 with ⟨h',_⟩ | ⟨g',cap',cur,h',hb,hg,hnc,hcm,hcs,htake⟩
 ·simp at h'
 simp only[Value.slice.injEq,Option.some.injEq,Addr.mk.injEq,and_true,true_and] at h';obtain⟨rfl,rfl⟩:=h';refine⟨by rw[List.length_take,h.1];omega,.inr ⟨g,cap,cur,rfl,hb,hg,by omega,hcm,hcs,?_⟩⟩;rw[←htake,List.take_take,Nat.min_eq_left (by omega),Nat.mul_one]
theorem own_behind1 {base e g cap i:Nat}:∀(vs:List Value) (o:Nat) (w:World) (xs:List Value),w.ownsRow base e 1 (.slice (some ⟨g,0,none⟩) i cap) i xs→i≤o →
 (w.setCells g o vs).ownsRow base e 1 (.slice (some ⟨g,0,none⟩) i cap) i xs∧w.grownBy (w.setCells g o vs) (some g)
 | [],o,w,xs,h,_=>⟨h,rfl,rfl,rfl,nLQ _,fun _ _ _=>rfl⟩
 | v :: vs,o,w,xs,h,ho=>by
   have h1:=h.stored o v;have e1:xs.set o v=xs:=List.set_eq_of_length_le (by rw[h.1];omega);rw[e1] at h1;have h2:=own_behind1 vs (o+1) _ xs h1.1 (by omega);refine⟨h2.1,?_⟩;exact⟨h2.2.os.trans h1.2.os,h2.2.tape.trans h1.2.tape,h2.2.output.trans h1.2.output,Nat.le_trans h1.2.size h2.2.size,fun k hk hne=>(h2.2.block k (Nat.lt_of_lt_of_le hk h1.2.size) hne).trans (h1.2.block k hk hne)⟩
theorem run_clear1 (w:World)(t ty:TypeId)(ht:Tryz.prog.underlying t=some (.slice 3))(b o n c:Nat)(hn:0<n)
 (hc:∀j,j<n→(w.cell? ⟨b,o+j,none⟩).isSome=true) (hf:∀j,w.frozen? ⟨b,j,none⟩=false):
 (Builtin.clear_ #[t] ty #[.slice (some ⟨b,o,none⟩) n c]).run prog w=.ok (.tuple #[]) (w.setCells b o (Builtin.zeroCells (Value.int i64 0).cells n).toList):=by
 obtain⟨i0,hi,hz0,hz1,hz2⟩:=info_parts infoInt;have hv:∀w,(zeroValue 3).run prog w=.ok (.int i64 0) w:=fun w=>by simp[zeroValue,typeInfo,hi,hz0]
 have hs1:(Value.int i64 0).cells.size=1:=by simp[Value.cells]
 have hl:(Builtin.zeroCells (Value.int i64 0).cells n).toList.length=n:=by rw[Array.length_toList,size_zeroCells,hs1,Nat.mul_one]
 have h1:∀u∈(Builtin.zeroCells (Value.int i64 0).cells n).toList,u.oneCell'=true:=by
  intro u hu;simp only[Builtin.zeroCells,Array.toList_map,List.mem_map] at hu;obtain⟨i,_,rfl⟩:=hu;rw[hs1,Nat.mod_one];rfl
 have hst:=run_storeCells_cells (P:=prog) b o (Builtin.zeroCells (Value.int i64 0).cells n).toList 0 w (by rw[hl];simpa using hc) (fun j _=>hf _) h1;simp only[Nat.add_zero] at hst;exact run_clear_of w _ t _ ty ht b o n c hn _ hv _ rfl hst
theorem step_append_room {P:Program}{α:Type}{E:Enc α}(w:World){ops:Array Oper}{o:Oper}{a:Act}{K:Act→World→Prop}{Q:Exit→Act→World→Prop}{X:Prop}(hgd:o.guard=none)(s x:Operand)(t e:TypeId)
 (ho:o.op=.call { callee:=.builtin .append,args:=#[s,x],argTypes:=#[t,t] }) (ht:P.underlying t=some (.slice e)) (i:TypeInfo) (hi:P.info? e=some i) (hsize:i.size=E.n) (base g n cap:Nat)
 (hs:a.eval s=.slice (some ⟨g,0,none⟩) n cap) (L:List α) (hown:w.ownsRow base e E.n (.slice (some ⟨g,0,none⟩) n cap) n (cellsG E L)) (ad:Addr) (m c:Nat) (hx:a.eval x=.slice (some ad) m c) (M:List α)
 (hM:∀j u,(cellsG E M)[j]?=some u→w.cell? (ad.add j)=some u) (hm:M.length=m) (r:Nat) (hr:n+m=r) (hroom:r≤cap)
 (h:∀w',w'.ownsRow base e E.n (.slice (some ⟨g,0,none⟩) r cap) r (cellsG E (L++M))→w.grownBy w' (some g)→K (a.put o.dst (.slice (some ⟨g,0,none⟩) r cap)) w'):
 if Region.wanted o (yielded ops a.tmps)=true then Oper.wp P o a w K Q else X:=by
 have hw:Region.wanted o (yielded ops a.tmps)=true:=by simp[Region.wanted,hgd]
 rw[if_pos hw];subst hr;obtain⟨w',hrun,r1,r2⟩:=run_append_fits (P:=P) w base t o.type e i E.n ht hi hsize g n cap (cellsG E L) hown ad m c (cellsG E M) (by rw[cellsG_len,hm]) hM (cellsG_all M) hroom;unfold Oper.wp;simp[execOp,ho,resolve,invoke,builtin,hs,hx,hrun,Result.andThen];refine h w' ?_ r2;rw[cellsG_app];exact r1
theorem del_grown {w w5 w6:World}{r:Option Nat}(h:w.drew.grownBy w5 r)(h2:w5.grownBy w6 r):w.grownBy w6 r:=
 ⟨h2.os.trans h.os,h2.tape.trans h.tape,h2.output.trans h.output,Nat.le_trans h.size h2.size,fun k hk hn=>(h2.block k (Nat.lt_of_lt_of_le hk h.size) hn).trans (h.block k hk hn)⟩
theorem del_any (g n cap B:Nat)(L:List Int)(i j q:Nat)(w:World)(ho:w.ownsRow B 3 inE.n (.slice (some ⟨g,0,none⟩) n cap) n (cellsG inE L))(hL:L.length=n)(hi:i<n)(hj:j=i+1)(hq:n=q+1):
 Calls prog 42 #[.slice (some ⟨g,0,none⟩) n cap,.int i64 (i:Int),.int i64 (j:Int)] w fun e w'=>e=.returned (.slice (some ⟨g,0,none⟩) q cap)∧w'.ownsRow B 3 inE.n (.slice (some ⟨g,0,none⟩) q cap) q (cellsG inE (L.take i++L.drop j))∧w.grownBy w' (some g):=by
 obtain⟨hB,hnc,hcm⟩:B≤g∧n≤cap∧cap≤maxLen:=by
  rcases ho.2 with ⟨h',_⟩ | ⟨g',cap',cur,h',hb,_,h1,h2,_⟩
  ·simp at h'
  simp only[Value.slice.injEq,Option.some.injEq,Addr.mk.injEq,and_true,true_and] at h';obtain⟨rfl,rfl⟩:=h';exact⟨hb,h1,h2⟩
 have hc63:(cap:Int)≤9223372036854775807:=by unfold maxLen at hcm;omega
 obtain⟨i0,hi0,hz0,hz1,hz2⟩:=info_parts infoInt;have HI1:Hid (Tryz.prog.info? 3=some i0):=hi0;have HI3:Hid (i0.size=1):=hz1;have HL:Hid (L.length=n):=hL;have hG:GAt inE w g 0 L:=by
  have h1:w.ownsRow B 3 inE.n (.slice (some ⟨g,0,none⟩) n cap) L.length (cellsG inE L):=by rw[hL];exact ho
  rcases own_GS h1 with ⟨_,_,e,e2⟩ | ⟨g',o',cap',e,_,_,h3⟩
  ·rw[e2] at hL;simp at hL;omega
  cases e;exact h3
 have HO:Hid (∀V,Below w.heap.size w V→V.ownsRow B 3 1 (.slice (some ⟨g,0,none⟩) i cap) i (cellsG inE (L.take i))):=fun V hV=>by
  have h1:=own_cut1 (own_below ho hV) (Nat.le_of_lt hi);rw[in_cells,←List.map_take,←in_cells] at h1;exact h1
 have HD:Hid (∀V,Below w.heap.size w V→GAt inE V g (0+j*inE.n) (L.drop j)):=fun V hV=>(hG.later hV).drop j
 have HDC:Hid (∀V,Below w.heap.size w V→∀(t:Nat) (u:Value),(cellsG inE (L.drop j))[t]?=some u→V.cell? ((⟨g,j,none⟩:Addr).add t)=some u):=fun V hV t u hu=>by
  have h1:=(HD.out V hV).cells t u hu;have e:(0+j*inE.n:Nat)=j:=by show 0+j*1=j;omega
  rw[e] at h1;exact h1
 have HDL:Hid ((L.drop j).length=n-j):=show _=_ by rw[List.length_drop,hL]
 have HFZ:Hid (∀V,V.ownsRow B 3 1 (.slice (some ⟨g,0,none⟩) q cap) q (cellsG inE (L.take i++L.drop j))→∀ty,(Builtin.clear_ #[87] ty #[.slice (some ⟨g,q,none⟩) (n-q) (cap-q)]).run prog V=.ok (.tuple #[]) (V.setCells g q (Builtin.zeroCells (Value.int i64 0).cells (n-q)).toList)):=fun V hV ty =>
  run_clear1 V _ ty underlying87 g q (n-q) (cap-q) (by omega) (fun t ht=>by
   rcases hV.2 with ⟨h',_⟩ | ⟨g',cap',cur,h',hb,hg,h1,h2,hcs,_⟩
   ·simp at h'
   simp only[Value.slice.injEq,Option.some.injEq,Addr.mk.injEq,and_true,true_and] at h';obtain⟨rfl,rfl⟩:=h';have hlt:q+t<cur.size:=by rw[hcs];omega
   simp[World.cell?,hg,hlt]) (fun t=>hV.frozenAt t)
 have b0:(0:Int)≤(i:Int):=by omega
 have b1:(i:Int)≤(j:Int):=by omega
 have b2:(j:Int)≤(n:Int):=by omega
 have b3:(n:Int)≤(cap:Int):=by omega
 have b4:((i:Int)==(j:Int))=false:=beq_false_of_ne (by omega);have b5:(0:Int)≤(q:Int):=by omega
 have b6:(q:Int)≤(n:Int):=by omega
 have b7:(i:Int)≤(cap:Int):=by omega
 have b8:(j:Int)≤(cap:Int):=by omega
 have b9:¬cap=q:=by omega
 have b10:¬cap=i:=by omega
 have b11:¬n=i:=by omega
 have HQ:Hid (i+(n-j)=q∧q≤cap):=⟨by omega,by omega⟩;clear ho hL hG hi0 hz0 hz1 hz2 hj hq;go_enter func42,ntmps42;by_cases hcj:cap=j
 ·subst hcj;have hqi:q=i:=by have:=HQ.out.1;omega
  subst hqi;have hic:q≤cap:=by omega
  have HO5:Hid (w.drew.ownsRow B 3 inE.n (.slice (some ⟨g,0,none⟩) q cap) q (cellsG inE (L.take q++L.drop cap))):=show World.ownsRow _ _ _ _ _ _ _ by
   have e:L.drop cap=[]:=List.length_eq_zero_iff.1 (by have:=HDL.out;omega);rw[e,List.append_nil];exact HO.out _ (Below.drew (bRQ _ _))
  go_upto_region 5 with fail
  go_region
  all_goals (have hcl:=HFZ.out _ HO5.out;generalize (Builtin.zeroCells (Value.int i64 0).cells (n-q)).toList=Z at hcl;have hoc:=own_behind1 Z q w.drew _ HO5.out (nLQ _);have HOC:Hid ((w.drew.setCells g q Z).ownsRow B 3 inE.n (.slice (some ⟨g,0,none⟩) q cap) q (cellsG inE (L.take q++L.drop cap))∧w.grownBy (w.drew.setCells g q Z) (some g)):=⟨hoc.1,del_grown (gnn_refl w.drew |> fun h=>⟨h.os,h.tape,h.output,h.size,fun k hk _=>rfl⟩) hoc.2⟩;clear hoc;go_wp2;go_ret;exact⟨rfl,HOC.out.1,HOC.out.2⟩)
 go_upto_region 5 with fail
 go_region_law ((refine step_append_room (E:=inE) _ (by rfl) _ _ 87 3 (by rfl) underlying87 i0 HI1.out HI3.out B g i cap (by rfl) (L.take i) (HO.out _ (Below.drew (bRQ _ _))) ⟨g,j,none⟩ (n-j) _ (by rfl) (L.drop j) (HDC.out _ (Below.drew (bRQ _ _))) HDL.out q HQ.out.1 HQ.out.2 ?_;intro w5 ho5 hg5;have HO5:Hid (w5.ownsRow B 3 inE.n (.slice (some ⟨g,0,none⟩) q cap) q (cellsG inE (L.take i++L.drop j))):=ho5;have HG5:Hid (w.drew.grownBy w5 (some g)):=hg5;clear ho5 hg5))
 all_goals (have hcl:=HFZ.out _ HO5.out;generalize (Builtin.zeroCells (Value.int i64 0).cells (n-q)).toList=Z at hcl;have hoc:=own_behind1 Z q w5 _ HO5.out (nLQ _);have HOC:Hid ((w5.setCells g q Z).ownsRow B 3 inE.n (.slice (some ⟨g,0,none⟩) q cap) q (cellsG inE (L.take i++L.drop j))∧w.grownBy (w5.setCells g q Z) (some g)):=⟨hoc.1,del_grown HG5.out hoc.2⟩;clear hoc;go_wp2;go_ret;exact⟨rfl,HOC.out.1,HOC.out.2⟩)
theorem num_idx (ao:AdQ)(n cap:Nat)(h:Int)(L:List Int)(w:World)(hs:GS inE w (.slice ao n cap) L):
 Calls prog 41 #[.slice ao n cap,.int i64 h] w fun e w'=>e=.returned (.int i64 (ixG (fun x=>x==h) L))∧Below w.heap.size w w':=by
 obtain⟨_,_,_,e1,hn,hn2,_,ha⟩:=hs.form;cases e1;have HN:Hid (L.length=n):=hn;have HA:Hid (0<n→∃g o,ao=some ⟨g,o,none⟩∧GAt inE w g o L∧cap≤maxLen):=ha;unfold maxLen at hn2;clear hn ha hs;go_enter func41,ntmps41;go_wp2
 go_loopw [8] (fun i wr=>∃k:Nat,k≤n∧i=.int i64 k∧(L.take k).any (fun x=>x==h)=false∧Below w.heap.size w wr)
  (fun i _=>n-(intOf i).toNat)
 case atStart=>exact⟨0,by omega,rfl,by simp,bRQ _ _⟩
 case round =>
  obtain⟨k,hk,rfl,hno,hB⟩:=hrel;have HB:Hid (Below w.heap.size w wr):=hB;have HNO:Hid ((L.take k).any (fun x=>x==h)=false):=hno;clear hno;by_cases hlt:k<n
  ·obtain⟨g,o,hao,hc,_⟩:=HA.out (by omega);subst hao;obtain⟨x,hkl,hL,q0⟩:=in_at (hc.later hB) HN.out hlt;have HL:Hid (L[k]=x):=hL;clear hB hL hc;by_cases ho:x=h
   ·subst ho;go_wp2;go_ret;exact⟨by rw[ixG_hit hkl HNO.out (by rw[HL.out];simp)];rfl,HB.out⟩
   have ho2:h≠x:=Ne.symm ho;go_wp2;go_roundw
   case rel=>exact⟨k+1,by omega,by go_num,any_nextG hkl HNO.out (by rw[HL.out];simpa using ho),HB.out⟩
   case measure=>simp[intOf];omega
  obtain rfl:k=n:=by omega
  go_wp2;go_ret;exact⟨by have:=HNO.out;rw[←HN.out,List.take_length] at this;rw[ixG_no this];rfl,HB.out⟩
theorem dwenc_any (x0 x1 x2 x3 x4:Int)(x5:Bool)(x6 x7 x8 x9 x10 x11:Int)(w:World):
 Calls prog 8 #[.agg #[.int i64 x0,.int i64 x1,.int i64 x2,.int i64 x3,.int i64 x4,.bool x5,.int i64 x6,.int i64 x7,.int i64 x8,.int i64 x9,.int i64 x10,.int i64 x11]] w fun e w'=>e=.returned (.tuple #[.string (enT ⟨x0,x1,x2,x3,⟨x4,x5,⟨x6,x7,x8,x9,x10,x11⟩⟩⟩),noV (mgN ⟨x0,x1,x2,x3,⟨x4,x5,⟨x6,x7,x8,x9,x10,x11⟩⟩⟩)])∧Below w.heap.size w w':=by
 by_cases h:mgN ⟨x0,x1,x2,x3,⟨x4,x5,⟨x6,x7,x8,x9,x10,x11⟩⟩⟩=0
 ·exact wenc_yes x0 x1 x2 x3 x4 x5 x6 x7 x8 x9 x10 x11 w h
 exact wenc_no x0 x1 x2 x3 x4 x5 x6 x7 x8 x9 x10 x11 w h
theorem pdvh_same {w w':World}{p B0:Nat}{O:Nat→Prop}{D:DrT}{E:Int}(h:Pd w p B0 O D)(hb:Below w.heap.size w w'):DvH Pd noV w p B0 O D E (.returned (noV E)) w':=
 ⟨rfl,O,h.kb (Kb.of_below hb fun b hl _=>hl),fun b h=>.inl h,Kb.of_below hb fun b hl _=>hl⟩
theorem wt_less {l:List Int}{x:Int}(hn:l.Nodup){i:Nat}(hi:i<l.length)(hx:l[i]=x):wtI l [x]=l.take i++l.drop (i+1):=by
 have e:l=l.take i++x :: l.drop (i+1):=by
  rw[←hx,←List.drop_eq_getElem_cons hi,List.take_append_drop]
 have h1:∀y∈l.take i,y≠x:=by
  intro y hy e2;rw[e] at hn;exact (List.nodup_append.1 hn).2.2 y hy x (by simp) e2
 have h2:∀y∈l.drop (i+1),y≠x:=by
  intro y hy e2;rw[e] at hn;have h3:=(List.nodup_append.1 hn).2.1;rw[e2] at hy;exact (List.nodup_cons.1 h3).1 hy
 have hf:∀{m:List Int},(∀y∈m,y≠x)→m.filter (fun a => !([x]:List Int).any fun y=>y==a)=m:=by
  intro m hm;refine List.filter_eq_self.2 fun y hy=>?_
  have:x≠y:=Ne.symm (hm y hy);simp[this]
 have e3:wtI l [x]=wtI (l.take i++x :: l.drop (i+1)) [x]:=by rw[←e]
 rw[e3];unfold wtI;rw[List.filter_append,List.filter_cons];have hxx:(!([x]:List Int).any fun y=>y==x)=false:=by simp
 rw[hxx,if_neg (by decide)];rw[hf h1,hf h2]
theorem in_ix {D:DrT}{x:Int}(h:inD D x=true):∃(i:Nat) (hi:i<D.l.length),D.l[i]=x∧ixG (fun y=>y==x) D.l=(i:Int):=by
 have h1:D.l.any (fun y=>y==x)=true:=h;have h2:D.l.findIdx (fun y=>y==x)<D.l.length:=List.findIdx_lt_length.2 (by simpa using h1);have h3:(D.l[D.l.findIdx (fun y=>y==x)]==x)=true:=List.findIdx_getElem (w:=h2);refine⟨_,h2,by simpa using h3,ixG_hit h2 ?_ h3⟩;rw[List.any_eq_false];intro a ha;rw[List.mem_take_iff_getElem] at ha;obtain⟨i,hi,rfl⟩:=ha;have:=List.not_of_lt_findIdx (p:=fun y=>y==x) (xs:=D.l) (i:=i) (by omega);simpa using this
theorem pdhear_any {p B0:Nat}{O:Nat→Prop}{D:DrT}{K:Nat}(x0 x1 x2 x3 x4:Int)(x5:Bool)(x6 x7 x8 x9 x10 x11:Int)(w:World)(h:Pd w p B0 O D)(hok:DrOK D K):
 Calls prog 13 #[.pointer (some ⟨p,0,none⟩),.agg #[.int i64 x0,.int i64 x1,.int i64 x2,.int i64 x3,.int i64 x4,.bool x5,.int i64 x6,.int i64 x7,.int i64 x8,.int i64 x9,.int i64 x10,.int i64 x11]] w fun e w' =>
  DvH Pd noV w p B0 O (dhS D ⟨x0,x1,x2,x3,⟨x4,x5,⟨x6,x7,x8,x9,x10,x11⟩⟩⟩) (dhN D ⟨x0,x1,x2,x3,⟨x4,x5,⟨x6,x7,x8,x9,x10,x11⟩⟩⟩) e w':=by
 have HP:Hid (Pd w p B0 O D):=h;obtain⟨xr,vd,t,B1,M,h,htw⟩:=h;obtain⟨al,cl,e0⟩:=own_form h.l;obtain⟨nl,hnl⟩:∃nl,nl=D.l.length:=⟨_,rfl⟩;rw[←hnl] at e0;subst e0;have HH:Hid (PdC w p B0 O D xr (.slice al nl cl) t B1 M):=h;have HTW:Hid (TwOK D t):=htw;have HNL:Hid (D.l.length=nl):=hnl.symm;obtain⟨m,hm⟩:∃m:Mg,m=⟨x0,x1,x2,x3,⟨x4,x5,⟨x6,x7,x8,x9,x10,x11⟩⟩⟩:=⟨_,rfl⟩;have HM:Hid (m.k=x0∧m.s=x1∧m.r=x2):=by rw[hm];exact⟨rfl,rfl,rfl⟩
 obtain⟨wb,hwb⟩:∃V,V=w.alloc (.cells #[.int i64 x0,.int i64 x1,.int i64 x2,.int i64 x3,.int i64 x4,.bool x5,.int i64 x6,.int i64 x7,.int i64 x8,.int i64 x9,.int i64 x10,.int i64 x11] 51):=⟨_,rfl⟩;have HWB:Hid (w.alloc (.cells #[.int i64 x0,.int i64 x1,.int i64 x2,.int i64 x3,.int i64 x4,.bool x5,.int i64 x6,.int i64 x7,.int i64 x8,.int i64 x9,.int i64 x10,.int i64 x11] 51)=wb):=hwb.symm;have hbb:Below w.heap.size w wb:=by rw[hwb];exact (bRQ _ _).alloc (nLQ _) _
 have hmc:=msg_cells (w:=wb) (g:=w.heap.size) (o:=0) (x0:=x0) (x1:=x1) (x2:=x2) (x3:=x3) (x4:=x4) (x5:=x5) (x6:=x6) (x7:=x7) (x8:=x8) (x9:=x9) (x10:=x10) (x11:=x11) (by rw[hwb];exact msg_new w x0 x1 x2 x3 x4 x5 x6 x7 x8 x9 x10 x11 _);simp only[Nat.zero_add] at hmc;have HBB:Hid (Below w.heap.size w wb):=hbb;obtain⟨q0,q1,q2,q3,q4,q5,q6,q7,q8,q9,q10,q11⟩:=hmc;have HQ:Hid (∀V,Below wb.heap.size wb V→V.cell? ⟨w.heap.size,0,none⟩=some (.int i64 x0)∧V.cell? ⟨w.heap.size,1,none⟩=some (.int i64 x1)∧V.cell? ⟨w.heap.size,2,none⟩=some (.int i64 x2)):=fun V hV=>⟨cell_later hV q0,cell_later hV q1,cell_later hV q2⟩
 obtain⟨Z,hZ⟩:∃Z,Z=mgN m:=⟨_,rfl⟩;have HZ:Hid (mgN m=Z):=hZ.symm;have HOK:Hid (DrOK D K):=hok;have HR3:Hid (¬(Z=0∧x0=3)→∀w',Below w.heap.size w w'→DvH Pd noV w p B0 O (dhS D m) (dhN D m) (.returned (.iface 81 (.int i64 3))) w'):=fun hn w' hb=>by
  have e:dhN D m=3:=by
   rw[dhN,if_neg];rintro⟨h1,h2⟩;exact hn ⟨by rw[hZ];exact h1,by rw[←HM.out.1];exact h2⟩
  rw[dhS,e,if_neg (by omega),←no_ne (n:=3) (by omega)];exact pdvh_same HP.out hb
 have HR6:Hid (¬(x2=(D.s:Int)-1∧inD D x1=true)→Z=0→x0=3→∀w',Below w.heap.size w w'→DvH Pd noV w p B0 O (dhS D m) (dhN D m) (.returned (.iface 81 (.int i64 6))) w'):=fun hn hz h3 w' hb=>by
  have e:dhN D m=6:=by
   rw[dhN,if_pos ⟨by rw[←hZ];exact hz,by rw[HM.out.1];exact h3⟩,if_neg];rw[HM.out.2.1,HM.out.2.2];exact hn
  rw[dhS,e,if_neg (by omega),←no_ne (n:=6) (by omega)];exact pdvh_same HP.out hb
 have hz':mgN ⟨x0,x1,x2,x3,⟨x4,x5,⟨x6,x7,x8,x9,x10,x11⟩⟩⟩=Z:=by rw[hZ,hm]
 have HZ2:Hid (mgN ⟨x0,x1,x2,x3,⟨x4,x5,⟨x6,x7,x8,x9,x10,x11⟩⟩⟩=Z):=hz';rw[←hm];obtain⟨Tx,hTx⟩:∃Tx,Tx=enT ⟨x0,x1,x2,x3,⟨x4,x5,⟨x6,x7,x8,x9,x10,x11⟩⟩⟩:=⟨_,rfl⟩;have HTx:Hid (enT ⟨x0,x1,x2,x3,⟨x4,x5,⟨x6,x7,x8,x9,x10,x11⟩⟩⟩=Tx):=hTx.symm;clear h hok hm hwb hbb hZ hz' hnl htw hTx;go_enter func13,ntmps13;go_upto_region 1 with fail;rw[HWB.out];clear HWB
 go_wp2_with fail
 refine (dwenc_any x0 x1 x2 x3 x4 x5 x6 x7 x8 x9 x10 x11 _).mono ?_;rintro e w1 ⟨rfl,hb1⟩;rw[HZ2.out,HTx.out];have HB1:Hid (Below wb.heap.size wb w1):=hb1;have HBW:Hid (Below w.heap.size w w1):=HBB.out.trans (hb1.mono HBB.out.size);obtain⟨r0,r1,r2⟩:=HQ.out _ hb1;clear hb1 q0 q1 q2 q3 q4 q5 q6 q7 q8 q9 q10 q11 HZ2 HTx;by_cases hz0:Z=0
 ·rw[no_ok hz0];by_cases h3:x0=3
  ·have HZ3:Hid (Z=0∧x0=3):=⟨hz0,h3⟩;have h3b:(x0 != 3)=false:=by simp[h3]
   have HL1:Hid (∀V,Below w1.heap.size w1 V→PdC V p B0 O D xr (.slice al nl cl) t B1 M∧V.cell? ⟨w.heap.size,1,none⟩=some (.int i64 x1)∧V.cell? ⟨w.heap.size,2,none⟩=some (.int i64 x2)):=fun V hV =>
    ⟨HH.out.later (HBW.out.trans (hV.mono HBW.out.size)),(HQ.out V (HB1.out.trans (hV.mono HB1.out.size))).2⟩
   have c3:w1.cell? ⟨p,3,none⟩=some (.slice al nl cl):=(HL1.out _ (bRQ _ _)).1.c3;obtain⟨I,hI⟩:∃I,I=ixG (fun y=>y==x1) D.l:=⟨_,rfl⟩;have HI:Hid (ixG (fun y=>y==x1) D.l=I):=hI.symm;clear hz0 hI;go_upto_region 4 with fail
   go_cut [7] from 21 to 28 (fun v w'=>v=.int i64 I∧Below w1.heap.size w1 w')
   case first =>
    clear h3
    go_region_with (go_at_call 41;refine (num_idx al nl cl x1 D.l _ ((HL1.out _ (by first | exact Below.drew (bRQ _ _) | exact bRQ _ _)).1.gl)).mono ?_;rintro e w9 ⟨rfl,hb9⟩;rw[HI.out];have HB9:Hid (Below w1.heap.size w1 w9):=(Below.drew (bRQ _ _)).trans hb9;clear hb9)
    all_goals (go_wp2_with fail;go_meet)
    all_goals exact⟨rfl,HB9.out⟩
   case rest =>
    obtain⟨rfl,hb2⟩:=hcut;obtain⟨w2,hw2⟩:∃V,V=wc:=⟨_,rfl⟩;subst hw2;have HB2:Hid (Below w1.heap.size w1 w2):=hb2;have HBX:Hid (Below w.heap.size w w2):=HBW.out.trans (hb2.mono HBW.out.size);have HL2:Hid (∀V,Below w2.heap.size w2 V→PdC V p B0 O D xr (.slice al nl cl) t B1 M∧V.cell? ⟨w.heap.size,1,none⟩=some (.int i64 x1)∧V.cell? ⟨w.heap.size,2,none⟩=some (.int i64 x2)):=fun V hV =>
     HL1.out V (HB2.out.trans (hV.mono HB2.out.size))
    obtain⟨hx,y1,y2⟩:=HL2.out w2 (bRQ _ _);obtain⟨s,hs⟩:∃s:Int,s=(D.s:Int):=⟨_,rfl⟩;have HS:Hid (s=(D.s:Int)):=hs;have c2:w2.cell? ⟨p,2,none⟩=some (.int i64 s):=by rw[hs];exact hx.c2
    have hs20:D.s≤20:=Nat.le_trans HOK.out.s HOK.out.L;have hs0:0≤s:=by omega
    have hs2:s≤20:=by omega
    have hwr:IntKind.i64.wrap (s-1)=s-1:=by rw[IntKind.wrap_i64];omega
    clear hb2 hx hs hs20 r0 r1 r2 c3 HL1 y1;by_cases hr:x2=s-1
    ·have hr1:(x2 != s-1)=false:=by simp[hr]
     have HRX:Hid (x2=s-1):=hr;clear hr;cases hin:inD D x1 with
     | false =>
       have hIn:I = -1:=by
        rw[←HI.out];exact ixG_no hin
       subst hIn;have HF:Hid (∀n,DvH Pd noV w p B0 O (dhS D m) (dhN D m) (.returned (.iface 81 (.int i64 6))) (w2.drewN n)):=fun n =>
        HR6.out (fun hh=>by rw[hin] at hh;cases hh.2) HZ3.out.1 HZ3.out.2 _ (HBX.out.trans ((below_drwN w2 n).mono HBX.out.size))
       clear hin h3 HI;go_upto_region 5 with fail
       go_quiet (fail)
       go_wp2;go_ret;exact HF.out _
     | true =>
       obtain⟨ix,hix,hlx,hIx⟩:=in_ix hin;have hIe:I=(ix:Int):=by rw[←HI.out];exact hIx
       subst hIe;have hixn:ix<nl:=by rw[←HNL.out];exact hix
       have HE:Hid (dhN D m=0):=by
        show _=_;rw[dhN,if_pos ⟨by rw[HZ.out];exact HZ3.out.1,by rw[HM.out.1];exact HZ3.out.2⟩,if_pos];refine⟨?_,?_⟩
        ·rw[HM.out.2.2,HRX.out,HS.out]
        rw[HM.out.2.1];exact hin
       have HW:Hid (wtI D.l [x1]=D.l.take ix++D.l.drop (ix+1)):=wt_less (ris_nodup HOK.out.l) hix hlx;have HD2:Hid (dhS D m={ D with l:=wtI D.l [x1] }):=by
        show _=_;rw[dhS,if_pos HE.out,HM.out.2.1]
       obtain⟨gl,hal⟩:∃gl,al=some ⟨gl,0,none⟩:=by
        rcases HH.out.l.2 with ⟨h1,h2⟩ | ⟨g,cap,cur,h1,_⟩
        ·omega
        cases h1;exact⟨g,rfl⟩
       subst hal;obtain⟨qn,hqn⟩:∃qn,nl=qn+1:=⟨nl-1,by omega⟩;have HQN:Hid (nl=qn+1):=hqn;obtain⟨jx,hjx⟩:∃jx,jx=ix+1:=⟨_,rfl⟩;have HJX:Hid (jx=ix+1):=hjx;have hwj:IntKind.i64.wrap ((ix:Int)+1)=(jx:Int):=by
        have h6:=HOK.out.six;have h7:=HNL.out;rw[IntKind.wrap_i64];omega
       have ix0:¬(ix:Int)<0:=by omega
       have hixl:decide ((ix:Int)<0)=false:=decide_eq_false ix0;clear hin h3 HI hix hlx hIx hqn hjx;go_upto_region 5 with fail
       go_quiet (fail)
       obtain⟨w3,hw3⟩:∃V,V=w2.drewN nq:=⟨_,rfl⟩;have HB3:Hid (Below w2.heap.size w2 w3):=by show Below _ _ _;rw[hw3];exact below_drwN _ _
       rw[←hw3];have HBY:Hid (Below w.heap.size w w3):=HBX.out.trans (HB3.out.mono HBX.out.size);have HL3:Hid (∀V,Below w3.heap.size w3 V→PdC V p B0 O D xr (.slice (some ⟨gl,0,none⟩) nl cl) t B1 M):=fun V hV=>(HL2.out V (HB3.out.trans (hV.mono HB3.out.size))).1
       have c3:w3.cell? ⟨p,3,none⟩=some (.slice (some ⟨gl,0,none⟩) nl cl):=(HL3.out _ (bRQ _ _)).c3;have f3:w3.frozen? ⟨p,3,none⟩=false:=(HL3.out _ (bRQ _ _)).f 3;have HGP:Hid (M≤gl∧p<M∧O gl∧O p):=by
        have h1:=HH.out.pB;have h2:=(HH.out.l.lt gl rfl).1;exact⟨h2,by omega,HH.out.lO gl rfl,HH.out.pO⟩
       have HCD:Hid (∀V,Below w3.heap.size w3 V→Calls prog 42 #[.slice (some ⟨gl,0,none⟩) nl cl,.int i64 (ix:Int),.int i64 (jx:Int)] V fun e w9 =>
        e=.returned (.slice (some ⟨gl,0,none⟩) qn cl)∧w9.cell? ⟨p,3,none⟩=some (.slice (some ⟨gl,0,none⟩) nl cl)∧w9.frozen? ⟨p,3,none⟩=false∧p<w9.heap.size∧DvH Pd noV w p B0 O (dhS D m) (dhN D m) (.returned .nilIface) (w9.setCell ⟨p,3,none⟩ (.slice (some ⟨gl,0,none⟩) qn cl))):=fun V hV=>by
        have hx:=HL3.out V hV;have hol:V.ownsRow M 3 inE.n (.slice (some ⟨gl,0,none⟩) nl cl) nl (cellsG inE D.l):=by
         have:=hx.l;rw[HNL.out] at this;exact this
        refine (del_any gl nl cl M D.l ix jx qn V hol HNL.out hixn HJX.out HQN.out).mono ?_;rintro e w9 ⟨rfl,ho9,hg9⟩;have hne:some p≠some gl:=fun e=>by
         have:=HGP.out;cases e;omega
        have hps:p<V.heap.size:=hx.pl;have hlen:(wtI D.l [x1]).length=qn:=by
         rw[HW.out,List.length_append,List.length_take,List.length_drop,HNL.out,HQN.out];have:=HQN.out;omega
        have hk9:Kb (fun b=>b≠gl) V w9:=(Kb.refl _ V).grown hg9 fun r e _ h=>by cases e;exact h rfl
        refine⟨rfl,hg9.cell hx.c3 hne,(World.frozen?_of_block (hg9.block p hps hne)).trans (hx.f 3),Nat.lt_of_lt_of_le hps hg9.size,?_⟩;rw[HE.out,HD2.out];have hbV:Below w.heap.size w V:=HBY.out.trans (hV.mono HBY.out.size);have hpB:=hx.pB;have hgp:=HGP.out;have ho9':w9.ownsRow M 3 inE.n (.slice (some ⟨gl,0,none⟩) qn cl) (wtI D.l [x1]).length (cellsG inE (wtI D.l [x1])):=by
         rw[hlen,HW.out,←HJX.out];exact ho9
        have hp9:PdC (w9.setCell ⟨p,3,none⟩ (.slice (some ⟨gl,0,none⟩) qn cl)) p B0 O { D with l:=wtI D.l [x1] } xr (.slice (some ⟨gl,0,none⟩) qn cl) t B1 M:=by
         have hcp:∀i u,V.cell? ⟨p,i,none⟩=some u→w9.cell? ⟨p,i,none⟩=some u:=fun i u hc=>hg9.cell hc hne
         have hks:Kb (fun b=>b≠p) w9 (w9.setCell ⟨p,3,none⟩ (.slice (some ⟨gl,0,none⟩) qn cl)):=(Kb.refl _ w9).setCell (q:=⟨p,3,none⟩) (fun _ h=>h rfl) _;refine⟨cl_off (hcp 0 _ hx.c0) (by omega) _,cl_off (hcp 1 _ hx.c1) (by omega) _,cl_off (hcp 2 _ hx.c2) (by omega) _,World.cell?_setCell_same _ _ _ (hcp 3 _ hx.c3),cl_off (hcp 4 _ hx.c4) (by omega) _,fun i=>?_,fun U hU=>?_,⟨hpB.1,hpB.2.1,?_⟩,hx.rO,?_,fun b hb=>?_,hx.pO,fun b hb=>?_⟩
         ·rw[World.frozen?_setCell];exact (World.frozen?_of_block (hg9.block p hps hne)).trans (hx.f i)
         ·refine hx.r U (((hk9.mono fun b _ hb=>?_).trans (hks.mono fun b _ hb=>?_)).trans hU)
          ·have:=hb.2;omega
          have:=hb.1;omega
         ·rw[set_size];exact Nat.le_trans hpB.2.2 hg9.size
         ·refine own_kb ho9' hks fun b hb=>?_
          cases hb;intro (e:gl=p);have h7:=hgp.1;have h8:=hgp.2.1;omega
         ·cases hb;exact hgp.2.2.1
         rw[set_size];exact⟨(hx.lt b hb).1,Nat.lt_of_lt_of_le (hx.lt b hb).2 hg9.size⟩
        have h4:Kb (fun b=>¬O b) w w9:=(Kb.of_below hbV fun b hl _=>hl).trans (hk9.mono fun b _ hb e=>hb (by rw[e];exact hgp.2.2.1));refine⟨by rw[no_ok rfl],O,⟨_,_,_,_,_,hp9,HTW.out.1,?_⟩,fun b hb=>.inl hb,h4.setCell (fun _ hn=>hn hgp.2.2.2) _⟩
        rcases HTW.out.2 with h5 | h5
        ·exact .inl (by show wtI D.l _=[];rw[h5];rfl)
        exact .inr h5
       have gp:p<w3.heap.size:=bLQ _ _ c3;clear hw3 y2 c2 HL2
       go_wp2_with fail
       refine (HCD.out _ (bRQ _ _)).mono ?_;rintro e w9 ⟨rfl,g3,gf,gs,hF9⟩;have HF9:Hid (DvH Pd noV w p B0 O (dhS D m) (dhN D m) (.returned .nilIface) (w9.setCell ⟨p,3,none⟩ (.slice (some ⟨gl,0,none⟩) qn cl))):=hF9;clear hF9;go_wp2;go_ret;exact HF9.out
    have hr1:(x2 != s-1)=true:=by simp[hr]
    have HF:Hid (∀n,DvH Pd noV w p B0 O (dhS D m) (dhN D m) (.returned (.iface 81 (.int i64 6))) (w2.drewN n)):=fun n =>
     HR6.out (fun hh=>hr (by rw[hh.1,HS.out])) HZ3.out.1 HZ3.out.2 _ (HBX.out.trans ((below_drwN w2 n).mono HBX.out.size))
    clear h3;go_upto_region 5 with fail
    go_quiet (fail)
    go_wp2;go_ret;exact HF.out _
  have h3b:(x0 != 3)=true:=by simp[h3]
  have HF:Hid (DvH Pd noV w p B0 O (dhS D m) (dhN D m) (.returned (.iface 81 (.int i64 3))) w1):=HR3.out (fun h=>h3 h.2) _ HBW.out;go_wp2;go_ret;exact HF.out
 have HF:Hid (DvH Pd noV w p B0 O (dhS D m) (dhN D m) (.returned (.iface 81 (.int i64 3))) w1):=HR3.out (fun h=>hz0 h.1) _ HBW.out;rw[no_ne hz0];go_wp2;go_ret;exact HF.out
theorem pdi:PdI Pd where
 kb:=fun h hk=>h.kb hk
 lt:=fun h=>h.lt
 new:=fun ao n c L T B0 w hr hB=>pdnew_any ao n c L T B0 w hr hB
 next:=fun w h hok _=>pnext_any w h hok
 hear:=fun x0 x1 x2 x3 x4 x5 x6 x7 x8 x9 x10 x11 w h hok _=>pdhear_any x0 x1 x2 x3 x4 x5 x6 x7 x8 x9 x10 x11 w h hok
 done:=fun w h hok _=>pddone_any w h hok
def keptO (l:List Kp)(r i:Int):Option Op8:=(l.find? (kpB r i)).map Kp.o
theorem kept_has (l:List Kp)(r i:Int):(keptO l r i).isSome=hasK l r i:=by
 rw[keptO,hasK,Option.isSome_map]
 induction l with
 | nil=>rfl
 | cons x l ih =>
   rw[List.find?_cons,List.any_cons];cases kpB r i x with
   | true=>rfl
   | false=>rw[Bool.false_or];exact ih
theorem kept_op (l:List Kp)(r i:Int):(keptO l r i).getD zeP=opK l r i:=rfl
theorem kept_app (l:List Kp)(x:Kp)(r i:Int):keptO (l++[x]) r i=if (keptO l r i).isSome then keptO l r i else if kpB r i x=true then some x.o else none:=by
 unfold keptO;rw[List.find?_append];cases l.find? (kpB r i) with
 | some y=>rfl
 | none =>
   rw[Option.none_or,List.find?_singleton];cases kpB r i x <;> rfl
theorem kept_new {l:List Kp}{r i:Int}{o:Op8}(h:hasK l r i=false)(s j:Int):keptO (l++[⟨r,i,o⟩]) s j=if s=r∧j=i then some o else keptO l s j:=by
 rw[kept_app];by_cases h1:s=r∧j=i
 ·rw[if_pos h1];obtain⟨rfl,rfl⟩:=h1;rw[kept_has,h,if_neg (by simp),if_pos (by simp[kpB])]
 rw[if_neg h1];have:kpB s j ⟨r,i,o⟩=false:=by
  cases e:kpB s j ⟨r,i,o⟩ with
  | false=>rfl
  | true =>
    simp only[kpB,Bool.and_eq_true,beq_iff_eq] at e;exact absurd ⟨e.1.symm,e.2.symm⟩ h1
 rw[this];cases keptO l s j <;> rfl
def opV8 (o:Op8):Value:=.agg #[.int i64 o.w,.bool o.a,.int i64 o.r.p,.int i64 o.r.m,.int i64 o.r.b,.int i64 o.r.o,.int i64 o.r.s,.int i64 o.r.v]
theorem opv_zero (w:World):(zeroValue 49).run prog w=.ok (opV8 zeP) w:=by kernel_rfl
theorem getV_op (o:Option Op8):getV opV8 (opV8 zeP) o=opV8 (o.getD zeP):=by cases o <;> rfl
structure Pt where
 m:Option Nat
 h:Int
 a:Bool
 s:Int
 d:Bool
structure PtAt (W:World)(b o:Nat)(q:Pt):Prop where
 c0:W.cell? ⟨b,o,none⟩=some (.map q.m)
 c1:W.cell? ⟨b,o+1,none⟩=some (.int i64 q.h)
 c2:W.cell? ⟨b,o+2,none⟩=some (.bool q.a)
 c3:W.cell? ⟨b,o+3,none⟩=some (.int i64 q.s)
 c4:W.cell? ⟨b,o+4,none⟩=some (.bool q.d)
def MpA (W:World)(m:Option Nat)(M:List (Int×Op8)):Prop:=(m=none∧M=[])∨∃b,m=some b∧MAt intKey opV8 W b M
section
variable {W W':World}{b o:Nat}{q:Pt}{m:Option Nat}{M:List (Int×Op8)}
theorem PtAt.later (h:PtAt W b o q)(hb:Below W.heap.size W W'):PtAt W' b o q:=⟨cell_later hb h.c0,cell_later hb h.c1,cell_later hb h.c2,cell_later hb h.c3,cell_later hb h.c4⟩
theorem PtAt.kb {p:Nat→Prop}(h:PtAt W b o q)(hk:Kb p W W')(hp:p b):PtAt W' b o q:=⟨hk.at h.c0 hp,hk.at h.c1 hp,hk.at h.c2 hp,hk.at h.c3 hp,hk.at h.c4 hp⟩
theorem PtAt.lt (h:PtAt W b o q):b<W.heap.size:=bLQ _ _ h.c0
theorem MAt.kb {κ β:Type}{P:Program}{K:TypeId}{E:KeyE P K κ}{ve:β→Value}{B:Nat}{M:List (κ×β)}{p:Nat→Prop}(h:MAt E ve W B M)(hk:Kb p W W')(hp:p B):MAt E ve W' B M:=by
 have hlt:=h.lt;obtain⟨es,clock,h1,h2⟩:=h;exact⟨es,clock,(hk.block B hlt hp).trans h1,h2⟩
theorem MpA.kb {p:Nat→Prop}(h:MpA W m M)(hk:Kb p W W')(hp:∀b,m=some b→p b):MpA W' m M:=by
 rcases h with h | ⟨b,h1,h2⟩
 ·exact .inl h
 exact .inr ⟨b,h1,h2.kb hk (hp b h1)⟩
theorem MpA.later (h:MpA W m M)(hb:Below W.heap.size W W'):MpA W' m M:=h.kb (p:=fun _=>True) (Kb.of_below hb fun _ h _=>h) fun _ _=>trivial
theorem MpA.lt (h:MpA W m M)(b:Nat)(hb:m=some b):b<W.heap.size:=by
 rcases h with ⟨h,_⟩ | ⟨c,h1,h2⟩
 ·rw[h] at hb;cases hb
 rw[h1] at hb;cases hb;exact h2.lt
theorem mp_none (i:Int)(W:World)(ok:Bool):(Instr.lookup 102 (.map none) (.int i64 i) ok).run prog W=.ok (if ok then .tuple #[opV8 zeP,.bool false] else opV8 zeP) W:=by
 have hu:Tryz.prog.underlying 102=some (.map 3 49):=underlying102;have hc:=intKey.check true i W;have hf:=intKey.find i [] [] W rfl;have hc2:(Instr.checkKey true 10000 3 (.int i64 i)).run prog W=.ok () W:=hc;have hf2:(Instr.findKey 3 (.int i64 i) []).run prog W=.ok none W:=hf;simp only[Instr.lookup,Sem.run_bind,run_underlying hu,Result.andThen_ok,Sem.run_pure,Array.isEmpty_empty,hc2,hf2,opv_zero]
theorem MpA.look (h:MpA W m M)(i:Int):(Instr.lookup 102 (.map m) (.int i64 i) true).run prog W=.ok (.tuple #[opV8 ((mget qI i M).getD zeP),.bool (mget qI i M).isSome]) W:=by
 rcases h with ⟨rfl,rfl⟩ | ⟨b,rfl,h⟩
 ·exact mp_none i W true
 have:=run_lookup_M h 102 49 underlying102 (opV8 zeP) opv_zero i true;rw[getV_op] at this;exact this
theorem MpA.look1 (h:MpA W m M)(i:Int):(Instr.lookup 102 (.map m) (.int i64 i) false).run prog W=.ok (opV8 ((mget qI i M).getD zeP)) W:=by
 rcases h with ⟨rfl,rfl⟩ | ⟨b,rfl,h⟩
 ·exact mp_none i W false
 have:=run_lookup_M h 102 49 underlying102 (opV8 zeP) opv_zero i false;rw[getV_op] at this;exact this
end
end
section
open Go.ChangeShapes Go.WideShapes Go.ChangeAt Go.RowKit Go.Joins
def kptE:Enc (Kp) where
 c:=fun x=>[.int i64 x.r,.int i64 x.i,.int i64 x.o.w,.bool x.o.a,.int i64 x.o.r.p,.int i64 x.o.r.m,.int i64 x.o.r.b,.int i64 x.o.r.o,.int i64 x.o.r.s,.int i64 x.o.r.v]
 n:=10
 len:=fun _=>rfl
 pos:=by decide
 one:=by
  intro x u hu;simp at hu
  rcases hu with rfl | rfl | rfl | rfl | rfl | rfl | rfl | rfl | rfl | rfl <;> rfl
end
section
open Go.RowKit
def AgO (p:Nat)(vl vm vd:Value)(b:Nat):Prop:=b=p∨vl.ownBlock=some b∨vm.ownBlock=some b∨vd.ownBlock=some b
section
variable {W W':World}{p B0:Nat}{O:Nat→Prop}{n:Int}{a:AgT}{x:SlT}{vl vm vd:Value}
theorem RfA.pne {v:Value}{e s k:Nat}{xs:List Value}(h:W.ownsRow (p+1) e s v k xs):some p≠v.ownBlock:=fun e=>by
 have:=(h.lt p e.symm).1;omega
theorem RfA.low {v u:Value}{e s k j:Nat}{xs:List Value}(h:W.ownsRow (p+1) e s v k xs):(W.setCell ⟨p,j,none⟩ u).ownsRow (p+1) e s v k xs:=h.kept (grown_set W p j u) (by
 cases hb:v.ownBlock with
 | none=>exact .inl rfl
 | some b=>exact .inr fun e2=>by cases e2;have:=(h.lt _ hb).1;omega)
end
def updF {α:Type}(f:Nat→α)(r:Nat)(v:α)(s:Nat):α:=if s=r then v else f s
theorem upd_same {α:Type}(f:Nat→α)(r:Nat)(v:α):updF f r v r=v:=if_pos rfl
theorem upd_other {α:Type}(f:Nat→α){r s:Nat}(v:α)(h:s≠r):updF f r v s=f s:=if_neg h
def PgO (p:Nat)(pt:Nat→Pt)(vd:Value)(b:Nat):Prop:=b=p∨(∃r,r<20∧(pt r).m=some b)∨vd.ownBlock=some b
structure PgC (W:World)(p B0:Nat)(O:Nat→Prop)(n:Int)(t:List Ru)(d:List Int)(x:SlT)(pt:Nat→Pt)(mp:Nat→List (Int×Op8))(vd:Value):Prop where
 c0:W.cell? ⟨p,0,none⟩=some (.int i64 n)
 c1:W.cell? ⟨p,1,none⟩=some (slV x)
 pc:∀r,r<20→PtAt W p (2+r*5) (pt r)
 cd:W.cell? ⟨p,102,none⟩=some vd
 f:∀i,W.frozen? ⟨p,i,none⟩=false
 pm:∀r,r<20→MpA W (pt r).m (mp r)
 ma:∀r s b,r<20→s<20→r≠s→(pt r).m=some b→(pt s).m≠some b
 t:SR W (slV x) t
 tx:∀b,PgO p pt vd b→offB x b
 tr:x.2.1=0∨∀ad,x.1=some ad→ad.block<B0∨O ad.block
 d:W.ownsRow (p+1) 3 inE.n vd d.length (cellsG inE d)
 ob:∀b,PgO p pt vd b→O b
 lt:∀b,O b→B0≤b∧b<W.heap.size
theorem cell_off {W:World}{p i j:Nat}{u:Value}(h:W.cell? ⟨p,i,none⟩=some u)(hij:j≠i)(v:Value):(W.setCell ⟨p,j,none⟩ v).cell? ⟨p,i,none⟩=some u:=by
 rw[World.cell?_setCell_other _ _ _ _ (by intro e;cases e;exact hij rfl)];exact h
theorem PtAt.off {W:World}{p r s j:Nat}{q:Pt}(h:PtAt W p (2+s*5) q)(hs:s≠r)(hj:j<5)(v:Value):PtAt (W.setCell ⟨p,2+r*5+j,none⟩ v) p (2+s*5) q:=
 ⟨cell_off h.c0 (by omega) v,cell_off h.c1 (by omega) v,cell_off h.c2 (by omega) v,cell_off h.c3 (by omega) v,cell_off h.c4 (by omega) v⟩
theorem PtAt.off2 {W:World}{p s i:Nat}{q:Pt}(h:PtAt W p (2+s*5) q)(hs:s<20)(hi:i<2∨101<i)(v:Value):PtAt (W.setCell ⟨p,i,none⟩ v) p (2+s*5) q:=
 ⟨cell_off h.c0 (by omega) v,cell_off h.c1 (by omega) v,cell_off h.c2 (by omega) v,cell_off h.c3 (by omega) v,cell_off h.c4 (by omega) v⟩
theorem map_cell {W:World}{b:Nat}{M:List (Int×Op8)}(h:MAt intKey opV8 W b M)(i:Nat):W.cell? ⟨b,i,none⟩=none:=by
 obtain⟨es,clock,h1,_⟩:=h;simp[World.cell?,h1]
section
variable {W W':World}{p B0:Nat}{O:Nat→Prop}{n:Int}{t:List Ru}{d:List Int}{x:SlT}{pt:Nat→Pt}{mp:Nat→List (Int×Op8)}{vd:Value}
theorem PgC.pO (h:PgC W p B0 O n t d x pt mp vd):O p:=h.ob p (.inl rfl)
theorem PgC.pl (h:PgC W p B0 O n t d x pt mp vd):p<W.heap.size:=(h.lt p h.pO).2
theorem PgC.kb (h:PgC W p B0 O n t d x pt mp vd)(hk:Kb (fun b=>b<B0∨O b) W W'):PgC W' p B0 O n t d x pt mp vd:=by
 have hp:(p<B0∨O p):=.inr h.pO;refine⟨hk.at h.c0 hp,hk.at h.c1 hp,fun r hr=>(h.pc r hr).kb hk hp,hk.at h.cd hp,fun i=>(hk.frozen (q:=⟨p,i,none⟩) h.pl hp).trans (h.f i),fun r hr=>(h.pm r hr).kb hk fun b hb=>.inr (h.ob b (.inr (.inl ⟨r,hr,hb⟩))),h.ma,h.t.kb hk h.tr,h.tx,h.tr,?_,h.ob,fun b hb=>⟨(h.lt b hb).1,Nat.lt_of_lt_of_le (h.lt b hb).2 hk.size⟩⟩;exact own_kb h.d hk fun b hb=>.inr (h.ob b (.inr (.inr hb)))
theorem PgC.later (h:PgC W p B0 O n t d x pt mp vd)(hb:Below W.heap.size W W'):PgC W' p B0 O n t d x pt mp vd:=h.kb (Kb.of_below hb fun b hl _=>hl)
theorem PgC.mne (h:PgC W p B0 O n t d x pt mp vd){r b:Nat}(hr:r<20)(hb:(pt r).m=some b):b≠p:=by
 rintro rfl
 rcases h.pm r hr with ⟨h1,_⟩ | ⟨c,h1,h2⟩
 ·rw[h1] at hb;cases hb
 rw[h1] at hb;cases hb;have:=map_cell h2 0;rw[h.c0] at this;cases this
theorem PgC.md (h:PgC W p B0 O n t d x pt mp vd){r b:Nat}(hr:r<20)(hb:(pt r).m=some b):vd.ownBlock≠some b:=by
 intro e
 rcases h.pm r hr with ⟨h1,_⟩ | ⟨c,h1,h2⟩
 ·rw[h1] at hb;cases hb
 rw[h1] at hb;cases hb;obtain⟨es,clock,h3,_⟩:=h2
 rcases h.d.2 with ⟨e1,_⟩ | ⟨g,cap,cur,e1,_,hg,_⟩
 ·rw[e1] at e;cases e
 rw[e1] at e;cases e;rw[h3] at hg;cases hg
theorem PgC.dne (h:PgC W p B0 O n t d x pt mp vd){b:Nat}(hb:vd.ownBlock=some b):b≠p:=by
 have:=(h.d.lt b hb).1;omega
theorem PgC.rest (h:PgC W p B0 O n t d x pt mp vd)(i:Nat)(v:Value):(∀r,r<20→MpA (W.setCell ⟨p,i,none⟩ v) (pt r).m (mp r))∧SR (W.setCell ⟨p,i,none⟩ v) (slV x) t∧(W.setCell ⟨p,i,none⟩ v).ownsRow (p+1) 3 inE.n vd d.length (cellsG inE d)∧(W.setCell ⟨p,i,none⟩ v).heap.size=W.heap.size∧∀j,(W.setCell ⟨p,i,none⟩ v).frozen? ⟨p,j,none⟩=false:=by
 have hk:Kb (fun b=>b≠p) W (W.setCell ⟨p,i,none⟩ v):=(Kb.refl _ W).setCell (q:=⟨p,i,none⟩) (fun _ h=>h rfl) v;refine⟨fun r hr=>(h.pm r hr).kb hk fun b hb=>h.mne hr hb,h.t.kb hk (h.tx p (.inl rfl)),own_kb h.d hk fun b hb=>h.dne hb,by simp[World.setCell],fun j=>?_⟩;rw[World.frozen?_setCell];exact h.f j
theorem PgC.poke (h:PgC W p B0 O n t d x pt mp vd){r j:Nat}(hr:r<20)(hj:j<5){v:Value}{q:Pt}{M:List (Int×Op8)}(hq:PtAt (W.setCell ⟨p,2+r*5+j,none⟩ v) p (2+r*5) q)(hm:(q.m=(pt r).m∧M=mp r)∨(q.m=none∧M=[])):
 PgC (W.setCell ⟨p,2+r*5+j,none⟩ v) p B0 O n t d x (updF pt r q) (updF mp r M) vd:=by
 obtain⟨h1,h2,h3,h4,h5⟩:=h.rest (2+r*5+j) v;have hmm:∀s b,(updF pt r q s).m=some b→(pt s).m=some b:=by
  intro s b hb;by_cases hs:s=r
  ·subst hs;rw[upd_same] at hb
   rcases hm with ⟨e,_⟩ | ⟨e,_⟩
   ·rw[←e];exact hb
   rw[e] at hb;cases hb
  rwa [upd_other _ _ hs] at hb
 have hO:∀b,PgO p (updF pt r q) vd b→PgO p pt vd b:=by
  rintro b (e | ⟨s,hs,e⟩ | e)
  ·exact .inl e
  ·exact .inr (.inl ⟨s,hs,hmm s b e⟩)
  exact .inr (.inr e)
 refine⟨cell_off h.c0 (by omega) v,cell_off h.c1 (by omega) v,fun s hs=>?_,cell_off h.cd (by omega) v,h5,fun s hs=>?_,fun s u b hs hu hne e1 e2=>h.ma s u b hs hu hne (hmm _ _ e1) (hmm _ _ e2),h2,fun b hb=>h.tx b (hO b hb),h.tr,h3,fun b hb=>h.ob b (hO b hb),fun b hb=>by rw[h4];exact h.lt b hb⟩
 ·by_cases e:s=r
  ·subst e;rw[upd_same];exact hq
  rw[upd_other _ _ e];exact (h.pc s hs).off e hj v
 by_cases e:s=r
 ·subst e;rw[upd_same,upd_same]
  rcases hm with ⟨e1,e2⟩ | ⟨e1,e2⟩
  ·rw[e1,e2];exact h1 s hs
  exact .inl ⟨e1,e2⟩
 rw[upd_other _ _ e,upd_other _ _ e];exact h1 s hs
theorem PgC.newMap (h:PgC W p B0 O n t d x pt mp vd){r:Nat}(hr:r<20)(hn:(pt r).m=none){W1:World}{b:Nat}(hb:Below W.heap.size W W1)(hbl:W.heap.size≤b)(hM:MAt intKey opV8 W1 b []):
 PgC (W1.setCell ⟨p,2+r*5,none⟩ (.map (some b))) p B0 (fun c=>O c∨c=b) n t d x (updF pt r { pt r with m:=some b }) (updF mp r []) vd:=by
 have g:=h.later hb;obtain⟨h1,h2,h3,h4,h5⟩:=g.rest (2+r*5) (.map (some b));have hpl:=h.pl;have hbp:b≠p:=by omega
 have hlb:=hM.lt;have hB0:=(h.lt p h.pO).1;have hO:∀c,PgO p (updF pt r { pt r with m:=some b }) vd c→PgO p pt vd c∨c=b:=by
  rintro c (e | ⟨s,hs,e⟩ | e)
  ·exact .inl (.inl e)
  ·by_cases hs2:s=r
   ·subst hs2;rw[upd_same] at e;cases e;exact .inr rfl
   rw[upd_other _ _ hs2] at e;exact .inl (.inr (.inl ⟨s,hs,e⟩))
  exact .inl (.inr (.inr e))
 have hold:∀s c,s<20→(pt s).m=some c→c<W.heap.size:=fun s c hs e=>(h.pm s hs).lt c e
 refine⟨cell_off g.c0 (by omega) _,cell_off g.c1 (by omega) _,fun s hs=>?_,cell_off g.cd (by omega) _,h5,fun s hs=>?_,fun s u c hs hu hne e1 e2=>?_,h2,fun c hc=>?_,?_,h3,fun c hc=>?_,fun c hc=>?_⟩
 ·by_cases e:s=r
  ·subst e;rw[upd_same];have q:=g.pc s hs;exact⟨World.cell?_setCell_same _ _ _ q.c0,cell_off q.c1 (by omega) _,cell_off q.c2 (by omega) _,cell_off q.c3 (by omega) _,cell_off q.c4 (by omega) _⟩
  rw[upd_other _ _ e];exact (g.pc s hs).off e (j:=0) (by omega) _
 ·by_cases e:s=r
  ·subst e;rw[upd_same,upd_same];exact .inr ⟨b,rfl,hM.kb (p:=fun c=>c≠p) ((Kb.refl _ W1).setCell (q:=⟨p,2+s*5,none⟩) (fun _ h=>h rfl) _) hbp⟩
  rw[upd_other _ _ e,upd_other _ _ e];exact h1 s hs
 ·by_cases es:s=r
  ·subst es;rw[upd_same] at e1;cases e1;rw[upd_other _ _ (Ne.symm hne)] at e2;have:=hold u _ hu e2;omega
  rw[upd_other _ _ es] at e1;by_cases eu:u=r
  ·subst eu;rw[upd_same] at e2;cases e2;have:=hold s _ hs e1;omega
  rw[upd_other _ _ eu] at e2;exact h.ma s u c hs hu hne e1 e2
 ·rcases hO c hc with h6 | rfl
  ·exact h.tx c h6
  exact h.t.off hbl
 ·rcases h.tr with h6 | h6
  ·exact .inl h6
  exact .inr fun ad ha=>(h6 ad ha).imp id .inl
 ·rcases hO c hc with h6 | h6
  ·exact .inl (h.ob c h6)
  exact .inr h6
 rw[h4]
 rcases hc with h6 | rfl
 ·exact⟨(h.lt c h6).1,Nat.lt_of_lt_of_le (h.lt c h6).2 hb.size⟩
 exact⟨by omega,hlb⟩
theorem PgC.putMap (h:PgC W p B0 O n t d x pt mp vd){r b:Nat}(hr:r<20)(hb:(pt r).m=some b){M:List (Int×Op8)}(hg:W.grownBy W' (some b))(hM:MAt intKey opV8 W' b M):PgC W' p B0 O n t d x pt (updF mp r M) vd:=by
 have hbp:=h.mne hr hb;have hk:Kb (fun c=>c≠b) W W':=(Kb.refl _ W).grown hg fun c e _ h=>by cases e;exact h rfl
 have hp:p≠b:=Ne.symm hbp;refine⟨hk.at h.c0 hp,hk.at h.c1 hp,fun s hs=>(h.pc s hs).kb hk hp,hk.at h.cd hp,fun i=>(hk.frozen (q:=⟨p,i,none⟩) h.pl hp).trans (h.f i),fun s hs=>?_,h.ma,h.t.kb hk (h.tx b (.inr (.inl ⟨r,hr,hb⟩))),h.tx,h.tr,?_,h.ob,fun c hc=>⟨(h.lt c hc).1,Nat.lt_of_lt_of_le (h.lt c hc).2 hk.size⟩⟩
 ·by_cases e:s=r
  ·subst e;rw[upd_same];exact .inr ⟨b,hb,hM⟩
  rw[upd_other _ _ e];exact (h.pm s hs).kb hk fun c hc e2=>h.ma s r c hs hr e hc (by rw[e2];exact hb)
 exact own_kb h.d hk fun c hc e=>h.md hr hb (by rw[hc,e])
theorem PgC.setT (h:PgC W p B0 O n t d x pt mp vd){y:SlT}{t':List Ru}(hy:SR W (slV y) t')(hx:∀b,PgO p pt vd b→offB y b)(hr:y.2.1=0∨∀ad,y.1=some ad→B0≤ad.block∧ad.block<W.heap.size):
 PgC (W.setCell ⟨p,1,none⟩ (slV y)) p B0 (fun b=>O b∨∃ad,y.1=some ad∧B0≤ad.block∧ad.block<W.heap.size∧b=ad.block) n t' d y pt mp vd:=by
 obtain⟨h1,h2,h3,h4,h5⟩:=h.rest 1 (slV y);have hk:Kb (fun b=>b≠p) W (W.setCell ⟨p,1,none⟩ (slV y)):=(Kb.refl _ W).setCell (q:=⟨p,1,none⟩) (fun _ h=>h rfl) _;refine⟨cell_off h.c0 (by omega) _,World.cell?_setCell_same _ _ _ h.c1,fun s hs=>(h.pc s hs).off2 hs (by omega) _,cell_off h.cd (by omega) _,h5,h1,h.ma,hy.kb hk (hx p (.inl rfl)),hx,?_,h3,fun b hb=>.inl (h.ob b hb),fun b hb=>?_⟩
 ·rcases hr with h6 | h6
  ·exact .inl h6
  exact .inr fun ad ha=>.inr (.inr ⟨ad,ha,(h6 ad ha).1,(h6 ad ha).2,rfl⟩)
 rw[h4]
 rcases hb with h6 | ⟨ad,_,h6,h7,rfl⟩
 ·exact h.lt b h6
 exact⟨h6,h7⟩
theorem PgC.addD (h:PgC W p B0 O n t d x pt mp vd){k:Int}{u:Value}(hg:W.grownBy W' vd.ownBlock)(ho:W'.ownsRow (p+1) 3 inE.n u (d++[k]).length (cellsG inE (d++[k])))(hb:u.ownBlock=vd.ownBlock∨u.ownBlock=some W.heap.size):
 PgC (W'.setCell ⟨p,102,none⟩ u) p B0 (fun b=>O b∨u.ownBlock=some b) n t (d++[k]) x pt mp u:=by
 have hpd:vd.ownBlock≠some p:=fun e=>h.dne e rfl
 have hk:Kb (fun c=>vd.ownBlock≠some c) W W':=(Kb.refl _ W).grown hg fun c e _ h=>h e
 have hk2:Kb (fun c=>c≠p) W' (W'.setCell ⟨p,102,none⟩ u):=(Kb.refl _ W').setCell (q:=⟨p,102,none⟩) (fun _ h=>h rfl) _;have hO:∀b,PgO p pt u b→PgO p pt vd b∨u.ownBlock=some b:=by
  rintro b (e | e | e)
  ·exact .inl (.inl e)
  ·exact .inl (.inr (.inl e))
  exact .inr e
 refine⟨cell_off (hk.at h.c0 hpd) (by omega) _,cell_off (hk.at h.c1 hpd) (by omega) _,fun s hs=>((h.pc s hs).kb hk hpd).off2 hs (by omega) _,World.cell?_setCell_same _ _ _ (hk.at h.cd hpd),fun i=>?_,fun s hs=>((h.pm s hs).kb hk fun b hb=>h.md hs hb).kb hk2 fun b hb=>h.mne hs hb,h.ma,?_,?_,?_,?_,fun b hb=>(hO b hb).imp (h.ob b) id,?_⟩
 ·rw[World.frozen?_setCell];exact (hk.frozen (q:=⟨p,i,none⟩) h.pl hpd).trans (h.f i)
 ·have h1:SR W' (slV x) t:=h.t.grown hg fun b hb=>h.tx b (.inr (.inr hb))
  exact h1.kb hk2 (h.tx p (.inl rfl))
 ·intro b hb1
  rcases hO b hb1 with h1 | h1
  ·exact h.tx b h1
  rcases hb with h2 | h2
  ·exact h.tx b (.inr (.inr (by rw[←h2];exact h1)))
  rw[h2] at h1;cases h1;exact h.t.off (nLQ _)
 ·rcases h.tr with h1 | h1
  ·exact .inl h1
  exact .inr fun ad ha=>(h1 ad ha).imp id .inl
 ·exact own_kb ho hk2 fun b hb1=>by have:=(ho.lt b hb1).1;omega
 have hs:(W'.setCell ⟨p,102,none⟩ u).heap.size=W'.heap.size:=by simp[World.setCell]
 rw[hs];rintro b (h1 | h1)
 ·exact⟨(h.lt b h1).1,Nat.lt_of_lt_of_le (h.lt b h1).2 hg.size⟩
 have h2:=ho.lt b h1;have h3:=(h.lt p h.pO).1;exact⟨by omega,h2.2⟩
end
structure PtM (a:AgT)(r:Nat)(q:Pt)(M:List (Int×Op8)):Prop where
 hh:q.h=(hdN a.l (r:Int):Int)
 hd:q.d=doneK a (r:Int)
 ha:q.a=decide (0≤manyK a (r:Int))
 hs:q.a=true→q.s=manyK a (r:Int)
 hl:q.s≤1000
 hk:q.d=false→∀i,mget qI i M=keptO a.l (r:Int) i
def Pg (W:World)(p B0:Nat)(O:Nat→Prop)(n:Int)(a:AgT):Prop:=∃x pt mp vd,PgC W p B0 O n a.t a.d x pt mp vd∧(∀r,r<20→PtM a r (pt r) (mp r))∧∀q∈a.l,0≤q.r∧q.r<20
theorem Pg.kb {W W':World}{p B0:Nat}{O:Nat→Prop}{n:Int}{a:AgT}(h:Pg W p B0 O n a)(hk:Kb (fun b=>b<B0∨O b) W W'):Pg W' p B0 O n a:=by
 obtain⟨x,pt,mp,vd,h,h2⟩:=h;exact⟨x,pt,mp,vd,h.kb hk,h2⟩
theorem Pg.later {W W':World}{p B0:Nat}{O:Nat→Prop}{n:Int}{a:AgT}(h:Pg W p B0 O n a)(hb:Below W.heap.size W W'):Pg W' p B0 O n a:=by
 obtain⟨x,pt,mp,vd,h,h2⟩:=h;exact⟨x,pt,mp,vd,h.later hb,h2⟩
theorem Pg.lt {W:World}{p B0:Nat}{O:Nat→Prop}{n:Int}{a:AgT}(h:Pg W p B0 O n a):∀b,O b→B0≤b∧b<W.heap.size:=by
 obtain⟨x,pt,mp,vd,h,h2⟩:=h;exact h.lt
theorem all_M {a:AgT}{r:Nat}{q:Pt}{M:List (Int×Op8)}(h:PtM a r q M)(hd:q.d=false)(n:Nat):((List.range n).all fun (k:Nat)=>(mget qI (k:Int) M).isSome)=allK a.l (r:Int) n:=by
 rw[allK]
 congr 1
 funext k
 rw[h.hk hd,kept_has]
theorem pt_ready {a:AgT}{r:Nat}{q:Pt}{M:List (Int×Op8)}(h:PtM a r q M):(!q.d&&(q.a&&((List.range q.s.toNat).all fun (k:Nat)=>(mget qI (k:Int) M).isSome)))=rdyB a (r:Int):=by
 have e:rdyB a (r:Int)=(!doneK a (r:Int)&&decide (0≤manyK a (r:Int))&&allK a.l (r:Int) (manyK a (r:Int)).toNat):=rfl;rw[e,Bool.and_assoc,←h.hd,←h.ha];cases hd:q.d with
 | true=>rfl
 | false =>
   cases ha:q.a with
   | false=>rfl
   | true=>rw[all_M h hd,h.hs ha]
theorem nw_part {n:Int}{ao:AdQ}{k c:Nat}(r:Nat)(hr:r<20):((Tryz.zeroCells107.setIfInBounds 0 (Value.int IntKind.i64 n)).setIfInBounds 1 (Value.slice ao k c))[2+r*5]?=some (.map none)∧((Tryz.zeroCells107.setIfInBounds 0 (Value.int IntKind.i64 n)).setIfInBounds 1 (Value.slice ao k c))[2+r*5+1]?=some (.int i64 0)∧((Tryz.zeroCells107.setIfInBounds 0 (Value.int IntKind.i64 n)).setIfInBounds 1 (Value.slice ao k c))[2+r*5+2]?=some (.bool false)∧((Tryz.zeroCells107.setIfInBounds 0 (Value.int IntKind.i64 n)).setIfInBounds 1 (Value.slice ao k c))[2+r*5+3]?=some (.int i64 0)∧((Tryz.zeroCells107.setIfInBounds 0 (Value.int IntKind.i64 n)).setIfInBounds 1 (Value.slice ao k c))[2+r*5+4]?=some (.bool false):=by
 match r,hr with
 | 0,_=>exact⟨rfl,rfl,rfl,rfl,rfl⟩
 | 1,_=>exact⟨rfl,rfl,rfl,rfl,rfl⟩
 | 2,_=>exact⟨rfl,rfl,rfl,rfl,rfl⟩
 | 3,_=>exact⟨rfl,rfl,rfl,rfl,rfl⟩
 | 4,_=>exact⟨rfl,rfl,rfl,rfl,rfl⟩
 | 5,_=>exact⟨rfl,rfl,rfl,rfl,rfl⟩
 | 6,_=>exact⟨rfl,rfl,rfl,rfl,rfl⟩
 | 7,_=>exact⟨rfl,rfl,rfl,rfl,rfl⟩
 | 8,_=>exact⟨rfl,rfl,rfl,rfl,rfl⟩
 | 9,_=>exact⟨rfl,rfl,rfl,rfl,rfl⟩
 | 10,_=>exact⟨rfl,rfl,rfl,rfl,rfl⟩
 | 11,_=>exact⟨rfl,rfl,rfl,rfl,rfl⟩
 | 12,_=>exact⟨rfl,rfl,rfl,rfl,rfl⟩
 | 13,_=>exact⟨rfl,rfl,rfl,rfl,rfl⟩
 | 14,_=>exact⟨rfl,rfl,rfl,rfl,rfl⟩
 | 15,_=>exact⟨rfl,rfl,rfl,rfl,rfl⟩
 | 16,_=>exact⟨rfl,rfl,rfl,rfl,rfl⟩
 | 17,_=>exact⟨rfl,rfl,rfl,rfl,rfl⟩
 | 18,_=>exact⟨rfl,rfl,rfl,rfl,rfl⟩
 | 19,_=>exact⟨rfl,rfl,rfl,rfl,rfl⟩
 | _+20,h=>exact absurd h (by omega)
theorem nw_cell (W:World)(cs:Array Value)(t:TypeId)(i:Nat){v:Value}(h:cs[i]?=some v):(W.alloc (.cells cs t)).cell? ⟨W.heap.size,i,none⟩=some v:=by
 simp only[World.cell?,World.alloc];simp[h]
theorem pg_new {w W:World}{n:Int}{ao:AdQ}{k c:Nat}{t:List Ru}{B0:Nat}(hs:SR W (.slice ao k c) t)(hb:Below w.heap.size w W)(hB:B0≤w.heap.size)(ht:∀ad,ao=some ad→w.heap.size≤ad.block):
 Pg (W.alloc (.cells ((Tryz.zeroCells107.setIfInBounds 0 (Value.int IntKind.i64 n)).setIfInBounds 1 (Value.slice ao k c)) 107)) W.heap.size B0 (fun b=>w.heap.size≤b∧b<(W.alloc (.cells ((Tryz.zeroCells107.setIfInBounds 0 (Value.int IntKind.i64 n)).setIfInBounds 1 (Value.slice ao k c)) 107)).heap.size) n (ag0 t):=by
 have hb2:Below W.heap.size W (W.alloc (.cells ((Tryz.zeroCells107.setIfInBounds 0 (Value.int IntKind.i64 n)).setIfInBounds 1 (Value.slice ao k c)) 107)):=(bRQ _ _).alloc (nLQ _) _;have hs':SR W (slV (ao,k,c)) t:=hs;have hsz:(W.alloc (.cells ((Tryz.zeroCells107.setIfInBounds 0 (Value.int IntKind.i64 n)).setIfInBounds 1 (Value.slice ao k c)) 107)).heap.size=W.heap.size+1:=World.size_alloc _ _;have hws:=hb.size;refine⟨(ao,k,c),fun _=>⟨none,0,false,0,false⟩,fun _=>[],.slice none 0 0,⟨nw_cell _ _ _ _ rfl,nw_cell _ _ _ _ rfl,fun r hr=>?_,nw_cell _ _ _ _ rfl,fun i=>by simp,fun r _=>.inl ⟨rfl,rfl⟩,(fun r s b _ _ _ h=>by cases h),hs'.later hb2,?_,?_,World.ownsRow_nil _ _ _ _,?_,fun b hb=>⟨Nat.le_trans hB hb.1,hb.2⟩⟩,fun r hr=>?_,fun q hq=>by cases hq⟩
 ·obtain⟨h0,h1,h2,h3,h4⟩:=nw_part (n:=n) (ao:=ao) (k:=k) (c:=c) r hr;exact⟨nw_cell _ _ _ _ h0,nw_cell _ _ _ _ h1,nw_cell _ _ _ _ h2,nw_cell _ _ _ _ h3,nw_cell _ _ _ _ h4⟩
 ·rintro b (rfl | ⟨r,_,h⟩ | h)
  ·exact hs'.off (nLQ _)
  ·cases h
  cases h
 ·by_cases h0:k=0
  ·exact .inl h0
  refine .inr fun ad ha=>.inr ⟨ht ad ha,?_⟩
  rcases hs with ⟨_,_,e,rfl⟩ | ⟨g,o,cap',e,h6,h7,h8⟩
  ·cases e;exact absurd rfl h0
  cases e;cases ha;have:=h8.lt (by omega);rw[hsz];show g<_;omega
 ·rintro b (rfl | ⟨r,_,h⟩ | h)
  ·exact⟨hws,by rw[hsz];omega⟩
  ·cases h
  cases h
 have hm:manyK (ag0 t) (r:Int) = -1:=by
  simp only[manyK,ag0,Int.toNat_natCast,List.getD_eq_getElem?_getD];rw[List.getElem?_replicate,if_pos hr];rfl
 exact⟨rfl,rfl,by rw[hm];rfl,(fun h=>by cases h),by simp,fun _ i=>rfl⟩
theorem pnew_any (n:Int)(ao:AdQ)(k c:Nat)(t:List Ru)(B0:Nat)(w:World)(hs:SR w (.slice ao k c) t)(hB:B0≤w.heap.size):
 Calls prog 10 #[.int i64 n,.slice ao k c] w fun e w'=>∃v,e=.returned (.tuple #[v,noV (nwN n t)])∧Below w.heap.size w w'∧(nwN n t=0→∃p O,v=.pointer (some ⟨p,0,none⟩)∧Pg w' p B0 O n (ag0 t)∧∀b,O b→w.heap.size≤b):=by
 have HS:Hid (SR w (.slice ao k c) t):=hs;have HB:Hid (B0≤w.heap.size):=hB;obtain⟨Z,hZ⟩:∃Z,Z=nwN n t:=⟨_,rfl⟩;have HZ:Hid (Z=if 1≤n∧n≤6 then tbN t else 1):=hZ;rw[←hZ];clear hs hB hZ;go_enter func10,ntmps10
 go_wp2_with fail
 refine (isSwitch_any 6 n _).mono ?_;rintro e w1 ⟨rfl,hb1⟩;have HB1:Hid (Below w.heap.size w w1):=hb1;clear hb1;cases hsw:swB 6 n with
 | false =>
   have HN:Hid (Z=1):=by
    show _=_;rw[HZ.out,if_neg (fun h=>by rw[sw_of.2 h] at hsw;cases hsw)]
   clear hsw;go_wp2;refine bodyPost_ret (v:=.tuple #[.pointer none,.iface 81 (.int i64 1)]) (by simp[results,results10,go_sem]) rfl ?_;rw[HN.out];exact⟨_,by rw[no_ne (by decide)],HB1.out,fun h=>by cases h⟩
 | true =>
   have HN:Hid (Z=tbN t):=by
    show _=_;rw[HZ.out,if_pos (sw_of.1 hsw)]
   clear hsw
   go_wp2_with fail
   refine (table_any _ t _ (HS.out.later HB1.out)).mono ?_;rintro e w2 ⟨rfl,hb2⟩;have HB2:Hid (Below w.heap.size w w2):=HB1.out.trans (hb2.mono HB1.out.size);rw[←HN.out];clear hb2;by_cases hz:Z=0
   ·have h12:t.length≤1000:=by
     by_cases h12:12<t.length
     ·have:=tb_long h12;rw[←HN.out] at this;omega
     omega
    have hs2:SR w2 (.slice ao k c) t:=HS.out.later HB2.out;have HPA:Hid (PAt (w2.alloc (.cells #[.slice ao k c] 58)) w2.heap.size 0 [t]):=pat1 58 hs2;have HB3:Hid (Below w.heap.size w (w2.alloc (.cells #[.slice ao k c] 58))):=HB2.out.alloc HB2.out.size _;have HL:Hid ([t].flatten.length≤1000):=by show _≤1000;simpa using h12
    rw[no_ok hz];clear hs2 h12
    go_wp2_with fail
    refine (concat_any _ 0 1 1 [t] _ rfl (by omega) HPA.out HL.out).mono ?_;rintro e w3 ⟨u,rfl,hown,hb3⟩;have e1:[t].flatten=t:=by simp
    rw[e1] at hown;have hsr:=own_SR hown;obtain⟨ao3,cap3,rfl⟩:=own_form hown;have hlo:∀ad,ao3=some ad→w.heap.size≤ad.block:=fun ad ha=>by
     subst ha;have h5:=hown.lt ad.block rfl;have h6:=HB3.out.size;omega
    have HB4:Hid (Below w.heap.size w w3):=HB3.out.trans (hb3.mono HB3.out.size);obtain⟨n3,hn3⟩:∃n3,n3=t.length:=⟨_,rfl⟩;rw[←hn3] at hsr ⊢;have HPG:Hid (Pg (w3.alloc (.cells ((Tryz.zeroCells107.setIfInBounds 0 (Value.int IntKind.i64 n)).setIfInBounds 1 (Value.slice ao3 n3 cap3)) 107)) w3.heap.size B0 (fun b=>w.heap.size≤b∧b<(w3.alloc (.cells ((Tryz.zeroCells107.setIfInBounds 0 (Value.int IntKind.i64 n)).setIfInBounds 1 (Value.slice ao3 n3 cap3)) 107)).heap.size) n (ag0 t)):=pg_new hsr HB4.out HB.out hlo;have HB5:Hid (Below w.heap.size w (w3.alloc (.cells ((Tryz.zeroCells107.setIfInBounds 0 (Value.int IntKind.i64 n)).setIfInBounds 1 (Value.slice ao3 n3 cap3)) 107))):=HB4.out.alloc HB4.out.size _;clear hown hb3 hsr hlo hn3 e1 HPA HL;go_wp2;refine bodyPost_ret (v:=.tuple #[.pointer (some ⟨w3.heap.size,0,none⟩),.nilIface]) (by simp[results,results10,go_sem]) rfl ?_;exact⟨_,by rw[no_ok hz],HB5.out,fun _=>⟨_,_,rfl,HPG.out,fun b hb=>hb.1⟩⟩
   rw[no_ne hz];go_wp2;refine bodyPost_ret (v:=.tuple #[.pointer none,.iface 81 (.int i64 Z)]) (by simp[results,results10,go_sem]) rfl ?_;exact⟨_,by rw[no_ne hz],HB2.out,fun h=>absurd h hz⟩
end
end Go.Proofs.YtpgjkmefomldfaaGreat
