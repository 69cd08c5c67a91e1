/- Contracts and facts on the way to TopWire, joined into one text: CcLink, ClassTwo, ChangeFresh, ChangeApply, WireCon, WireRows. -/
import Derived.Test.YtpgjkmefomldfaaGreatTopWireP7
namespace Go.Proofs.YtpgjkmefomldfaaGreat
set_option linter.unusedSimpArgs false
set_option linter.unusedVariables false
set_option maxHeartbeats 16000000
set_option maxRecDepth 100000
open Go.Proofs.Tryz
open IntKind (i64)
section
open Go.RowKit
theorem lnk_grow_nil (n:Nat)(w:World)(hn:n≤1000):
 Calls prog 85 #[.slice none 0 0,.int i64 n] w fun e w'=>∃v,e=.returned v∧w'.ownsRow w.heap.size 134 4 v 0 []∧Below w.heap.size w w':=by
 have h1:¬((n:Int)<0):=by omega
 by_cases h0:n=0
 ·subst h0;go_enter func85,ntmps85;go_wp2;go_ret;exact⟨_,rfl,World.ownsRow_nil _ _ _ _,bRQ _ _⟩
 obtain⟨i0,hi,hz0,hz1,hz2⟩:=info_parts lnk_info;have h3:wrap64 ((n:Int)-0)=(n:Int):=by unfold wrap64;omega
 have h4:(n:Int) > 0:=by omega
 have hrz:∀ty,(Builtin.append_ #[22,3] ty #[.slice none 0 0,.int i64 n]).run prog w =
  .ok (.slice (some ⟨w.heap.size,0,none⟩) n (grownCap w n 0 134)) (w.drew.alloc (.cells (Builtin.zeroCells (Value.agg #[.int i64 0,.int i64 0,.int i64 0,.int i64 0]).cells n++Builtin.zeroCells (Value.agg #[.int i64 0,.int i64 0,.int i64 0,.int i64 0]).cells (grownCap w n 0 134-n)) 134)):=fun ty =>
  Lib.run_append_nil_zeros w 22 3 ty 134 i0 _ .i64 .i64 underlying22 underlying3 hi hz0 n (by omega) (by rw[hz1];decide) (by omega) (by rw[hz2];omega)
 have hGn:n≤grownCap w n 0 134:=grownCap_ge w _ _ _;have hGm:grownCap w n 0 134≤maxLen:=grownCap_le_maxLen w n 0 134 (by unfold maxLen;omega)
 generalize grownCap w n 0 134=G at *
 have HM:Hid (G≤maxLen):=hGm;have hG63:G≤9223372036854775807:=by unfold maxLen at hGm;omega
 have HO:Hid ((w.drew.alloc (.cells (Builtin.zeroCells (Value.agg #[.int i64 0,.int i64 0,.int i64 0,.int i64 0]).cells n++Builtin.zeroCells (Value.agg #[.int i64 0,.int i64 0,.int i64 0,.int i64 0]).cells (G-n)) 134)).ownsRow w.heap.size 134 4 (.slice (some ⟨w.heap.size,0,none⟩) 0 G) 0 []):=
  World.ownsRow_made w.drew _ G (nLQ _) HM.out (by
   simp only[Array.size_append,size_zeroCells,lnk_zero,←Nat.add_mul]
   congr 1
   omega)
 clear hGm;go_enter func85,ntmps85
 go_wp2_with (at_builtin;refine Lib.wpList_append_run _ rfl _ _ _ _ rfl _ _ rfl rfl _ _ (hrz _) ?_)
 all_goals (go_ret;exact⟨_,rfl,HO.out,((bRQ _ _).drew).alloc (nLQ _) _⟩)
def lnkPt (w:World)(g o:Nat)(Ls:List (LkQ)):Prop:=∀i (h:i<Ls.length),∃ao n cap,w.cell? ⟨g,o+i,none⟩=some (.slice ao n cap)∧GS lnkE w (.slice ao n cap) Ls[i]
theorem lnkPt.later {w w':World}{g o:Nat}{Ls:List (LkQ)}(h:lnkPt w g o Ls)(hb:Below w.heap.size w w'):lnkPt w' g o Ls:=fun i hi=>by
 obtain⟨ao,n,cap,h1,h2⟩:=h i hi;exact⟨ao,n,cap,cell_later hb h1,h2.later hb⟩
theorem lnk_flat_next {Ls:List (LkQ)}{k:Nat}(hk:k<Ls.length):(Ls.take (k+1)).flatten=(Ls.take k).flatten++Ls[k]:=by
 rw[List.take_succ_eq_append_getElem hk];simp only[List.flatten_append,List.flatten_cons,List.flatten_nil,List.append_nil]
theorem lnk_flat_le {Ls:List (LkQ)}(k:Nat):(Ls.take k).flatten.length≤Ls.flatten.length:=by
 have:Ls.flatten=(Ls.take k).flatten++(Ls.drop k).flatten:=by rw[←List.flatten_append,List.take_append_drop]
 rw[this,List.length_append];omega
theorem lnk_append (w:World){ops:Array Oper}{rest:List Oper}{o:Oper}{a:Act}{Q:Exit→Act→World→Prop}(hgd:o.guard=none)(s x:Operand)(t:TypeId)
 (ho:o.op=.call { callee:=.builtin .append,args:=#[s,x],argTypes:=#[t,t] }) (ht:Tryz.prog.underlying t=some (.slice 134)) (base:Nat)
 (v:Value) (hs:a.eval s=v) (L:LkQ) (hown:w.ownsRow base 134 4 v L.length (cellsG lnkE L)) (u:Value) (hx:a.eval x=u) (M:LkQ) (hM:GS lnkE w u M)
 (h100:L.length+M.length≤1000000) (hbase:base≤w.heap.size)
 (h:∀v' w',w'.ownsRow base 134 4 v' (L++M).length (cellsG lnkE (L++M))→w.grownBy w' v.ownBlock→wpList prog ops Q rest (a.put o.dst v') w'):wpList prog ops Q (o :: rest) a w:=by
 obtain⟨i0,hi,hz0,hz1,hz2⟩:=info_parts lnk_info;exact wpList_append_GS (E:=lnkE) w hgd s x t 134 ho ht i0 _ 32 hi hz0 hz1 hz2 lnk_zero base v hs L hown u hx M hM (by unfold maxLen;omega) (by omega) hbase h
theorem lnk_concat (g o m cap:Nat)(Ls:List (LkQ))(w:World)(hm:Ls.length=m)(hm2:m≤1000)(hc:lnkPt w g o Ls)(hs:Ls.flatten.length≤1000):
 Calls prog 51 #[.slice (some ⟨g,o,none⟩) m cap] w fun e w'=>∃v,e=.returned v∧w'.ownsRow w.heap.size 134 4 v Ls.flatten.length (cellsG lnkE Ls.flatten)∧Below w.heap.size w w':=by
 have HM:Hid (Ls.length=m):=hm;have HC:Hid (lnkPt w g o Ls):=hc;have HS:Hid (Ls.flatten.length≤1000):=hs;obtain⟨N,hN⟩:∃N,N=Ls.flatten.length:=⟨_,rfl⟩;have HN:Hid (N=Ls.flatten.length):=hN;have hN2:N≤1000:=by omega
 clear hm hc hs hN;go_enter func51,ntmps51
 go_upto_block 0 with fail
 go_cut [3] from 3 (fun z w'=>z=.int i64 (N:Int)∧w'=w)
 case first =>
  go_wp2
  go_loopw [3,11] (fun z i wr=>∃k:Nat,k≤m∧i=.int i64 k∧z=.int i64 ((Ls.take k).flatten.length:Int)∧wr=w) (fun _ i _=>m-(intOf i).toNat)
  case atStart=>exact⟨0,by omega,rfl,rfl,rfl⟩
  case round =>
   obtain⟨k,hk,rfl,rfl,rfl⟩:=hrel;by_cases hlt:k<m
   ·have hkl:k<Ls.length:=by rw[HM.out];exact hlt
    obtain⟨ao,n,cap2,q0,hsr⟩:=HC.out k hkl;have HT:Hid ((Ls.take (k+1)).flatten.length=(Ls.take k).flatten.length+n):=by
     show _=_;rw[lnk_flat_next hkl,List.length_append,hsr.len]
    have hb1:(Ls.take k).flatten.length+n≤1000:=by
     have h1:=lnk_flat_le (Ls:=Ls) (k+1);have h2:=HS.out;have h3:=HT.out;omega
    generalize (Ls.take k).flatten.length=z at *
    clear hsr;go_wp2;go_roundw
    case rel=>exact⟨k+1,by omega,by go_num,by rw[HT.out];go_num,by simp⟩
    case measure=>simp[intOf];omega
   obtain rfl:k=m:=by omega
   go_wp2_with fail
   go_meet
   case rel=>exact⟨by rw[←HM.out,List.take_length,HN.out],rfl⟩
 case rest =>
  obtain⟨rfl,rfl⟩:=hcut
  go_wp2_with fail
  refine (lnk_grow_nil N _ hN2).mono ?_;rintro e w1 ⟨v,rfl,hown,hB⟩;have HO:Hid (w1.ownsRow wc.heap.size 134 4 v 0 []):=hown;have HB:Hid (Below wc.heap.size wc w1):=hB;clear hown hB;go_wp2
  go_loopw [6,27] (fun u i wr=>∃k:Nat,k≤m∧i=.int i64 k∧wr.ownsRow wc.heap.size 134 4 u (Ls.take k).flatten.length (cellsG lnkE (Ls.take k).flatten)∧Below wc.heap.size wc wr) (fun _ i _=>m-(intOf i).toNat)
  case atStart=>exact⟨0,by omega,rfl,HO.out,HB.out⟩
  case round =>
   obtain⟨k,hk,rfl,hown,hB⟩:=hrel;have HOW:Hid (wr.ownsRow wc.heap.size 134 4 u6 (Ls.take k).flatten.length (cellsG lnkE (Ls.take k).flatten)):=hown;have HBW:Hid (Below wc.heap.size wc wr):=hB;clear hown;by_cases hlt:k<m
   ·have hkl:k<Ls.length:=by rw[HM.out];exact hlt
    obtain⟨ao,n,cap2,q0,hsr⟩:=(HC.out.later hB) k hkl;have HSR:Hid (GS lnkE wr (.slice ao n cap2) Ls[k]):=hsr;have HL1:Hid ((Ls.take k).flatten.length+Ls[k].length≤1000000):=by
     have h1:=lnk_flat_le (Ls:=Ls) (k+1);rw[lnk_flat_next hkl,List.length_append] at h1;have h2:=HS.out;show _≤_;omega
    clear hsr hB
    go_wp2_with (at_builtin;refine lnk_append _ rfl _ _ 22 rfl underlying22 wc.heap.size _ rfl _ HOW.out _ rfl _ HSR.out HL1.out HBW.out.size ?_)
    intro v' w3 hown3 hgrow;have HO5:Hid (w3.ownsRow wc.heap.size 134 4 v' (Ls.take (k+1)).flatten.length (cellsG lnkE (Ls.take (k+1)).flatten)):=by
     show w3.ownsRow _ _ _ _ _ _;rw[lnk_flat_next hkl,show ((Ls.take k).flatten++Ls[k]).length=(List.take k (List.map List.length Ls)).sum+Ls[k].length by simp];exact hown3
    have HB5:Hid (Below wc.heap.size wc w3):=HBW.out.grown hgrow HBW.out.size (fun g hg=>(HOW.out.lt g hg).1);clear hown3 hgrow q0;go_wp2;go_roundw
    case rel=>exact⟨k+1,by omega,by go_num,HO5.out,HB5.out⟩
    case measure=>simp[intOf];omega
   obtain rfl:k=m:=by omega
   go_wp2;go_ret;refine⟨_,rfl,?_,HBW.out⟩;have:=HOW.out;rw[←HM.out,List.take_length] at this;exact this
theorem gnn_refl (w:World):w.grownBy w none:=⟨rfl,rfl,rfl,nLQ _,fun _ _ _=>rfl⟩
theorem below_grown {B:Nat}{w W:World}{row:Option Nat}(h:w.grownBy W row)(hB:B≤w.heap.size)(hr:∀k,row=some k→B≤k):Below B w W:=
 ⟨h.os,h.tape,h.output,h.size,fun k hk=>h.block k (by omega) (fun e=>by have:=hr k e.symm;omega)⟩
theorem step_append_blk {P:Program}{α:Type}{E:Enc α}(w:World){ops:Array Oper}{o:Oper}{a:Act}{K:Act→World→Prop}{Q:Exit→Act→World→Prop}{X:Prop}(hgd:o.guard=none)(s x:Operand)(t e:TypeId)
 (ho:o.op=.call { callee:=.builtin .append,args:=#[s,x],argTypes:=#[t,t] }) (ht:P.underlying t=some (.slice e)) (i:TypeInfo) (z:Value) (bytes:Nat) (hi:P.info? e=some i) (hz:i.zero=some z)
 (hsize:i.size=E.n) (hby:i.bytes=bytes) (hzs:z.cells.size=E.n) (base:Nat)
 (v:Value) (hs:a.eval s=v) (L:List α) (hown:w.ownsRow base e E.n v L.length (cellsG E L)) (g q c:Nat) (hx:a.eval x=.slice (some ⟨g,q,none⟩) 1 c) (y:α) (hM:VAt w g q (E.c y))
 (h63:L.length+1≤maxLen) (hbytes:(L.length+1)*bytes≤140737488355328) (hbase:base≤w.heap.size)
 (h:∀v' w',w'.ownsRow base e E.n v' (L++[y]).length (cellsG E (L++[y]))→w.grownBy w' v.ownBlock→v'.ownBlock=v.ownBlock∨v'.ownBlock=some w.heap.size→K (a.put o.dst v') w'):
 if Region.wanted o (yielded ops a.tmps)=true then Oper.wp P o a w K Q else X:=by
 have hw:Region.wanted o (yielded ops a.tmps)=true:=by simp[Region.wanted,hgd]
 rw[if_pos hw];have hG:GAt E w g q [y]:=by
  intro k hk;obtain rfl:k=0:=by simp at hk;omega
  simpa using hM
 have hc:=hG.cells;rw[cellsG_one] at hc;have hl:(E.c y).length=1*E.n:=by rw[E.len];omega
 obtain⟨v',w',hr,h2,h3,_⟩:=run_append_own (P:=P) w base t o.type e i z E.n bytes ht hi hz hsize hby hzs E.pos v _ _ hown ⟨g,q,none⟩ 1 c (E.c y) hl hc (E.one y) h63 hbytes hbase;have hb:=run_append_blk (P:=P) t o.type e i z ht hi hz v _ _ (by rw[hsize];exact hown) ⟨g,q,none⟩ c (E.c y) (by rw[hsize];exact hl) hc (E.one y) h63 (by rw[hby];exact hbytes) hr;unfold Oper.wp execOp;simp only[ho,resolve,invoke,builtin,Sem.run_bind,Sem.run_pure,Result.andThen_ok,List.map_toArray,List.map_cons,List.map_nil,hs,hx,hr];exact h v' w' (by rw[List.length_append,cellsG_app,cellsG_one];exact h2) h3 hb
section
variable {e1 e2:TypeId}{w W1 W1' W2 W2' Wf:World}{B:Nat}{v u v' u':Value}{vs us:List SlT}{Cs Ps:List (List Int)}
end
structure WB (W:World)(g:Nat)(S:Int)(v1 v2 v3:Value):Prop where
 c:NeBox W g S v1 v2 v3
 f:∀c,W.frozen? ⟨g,c,none⟩=false
section
variable {W W':World}{g:Nat}{S:Int}{v1 v2 v3:Value}
theorem WB.lt (h:WB W g S v1 v2 v3):g<W.heap.size:=bLQ W ⟨g,0,none⟩ h.c.1
theorem WB.grown {row:Option Nat}(h:WB W g S v1 v2 v3)(hg:W.grownBy W' row)(hne:some g≠row):WB W' g S v1 v2 v3:=
 ⟨h.c.grown hg hne,fun c=>(World.frozen?_of_block (hg.block g h.lt hne)).trans (h.f c)⟩
theorem WB.later (h:WB W g S v1 v2 v3)(hb:Below W.heap.size W W'):WB W' g S v1 v2 v3:=h.grown (grown_below hb) (by simp)
theorem wb_new (w:World)(S:Int)(v1 v2 v3:Value)(t:TypeId):WB (w.alloc (.cells #[.int i64 S,v1,v2,v3] t)) w.heap.size S v1 v2 v3:=by
 refine⟨nebox_new w S v1 v2 v3 t,fun c=>?_⟩;have h:=heap_alloc_new w (Obj.cells #[.int i64 S,v1,v2,v3] t);simp only[World.frozen?,h];simp
theorem WB.set1 (h:WB W g S v1 v2 v3)(x:Value):WB (W.setCell ⟨g,1,none⟩ x) g S x v2 v3:=
 ⟨⟨(World.cell?_setCell_other _ _ _ _ (by simp)).trans h.c.1,World.cell?_setCell_same _ _ _ h.c.2.1,(World.cell?_setCell_other _ _ _ _ (by simp)).trans h.c.2.2.1,(World.cell?_setCell_other _ _ _ _ (by simp)).trans h.c.2.2.2⟩,fun c=>by rw[World.frozen?_setCell];exact h.f c⟩
theorem WB.set2 (h:WB W g S v1 v2 v3)(x:Value):WB (W.setCell ⟨g,2,none⟩ x) g S v1 x v3:=
 ⟨⟨(World.cell?_setCell_other _ _ _ _ (by simp)).trans h.c.1,(World.cell?_setCell_other _ _ _ _ (by simp)).trans h.c.2.1,World.cell?_setCell_same _ _ _ h.c.2.2.1,(World.cell?_setCell_other _ _ _ _ (by simp)).trans h.c.2.2.2⟩,fun c=>by rw[World.frozen?_setCell];exact h.f c⟩
theorem WB.set3 (h:WB W g S v1 v2 v3)(x:Value):WB (W.setCell ⟨g,3,none⟩ x) g S v1 v2 x:=
 ⟨⟨(World.cell?_setCell_other _ _ _ _ (by simp)).trans h.c.1,(World.cell?_setCell_other _ _ _ _ (by simp)).trans h.c.2.1,(World.cell?_setCell_other _ _ _ _ (by simp)).trans h.c.2.2.1,World.cell?_setCell_same _ _ _ h.c.2.2.2⟩,fun c=>by rw[World.frozen?_setCell];exact h.f c⟩
theorem NeBox.off {b i:Nat}{x:Value}(h:NeBox W g S v1 v2 v3)(hne:b≠g):NeBox (W.setCell ⟨b,i,none⟩ x) g S v1 v2 v3:=h.grown (grown_set W b i x) (by simp;omega)
theorem WB.off {b i:Nat}{x:Value}(h:WB W g S v1 v2 v3)(hne:b≠g):WB (W.setCell ⟨b,i,none⟩ x) g S v1 v2 v3:=h.grown (grown_set W b i x) (by simp;omega)
end
structure FB (W:World)(B:Nat)(S:Int)(v1 v2 v3:Value)(s:Int)(u1 u2 u3:Value):Prop where
 n:NeBox W B S v1 v2 v3
 r:WB W (B+1) 0 (.slice none 0 0) (.slice none 0 0) (.slice none 0 0)
 o:WB W (B+1+1) s u1 u2 u3
section
variable {W W':World}{B:Nat}{S:Int}{v1 v2 v3:Value}{s:Int}{u1 u2 u3:Value}
theorem FB.lt (h:FB W B S v1 v2 v3 s u1 u2 u3):B+1+1<W.heap.size:=h.o.lt
theorem FB.grown {row:Option Nat}(h:FB W B S v1 v2 v3 s u1 u2 u3)(hg:W.grownBy W' row)(hr:∀g,row=some g→B+1+1+1≤g):FB W' B S v1 v2 v3 s u1 u2 u3:=
 ⟨h.n.grown hg (fun e=>by have:=hr _ e.symm;omega),h.r.grown hg (fun e=>by have:=hr _ e.symm;omega),h.o.grown hg (fun e=>by have:=hr _ e.symm;omega)⟩
theorem FB.later (h:FB W B S v1 v2 v3 s u1 u2 u3)(hb:Below W.heap.size W W'):FB W' B S v1 v2 v3 s u1 u2 u3:=h.grown (grown_below hb) (fun g hg=>by cases hg)
theorem FB.set1 (h:FB W B S v1 v2 v3 s u1 u2 u3)(x:Value):FB (W.setCell ⟨B+1+1,1,none⟩ x) B S v1 v2 v3 s x u2 u3:=⟨h.n.off (by omega),h.r.off (by omega),h.o.set1 x⟩
theorem FB.set2 (h:FB W B S v1 v2 v3 s u1 u2 u3)(x:Value):FB (W.setCell ⟨B+1+1,2,none⟩ x) B S v1 v2 v3 s u1 x u3:=⟨h.n.off (by omega),h.r.off (by omega),h.o.set2 x⟩
theorem FB.set3 (h:FB W B S v1 v2 v3 s u1 u2 u3)(x:Value):FB (W.setCell ⟨B+1+1,3,none⟩ x) B S v1 v2 v3 s u1 u2 x:=⟨h.n.off (by omega),h.r.off (by omega),h.o.set3 x⟩
theorem fb_new (w:World)(S:Int)(v1 v2 v3:Value)(t:TypeId):FB (((w.alloc (.cells #[.int i64 S,v1,v2,v3] t)).alloc (.cells #[.int i64 0,.slice none 0 0,.slice none 0 0,.slice none 0 0] t)).alloc (.cells #[.int i64 S,.slice none 0 0,.slice none 0 0,.slice none 0 0] t)) w.heap.size S v1 v2 v3 S (.slice none 0 0) (.slice none 0 0) (.slice none 0 0):=by
 obtain⟨h1,h2⟩:=nn_new w S v1 v2 v3 0 (.slice none 0 0) (.slice none 0 0) (.slice none 0 0) t;have r0:=wb_new (w.alloc (.cells #[.int i64 S,v1,v2,v3] t)) 0 (.slice none 0 0) (.slice none 0 0) (.slice none 0 0) t;rw[World.size_alloc] at r0;have o0:=wb_new ((w.alloc (.cells #[.int i64 S,v1,v2,v3] t)).alloc (.cells #[.int i64 0,.slice none 0 0,.slice none 0 0,.slice none 0 0] t)) S (.slice none 0 0) (.slice none 0 0) (.slice none 0 0) t;rw[World.size_alloc,World.size_alloc] at o0;exact⟨h1.later ((bRQ _ _).alloc (nLQ _) _),r0.later ((bRQ _ _).alloc (nLQ _) _),o0⟩
end
theorem lnkPt1 {W:World}{a1:AdQ}{n1 c1:Nat}{L1:LkQ}(t:TypeId)(h1:GS lnkE W (.slice a1 n1 c1) L1):lnkPt (W.alloc (.cells #[.slice a1 n1 c1] t)) W.heap.size 0 [L1]:=by
 have hb:Below W.heap.size W (W.alloc (.cells #[.slice a1 n1 c1] t)):=(bRQ _ _).alloc (nLQ _) _;intro i hi
 match i,hi with
 | 0,_=>exact⟨a1,n1,c1,by simp,h1.later hb⟩
theorem fdrew {w w':World}(hb:Below w.drew.heap.size w.drew w'):Below w.heap.size w w':=(Below.drew (bRQ _ _)).trans hb
theorem falloc {w w':World}{o:Obj}(hb:Below (w.drew.alloc o).heap.size (w.drew.alloc o) w'):Below w.heap.size w w':=((Below.drew (bRQ _ _)).alloc (nLQ _) o).trans (hb.mono (by simp))
theorem row_kept {w w1 w2:World}{B e s n:Nat}{v:Value}{xs:List Value}(h:w.ownsRow B e s v n xs)(hb:Below w.heap.size w w1){row:Option Nat}(hg:w1.grownBy w2 row)(hr:v.ownBlock=none∨v.ownBlock≠row){b i:Nat}{x:Value}(hB:b<B):(w2.setCell ⟨b,i,none⟩ x).ownsRow B e s v n xs:=
 ((h.kept (grown_below hb) (none_or _)).kept hg hr).kept (grown_set w2 b i x) (.inr fun e=>by have:=(h.lt b e).1;omega)
theorem vat_sl {W:World}{g q:Nat}{y:SlT}(h:W.cell? ⟨g,q,none⟩=some (slV y)):VAt W g q (slE.c y):=by
 intro j u hu;obtain rfl:j=0:=by
  have:=(List.getElem?_eq_some_iff.1 hu).1;have e:(slE.c y).length=1:=rfl;omega
 have e4:slV y=u:=Option.some.inj hu;rw[Nat.add_zero,←e4];exact h
theorem fresh_any (S:Int)(ao:AdQ)(n cap:Nat)(ao2:AdQ)(n2 cap2:Nat)(ao3:AdQ)(n3 cap3:Nat)(Ls:LkQ)(Hs:HoQ)(Ts:TsQ)(w:World)
 (hL:GS lnkE w (.slice ao n cap) Ls) (hH:GS hstE w (.slice ao2 n2 cap2) Hs) (hT:TS w (.slice ao3 n3 cap3) Ts) (hN:ntN S Ls Hs Ts=0):
 Calls prog 20 #[.agg #[.int i64 S,.slice ao n cap,.slice ao2 n2 cap2,.slice ao3 n3 cap3]] w fun e w'=>∃b1 k1 d1 b2 k2 d2 b3 k3 d3 vs,e=.returned (.agg #[.int i64 S,.slice b1 k1 d1,.slice b2 k2 d2,.slice b3 k3 d3])∧w'.ownsRow w.heap.size 134 4 (.slice b1 k1 d1) Ls.length (cellsG lnkE Ls)∧w'.ownsRow w.heap.size 67 3 (.slice b2 k2 d2) Hs.length (cellsG hstE Hs)∧TR 58 w' 0 w.heap.size (.slice b3 k3 d3) vs Ts∧Below w.heap.size w w':=by
 obtain⟨t1,t2,t3⟩:=nt_0 hN;have HTP:Hid (tpN S Ls Hs=0):=t1;obtain⟨htp1,⟨htp2,htp3⟩,_⟩:=tp_0 t1;have HLL:Hid ([Ls].flatten.length≤1000):=by
  show _≤_;simp only[List.flatten_cons,List.flatten_nil,List.append_nil];omega
 have HOK:Hid (∀k,k<Ts.length→(Ts.getD k []).length≤12):=fun k hk=>(tb_iff.1 (t3 k hk)).1
 have HFB:=fb_new w S (.slice ao n cap) (.slice ao2 n2 cap2) (.slice ao3 n3 cap3) 28;have hb3:Below w.heap.size w (((w.alloc (.cells #[.int i64 S,.slice ao n cap,.slice ao2 n2 cap2,.slice ao3 n3 cap3] 28)).alloc (.cells #[.int i64 0,.slice none 0 0,.slice none 0 0,.slice none 0 0] 28)).alloc (.cells #[.int i64 S,.slice none 0 0,.slice none 0 0,.slice none 0 0] 28)):=(((bRQ _ _).alloc (nLQ _) _).alloc (by simp) _).alloc (by simp;omega) _;obtain⟨_,_,_,e,gn,gn2,gn3,ga⟩:=hH.form;cases e;obtain⟨_,_,_,e,hn,hn2,hn3,ha⟩:=hT.form;cases e;have HN2:Hid (Hs.length=n2):=gn;have HA2:Hid (0<n2→∃g o,ao2=some ⟨g,o,none⟩∧GAt hstE w g o Hs∧cap2≤maxLen):=ga;have HN3:Hid (Ts.length=n3):=hn;have HA3:Hid (0<n3→∃g o,ao3=some ⟨g,o,none⟩∧TAt w g o Ts∧cap3≤maxLen):=ha;have h28:n2≤8:=by omega
 have h36:n3≤6:=by omega
 have HPT:Hid (lnkPt ((((w.alloc (.cells #[.int i64 S,.slice ao n cap,.slice ao2 n2 cap2,.slice ao3 n3 cap3] 28)).alloc (.cells #[.int i64 0,.slice none 0 0,.slice none 0 0,.slice none 0 0] 28)).alloc (.cells #[.int i64 S,.slice none 0 0,.slice none 0 0,.slice none 0 0] 28)).alloc (.cells #[.slice ao n cap] 22)) (w.heap.size+1+1+1) 0 [Ls]):=by
  have h:=lnkPt1 22 (hL.later hb3);simp only[World.size_alloc] at h;exact h
 have HB3:Hid (Below w.heap.size w (((w.alloc (.cells #[.int i64 S,.slice ao n cap,.slice ao2 n2 cap2,.slice ao3 n3 cap3] 28)).alloc (.cells #[.int i64 0,.slice none 0 0,.slice none 0 0,.slice none 0 0] 28)).alloc (.cells #[.int i64 S,.slice none 0 0,.slice none 0 0,.slice none 0 0] 28))):=hb3;have HFB0:Hid (FB _ w.heap.size S (.slice ao n cap) (.slice ao2 n2 cap2) (.slice ao3 n3 cap3) S (.slice none 0 0) (.slice none 0 0) (.slice none 0 0)):=HFB;clear hL hH hT hN t1 t2 t3 htp1 htp2 htp3 HFB hb3 gn gn2 gn3 ga hn hn2 hn3 ha;go_enter func20,ntmps20
 go_wp2_with fail
 refine (lnk_concat _ 0 1 1 [Ls] _ rfl (by omega) HPT.out HLL.out).mono ?_;rintro e w5 ⟨v,rfl,hown,hb⟩;have hbB:Below (w.heap.size+1+1+1) (((w.alloc (.cells #[.int i64 S,.slice ao n cap,.slice ao2 n2 cap2,.slice ao3 n3 cap3] 28)).alloc (.cells #[.int i64 0,.slice none 0 0,.slice none 0 0,.slice none 0 0] 28)).alloc (.cells #[.int i64 S,.slice none 0 0,.slice none 0 0,.slice none 0 0] 28)) w5:=((bRQ _ _).alloc (by simp) _).trans (hb.mono (by simp));have hown2:w5.ownsRow (w.heap.size+1+1+1) 134 4 v Ls.length (cellsG lnkE Ls):=by
  have h:=own_mono hown (B':=w.heap.size+1+1+1) (by simp);simp only[List.flatten_cons,List.flatten_nil,List.append_nil] at h;exact h
 obtain⟨b1,m1,d1,rfl⟩:∃b1 m1 d1,v=.slice b1 m1 d1:=by
  obtain⟨a,c,h⟩:=own_form hown2;exact⟨a,_,c,h⟩
 have HF5:FB w5 w.heap.size S (.slice ao n cap) (.slice ao2 n2 cap2) (.slice ao3 n3 cap3) S (.slice none 0 0) (.slice none 0 0) (.slice none 0 0):=HFB0.out.later (by have h:=hbB;simpa only[World.size_alloc] using h);have HB6:Hid (Below w.heap.size w (w5.setCell ⟨w.heap.size+1+1,1,none⟩ (.slice b1 m1 d1))):=(HB3.out.trans (hbB.mono (by omega))).setCell (p:=⟨w.heap.size+1+1,1,none⟩) (show w.heap.size≤w.heap.size+1+1 by omega) _;have HF6:Hid (FB (w5.setCell ⟨w.heap.size+1+1,1,none⟩ (.slice b1 m1 d1)) w.heap.size S (.slice ao n cap) (.slice ao2 n2 cap2) (.slice ao3 n3 cap3) S (.slice b1 m1 d1) (.slice none 0 0) (.slice none 0 0)):=HF5.set1 _;have HL6:Hid ((w5.setCell ⟨w.heap.size+1+1,1,none⟩ (.slice b1 m1 d1)).ownsRow (w.heap.size+1+1+1) 134 4 (.slice b1 m1 d1) Ls.length (cellsG lnkE Ls)):=hown2.kept (grown_set w5 _ _ _) (.inr fun e=>by have:=(hown2.lt _ e).1;omega);obtain⟨p0,p1,p2,p3⟩:=HF5.n;obtain⟨q0,q1,q2,q3⟩:=HF5.o.c;have hlt5:=HF5.lt;have hlt50:w.heap.size<w5.heap.size:=by omega
 have f1:=HF5.o.f 1;clear HPT HB3 HFB0 hown hb hbB hown2 HF5;go_wp2
 go_loopw [24] (fun i wr=>∃(k:Nat) (u2:Value),k≤n2∧i=.int i64 k∧FB wr w.heap.size S (.slice ao n cap) (.slice ao2 n2 cap2) (.slice ao3 n3 cap3) S (.slice b1 m1 d1) u2 (.slice none 0 0)∧wr.ownsRow (w.heap.size+1+1+1) 67 3 u2 (Hs.take k).length (cellsG hstE (Hs.take k))∧wr.ownsRow (w.heap.size+1+1+1) 134 4 (.slice b1 m1 d1) Ls.length (cellsG lnkE Ls)∧Below w.heap.size w wr) (fun i _=>n2-(intOf i).toNat)
 case atStart=>exact⟨0,_,by omega,rfl,HF6.out,World.ownsRow_nil _ _ _ _,HL6.out,HB6.out⟩
 case round =>
  obtain⟨k,u2,hk,rfl,hF,hO,hLk,hB⟩:=hrel;clear HF6 HL6 HB6 p0 p1 p2 p3 q0 q1 q2 q3 hlt5 hlt50 f1;obtain⟨a5,m5,c5,rfl⟩:∃b1 m1 d1,u2=.slice b1 m1 d1:=by
   obtain⟨a,c,h⟩:=own_form hO;exact⟨a,_,c,h⟩
  have HB:Hid (Below w.heap.size w wr):=hB;have HF:Hid (FB wr w.heap.size S (.slice ao n cap) (.slice ao2 n2 cap2) (.slice ao3 n3 cap3) S (.slice b1 m1 d1) (.slice a5 m5 c5) (.slice none 0 0)):=hF;have HO:Hid (wr.ownsRow (w.heap.size+1+1+1) 67 3 (.slice a5 m5 c5) (Hs.take k).length (cellsG hstE (Hs.take k))):=hO;have HLK:Hid (wr.ownsRow (w.heap.size+1+1+1) 134 4 (.slice b1 m1 d1) Ls.length (cellsG lnkE Ls)):=hLk;have hltB:=hF.lt;have HLT:Hid (w.heap.size+1+1<wr.heap.size):=hltB;clear hO hLk;by_cases hlt:k<n2
  ·obtain⟨g,og,hao,hc,_⟩:=HA2.out (by omega);subst hao;obtain⟨y0,y1,y2,hkl,hHk,r0,r1,r2⟩:=hst_at (hc.later hB) HN2.out hlt;have HSZ:Hid (y0.size≤1000000):=by
    show _≤_;have h:=(tp_0 HTP.out).2.2.2.2.1 Hs[k] (List.getElem_mem hkl);rw[hHk] at h;have h2:=h.1;simp only[nmB,Bool.and_eq_true,decide_eq_true_eq] at h2;omega
   have kb0:(0:Int)≤(k:Int):=by omega
   have kb1:(k:Int)<(n2:Int):=by omega
   have HTK:Hid (Hs.take (k+1)=Hs.take k++[(y0,(y1,y2))]):=by
    show _=_;rw[List.take_succ_eq_append_getElem hkl,hHk]
   obtain⟨q0,q1,q2,q3⟩:=hF.o.c;have f2:=hF.o.f 2;obtain⟨j1,hj,hy0,hy1,hy2⟩:=info_parts hst_info;have HI1:Hid (Tryz.prog.info? 67=some j1):=hj;have HI2:Hid (j1.zero=some (.agg #[.string ByteArray.empty,.int i64 0,.int i64 0])):=hy0;have HI3:Hid (j1.size=3):=hy1;have HI4:Hid (j1.bytes=32):=hy2;obtain⟨wi,hwi⟩:∃W,W=wr.alloc (.cells #[.string y0,.int i64 y1,.int i64 y2] 67):=⟨_,rfl⟩;have hbi:Below wr.heap.size wr wi:=by rw[hwi];exact (bRQ _ _).alloc (nLQ _) _
   have HWI:Hid (wi.heap.size=wr.heap.size+1):=by
    show _=_;rw[hwi,World.size_alloc]
   have HKH:Hid (∀W,Below wi.heap.size wi W→W.cell? ⟨wr.heap.size,0,none⟩=some (.string y0)∧W.cell? ⟨wr.heap.size,1,none⟩=some (.int i64 y1)∧W.cell? ⟨wr.heap.size,2,none⟩=some (.int i64 y2)):=fun W hW=>by
    have h:=hst_new wr y0 y1 y2 67;rw[←hwi] at h;have h2:=hst_cells (h.later hW);simpa only[Nat.zero_add] using h2
   have HKF:Hid (∀W,Below wi.heap.size wi W→FB W w.heap.size S (.slice ao n cap) (.slice (some ⟨g,og,none⟩) n2 cap2) (.slice ao3 n3 cap3) S (.slice b1 m1 d1) (.slice a5 m5 c5) (.slice none 0 0)):=fun W hW=>(HF.out.later hbi).later hW
   have HKO:Hid (∀W,Below wi.heap.size wi W→W.ownsRow (w.heap.size+1+1+1) 67 3 (.slice a5 m5 c5) (Hs.take k).length (cellsG hstE (Hs.take k))):=fun W hW=>own_below (own_below HO.out hbi) hW
   have HOB:Hid (∀b,(Value.slice a5 m5 c5).ownBlock=some b→w.heap.size+1+1+1≤b∧b<wr.heap.size):=fun b hb=>HO.out.lt b hb
   have HLV1:Hid ((Hs.take k).length+1≤maxLen):=by
    show _≤_;rw[List.length_take];unfold maxLen;omega
   have HLV2:Hid (((Hs.take k).length+1)*32≤140737488355328):=by
    show _≤_;rw[List.length_take];omega
   have HFIN:Hid (∀w' w2 v5,Below wi.heap.size wi w'→w'.grownBy w2 (Value.slice a5 m5 c5).ownBlock→w2.ownsRow (w.heap.size+1+1+1) 67 3 v5 (Hs.take (k+1)).length (cellsG hstE (Hs.take (k+1))) →
    FB (w2.setCell ⟨w.heap.size+1+1,2,none⟩ v5) w.heap.size S (.slice ao n cap) (.slice (some ⟨g,og,none⟩) n2 cap2) (.slice ao3 n3 cap3) S (.slice b1 m1 d1) v5 (.slice none 0 0)∧(w2.setCell ⟨w.heap.size+1+1,2,none⟩ v5).ownsRow (w.heap.size+1+1+1) 67 3 v5 (Hs.take (k+1)).length (cellsG hstE (Hs.take (k+1)))∧(w2.setCell ⟨w.heap.size+1+1,2,none⟩ v5).ownsRow (w.heap.size+1+1+1) 134 4 (.slice b1 m1 d1) Ls.length (cellsG lnkE Ls)∧Below w.heap.size w (w2.setCell ⟨w.heap.size+1+1,2,none⟩ v5)):=by
    intro w' w2 v5 h1 h2 h3;have hb1:Below wr.heap.size wr w':=hbi.trans (h1.mono hbi.size);refine⟨((HKF.out w' h1).grown h2 (fun b hb=>(HOB.out b hb).1)).set2 v5,h3.kept (grown_set _ _ _ _) (.inr fun e=>by have:=(h3.lt _ e).1;omega),row_kept HLK.out hb1 h2 (own_apart HLK.out HO.out (by decide)) (by omega),?_⟩;have hb2:Below w.heap.size w w':=HB.out.trans (hb1.mono HB.out.size);exact (hb2.grown h2 hb2.size (fun b hb=>by have:=(HOB.out b hb).1;omega)).setCell (p:=⟨w.heap.size+1+1,2,none⟩) (show w.heap.size≤w.heap.size+1+1 by omega) _
   clear hc hB hHk hF hj hy0 hy1 hy2;go_upto_region 7 with fail;rw[←hwi];have HDR:Hid (Below wi.heap.size wi wi.drew):=Below.drew (bRQ _ _);have k2:=(HKF.out wi (bRQ _ _)).o.c.2.2.1;have kf2:=(HKF.out wi (bRQ _ _)).o.f 2;clear hwi r0 r1 r2 q0 q1 q2 q3 f2;obtain⟨i0,i1,i2⟩:=HKH.out wi (bRQ _ _)
   go_region_law (first
    | ((refine step_append_blk (E:=hstE) _ (by rfl) _ _ 23 67 (by rfl) underlying23 j1 _ 32 HI1.out HI2.out HI3.out HI4.out hst_zero (w.heap.size+1+1+1) (.slice a5 m5 c5) (by rfl) (Hs.take k) (HKO.out _ HBY.out) w'.heap.size 0 1 (by rfl) (y0,(y1,y2)) (hst_new w' y0 y1 y2 67) HLV1.out HLV2.out ?_ ?_;(focus (have:=HBY.out.size;have:=HWI.out;have:=HLT.out;omega));intro v5 w5 ho5 hg5 hb5;rw[←HTK.out] at ho5;obtain⟨a6,m6,c6,rfl⟩:∃b1 m1 d1,v5=Value.slice b1 m1 d1:=(by obtain⟨a,c,h⟩:=own_form ho5;exact⟨a,_,c,h⟩);have HG:Hid _:=HFIN.out _ _ _ HBY.out hg5 ho5;have z2:=((HKF.out _ HBY.out).grown hg5 (fun b hb=>(HOB.out b hb).1)).o.c.2.2.1;have zf2:=((HKF.out _ HBY.out).grown hg5 (fun b hb=>(HOB.out b hb).1)).o.f 2;clear ho5 hg5 hb5))
    | (go_simp;go_at_call 31;refine (clone_any y0 _ HSZ.out).mono ?_;rintro e w' ⟨rfl,hb⟩;have HBX:Hid (Below wi.heap.size wi w'):=fdrew hb;have HBY:Hid (Below wi.heap.size wi (w'.alloc (.cells #[.string y0,.int i64 y1,.int i64 y2] 67))):=HBX.out.alloc HBX.out.size _;have x2:=(HKF.out w' HBX.out).o.c.2.2.1;have xlt:=(HKF.out w' HBX.out).o.lt;obtain⟨x4,x5,x6⟩:=HKH.out w' HBX.out;clear hb;dsimp only))
   all_goals (clear k2 kf2 i0 i1 i2;go_wp2)
   all_goals go_roundw
   all_goals first
    | (simp[intOf];omega)
    | exact⟨k+1,_,by omega,by go_num,HG.out⟩
  obtain rfl:k=n2:=by omega
  have HO2:Hid (wr.ownsRow (w.heap.size+1+1+1) 67 3 (.slice a5 m5 c5) Hs.length (cellsG hstE Hs)):=by
   have h:=HO.out;rw[←HN2.out,List.take_length] at h;exact h
  obtain⟨p0,p1,p2,p3⟩:=hF.n;have hlt0:w.heap.size<wr.heap.size:=by omega
  clear hF hB HO HA2 HN2 HTP h28;go_wp2
  go_loopw [45] (fun i wr=>∃(j:Nat) (u3:Value) (vs:List SlT),j≤n3∧i=.int i64 j∧FB wr w.heap.size S (.slice ao n cap) (.slice ao2 k cap2) (.slice ao3 n3 cap3) S (.slice b1 m1 d1) (.slice a5 m5 c5) u3∧TR 58 wr 0 (w.heap.size+1+1+1) u3 vs (Ts.take j)∧wr.ownsRow (w.heap.size+1+1+1) 67 3 (.slice a5 m5 c5) Hs.length (cellsG hstE Hs)∧wr.ownsRow (w.heap.size+1+1+1) 134 4 (.slice b1 m1 d1) Ls.length (cellsG lnkE Ls)∧Below w.heap.size w wr) (fun i _=>n3-(intOf i).toNat)
  case atStart=>exact⟨0,_,[],by omega,rfl,HF.out,tr_nil _ _ _ _,HO2.out,HLK.out,HB.out⟩
  case round =>
   obtain⟨j,u3,vs,hk,rfl,hF,hTR,hO,hLk,hB⟩:=hrel;clear HF HO2 HLK HB HLT p0 p1 p2 p3 hlt0 hltB;obtain⟨a7,m7,c7,rfl⟩:∃b1 m1 d1,u3=.slice b1 m1 d1:=by
    obtain⟨a,c,h⟩:=own_form hTR.ov;exact⟨a,_,c,h⟩
   have HB:Hid (Below w.heap.size w wr):=hB;have HF:Hid (FB wr w.heap.size S (.slice ao n cap) (.slice ao2 k cap2) (.slice ao3 n3 cap3) S (.slice b1 m1 d1) (.slice a5 m5 c5) (.slice a7 m7 c7)):=hF;have HO:Hid (wr.ownsRow (w.heap.size+1+1+1) 67 3 (.slice a5 m5 c5) Hs.length (cellsG hstE Hs)):=hO;have HLK:Hid (wr.ownsRow (w.heap.size+1+1+1) 134 4 (.slice b1 m1 d1) Ls.length (cellsG lnkE Ls)):=hLk;have HTR:Hid (TR 58 wr 0 (w.heap.size+1+1+1) (.slice a7 m7 c7) vs (Ts.take j)):=hTR;have hltB:=hF.lt;have HLT:Hid (w.heap.size+1+1<wr.heap.size):=hltB;clear hO hLk;by_cases hlt:j<n3
   ·obtain⟨g,og,hao,hc,_⟩:=HA3.out (by omega);subst hao;have hjl:j<Ts.length:=by rw[HN3.out];exact hlt
    obtain⟨a4,n4,c4,r0,hs⟩:=(hc.later hB) j hjl;have HSR:Hid (SR wr (.slice a4 n4 c4) Ts[j]):=hs;have HL12:Hid ([Ts[j]].flatten.length≤1000):=by
     have h:=HOK.out j hjl;rw[getT hjl] at h;show _≤_;simp only[List.flatten_cons,List.flatten_nil,List.append_nil];omega
    have HTK:Hid (Ts.take (j+1)=Ts.take j++[Ts[j]]):=List.take_succ_eq_append_getElem hjl;have kb0:(0:Int)≤(j:Int):=by omega
    have kb1:(j:Int)<(n3:Int):=by omega
    have q3:=hF.o.c.2.2.2;have f3:=hF.o.f 3;obtain⟨j1,hj,hy0,hy1,hy2⟩:=info_parts ta_info;have HI1:Hid (Tryz.prog.info? 58=some j1):=hj;have HI2:Hid (j1.zero=some (.slice none 0 0)):=hy0;have HI3:Hid (j1.size=1):=hy1;have HI4:Hid (j1.bytes=24):=hy2;have HVL:Hid (vs.length≤6):=by
     show _≤_;rw[hTR.lv,List.length_take];omega
    have HLV1:Hid (vs.length+1≤maxLen):=by
     have:=HVL.out;show _≤_;unfold maxLen;omega
    have HLV2:Hid ((vs.length+1)*24≤140737488355328):=by
     have:=HVL.out;show _≤_;omega
    have HKF:Hid (∀W,Below wr.heap.size wr W→FB W w.heap.size S (.slice ao n cap) (.slice ao2 k cap2) (.slice (some ⟨g,og,none⟩) n3 cap3) S (.slice b1 m1 d1) (.slice a5 m5 c5) (.slice a7 m7 c7)):=fun W hW=>HF.out.later hW
    have HKO:Hid (∀W,Below wr.heap.size wr W→W.ownsRow (w.heap.size+1+1+1) 58 1 (.slice a7 m7 c7) vs.length (cellsG slE vs)):=fun W hW=>own_below HTR.out.ov hW
    have HOB:Hid (∀b,(Value.slice a7 m7 c7).ownBlock=some b→w.heap.size+1+1+1≤b∧b<wr.heap.size):=fun b hb=>HTR.out.ov.lt b hb
    have HFIN:Hid (∀w' w2 v5 x,Below wr.heap.size wr w'→SR w' (slV x) Ts[j]→(∀b,b<wr.heap.size→offB x b)→w'.grownBy w2 (Value.slice a7 m7 c7).ownBlock→w2.ownsRow (w.heap.size+1+1+1) 58 1 v5 (vs++[x]).length (cellsG slE (vs++[x]))→(v5.ownBlock=(Value.slice a7 m7 c7).ownBlock∨v5.ownBlock=some w'.heap.size) →
     ∃(u3:Value) (vs:List SlT),FB (w2.setCell ⟨w.heap.size+1+1,3,none⟩ v5) w.heap.size S (.slice ao n cap) (.slice ao2 k cap2) (.slice (some ⟨g,og,none⟩) n3 cap3) S (.slice b1 m1 d1) (.slice a5 m5 c5) u3∧TR 58 (w2.setCell ⟨w.heap.size+1+1,3,none⟩ v5) 0 (w.heap.size+1+1+1) u3 vs (Ts.take (j+1))∧(w2.setCell ⟨w.heap.size+1+1,3,none⟩ v5).ownsRow (w.heap.size+1+1+1) 67 3 (.slice a5 m5 c5) Hs.length (cellsG hstE Hs)∧(w2.setCell ⟨w.heap.size+1+1,3,none⟩ v5).ownsRow (w.heap.size+1+1+1) 134 4 (.slice b1 m1 d1) Ls.length (cellsG lnkE Ls)∧Below w.heap.size w (w2.setCell ⟨w.heap.size+1+1,3,none⟩ v5)):=by
     intro w' w2 v5 x h1 hx hox h2 h3 h4;refine⟨v5,vs++[x],((HKF.out w' h1).grown h2 (fun b hb=>(HOB.out b hb).1)).set3 v5,?_,row_kept HO.out h1 h2 (own_apart HO.out HTR.out.ov (by decide)) (by omega),row_kept HLK.out h1 h2 (own_apart HLK.out HTR.out.ov (by decide)) (by omega),?_⟩
     ·have ht:=(HTR.out.later h1).push hx (fun b hb=>hox b (HOB.out b hb).2) (fun b _ hb=>hox b (by have:=HLT.out;omega)) h2 h3 h4;rw[HTK.out];exact ht.grown (grown_set w2 _ _ _) (Nat.zero_le _) (by omega)
     have hb2:Below w.heap.size w w':=HB.out.trans (h1.mono HB.out.size);exact (hb2.grown h2 hb2.size (fun b hb=>by have:=(HOB.out b hb).1;omega)).setCell (p:=⟨w.heap.size+1+1,3,none⟩) (show w.heap.size≤w.heap.size+1+1 by omega) _
    clear hc hB hF hj hy0 hy1 hy2 hs hTR;go_upto_region 12 with fail;clear r0
    go_region_law (first
     | ((refine step_append_blk (E:=slE) _ (by rfl) _ _ 26 58 (by rfl) underlying26 j1 _ 24 HI1.out HI2.out HI3.out HI4.out (by rfl) (w.heap.size+1+1+1) (.slice a7 m7 c7) (by rfl) vs (HKO.out _ HBY.out) w'.heap.size 0 1 (by rfl) (a6,n6,c6) HVA.out HLV1.out HLV2.out ?_ ?_;(focus (have:=HBY.out.size;have:=HLT.out;omega));intro v5 w5 ho5 hg5 hb5;have HG:Hid _:=HFIN.out _ _ _ _ HBY.out HSX.out HOFF.out hg5 ho5 hb5;have z2:=((HKF.out _ HBY.out).grown hg5 (fun b hb=>(HOB.out b hb).1)).o.c.2.2.2;have zf2:=((HKF.out _ HBY.out).grown hg5 (fun b hb=>(HOB.out b hb).1)).o.f 3;obtain⟨a8,m8,c8,rfl⟩:∃b1 m1 d1,v5=Value.slice b1 m1 d1:=(by obtain⟨a,c,h⟩:=own_form ho5;exact⟨a,_,c,h⟩);clear ho5 hg5 hb5))
     | (go_simp;go_at_call 33;refine (concat_any _ 0 1 1 [Ts[j]] _ rfl (by omega) (pat1 58 (HSR.out.later (Below.drew (bRQ _ _)))) HL12.out).mono ?_;rintro e w' ⟨u,rfl,hown,hb⟩;have HBX:Hid (Below wr.heap.size wr w'):=falloc hb;have hNR:NR w' wr.heap.size u Ts[j]:=(NR.of hown (by simp)).mono (by simp);obtain⟨⟨a6,n6,c6⟩,hx,hoff⟩:=hNR.sl;replace hx:u=Value.slice a6 n6 c6:=hx;subst hx;have HOFF:Hid (∀b,b<wr.heap.size→offB (a6,n6,c6) b):=hoff;have HBY:Hid (Below wr.heap.size wr (w'.alloc (.cells #[.slice a6 n6 c6] 58))):=HBX.out.alloc HBX.out.size _;have HSX:Hid (SR (w'.alloc (.cells #[.slice a6 n6 c6] 58)) (slV (a6,n6,c6)) Ts[j]):=hNR.sr.later ((bRQ _ _).alloc (nLQ _) _);have HVA:Hid (VAt (w'.alloc (.cells #[.slice a6 n6 c6] 58)) w'.heap.size 0 (slE.c (a6,n6,c6))):=vat_sl (by simp[slV]);have x2:=(HKF.out w' HBX.out).o.c.2.2.2;have xlt:=(HKF.out w' HBX.out).o.lt;clear hb hown hoff hNR;dsimp only))
    all_goals (clear q3 f3;go_wp2)
    all_goals go_roundw
    all_goals first
     | (simp[intOf];omega)
     | (obtain⟨u3,vs2,hG⟩:=HG.out;exact⟨j+1,u3,vs2,by omega,by go_num,hG⟩)
   obtain rfl:j=n3:=by omega
   have HTE:Hid (TR 58 wr 0 (w.heap.size+1+1+1) (.slice a7 m7 c7) vs Ts):=by
    have h:=HTR.out;rw[←HN3.out,List.take_length] at h;exact h
   obtain⟨q0,q1,q2,q3⟩:=hF.o.c;obtain⟨s0,s1,s2,s3⟩:=hF.r.c;have hlt1:=hF.r.lt;have f0:=hF.r.f 0;have f1:=hF.r.f 1;have f2:=hF.r.f 2;have f3:=hF.r.f 3;clear hF hTR hB;go_wp2;refine bodyPost_ret (v:=.agg #[.int i64 S,.slice b1 m1 d1,.slice a5 m5 c5,.slice a7 m7 c7]) (by simp[results,results20,go_sem, *]) rfl ?_;have hgp:=grown_put4 wr (w.heap.size+1) (.int i64 S) (.slice b1 m1 d1) (.slice a5 m5 c5) (.slice a7 m7 c7);exact⟨_,_,_,_,_,_,_,_,_,vs,rfl,own_mono (HLK.out.kept hgp (.inr fun e=>by have:=(HLK.out.lt _ e).1;omega)) (by omega),own_mono (HO.out.kept hgp (.inr fun e=>by have:=(HO.out.lt _ e).1;omega)) (by omega),(HTE.out.grown hgp (Nat.zero_le _) (by omega)).mono (by omega),below_pn4 HB.out (w.heap.size+1) (by omega) _ _ _ _⟩
structure LB (W:World)(B:Nat)(S:Int)(v1 v2 v3:Value)(O:Nat)(u1 u2 u3:Value)(Ls:LkQ)(Hs:HoQ)(vs:List SlT)(Ts:TsQ):Prop where
 ab:AB W B S v1 v2 v3
 o:NeBox W O S u1 u2 u3
 tr:TR 58 W 0 (B+2) u3 vs Ts
 ls:W.ownsRow (B+2) 134 4 u1 Ls.length (cellsG lnkE Ls)
 hs:W.ownsRow (B+2) 67 3 u2 Hs.length (cellsG hstE Hs)
 ro:u3.ownBlock≠some O
 bo:B+2≤O
theorem LB.later {W W':World}{B:Nat}{S:Int}{v1 v2 v3:Value}{O:Nat}{u1 u2 u3:Value}{Ls:LkQ}{Hs:HoQ}{vs:List SlT}{Ts:TsQ}(h:LB W B S v1 v2 v3 O u1 u2 u3 Ls Hs vs Ts)(hb:Below W.heap.size W W'):LB W' B S v1 v2 v3 O u1 u2 u3 Ls Hs vs Ts:=
 ⟨h.ab.later hb,h.o.later hb,h.tr.later hb,own_below h.ls hb,own_below h.hs hb,h.ro,h.bo⟩
theorem LB.put {W:World}{B:Nat}{S:Int}{v1 v2 v3:Value}{O:Nat}{u1 u2:Value}{g n cap i:Nat}{Ls:LkQ}{Hs:HoQ}{vs:List SlT}{Ts:TsQ}(h:LB W B S v1 v2 v3 O u1 u2 (.slice (some ⟨g,0,none⟩) n cap) Ls Hs vs Ts){x:SlT}{L:List Ru}(hx:SR W (slV x) L)(hox:offB x g)(hoz:∀b,b<B+2→offB x b):
 LB (W.setCell ⟨g,i,none⟩ (slV x)) B S v1 v2 v3 O u1 u2 (.slice (some ⟨g,0,none⟩) n cap) Ls Hs (vs.set i x) (Ts.set i L):=by
 have hg:=(h.tr.ov.lt g rfl).1;have hgs:=grown_set W g i (slV x);refine⟨h.ab.grown hgs (fun b hb=>by cases hb;exact hg),h.o.grown hgs (fun e=>h.ro e.symm),h.tr.put hx hox (fun b _ hb=>hoz b hb),h.ls.kept hgs ?_,h.hs.kept hgs ?_,h.ro,h.bo⟩
 ·exact own_apart h.ls h.tr.ov (by decide)
 exact own_apart h.hs h.tr.ov (by decide)
structure NA (W:World)(B:Nat)(v1 v2 v3:Value)(Ls:LkQ)(Hs:HoQ)(Ts:TsQ):Prop where
 l:W.ownsRow B 134 4 v1 Ls.length (cellsG lnkE Ls)
 h:W.ownsRow B 67 3 v2 Hs.length (cellsG hstE Hs)
 t:∃vs,TR 58 W 0 B v3 vs Ts
theorem NA.nil (W:World)(B:Nat):NA W B (.slice none 0 0) (.slice none 0 0) (.slice none 0 0) [] [] []:=⟨World.ownsRow_nil _ _ _ _,World.ownsRow_nil _ _ _ _,[],tr_nil _ _ _ _⟩
theorem NA.gs {W:World}{B:Nat}{v1 v2 v3:Value}{Ls:LkQ}{Hs:HoQ}{Ts:TsQ}(h:NA W B v1 v2 v3 Ls Hs Ts):GS lnkE W v1 Ls∧GS hstE W v2 Hs∧TS W v3 Ts:=by
 obtain⟨vs,ht⟩:=h.t;exact⟨own_GS (E:=lnkE) h.l,own_GS (E:=hstE) h.h,ht.ts⟩
theorem NA.put {W W':World}{B b:Nat}{v1 v2 v3:Value}{Ls:LkQ}{Hs:HoQ}{Ts:TsQ}(h:NA W B v1 v2 v3 Ls Hs Ts)(hg:W.grownBy W' (some b))(hb:b<B):NA W' B v1 v2 v3 Ls Hs Ts:=by
 obtain⟨vs,ht⟩:=h.t;exact⟨h.l.kept hg (.inr fun e=>by have:=(h.l.lt _ e).1;omega),h.h.kept hg (.inr fun e=>by have:=(h.h.lt _ e).1;omega),vs,ht.grown hg (Nat.zero_le _) hb⟩
theorem chApply_own (S:Int)(ao:AdQ)(n cap:Nat)(ao2:AdQ)(n2 cap2:Nat)(ao3:AdQ)(n3 cap3:Nat)(a4:AdQ)(n4 c4:Nat)(Ls:LkQ)(Hs:HoQ)(Ts:TsQ)(l:List Op8)(w:World)
 (hL:GS lnkE w (.slice ao n cap) Ls) (hH:GS hstE w (.slice ao2 n2 cap2) Hs) (hT:TS w (.slice ao3 n3 cap3) Ts) (hl:GS opE w (.slice a4 n4 c4) l):
 Calls prog 5 #[.agg #[.int i64 S,.slice ao n cap,.slice ao2 n2 cap2,.slice ao3 n3 cap3],.slice a4 n4 c4] w fun e w'=>∃b1 k1 d1 b2 k2 d2 b3 k3 d3,e=.returned (.tuple #[.agg #[.int i64 (nvS (cgN S Ls Hs Ts l) S),.slice b1 k1 d1,.slice b2 k2 d2,.slice b3 k3 d3],noV (cgN S Ls Hs Ts l)])∧NA w' w.heap.size (.slice b1 k1 d1) (.slice b2 k2 d2) (.slice b3 k3 d3) (nvL (cgN S Ls Hs Ts l) Ls) (nvL (cgN S Ls Hs Ts l) Hs) (nvL (cgN S Ls Hs Ts l) (caT Ts l))∧Below w.heap.size w w':=by
 have hb0:Below w.heap.size w ((w.alloc (.cells #[.int i64 S,.slice ao n cap,.slice ao2 n2 cap2,.slice ao3 n3 cap3] 28)).alloc (.cells #[.int i64 0,.slice none 0 0,.slice none 0 0,.slice none 0 0] 28)):=((bRQ _ _).alloc (nLQ _) _).alloc (by simp) _;have HAB0:=ab_new w S (.slice ao n cap) (.slice ao2 n2 cap2) (.slice ao3 n3 cap3) 28;have HB0:Hid (Below w.heap.size w ((w.alloc (.cells #[.int i64 S,.slice ao n cap,.slice ao2 n2 cap2,.slice ao3 n3 cap3] 28)).alloc (.cells #[.int i64 0,.slice none 0 0,.slice none 0 0,.slice none 0 0] 28))):=hb0;obtain⟨_,_,_,e,hn,hn2,hn3,ha⟩:=hl.form;cases e;have HN:Hid (l.length=n4):=hn;have HA:Hid (0<n4→∃g o,a4=some ⟨g,o,none⟩∧GAt opE w g o l∧c4≤maxLen):=ha;have HLW:Hid (∀W,Below w.heap.size w W→GS lnkE W (.slice ao n cap) Ls∧GS hstE W (.slice ao2 n2 cap2) Hs∧TS W (.slice ao3 n3 cap3) Ts):=fun W h=>⟨hL.later h,hH.later h,hT.later h⟩
 have n63:n4≤9223372036854775807:=by unfold maxLen at hn2;omega
 obtain⟨X,hX⟩:∃X,X=cgN S Ls Hs Ts l:=⟨_,rfl⟩;have HX:Hid (X=cgN S Ls Hs Ts l):=hX;rw[←hX];clear hL hH hT hl hn hn2 ha hb0 hX;go_enter func5,ntmps5
 go_wp2_with fail
 refine (ncheck_any S ao n cap ao2 n2 cap2 ao3 n3 cap3 Ls Hs Ts _ (HLW.out _ HB0.out).1 (HLW.out _ HB0.out).2.1 (HLW.out _ HB0.out).2.2).mono ?_;rintro e w1 ⟨rfl,hb1⟩;obtain⟨C,hC⟩:∃C,C=ntN S Ls Hs Ts:=⟨_,rfl⟩;have HC:Hid (C=ntN S Ls Hs Ts):=hC;rw[←hC];have HB1:Hid (Below w.heap.size w w1):=HB0.out.trans (hb1.mono HB0.out.size);have HAB1:Hid (AB w1 w.heap.size S (.slice ao n cap) (.slice ao2 n2 cap2) (.slice ao3 n3 cap3)):=HAB0.later hb1;clear hC hb1 HAB0 HB0;obtain⟨q0,q1,q2,q3⟩:=HAB1.out.r;obtain⟨p0,p1,p2,p3⟩:=HAB1.out.n;have hlt1:=HAB1.out.lt;have hlt0:w.heap.size<w1.heap.size:=by omega
 have f0:=HAB1.out.f 0;have f1:=HAB1.out.f 1;have f2:=HAB1.out.f 2;have f3:=HAB1.out.f 3;by_cases hC0:C=0
 ·subst hC0;rw[no_ok rfl];by_cases h200:200<n4
  ·have HX4:Hid (X=4):=by
    show _=_;rw[HX.out,cgN,if_pos HC.out.symm,if_pos (by rw[HN.out];exact h200)]
   have e4:decide ((200:Int)<(n4:Int))=true:=by simp;omega
   go_wp2;refine bodyPost_ret (v:=.tuple #[.agg #[.int i64 0,.slice none 0 0,.slice none 0 0,.slice none 0 0],.iface 81 (.int i64 4)]) (by simp[results,results5,go_sem, *]) rfl ?_;rw[HX4.out];exact⟨_,_,_,_,_,_,_,_,_,by rw[nvS,if_neg (by decide)];rfl,by rw[nvL,nvL,nvL,if_neg (by decide),if_neg (by decide),if_neg (by decide)];exact NA.nil _ _,below_pn4 HB1.out (w.heap.size+1) (by omega) _ _ _ _⟩
  have HXC:Hid (X=caN S Ts l):=by
   show _=_;rw[HX.out,cgN,if_pos HC.out.symm,if_neg (by rw[HN.out];exact h200)]
  have e4:decide ((200:Int)<(n4:Int))=false:=by simp;omega
  have HOK:Hid (tsOk Ts):=ok_ts (nt_0 HC.out.symm).2.2;have HSL:Hid ((Ts.length:Int)=S):=(nt_0 HC.out.symm).2.1;have hS6:1≤S∧S≤6:=(tp_0 (nt_0 HC.out.symm).1).1;clear h200
  go_wp2_with fail
  refine (fresh_any S ao n cap ao2 n2 cap2 ao3 n3 cap3 Ls Hs Ts w1 (HLW.out _ HB1.out).1 (HLW.out _ HB1.out).2.1 (HLW.out _ HB1.out).2.2 HC.out.symm).mono ?_;rintro e w2 ⟨b1,k1,d1,b2,k2,d2,b3,k3,d3,vs,rfl,ho1,ho2,hTR,hb2⟩;obtain⟨g,rfl,hk3⟩:∃g,b3=some ⟨g,0,none⟩∧k3=Ts.length:=by
   have hlv:=hTR.lv;have hts:=HSL.out
   rcases hTR.ov.2 with ⟨h,h0⟩ | ⟨g,cap',_,h,_⟩
   ·omega
   simp only[Value.slice.injEq] at h;exact⟨g,h.1,by omega⟩
  have HK3:Hid (k3=Ts.length):=hk3;have HKS:Hid ((k3:Int)=S):=by
   show _=_;rw[hk3];exact HSL.out
  have HO:Hid (w2.heap.size=w2.heap.size):=rfl;have hgl:=hTR.ov.lt g rfl;have HLB:Hid (LB (w2.alloc (.cells #[.int i64 S,.slice b1 k1 d1,.slice b2 k2 d2,.slice (some ⟨g,0,none⟩) k3 d3] 28)) w.heap.size S (.slice ao n cap) (.slice ao2 n2 cap2) (.slice ao3 n3 cap3) w2.heap.size (.slice b1 k1 d1) (.slice b2 k2 d2) (.slice (some ⟨g,0,none⟩) k3 d3) Ls Hs vs Ts):=by
   have hba:Below w2.heap.size w2 (w2.alloc (.cells #[.int i64 S,.slice b1 k1 d1,.slice b2 k2 d2,.slice (some ⟨g,0,none⟩) k3 d3] 28)):=(bRQ _ _).alloc (nLQ _) _;exact⟨(HAB1.out.later hb2).later hba,nebox_new w2 S _ _ _ 28,(hTR.mono hlt1).later hba,own_below (own_mono ho1 hlt1) hba,own_below (own_mono ho2 hlt1) hba,fun e=>by have e2:some g=some w2.heap.size:=e;simp at e2;omega,Nat.le_trans hlt1 hb2.size⟩
  have HBL:Hid (Below w.heap.size w (w2.alloc (.cells #[.int i64 S,.slice b1 k1 d1,.slice b2 k2 d2,.slice (some ⟨g,0,none⟩) k3 d3] 28))):=(HB1.out.trans (hb2.mono HB1.out.size)).alloc (Nat.le_trans HB1.out.size hb2.size) _;have hlt2:w.heap.size+1<w2.heap.size:=Nat.lt_of_lt_of_le hlt1 hb2.size;clear ho1 ho2 hTR hb2 hgl HB1 HAB1 q0 q1 q2 q3 p0 p1 p2 p3 f0 f1 f2 f3 hk3 hlt0 hlt1
  generalize hO:w2.heap.size=O at *
  go_wp2
  go_loopw [27] (fun i wr=>∃(k:Nat) (vs:List SlT),k≤n4∧i=.int i64 k∧caN S Ts (l.take k)=0∧LB wr w.heap.size S (.slice ao n cap) (.slice ao2 n2 cap2) (.slice ao3 n3 cap3) O (.slice b1 k1 d1) (.slice b2 k2 d2) (.slice (some ⟨g,0,none⟩) k3 d3) Ls Hs vs (caT Ts (l.take k))∧Below w.heap.size w wr) (fun i _=>n4-(intOf i).toNat)
  case atStart=>exact⟨0,vs,by omega,rfl,rfl,HLB.out,HBL.out⟩
  case round =>
   obtain⟨k,vs,hk,rfl,hca,hLB,hB⟩:=hrel;clear HLB HBL;have HB:Hid (Below w.heap.size w wr):=hB;have HCA:Hid (caN S Ts (l.take k)=0):=hca;obtain⟨Tk,hTk⟩:∃T,T=caT Ts (l.take k):=⟨_,rfl⟩;have HTK:Hid (Tk=caT Ts (l.take k)):=hTk;rw[←hTk] at hLB;have HLB:Hid (LB wr w.heap.size S (.slice ao n cap) (.slice ao2 n2 cap2) (.slice ao3 n3 cap3) O (.slice b1 k1 d1) (.slice b2 k2 d2) (.slice (some ⟨g,0,none⟩) k3 d3) Ls Hs vs Tk):=hLB;have HTkL:Hid (Tk.length=k3):=by
    show _=_;rw[hTk,ca_len,HK3.out]
   have HOKk:Hid (tsOk Tk):=by
    rw[hTk];exact ca_right HOK.out hca
   have hlt1:=hLB.ab.lt;have hlt0:w.heap.size<wr.heap.size:=by omega
   have hltO:O<wr.heap.size:=bLQ _ _ hLB.o.1;have hneO:O≠w.heap.size+1:=by have:=hLB.bo;omega
   obtain⟨o0,o1,o2,o3⟩:=hLB.o;obtain⟨q0,q1,q2,q3⟩:=hLB.ab.r;have f0:=hLB.ab.f 0;have f1:=hLB.ab.f 1;have f2:=hLB.ab.f 2;have f3:=hLB.ab.f 3;clear hca hTk hLB;by_cases hlt:k<n4
   ·obtain⟨gl,ol,hao,hc,_⟩:=HA.out (by omega);subst hao;obtain⟨y0,ya,p,m,b,q,s,v,hkl,hLk,r0,r1,r2,r3,r4,r5,r6,r7⟩:=op_at (hc.later hB) HN.out hlt;have HLK:Hid (l[k]=⟨y0,ya,⟨p,m,b,q,s,v⟩⟩):=hLk;have HCAT:Hid (caN S Ts l=caN S Tk (⟨y0,ya,⟨p,m,b,q,s,v⟩⟩ :: l.drop (k+1))):=by
     show _=_;rw[HTK.out,←hLk,ca_split hkl HCA.out]
    have kb0:(0:Int)≤(k:Int):=by omega
    have kb1:(k:Int)<(n4:Int):=by omega
    have HOB:=op_new wr y0 ya p m b q s v 49;have HBA:Hid (Below wr.heap.size wr (wr.alloc (.cells #[.int i64 y0,.bool ya,.int i64 p,.int i64 m,.int i64 b,.int i64 q,.int i64 s,.int i64 v] 49))):=(bRQ _ _).alloc (nLQ _) _;clear hLk hB hc
    go_wp2_with fail
    refine (isSwitch_any S y0 _).mono ?_;rintro e wx ⟨rfl,hbx⟩;have HBr:Hid (Below wr.heap.size wr wx):=HBA.out.trans (hbx.mono HBA.out.size);have HBX:Hid (Below w.heap.size w wx):=HB.out.trans (HBr.out.mono HB.out.size);have HLX:Hid (LB wx w.heap.size S (.slice ao n cap) (.slice ao2 n2 cap2) (.slice ao3 n3 cap3) O (.slice b1 k1 d1) (.slice b2 k2 d2) (.slice (some ⟨g,0,none⟩) k3 d3) Ls Hs vs Tk):=HLB.out.later HBr.out;have HOX:Hid (VAt wx wr.heap.size 0 (opE.c ⟨y0,ya,⟨p,m,b,q,s,v⟩⟩)):=HOB.later hbx;have hltw:wr.heap.size<wx.heap.size:=bLQ _ _ (op_cells HOX.out).1;clear hbx HBA HOB q0 q1 q2 q3 f0 f1 f2 f3 o0 o1 o2 o3 r0 r1 r2 r3 r4 r5 r6 r7 HLB HB hlt0 hlt1 hltO;have hlt1:=HLX.out.ab.lt;have hlt0:w.heap.size<wx.heap.size:=by omega
    have hltO:O<wx.heap.size:=bLQ _ _ HLX.out.o.1;obtain⟨o0,o1,o2,o3⟩:=HLX.out.o;obtain⟨q0,q1,q2,q3⟩:=HLX.out.ab.r;have f0:=HLX.out.ab.f 0;have f1:=HLX.out.ab.f 1;have f2:=HLX.out.ab.f 2;have f3:=HLX.out.ab.f 3;cases hsw:swB S y0
    ·have HX1:Hid (X=1):=by
      show _=_;rw[HXC.out,HCAT.out,caN,hsw];rfl
     go_wp2;refine bodyPost_ret (v:=.tuple #[.agg #[.int i64 0,.slice none 0 0,.slice none 0 0,.slice none 0 0],.iface 81 (.int i64 1)]) (by simp[results,results5,go_sem, *]) rfl ?_;rw[HX1.out];exact⟨_,_,_,_,_,_,_,_,_,by rw[nvS,if_neg (by decide)];rfl,by rw[nvL,nvL,nvL,if_neg (by decide),if_neg (by decide),if_neg (by decide)];exact NA.nil _ _,below_pn4 HBX.out (w.heap.size+1) (by omega) _ _ _ _⟩
    have hw:=sw_of.1 hsw;obtain⟨i,hi⟩:∃i:Nat,y0=(i:Int)+1:=⟨(y0-1).toNat,by omega⟩;have HI:Hid (y0=(i:Int)+1):=hi;have hiN:i<k3:=by have:=HKS.out;omega
    have iw:IntKind.i64.wrap (y0-1)=(i:Int):=by rw[IntKind.wrap_i64];omega
    have iw2:wrap64 (y0-1)=(i:Int):=by unfold wrap64;omega
    have ib0:(0:Int)≤(i:Int):=by omega
    have ib1:(i:Int)<(k3:Int):=by omega
    have HTA:Hid (taT Tk y0=Tk.getD i []):=by
     show _=_;rw[taT]
     congr 1
     omega
    have HXI:Hid (X=if doN (taT Tk y0) ya ⟨p,m,b,q,s,v⟩=0 then caN S (Tk.set i (doL (taT Tk y0) ya ⟨p,m,b,q,s,v⟩)) (l.drop (k+1)) else doN (taT Tk y0) ya ⟨p,m,b,q,s,v⟩):=by
     show _=_;have e7:(y0-1).toNat=i:=by have:=HI.out;omega
     rw[HXC.out,HCAT.out,caN,hsw,if_pos rfl,e7]
    obtain⟨x,hx1,hx2,hx3,hx0,hx4,hx5⟩:=HLX.out.tr.at (i:=i) (by rw[HTkL.out];exact hiN);clear hx0;obtain⟨a5,n5,c5⟩:=x;have HSR:Hid (SR wx (.slice a5 n5 c5) (taT Tk y0)):=by
     rw[HTA.out];exact hx2
    have hx1':wx.cell? ⟨g,i,none⟩=some (.slice a5 n5 c5):=hx1;have HDO:Hid (∀W,Below wx.heap.size wx W→Calls prog 22 #[.slice a5 n5 c5,.bool ya,.agg #[.int i64 p,.int i64 m,.int i64 b,.int i64 q,.int i64 s,.int i64 v]] W fun e w'=>∃u,e=.returned (.tuple #[u,noV (doN (taT Tk y0) ya ⟨p,m,b,q,s,v⟩)])∧NR w' wx.heap.size u (doL (taT Tk y0) ya ⟨p,m,b,q,s,v⟩)∧Below wx.heap.size wx w'):=fun W hW=>by
     refine (do_own a5 n5 c5 ya p m b q s v _ W (HSR.out.later hW)).mono ?_;rintro e w' ⟨u,h1,h2,h3⟩;exact⟨u,h1,h2.mono hW.size,hW.trans (h3.mono hW.size)⟩
    have HMK:Hid (∀W,Below wx.heap.size wx W→Below wx.heap.size wx W∧W.cell? ⟨O,3,none⟩=some (.slice (some ⟨g,0,none⟩) k3 d3)∧W.cell? ⟨g,i,none⟩=some (.slice a5 n5 c5)∧W.cell? ⟨wr.heap.size,0,none⟩=some (.int i64 y0)∧W.cell? ⟨wr.heap.size,1,none⟩=some (.bool ya)∧W.cell? ⟨wr.heap.size,2,none⟩=some (.int i64 p)∧W.cell? ⟨wr.heap.size,3,none⟩=some (.int i64 m)∧W.cell? ⟨wr.heap.size,4,none⟩=some (.int i64 b)∧W.cell? ⟨wr.heap.size,5,none⟩=some (.int i64 q)∧W.cell? ⟨wr.heap.size,6,none⟩=some (.int i64 s)∧W.cell? ⟨wr.heap.size,7,none⟩=some (.int i64 v)):=by
     intro W hW;obtain⟨c0,c1,c2,c3,c4,c5,c6,c7⟩:=op_cells (HOX.out.later hW);simp only[Nat.zero_add] at c0 c1 c2 c3 c4 c5 c6 c7;exact⟨hW,cell_later hW HLX.out.o.2.2.2,cell_later hW hx1',c0,c1,c2,c3,c4,c5,c6,c7⟩
    go_upto_region 12 with fail;clear q0 q1 q2 q3 f0 f1 f2 f3 o0 o1 o2 o3 hx1 hx2 hx3 hx4 hlt0 hlt1 hltO hsw hi hw
    go_cut [10,11,27] from 27 to 66 (fun t e ix w'=>ix=.int i64 (k:Int)∧e=noV (doN (taT Tk y0) ya ⟨p,m,b,q,s,v⟩)∧NR w' wx.heap.size t (doL (taT Tk y0) ya ⟨p,m,b,q,s,v⟩)∧Below wx.heap.size wx w')
    case first =>
     go_region_held3 (fun W=>Below wx.heap.size wx W∧W.cell? ⟨O,3,none⟩=some (.slice (some ⟨g,0,none⟩) k3 d3)∧W.cell? ⟨g,i,none⟩=some (.slice a5 n5 c5)∧W.cell? ⟨wr.heap.size,0,none⟩=some (.int i64 y0)∧W.cell? ⟨wr.heap.size,1,none⟩=some (.bool ya)∧W.cell? ⟨wr.heap.size,2,none⟩=some (.int i64 p)∧W.cell? ⟨wr.heap.size,3,none⟩=some (.int i64 m)∧W.cell? ⟨wr.heap.size,4,none⟩=some (.int i64 b)∧W.cell? ⟨wr.heap.size,5,none⟩=some (.int i64 q)∧W.cell? ⟨wr.heap.size,6,none⟩=some (.int i64 s)∧W.cell? ⟨wr.heap.size,7,none⟩=some (.int i64 v))
      (first | assumption | exact HMK.out _ (Below.drew (bRQ _ _)) | exact HMK.out _ HBD.out)
      (first | (go_at_call 22;refine (HDO.out _ (by first | exact Below.drew (bRQ _ _) | exact bRQ _ _)).mono ?_;rintro e w' ⟨u,rfl,hG,hb⟩;have HBD:Hid (Below wx.heap.size wx w'):=hb;have HGD:Hid (NR w' wx.heap.size u (doL (taT Tk y0) ya ⟨p,m,b,q,s,v⟩)):=hG;clear hb hG))
     all_goals (go_wp2_with fail;go_meet)
     all_goals exact⟨rfl,rfl,HGD.out,HBD.out⟩
    case rest =>
     obtain⟨rfl,rfl,hG,hb3⟩:=hcut;have HB3:Hid (Below w.heap.size w wc):=HBX.out.trans (hb3.mono HBX.out.size);have HL3:Hid (LB wc w.heap.size S (.slice ao n cap) (.slice ao2 n2 cap2) (.slice ao3 n3 cap3) O (.slice b1 k1 d1) (.slice b2 k2 d2) (.slice (some ⟨g,0,none⟩) k3 d3) Ls Hs vs Tk):=HLX.out.later hb3;obtain⟨_,_,_,d0,d1_,d2_,d3_,d4,d5,d6,d7⟩:=HMK.out wc hb3;have hltw3:wr.heap.size<wc.heap.size:=bLQ _ _ d0;obtain⟨⟨a6,n6,c6⟩,hx,hoff⟩:=hG.sl
     replace hx:_=Value.slice a6 n6 c6:=hx
     subst hx;have HG3:Hid (SR wc (slV (a6,n6,c6)) (doL (taT Tk y0) ya ⟨p,m,b,q,s,v⟩)):=hG.sr;have HOFF:Hid (∀b,b<wx.heap.size→offB (a6,n6,c6) b):=hoff;obtain⟨D,hD⟩:∃c,c=doN (taT Tk y0) ya ⟨p,m,b,q,s,v⟩:=⟨_,rfl⟩;have HD:Hid (D=doN (taT Tk y0) ya ⟨p,m,b,q,s,v⟩):=hD;rw[←hD];have HWX:Hid (w.heap.size+2≤wx.heap.size):=HLX.out.ab.lt;clear hb3 hG hD hoff HMK HDO HLX HBX;have hlt1:=HL3.out.ab.lt;have hlt0:w.heap.size<wc.heap.size:=by omega
     have hltO:O<wc.heap.size:=bLQ _ _ HL3.out.o.1;obtain⟨o0,o1,o2,o3⟩:=HL3.out.o;obtain⟨q0,q1,q2,q3⟩:=HL3.out.ab.r;have f0:=HL3.out.ab.f 0;have f1:=HL3.out.ab.f 1;have f2:=HL3.out.ab.f 2;have f3:=HL3.out.ab.f 3;by_cases h0:D=0
     ·subst h0;rw[no_ok rfl];obtain⟨yx,hy1,hy2,hy3,hy0,hy4,hy5⟩:=HL3.out.tr.at (i:=i) (by rw[HTkL.out];exact hiN);clear hy0 hy2;have HL4:Hid (LB (wc.setCell ⟨g,i,none⟩ (.slice a6 n6 c6)) w.heap.size S (.slice ao n cap) (.slice ao2 n2 cap2) (.slice ao3 n3 cap3) O (.slice b1 k1 d1) (.slice b2 k2 d2) (.slice (some ⟨g,0,none⟩) k3 d3) Ls Hs (vs.set i (a6,n6,c6)) (caT Ts (l.take (k+1)))):=by
       have:=HL3.out.put (i:=i) (x:=(a6,n6,c6)) HG3.out (HOFF.out g hx5) (fun b h2=>HOFF.out b (by have:=HWX.out;omega));rw[(cs_take hkl HCA.out).2,←HTK.out,HLK.out,caT,caT];have e7:(y0-1).toNat=i:=by have:=HI.out;omega
       rw[e7];exact this
      have HCA4:Hid (caN S Ts (l.take (k+1))=0):=by
       show _=_;rw[(cs_take hkl HCA.out).1,←HTK.out,HLK.out,caN];show (if swB S y0=true then (if doN (taT Tk y0) ya ⟨p,m,b,q,s,v⟩=0 then _ else _) else _)=_;rw[if_pos (sw_of.2 ⟨by have:=HI.out;omega,by have:=HI.out;have:=HKS.out;omega⟩),←HD.out,if_pos rfl,caN]
      have HB4:Hid (Below w.heap.size w (wc.setCell ⟨g,i,none⟩ (.slice a6 n6 c6))):=HB3.out.setCell (p:=⟨g,i,none⟩) (show w.heap.size≤g by omega) _;go_wp2;go_roundw
      case rel=>exact⟨k+1,vs.set i (a6,n6,c6),by omega,by go_num,HCA4.out,HL4.out,HB4.out⟩
      case measure=>simp[intOf];omega
     have HNZ:Hid (D≠0):=h0;have HXD:Hid (X=D):=by
      show _=_;rw[HXI.out,←HD.out,if_neg h0]
     rw[no_ne h0];clear h0;go_wp2;refine bodyPost_ret (v:=.tuple #[.agg #[.int i64 0,.slice none 0 0,.slice none 0 0,.slice none 0 0],.iface 81 (.int i64 D)]) (by simp[results,results5,go_sem, *]) rfl ?_;rw[HXD.out];exact⟨_,_,_,_,_,_,_,_,_,by rw[nvS,if_neg (HNZ.out),no_ne HNZ.out],by rw[nvL,nvL,nvL,if_neg (HNZ.out),if_neg (HNZ.out),if_neg (HNZ.out)];exact NA.nil _ _,below_pn4 HB3.out (w.heap.size+1) (by omega) _ _ _ _⟩
   obtain rfl:k=n4:=by omega
   have HX0:Hid (X=0):=by
    show _=_;have:=HCA.out;rw[←HN.out,List.take_length] at this;rw[HXC.out,this]
   have HTE:Hid (Tk=caT Ts l):=by
    show _=_;rw[HTK.out,←HN.out,List.take_length]
   clear hB;go_wp2;refine bodyPost_ret (v:=.tuple #[.agg #[.int i64 S,.slice b1 k1 d1,.slice b2 k2 d2,.slice (some ⟨g,0,none⟩) k3 d3],.nilIface]) (by simp[results,results5,go_sem, *]) rfl ?_;rw[HX0.out];have hgp:=grown_put4 wr (w.heap.size+1) (.int i64 S) (.slice b1 k1 d1) (.slice b2 k2 d2) (.slice (some ⟨g,0,none⟩) k3 d3);have hBE:=below_pn4 HB.out (w.heap.size+1) (by omega) (.int i64 S) (.slice b1 k1 d1) (.slice b2 k2 d2) (.slice (some ⟨g,0,none⟩) k3 d3);have hTE:=(HLB.out.tr.grown hgp (Nat.zero_le _) (by omega)).mono (B':=w.heap.size) (by omega);rw[HTE.out] at hTE;exact⟨_,_,_,_,_,_,_,_,_,rfl,⟨own_mono (HLB.out.ls.kept hgp (.inr fun e=>by have:=(HLB.out.ls.lt _ e).1;omega)) (by omega),own_mono (HLB.out.hs.kept hgp (.inr fun e=>by have:=(HLB.out.hs.lt _ e).1;omega)) (by omega),vs,hTE⟩,hBE⟩
 have HNZ:Hid (C≠0):=hC0;have HXC:Hid (X=C):=by
  show _=_;rw[HX.out,cgN,←HC.out,if_neg hC0]
 rw[no_ne hC0];clear hC0;go_wp2;refine bodyPost_ret (v:=.tuple #[.agg #[.int i64 0,.slice none 0 0,.slice none 0 0,.slice none 0 0],.iface 81 (.int i64 C)]) (by simp[results,results5,go_sem, *]) rfl ?_;rw[HXC.out];exact⟨_,_,_,_,_,_,_,_,_,by rw[nvS,if_neg (HNZ.out),no_ne HNZ.out],by rw[nvL,nvL,nvL,if_neg (HNZ.out),if_neg (HNZ.out),if_neg (HNZ.out)];exact NA.nil _ _,below_pn4 HB1.out (w.heap.size+1) (by omega) _ _ _ _⟩
theorem chApply_any (S:Int)(ao:AdQ)(n cap:Nat)(ao2:AdQ)(n2 cap2:Nat)(ao3:AdQ)(n3 cap3:Nat)(a4:AdQ)(n4 c4:Nat)(Ls:LkQ)(Hs:HoQ)(Ts:TsQ)(l:List Op8)(w:World)
 (hL:GS lnkE w (.slice ao n cap) Ls) (hH:GS hstE w (.slice ao2 n2 cap2) Hs) (hT:TS w (.slice ao3 n3 cap3) Ts) (hl:GS opE w (.slice a4 n4 c4) l):
 Calls prog 5 #[.agg #[.int i64 S,.slice ao n cap,.slice ao2 n2 cap2,.slice ao3 n3 cap3],.slice a4 n4 c4] w fun e w'=>∃b1 k1 d1 b2 k2 d2 b3 k3 d3,e=.returned (.tuple #[.agg #[.int i64 (nvS (cgN S Ls Hs Ts l) S),.slice b1 k1 d1,.slice b2 k2 d2,.slice b3 k3 d3],noV (cgN S Ls Hs Ts l)])∧GS lnkE w' (.slice b1 k1 d1) (nvL (cgN S Ls Hs Ts l) Ls)∧GS hstE w' (.slice b2 k2 d2) (nvL (cgN S Ls Hs Ts l) Hs)∧TS w' (.slice b3 k3 d3) (nvL (cgN S Ls Hs Ts l) (caT Ts l))∧Below w.heap.size w w':=
 (chApply_own S ao n cap ao2 n2 cap2 ao3 n3 cap3 a4 n4 c4 Ls Hs Ts l w hL hH hT hl).mono fun e w' ⟨b1,k1,d1,b2,k2,d2,b3,k3,d3,e1,e2,e3⟩=>⟨b1,k1,d1,b2,k2,d2,b3,k3,d3,e1,e2.gs.1,e2.gs.2.1,e2.gs.2.2,e3⟩
def MgC (W:World)(g:Nat)(x0 x1 x2 x3 x4:Int)(x5:Bool)(x6 x7 x8 x9 x10 x11:Int):Prop:=
 W.cell? ⟨g,0,none⟩=some (.int i64 x0)∧W.cell? ⟨g,1,none⟩=some (.int i64 x1)∧W.cell? ⟨g,2,none⟩=some (.int i64 x2)∧W.cell? ⟨g,3,none⟩=some (.int i64 x3)∧W.cell? ⟨g,4,none⟩=some (.int i64 x4)∧W.cell? ⟨g,5,none⟩=some (.bool x5)∧W.cell? ⟨g,6,none⟩=some (.int i64 x6)∧W.cell? ⟨g,7,none⟩=some (.int i64 x7)∧W.cell? ⟨g,8,none⟩=some (.int i64 x8)∧W.cell? ⟨g,9,none⟩=some (.int i64 x9)∧W.cell? ⟨g,10,none⟩=some (.int i64 x10)∧W.cell? ⟨g,11,none⟩=some (.int i64 x11)
theorem MgC.later {W W':World}{g:Nat}{x0 x1 x2 x3 x4:Int}{x5:Bool}{x6 x7 x8 x9 x10 x11:Int}(h:MgC W g x0 x1 x2 x3 x4 x5 x6 x7 x8 x9 x10 x11)(hb:Below W.heap.size W W'):MgC W' g x0 x1 x2 x3 x4 x5 x6 x7 x8 x9 x10 x11:=by
 obtain⟨c0,c1,c2,c3,c4,c5,c6,c7,c8,c9,c10,c11⟩:=h;exact⟨cell_later hb c0,cell_later hb c1,cell_later hb c2,cell_later hb c3,cell_later hb c4,cell_later hb c5,cell_later hb c6,cell_later hb c7,cell_later hb c8,cell_later hb c9,cell_later hb c10,cell_later hb c11⟩
theorem MgC.lt {W:World}{g:Nat}{x0 x1 x2 x3 x4:Int}{x5:Bool}{x6 x7 x8 x9 x10 x11:Int}(h:MgC W g x0 x1 x2 x3 x4 x5 x6 x7 x8 x9 x10 x11):g<W.heap.size:=bLQ _ _ h.1
theorem mgc_new (w:World)(x0 x1 x2 x3 x4:Int)(x5:Bool)(x6 x7 x8 x9 x10 x11:Int)(T:TypeId):MgC (w.alloc (.cells #[.int i64 x0,.int i64 x1,.int i64 x2,.int i64 x3,.int i64 x4,.bool x5,.int i64 x6,.int i64 x7,.int i64 x8,.int i64 x9,.int i64 x10,.int i64 x11] T)) w.heap.size x0 x1 x2 x3 x4 x5 x6 x7 x8 x9 x10 x11:=by
 refine⟨?_,?_,?_,?_,?_,?_,?_,?_,?_,?_,?_,?_⟩ <;> simp
def mgV (m:Mg):Value:=.agg #[.int i64 m.k,.int i64 m.s,.int i64 m.r,.int i64 m.i,.int i64 m.o.w,.bool m.o.a,.int i64 m.o.r.p,.int i64 m.o.r.m,.int i64 m.o.r.b,.int i64 m.o.r.o,.int i64 m.o.r.s,.int i64 m.o.r.v]
theorem size_any (c:Nat)(w:World):Calls prog 29 #[.int .u8 (c:Int)] w fun e w'=>e=.returned (.int i64 (lnM c:Int))∧w'=w:=by
 by_cases h1:c=1
 ·subst h1;go_enter func29,ntmps29;go_wp2;go_ret;exact⟨rfl,rfl⟩
 have f1:((c:Int)==1)=false:=by simp;omega
 by_cases h2:c=2
 ·subst h2;go_enter func29,ntmps29;go_wp2;go_ret;exact⟨rfl,rfl⟩
 have f2:((c:Int)==2)=false:=by simp;omega
 by_cases h3:c=3
 ·subst h3;go_enter func29,ntmps29;go_wp2;go_ret;exact⟨rfl,rfl⟩
 have f3:((c:Int)==3)=false:=by simp;omega
 have e:lnM c=0:=by simp[lnM,h1,h2,h3]
 rw[e];clear e;go_enter func29,ntmps29;go_wp2;go_ret;exact⟨rfl,rfl⟩
theorem checkOp_any (x4:Int)(x5:Bool)(x6 x7 x8 x9 x10 x11 t:Int)(w:World):
 Calls prog 62 #[.agg #[.int i64 x4,.bool x5,.int i64 x6,.int i64 x7,.int i64 x8,.int i64 x9,.int i64 x10,.int i64 x11],.int i64 t] w fun e w'=>e=.returned (noV (moN ⟨x4,x5,⟨x6,x7,x8,x9,x10,x11⟩⟩ t))∧Below w.heap.size w w':=by
 have HB0:Hid (Below w.heap.size w (w.alloc (.cells #[.int i64 x4,.bool x5,.int i64 x6,.int i64 x7,.int i64 x8,.int i64 x9,.int i64 x10,.int i64 x11] 49))):=(bRQ _ _).alloc (nLQ _) _;have HC0:Hid ((w.alloc (.cells #[.int i64 x4,.bool x5,.int i64 x6,.int i64 x7,.int i64 x8,.int i64 x9,.int i64 x10,.int i64 x11] 49)).cell? ⟨w.heap.size,0,none⟩=some (.int i64 x4)):=by show _=_;simp
 obtain⟨N,hN⟩:∃N,N=ruN x6 x7 x8 x9 x10 x11:=⟨_,rfl⟩;have e:moN ⟨x4,x5,⟨x6,x7,x8,x9,x10,x11⟩⟩ t=if N=0 then (if x4=t then 0 else 3) else N:=by rw[hN];rfl
 rw[e];have HN:Hid (ruN x6 x7 x8 x9 x10 x11=N):=hN.symm;clear e hN;by_cases h0:N=0
 ·subst h0;by_cases h1:x4=t
  ·subst h1;have ht:(x4==x4)=true:=by simp
   go_enter func62,ntmps62
   go_wp2_with fail
   refine (ruCheck_any x6 x7 x8 x9 x10 x11 _).mono ?_;rintro e w1 ⟨rfl,hb1⟩;have c1:=cell_later hb1 HC0.out;have HB1:Hid (Below w.heap.size w w1):=HB0.out.trans (hb1.mono HB0.out.size);rw[HN.out,no_ok rfl];clear hb1;go_wp2;go_ret;exact⟨by simp[noV],HB1.out⟩
  have ht:(x4==t)=false:=by simpa using h1
  rw[if_pos rfl,if_neg h1];go_enter func62,ntmps62
  go_wp2_with fail
  refine (ruCheck_any x6 x7 x8 x9 x10 x11 _).mono ?_;rintro e w1 ⟨rfl,hb1⟩;have c1:=cell_later hb1 HC0.out;have HB1:Hid (Below w.heap.size w w1):=HB0.out.trans (hb1.mono HB0.out.size);rw[HN.out,no_ok rfl];clear hb1;go_wp2;go_ret;exact⟨rfl,HB1.out⟩
 rw[if_neg h0];go_enter func62,ntmps62
 go_wp2_with fail
 refine (ruCheck_any x6 x7 x8 x9 x10 x11 _).mono ?_;rintro e w1 ⟨rfl,hb1⟩;have HB1:Hid (Below w.heap.size w w1):=HB0.out.trans (hb1.mono HB0.out.size);rw[HN.out,no_ne h0];clear hb1;go_wp2;go_ret;exact⟨by rw[no_ne h0];rfl,HB1.out⟩
theorem mg_no {m:Mg}(h:mgR m=false):mgN m=1:=by unfold mgN;rw[h];rfl
theorem mg_k {m:Mg}(h:¬(1≤m.k∧m.k≤3)):mgR m=false:=by
 cases e:mgR m
 ·rfl
 exact absurd (mg_rng.1 e).1 h
theorem mg_s {m:Mg}(h:¬(1≤m.s∧m.s≤6)):mgR m=false:=by
 cases e:mgR m
 ·rfl
 exact absurd (mg_rng.1 e).2.1 h
theorem mg_r {m:Mg}(h:¬(0≤m.r∧m.r≤19)):mgR m=false:=by
 cases e:mgR m
 ·rfl
 exact absurd (mg_rng.1 e).2.2.1 h
theorem mg_i {m:Mg}(h:¬(0≤m.i∧m.i≤200)):mgR m=false:=by
 cases e:mgR m
 ·rfl
 exact absurd (mg_rng.1 e).2.2.2 h
theorem mg_do {m:Mg}(h:mgR m=true)(h1:m.k=1):mgN m=moN m.o m.s:=by unfold mgN;rw[if_pos h,if_pos h1]
def elN (c:Bool)(k i:Int):Int:=if c && !(decide (k=3) && !(decide (i=0))) then 0 else 3
theorem mg_els {m:Mg}(h:mgR m=true)(h1:m.k≠1):mgN m=elN (oqB m.o zeP) m.k m.i:=by unfold mgN elN;rw[if_pos h,if_neg h1]
theorem k_no {x:Int}(h:¬(1≤x∧x≤3)):(x==1)=false∧(x==2)=false∧(x==3)=false:=by
 refine⟨?_,?_,?_⟩ <;> simp <;> omega
theorem wcheck_kind (x0 x1 x2 x3 x4:Int)(x5:Bool)(x6 x7 x8 x9 x10 x11:Int)(w:World)(hk:¬(1≤x0∧x0≤3)):
 Calls prog 27 #[.agg #[.int i64 x0,.int i64 x1,.int i64 x2,.int i64 x3,.int i64 x4,.bool x5,.int i64 x6,.int i64 x7,.int i64 x8,.int i64 x9,.int i64 x10,.int i64 x11]] w fun e w'=>e=.returned (.iface 81 (.int i64 1))∧Below w.heap.size w w':=by
 have HB0:Hid (Below w.heap.size w (w.alloc (.cells #[.int i64 x0,.int i64 x1,.int i64 x2,.int i64 x3,.int i64 x4,.bool x5,.int i64 x6,.int i64 x7,.int i64 x8,.int i64 x9,.int i64 x10,.int i64 x11] 51))):=(bRQ _ _).alloc (nLQ _) _;obtain⟨k1,k2,k3⟩:=k_no hk;have n1:(x0 != 1)=true:=by simp[bne,k1]
 have n2:(x0 != 2)=true:=by simp[bne,k2]
 have n3:(x0 != 3)=true:=by simp[bne,k3]
 have l1:¬x0=1:=by omega
 have l2:¬x0=2:=by omega
 have l3:¬x0=3:=by omega
 clear hk;go_enter func27,ntmps27;go_wp2;go_ret;exact⟨rfl,HB0.out⟩
theorem wcheck_switch (x0 x1 x2 x3 x4:Int)(x5:Bool)(x6 x7 x8 x9 x10 x11:Int)(w:World)(hk:1≤x0∧x0≤3)(hs:swB 6 x1=false):
 Calls prog 27 #[.agg #[.int i64 x0,.int i64 x1,.int i64 x2,.int i64 x3,.int i64 x4,.bool x5,.int i64 x6,.int i64 x7,.int i64 x8,.int i64 x9,.int i64 x10,.int i64 x11]] w fun e w'=>e=.returned (.iface 81 (.int i64 1))∧Below w.heap.size w w':=by
 have HB0:Hid (Below w.heap.size w (w.alloc (.cells #[.int i64 x0,.int i64 x1,.int i64 x2,.int i64 x3,.int i64 x4,.bool x5,.int i64 x6,.int i64 x7,.int i64 x8,.int i64 x9,.int i64 x10,.int i64 x11] 51))):=(bRQ _ _).alloc (nLQ _) _;have HC0:Hid (MgC (w.alloc (.cells #[.int i64 x0,.int i64 x1,.int i64 x2,.int i64 x3,.int i64 x4,.bool x5,.int i64 x6,.int i64 x7,.int i64 x8,.int i64 x9,.int i64 x10,.int i64 x11] 51)) w.heap.size x0 x1 x2 x3 x4 x5 x6 x7 x8 x9 x10 x11):=mgc_new w x0 x1 x2 x3 x4 x5 x6 x7 x8 x9 x10 x11 _;have HSW:Hid (swB 6 x1=false):=hs;clear hs
 rcases (by omega:x0=1∨x0=2∨x0=3) with rfl | rfl | rfl
 all_goals
  go_enter func27,ntmps27
  go_wp2_with fail
  refine (isSwitch_any 6 x1 _).mono ?_;rintro e w1 ⟨rfl,hb1⟩;have HB1:Hid (Below w.heap.size w w1):=HB0.out.trans (hb1.mono HB0.out.size);have HC1:Hid (MgC w1 w.heap.size _ x1 x2 x3 x4 x5 x6 x7 x8 x9 x10 x11):=HC0.out.later hb1;obtain⟨c0,c1,c2,c3,c4,c5,c6,c7,c8,c9,c10,c11⟩:=HC1.out;rw[HSW.out];clear hb1;go_wp2;go_ret;exact⟨rfl,HB1.out⟩
theorem wcheck_round (x0 x1 x2 x3 x4:Int)(x5:Bool)(x6 x7 x8 x9 x10 x11:Int)(w:World)(hk:1≤x0∧x0≤3)(hs:swB 6 x1=true)(hr:¬(0≤x2∧x2≤19)):
 Calls prog 27 #[.agg #[.int i64 x0,.int i64 x1,.int i64 x2,.int i64 x3,.int i64 x4,.bool x5,.int i64 x6,.int i64 x7,.int i64 x8,.int i64 x9,.int i64 x10,.int i64 x11]] w fun e w'=>e=.returned (.iface 81 (.int i64 1))∧Below w.heap.size w w':=by
 have HB0:Hid (Below w.heap.size w (w.alloc (.cells #[.int i64 x0,.int i64 x1,.int i64 x2,.int i64 x3,.int i64 x4,.bool x5,.int i64 x6,.int i64 x7,.int i64 x8,.int i64 x9,.int i64 x10,.int i64 x11] 51))):=(bRQ _ _).alloc (nLQ _) _;have HC0:Hid (MgC (w.alloc (.cells #[.int i64 x0,.int i64 x1,.int i64 x2,.int i64 x3,.int i64 x4,.bool x5,.int i64 x6,.int i64 x7,.int i64 x8,.int i64 x9,.int i64 x10,.int i64 x11] 51)) w.heap.size x0 x1 x2 x3 x4 x5 x6 x7 x8 x9 x10 x11):=mgc_new w x0 x1 x2 x3 x4 x5 x6 x7 x8 x9 x10 x11 _;have HSW:Hid (swB 6 x1=true):=hs;clear hs
 rcases (by omega:x2<0∨(¬x2<0∧20≤x2)) with h1 | ⟨h1,h2⟩
 all_goals
  clear hr
  rcases (by omega:x0=1∨x0=2∨x0=3) with rfl | rfl | rfl
  all_goals
   go_enter func27,ntmps27
   go_wp2_with fail
   refine (isSwitch_any 6 x1 _).mono ?_;rintro e w1 ⟨rfl,hb1⟩;have HB1:Hid (Below w.heap.size w w1):=HB0.out.trans (hb1.mono HB0.out.size);have HC1:Hid (MgC w1 w.heap.size _ x1 x2 x3 x4 x5 x6 x7 x8 x9 x10 x11):=HC0.out.later hb1;obtain⟨c0,c1,c2,c3,c4,c5,c6,c7,c8,c9,c10,c11⟩:=HC1.out;rw[HSW.out];clear hb1;go_wp2;go_ret;exact⟨rfl,HB1.out⟩
theorem wcheck_index (x0 x1 x2 x3 x4:Int)(x5:Bool)(x6 x7 x8 x9 x10 x11:Int)(w:World)(hk:1≤x0∧x0≤3)(hs:swB 6 x1=true)(hr:0≤x2∧x2≤19)(hi:¬(0≤x3∧x3≤200)):
 Calls prog 27 #[.agg #[.int i64 x0,.int i64 x1,.int i64 x2,.int i64 x3,.int i64 x4,.bool x5,.int i64 x6,.int i64 x7,.int i64 x8,.int i64 x9,.int i64 x10,.int i64 x11]] w fun e w'=>e=.returned (.iface 81 (.int i64 1))∧Below w.heap.size w w':=by
 have HB0:Hid (Below w.heap.size w (w.alloc (.cells #[.int i64 x0,.int i64 x1,.int i64 x2,.int i64 x3,.int i64 x4,.bool x5,.int i64 x6,.int i64 x7,.int i64 x8,.int i64 x9,.int i64 x10,.int i64 x11] 51))):=(bRQ _ _).alloc (nLQ _) _;have HC0:Hid (MgC (w.alloc (.cells #[.int i64 x0,.int i64 x1,.int i64 x2,.int i64 x3,.int i64 x4,.bool x5,.int i64 x6,.int i64 x7,.int i64 x8,.int i64 x9,.int i64 x10,.int i64 x11] 51)) w.heap.size x0 x1 x2 x3 x4 x5 x6 x7 x8 x9 x10 x11):=mgc_new w x0 x1 x2 x3 x4 x5 x6 x7 x8 x9 x10 x11 _;have HSW:Hid (swB 6 x1=true):=hs;clear hs;have hr1:¬x2<0:=by omega
 have hr2:¬20≤x2:=by omega
 rcases (by omega:x3<0∨(¬x3<0∧200<x3)) with h1 | ⟨h1,h2⟩
 all_goals
  clear hi hr
  rcases (by omega:x0=1∨x0=2∨x0=3) with rfl | rfl | rfl
  all_goals
   go_enter func27,ntmps27
   go_wp2_with fail
   refine (isSwitch_any 6 x1 _).mono ?_;rintro e w1 ⟨rfl,hb1⟩;have HB1:Hid (Below w.heap.size w w1):=HB0.out.trans (hb1.mono HB0.out.size);have HC1:Hid (MgC w1 w.heap.size _ x1 x2 x3 x4 x5 x6 x7 x8 x9 x10 x11):=HC0.out.later hb1;obtain⟨c0,c1,c2,c3,c4,c5,c6,c7,c8,c9,c10,c11⟩:=HC1.out;rw[HSW.out];clear hb1;go_wp2;go_ret;exact⟨rfl,HB1.out⟩
theorem wcheck_do (x1 x2 x3 x4:Int)(x5:Bool)(x6 x7 x8 x9 x10 x11:Int)(w:World)(hs:swB 6 x1=true)(hr:0≤x2∧x2≤19)(hi:0≤x3∧x3≤200):
 Calls prog 27 #[.agg #[.int i64 1,.int i64 x1,.int i64 x2,.int i64 x3,.int i64 x4,.bool x5,.int i64 x6,.int i64 x7,.int i64 x8,.int i64 x9,.int i64 x10,.int i64 x11]] w fun e w'=>e=.returned (noV (moN ⟨x4,x5,⟨x6,x7,x8,x9,x10,x11⟩⟩ x1))∧Below w.heap.size w w':=by
 have HB0:Hid (Below w.heap.size w (w.alloc (.cells #[.int i64 1,.int i64 x1,.int i64 x2,.int i64 x3,.int i64 x4,.bool x5,.int i64 x6,.int i64 x7,.int i64 x8,.int i64 x9,.int i64 x10,.int i64 x11] 51))):=(bRQ _ _).alloc (nLQ _) _;have HC0:Hid (MgC (w.alloc (.cells #[.int i64 1,.int i64 x1,.int i64 x2,.int i64 x3,.int i64 x4,.bool x5,.int i64 x6,.int i64 x7,.int i64 x8,.int i64 x9,.int i64 x10,.int i64 x11] 51)) w.heap.size 1 x1 x2 x3 x4 x5 x6 x7 x8 x9 x10 x11):=mgc_new w 1 x1 x2 x3 x4 x5 x6 x7 x8 x9 x10 x11 _;have HSW:Hid (swB 6 x1=true):=hs;have hr1:¬x2<0:=by omega
 have hr2:¬20≤x2:=by omega
 have hi1:¬x3<0:=by omega
 have hi2:¬200<x3:=by omega
 clear hs hr hi;go_enter func27,ntmps27
 go_wp2_with fail
 refine (isSwitch_any 6 x1 _).mono ?_;rintro e w1 ⟨rfl,hb1⟩;have HB1:Hid (Below w.heap.size w w1):=HB0.out.trans (hb1.mono HB0.out.size);have HC1:Hid (MgC w1 w.heap.size 1 x1 x2 x3 x4 x5 x6 x7 x8 x9 x10 x11):=HC0.out.later hb1;obtain⟨c0,c1,c2,c3,c4,c5,c6,c7,c8,c9,c10,c11⟩:=HC1.out;rw[HSW.out];clear hb1
 go_wp2_with fail
 refine (checkOp_any x4 x5 x6 x7 x8 x9 x10 x11 x1 _).mono ?_;rintro e w2 ⟨rfl,hb2⟩;have HB2:Hid (Below w.heap.size w w2):=HB1.out.trans (hb2.mono HB1.out.size);clear hb2;go_wp2;go_ret;exact⟨rfl,HB2.out⟩
theorem wcheck_else (x0 x1 x2 x3 x4:Int)(x5:Bool)(x6 x7 x8 x9 x10 x11:Int)(w:World)(hk:x0=2∨x0=3)(hs:swB 6 x1=true)(hr:0≤x2∧x2≤19)(hi:0≤x3∧x3≤200):
 Calls prog 27 #[.agg #[.int i64 x0,.int i64 x1,.int i64 x2,.int i64 x3,.int i64 x4,.bool x5,.int i64 x6,.int i64 x7,.int i64 x8,.int i64 x9,.int i64 x10,.int i64 x11]] w fun e w'=>e=.returned (noV (elN (oqB ⟨x4,x5,⟨x6,x7,x8,x9,x10,x11⟩⟩ zeP) x0 x3))∧Below w.heap.size w w':=by
 have HB0:Hid (Below w.heap.size w (w.alloc (.cells #[.int i64 x0,.int i64 x1,.int i64 x2,.int i64 x3,.int i64 x4,.bool x5,.int i64 x6,.int i64 x7,.int i64 x8,.int i64 x9,.int i64 x10,.int i64 x11] 51))):=(bRQ _ _).alloc (nLQ _) _;have HC0:Hid (MgC (w.alloc (.cells #[.int i64 x0,.int i64 x1,.int i64 x2,.int i64 x3,.int i64 x4,.bool x5,.int i64 x6,.int i64 x7,.int i64 x8,.int i64 x9,.int i64 x10,.int i64 x11] 51)) w.heap.size x0 x1 x2 x3 x4 x5 x6 x7 x8 x9 x10 x11):=mgc_new w x0 x1 x2 x3 x4 x5 x6 x7 x8 x9 x10 x11 _;have HSW:Hid (swB 6 x1=true):=hs;have hr1:¬x2<0:=by omega
 have hr2:¬20≤x2:=by omega
 have hi1:¬x3<0:=by omega
 have hi2:¬200<x3:=by omega
 clear hs hr hi;obtain⟨c,hc⟩:∃c,c=opB ⟨x4,x5,⟨x6,x7,x8,x9,x10,x11⟩⟩ ⟨0,false,⟨0,0,0,0,0,0⟩⟩:=⟨_,rfl⟩;have HC:Hid (opB ⟨x4,x5,⟨x6,x7,x8,x9,x10,x11⟩⟩ ⟨0,false,⟨0,0,0,0,0,0⟩⟩=c):=hc.symm;rw[show oqB ⟨x4,x5,⟨x6,x7,x8,x9,x10,x11⟩⟩ zeP=c from hc.symm];clear hc
 rcases hk with rfl | rfl
 all_goals
  go_enter func27,ntmps27
  go_wp2_with fail
  refine (isSwitch_any 6 x1 _).mono ?_;rintro e w1 ⟨rfl,hb1⟩;have HB1:Hid (Below w.heap.size w w1):=HB0.out.trans (hb1.mono HB0.out.size);have HC1:Hid (MgC w1 w.heap.size _ x1 x2 x3 x4 x5 x6 x7 x8 x9 x10 x11):=HC0.out.later hb1;obtain⟨c0,c1,c2,c3,c4,c5,c6,c7,c8,c9,c10,c11⟩:=HC1.out;rw[HSW.out];clear hb1;go_upto_region 8 with fail
  go_cut [47] from 48 (fun v w'=>v=.bool (!c)∧w'=w1)
  case first =>
   rcases op_ways x4 x5 x6 x7 x8 x9 x10 x11 0 false 0 0 0 0 0 0 with ⟨e0,e⟩ | ⟨e0,e1,e⟩ | ⟨e0,e1,e2,e⟩ | ⟨e0,e1,e2,e3,e⟩ | ⟨e0,e1,e2,e3,e4,e⟩ | ⟨e0,e1,e2,e3,e4,e5,e⟩ | ⟨e0,e1,e2,e3,e4,e5,e6,e⟩ | ⟨e0,e1,e2,e3,e4,e5,e6,e7,e⟩ | ⟨e0,e1,e2,e3,e4,e5,e6,e7,e⟩
   all_goals
    rw[HC.out] at e;have HE:Hid (c=_):=e;clear e
    go_wp2_with fail
    go_meet
    exact⟨by rw[HE.out];rfl,rfl⟩
  case rest =>
   obtain⟨rfl,hwc⟩:=hcut;have hwc2:=hwc.symm;clear hwc;subst hwc2;cases c with
   | false =>
     go_wp2;go_ret;exact⟨by simp[elN,noV],HB1.out⟩
   | true =>
     by_cases h0:x3=0
     ·subst h0;go_wp2;go_ret;exact⟨by simp[elN,noV],HB1.out⟩
     have h0':(x3==0)=false:=by simpa using h0
     have h0n:(x3 != 0)=true:=by simpa using h0
     go_wp2;go_ret;exact⟨by simp[elN,noV,h0],HB1.out⟩
theorem mcheck_any (x0 x1 x2 x3 x4:Int)(x5:Bool)(x6 x7 x8 x9 x10 x11:Int)(w:World):
 Calls prog 27 #[.agg #[.int i64 x0,.int i64 x1,.int i64 x2,.int i64 x3,.int i64 x4,.bool x5,.int i64 x6,.int i64 x7,.int i64 x8,.int i64 x9,.int i64 x10,.int i64 x11]] w fun e w'=>e=.returned (noV (mgN ⟨x0,x1,x2,x3,⟨x4,x5,⟨x6,x7,x8,x9,x10,x11⟩⟩⟩))∧Below w.heap.size w w':=by
 by_cases hk:1≤x0∧x0≤3
 ·cases hs:swB 6 x1
  ·rw[mg_no (mg_s (fun h=>by have:=sw_of.2 h;rw[hs] at this;cases this)),no_ne (by decide)];exact wcheck_switch x0 x1 x2 x3 x4 x5 x6 x7 x8 x9 x10 x11 w hk hs
  by_cases hr:0≤x2∧x2≤19
  ·by_cases hi:0≤x3∧x3≤200
   ·have hR:mgR ⟨x0,x1,x2,x3,⟨x4,x5,⟨x6,x7,x8,x9,x10,x11⟩⟩⟩=true:=mg_rng.2 ⟨hk,sw_of.1 hs,hr,hi⟩;by_cases h1:x0=1
    ·subst h1;rw[mg_do hR rfl];exact wcheck_do x1 x2 x3 x4 x5 x6 x7 x8 x9 x10 x11 w hs hr hi
    rw[mg_els hR h1];exact wcheck_else x0 x1 x2 x3 x4 x5 x6 x7 x8 x9 x10 x11 w (by omega) hs hr hi
   rw[mg_no (mg_i hi),no_ne (by decide)];exact wcheck_index x0 x1 x2 x3 x4 x5 x6 x7 x8 x9 x10 x11 w hk hs hr hi
  rw[mg_no (mg_r hr),no_ne (by decide)];exact wcheck_round x0 x1 x2 x3 x4 x5 x6 x7 x8 x9 x10 x11 w hk hs hr
 rw[mg_no (mg_k hk),no_ne (by decide)];exact wcheck_kind x0 x1 x2 x3 x4 x5 x6 x7 x8 x9 x10 x11 w hk
theorem infoNum:(Tryz.prog.info? 3).map (fun i=>(i.zero,i.size,i.bytes))=some (some (.int i64 0),1,8):=by kernel_rfl
def u8E:Enc Int where
 c:=fun x=>[.int .u8 x]
 n:=1
 len:=fun _=>rfl
 pos:=by decide
 one:=by
  intro x u hu;simp at hu;subst hu;rfl
theorem u8_cells (L:List Int):cellsG u8E L=L.map (Value.int .u8):=by
 induction L with
 | nil=>rfl
 | cons x r ih =>
   simp only[cellsG,List.flatMap_cons,List.map_cons] at *;rw[ih];rfl
theorem conv_own {W:World}{B n:Nat}{v:Value}{xs:List Int}(h:W.ownsRow B 5 u8E.n v xs.length (cellsG u8E xs))(hx:xs.length=n)(hn:0<n):
 ∃g c,v=.slice (some ⟨g,0,none⟩) n c∧(convert 95 9 v).run prog W=.ok (.string (strOfNums xs)) W:=by
 subst hx
 rcases h.2 with ⟨rfl,h0⟩ | ⟨g,cap,cur,rfl,_⟩
 ·exact absurd h0 (by omega)
 refine⟨g,cap,rfl,?_⟩;refine run_convert_bytes_arg (P:=prog) W 95 5 underlying95 underlying5 g 0 xs.length cap xs rfl (fun i hi=>?_) 9 underlying9;have hc:=h.cellAt i (by show i<xs.length*1;omega);rw[Nat.zero_add,hc,u8_cells,List.getElem?_map,List.getElem?_eq_getElem hi,List.getD_eq_getElem?_getD,List.getElem?_eq_getElem hi];rfl
theorem in_new (w:World)(L:List Int)(t:TypeId)(vs:List Value)(hv:vs=L.map (Value.int i64)):GAt inE (w.alloc (.cells vs.toArray t)) w.heap.size 0 L:=by
 intro i hi j u hu;obtain rfl:j=0:=by
  have:=(List.getElem?_eq_some_iff.1 hu).1;simpa[inE] using this
 have h:=vat_new w vs t i u (by
  rw[hv,List.getElem?_map,List.getElem?_eq_getElem hi];simp[inE] at hu;rw[←hu];rfl)
 have e:0+i*inE.n+0=0+i:=by show 0+i*1+0=0+i;omega
 rw[e];exact h
theorem step_append_lst {P:Program}{α:Type}{E:Enc α}(w:World){ops:Array Oper}{o:Oper}{a:Act}{K:Act→World→Prop}{Q:Exit→Act→World→Prop}{X:Prop}(hgd:o.guard=none)(s x:Operand)(t e:TypeId)
 (ho:o.op=.call { callee:=.builtin .append,args:=#[s,x],argTypes:=#[t,t] }) (ht:P.underlying t=some (.slice e)) (i:TypeInfo) (z:Value) (bytes:Nat) (hi:P.info? e=some i) (hz:i.zero=some z)
 (hsize:i.size=E.n) (hby:i.bytes=bytes) (hzs:z.cells.size=E.n) (base:Nat)
 (v:Value) (hs:a.eval s=v) (L:List α) (hown:w.ownsRow base e E.n v L.length (cellsG E L)) (g q c n:Nat) (hx:a.eval x=.slice (some ⟨g,q,none⟩) n c) (M:List α) (hn:M.length=n) (hM:GAt E w g q M)
 (h63:L.length+n≤maxLen) (hbytes:(L.length+n)*bytes≤140737488355328) (hbase:base≤w.heap.size)
 (h:∀v' w',w'.ownsRow base e E.n v' (L++M).length (cellsG E (L++M))→w.grownBy w' v.ownBlock→K (a.put o.dst v') w'):
 if Region.wanted o (yielded ops a.tmps)=true then Oper.wp P o a w K Q else X:=by
 have hw:Region.wanted o (yielded ops a.tmps)=true:=by simp[Region.wanted,hgd]
 rw[if_pos hw];have hc:=hM.cells;have hl:(cellsG E M).length=n*E.n:=by rw[cellsG_len,hn]
 obtain⟨v',w',hr,h2,h3,_⟩:=run_append_own (P:=P) w base t o.type e i z E.n bytes ht hi hz hsize hby hzs E.pos v _ _ hown ⟨g,q,none⟩ n c (cellsG E M) hl hc (cellsG_all M) h63 hbytes hbase;unfold Oper.wp execOp;simp only[ho,resolve,invoke,builtin,Sem.run_bind,Sem.run_pure,Result.andThen_ok,List.map_toArray,List.map_cons,List.map_nil,hs,hx,hr];exact h v' w' (by rw[List.length_append,cellsG_app,hn];exact h2) h3
theorem u8_wrap {n:Int}(h:0≤n∧n≤200):IntKind.u8.wrap n=n:=by rw[IntKind.wrap_u8];omega
theorem sm_take {L:List Int}{k:Nat}(h:k<L.length):smL (L.take (k+1))=smL (L.take k)+L[k]:=by
 rw[List.take_succ_eq_append_getElem h,sm_app]
theorem take_g {L:List Int}{k:Nat}(h:k<L.length):L.take (k+1)=L.take k++[L[k]]:=List.take_succ_eq_append_getElem h
def enT (m:Mg):ByteArray:=if mgN m=0 then mgT m else ByteArray.empty
end
end Go.Proofs.YtpgjkmefomldfaaGreat
