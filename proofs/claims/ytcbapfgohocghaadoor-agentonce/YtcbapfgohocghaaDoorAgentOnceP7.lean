/- Contracts and facts on the way to AgentOnce, joined into one text: AgentPgNew, CcInt, WireCon, WireRows, WireEnc, AgentPgTb, AgentPgKeep. -/
import Derived.Test.YtcbapfgohocghaaDoorAgentOnceP6
namespace Go.Proofs.YtcbapfgohocghaaDoor
set_option linter.unusedSimpArgs false
set_option linter.unusedVariables false
set_option maxHeartbeats 16000000
set_option maxRecDepth 100000
open Go.Proofs.Tryd
open IntKind (i64)
section
open Go.RowKit
theorem nw_part {n:Int}{ao:AdQ}{k c:Nat}(r:Nat)(hr:r<20):((Tryd.zeroCells81.setIfInBounds 0 (Value.int IntKind.i64 n)).setIfInBounds 1 (Value.slice ao k c))[2+r*5]?=some (.map none)∧((Tryd.zeroCells81.setIfInBounds 0 (Value.int IntKind.i64 n)).setIfInBounds 1 (Value.slice ao k c))[2+r*5+1]?=some (.int i64 0)∧((Tryd.zeroCells81.setIfInBounds 0 (Value.int IntKind.i64 n)).setIfInBounds 1 (Value.slice ao k c))[2+r*5+2]?=some (.bool false)∧((Tryd.zeroCells81.setIfInBounds 0 (Value.int IntKind.i64 n)).setIfInBounds 1 (Value.slice ao k c))[2+r*5+3]?=some (.int i64 0)∧((Tryd.zeroCells81.setIfInBounds 0 (Value.int IntKind.i64 n)).setIfInBounds 1 (Value.slice ao k c))[2+r*5+4]?=some (.bool false):=by
 match r,hr with
 | 0,_=>exact⟨rfl,rfl,rfl,rfl,rfl⟩
 | 1,_=>exact⟨rfl,rfl,rfl,rfl,rfl⟩
 | 2,_=>exact⟨rfl,rfl,rfl,rfl,rfl⟩
 | 3,_=>exact⟨rfl,rfl,rfl,rfl,rfl⟩
 | 4,_=>exact⟨rfl,rfl,rfl,rfl,rfl⟩
 | 5,_=>exact⟨rfl,rfl,rfl,rfl,rfl⟩
 | 6,_=>exact⟨rfl,rfl,rfl,rfl,rfl⟩
 | 7,_=>exact⟨rfl,rfl,rfl,rfl,rfl⟩
 | 8,_=>exact⟨rfl,rfl,rfl,rfl,rfl⟩
 | 9,_=>exact⟨rfl,rfl,rfl,rfl,rfl⟩
 | 10,_=>exact⟨rfl,rfl,rfl,rfl,rfl⟩
 | 11,_=>exact⟨rfl,rfl,rfl,rfl,rfl⟩
 | 12,_=>exact⟨rfl,rfl,rfl,rfl,rfl⟩
 | 13,_=>exact⟨rfl,rfl,rfl,rfl,rfl⟩
 | 14,_=>exact⟨rfl,rfl,rfl,rfl,rfl⟩
 | 15,_=>exact⟨rfl,rfl,rfl,rfl,rfl⟩
 | 16,_=>exact⟨rfl,rfl,rfl,rfl,rfl⟩
 | 17,_=>exact⟨rfl,rfl,rfl,rfl,rfl⟩
 | 18,_=>exact⟨rfl,rfl,rfl,rfl,rfl⟩
 | 19,_=>exact⟨rfl,rfl,rfl,rfl,rfl⟩
 | _+20,h=>exact absurd h (by omega)
theorem nw_cell (W:World)(cs:Array Value)(t:TypeId)(i:Nat){v:Value}(h:cs[i]?=some v):(W.alloc (.cells cs t)).cell? ⟨W.heap.size,i,none⟩=some v:=by
 simp only[World.cell?,World.alloc];simp[h]
theorem pg_new {w W:World}{n:Int}{ao:AdQ}{k c:Nat}{t:List Ru}{B0:Nat}(hs:SR W (.slice ao k c) t)(hb:Below w.heap.size w W)(hB:B0≤w.heap.size)(ht:∀ad,ao=some ad→w.heap.size≤ad.block):
 Pg (W.alloc (.cells ((Tryd.zeroCells81.setIfInBounds 0 (Value.int IntKind.i64 n)).setIfInBounds 1 (Value.slice ao k c)) 81)) W.heap.size B0 (fun b=>w.heap.size≤b∧b<(W.alloc (.cells ((Tryd.zeroCells81.setIfInBounds 0 (Value.int IntKind.i64 n)).setIfInBounds 1 (Value.slice ao k c)) 81)).heap.size) n (ag0 t):=by
 have hb2:Below W.heap.size W (W.alloc (.cells ((Tryd.zeroCells81.setIfInBounds 0 (Value.int IntKind.i64 n)).setIfInBounds 1 (Value.slice ao k c)) 81)):=(bRQ _ _).alloc (nLQ _) _;have hs':SR W (slV (ao,k,c)) t:=hs;have hsz:(W.alloc (.cells ((Tryd.zeroCells81.setIfInBounds 0 (Value.int IntKind.i64 n)).setIfInBounds 1 (Value.slice ao k c)) 81)).heap.size=W.heap.size+1:=World.size_alloc _ _;have hws:=hb.size;refine⟨(ao,k,c),fun _=>⟨none,0,false,0,false⟩,fun _=>[],.slice none 0 0,⟨nw_cell _ _ _ _ rfl,nw_cell _ _ _ _ rfl,fun r hr=>?_,nw_cell _ _ _ _ rfl,fun i=>by simp,fun r _=>.inl ⟨rfl,rfl⟩,(fun r s b _ _ _ h=>by cases h),hs'.later hb2,?_,?_,World.ownsRow_nil _ _ _ _,?_,fun b hb=>⟨Nat.le_trans hB hb.1,hb.2⟩⟩,fun r hr=>?_,fun q hq=>by cases hq⟩
 ·obtain⟨h0,h1,h2,h3,h4⟩:=nw_part (n:=n) (ao:=ao) (k:=k) (c:=c) r hr;exact⟨nw_cell _ _ _ _ h0,nw_cell _ _ _ _ h1,nw_cell _ _ _ _ h2,nw_cell _ _ _ _ h3,nw_cell _ _ _ _ h4⟩
 ·rintro b (rfl | ⟨r,_,h⟩ | h)
  ·exact hs'.off (nLQ _)
  ·cases h
  cases h
 ·by_cases h0:k=0
  ·exact .inl h0
  refine .inr fun ad ha=>.inr ⟨ht ad ha,?_⟩
  rcases hs with ⟨_,_,e,rfl⟩ | ⟨g,o,cap',e,h6,h7,h8⟩
  ·cases e;exact absurd rfl h0
  cases e;cases ha;have:=h8.lt (by omega);rw[hsz];show g<_;omega
 ·rintro b (rfl | ⟨r,_,h⟩ | h)
  ·exact⟨hws,by rw[hsz];omega⟩
  ·cases h
  cases h
 have hm:manyK (ag0 t) (r:Int) = -1:=by
  simp only[manyK,ag0,Int.toNat_natCast,List.getD_eq_getElem?_getD];rw[List.getElem?_replicate,if_pos hr];rfl
 exact⟨rfl,rfl,by rw[hm];rfl,(fun h=>by cases h),by simp,fun _ i=>rfl⟩
theorem pnew_any (n:Int)(ao:AdQ)(k c:Nat)(t:List Ru)(B0:Nat)(w:World)(hs:SR w (.slice ao k c) t)(hB:B0≤w.heap.size):
 Calls prog 6 #[.int i64 n,.slice ao k c] w fun e w'=>∃v,e=.returned (.tuple #[v,noV (nwN n t)])∧Below w.heap.size w w'∧(nwN n t=0→∃p O,v=.pointer (some ⟨p,0,none⟩)∧Pg w' p B0 O n (ag0 t)∧∀b,O b→w.heap.size≤b):=by
 have HS:Hid (SR w (.slice ao k c) t):=hs;have HB:Hid (B0≤w.heap.size):=hB;obtain⟨Z,hZ⟩:∃Z,Z=nwN n t:=⟨_,rfl⟩;have HZ:Hid (Z=if 1≤n∧n≤6 then tbN t else 1):=hZ;rw[←hZ];clear hs hB hZ;go_enter func6,ntmps6
 go_wp2_with fail
 refine (isSwitch_any 6 n _).mono ?_;rintro e w1 ⟨rfl,hb1⟩;have HB1:Hid (Below w.heap.size w w1):=hb1;clear hb1;cases hsw:swB 6 n with
 | false =>
   have HN:Hid (Z=1):=by
    show _=_;rw[HZ.out,if_neg (fun h=>by rw[sw_of.2 h] at hsw;cases hsw)]
   clear hsw;go_wp2;refine bodyPost_ret (v:=.tuple #[.pointer none,.iface 73 (.int i64 1)]) (by simp[results,results6,go_sem]) rfl ?_;rw[HN.out];exact⟨_,by rw[no_ne (by decide)],HB1.out,fun h=>by cases h⟩
 | true =>
   have HN:Hid (Z=tbN t):=by
    show _=_;rw[HZ.out,if_pos (sw_of.1 hsw)]
   clear hsw
   go_wp2_with fail
   refine (table_any _ t _ (HS.out.later HB1.out)).mono ?_;rintro e w2 ⟨rfl,hb2⟩;have HB2:Hid (Below w.heap.size w w2):=HB1.out.trans (hb2.mono HB1.out.size);rw[←HN.out];clear hb2;by_cases hz:Z=0
   ·have h12:t.length≤1000:=by
     by_cases h12:12<t.length
     ·have:=tb_long h12;rw[←HN.out] at this;omega
     omega
    have hs2:SR w2 (.slice ao k c) t:=HS.out.later HB2.out;have HPA:Hid (PAt (w2.alloc (.cells #[.slice ao k c] 23)) w2.heap.size 0 [t]):=pat1 23 hs2;have HB3:Hid (Below w.heap.size w (w2.alloc (.cells #[.slice ao k c] 23))):=HB2.out.alloc HB2.out.size _;have HL:Hid ([t].flatten.length≤1000):=by show _≤1000;simpa using h12
    rw[no_ok hz];clear hs2 h12
    go_wp2_with fail
    refine (concat_any _ 0 1 1 [t] _ rfl (by omega) HPA.out HL.out).mono ?_;rintro e w3 ⟨u,rfl,hown,hb3⟩;have e1:[t].flatten=t:=by simp
    rw[e1] at hown;have hsr:=own_SR hown;obtain⟨ao3,cap3,rfl⟩:=own_form hown;have hlo:∀ad,ao3=some ad→w.heap.size≤ad.block:=fun ad ha=>by
     subst ha;have h5:=hown.lt ad.block rfl;have h6:=HB3.out.size;omega
    have HB4:Hid (Below w.heap.size w w3):=HB3.out.trans (hb3.mono HB3.out.size);obtain⟨n3,hn3⟩:∃n3,n3=t.length:=⟨_,rfl⟩;rw[←hn3] at hsr ⊢;have HPG:Hid (Pg (w3.alloc (.cells ((Tryd.zeroCells81.setIfInBounds 0 (Value.int IntKind.i64 n)).setIfInBounds 1 (Value.slice ao3 n3 cap3)) 81)) w3.heap.size B0 (fun b=>w.heap.size≤b∧b<(w3.alloc (.cells ((Tryd.zeroCells81.setIfInBounds 0 (Value.int IntKind.i64 n)).setIfInBounds 1 (Value.slice ao3 n3 cap3)) 81)).heap.size) n (ag0 t)):=pg_new hsr HB4.out HB.out hlo;have HB5:Hid (Below w.heap.size w (w3.alloc (.cells ((Tryd.zeroCells81.setIfInBounds 0 (Value.int IntKind.i64 n)).setIfInBounds 1 (Value.slice ao3 n3 cap3)) 81))):=HB4.out.alloc HB4.out.size _;clear hown hb3 hsr hlo hn3 e1 HPA HL;go_wp2;refine bodyPost_ret (v:=.tuple #[.pointer (some ⟨w3.heap.size,0,none⟩),.nilIface]) (by simp[results,results6,go_sem]) rfl ?_;exact⟨_,by rw[no_ok hz],HB5.out,fun _=>⟨_,_,rfl,HPG.out,fun b hb=>hb.1⟩⟩
   rw[no_ne hz];go_wp2;refine bodyPost_ret (v:=.tuple #[.pointer none,.iface 73 (.int i64 Z)]) (by simp[results,results6,go_sem]) rfl ?_;exact⟨_,by rw[no_ne hz],HB2.out,fun h=>absurd h hz⟩
theorem in_zero:(Value.int i64 0).cells.size=1:=by simp[Value.cells]
theorem in_grow_nil (n:Nat)(w:World)(hn:n≤1000):
 Calls prog 58 #[.slice none 0 0,.int i64 n] w fun e w'=>∃v,e=.returned v∧w'.ownsRow w.heap.size 3 1 v 0 []∧Below w.heap.size w w':=by
 have h1:¬((n:Int)<0):=by omega
 by_cases h0:n=0
 ·subst h0;go_enter func58,ntmps58;go_wp2;go_ret;exact⟨_,rfl,World.ownsRow_nil _ _ _ _,bRQ _ _⟩
 obtain⟨i0,hi,hz0,hz1,hz2⟩:=info_parts infoInt;have h3:wrap64 ((n:Int)-0)=(n:Int):=by unfold wrap64;omega
 have h4:(n:Int) > 0:=by omega
 have hrz:∀ty,(Builtin.append_ #[25,3] ty #[.slice none 0 0,.int i64 n]).run prog w =
  .ok (.slice (some ⟨w.heap.size,0,none⟩) n (grownCap w n 0 3)) (w.drew.alloc (.cells (Builtin.zeroCells (Value.int i64 0).cells n++Builtin.zeroCells (Value.int i64 0).cells (grownCap w n 0 3-n)) 3)):=fun ty =>
  Lib.run_append_nil_zeros w 25 3 ty 3 i0 _ .i64 .i64 underlying25 underlying3 hi hz0 n (by omega) (by rw[hz1];decide) (by omega) (by rw[hz2];omega)
 have hGn:n≤grownCap w n 0 3:=grownCap_ge w _ _ _;have hGm:grownCap w n 0 3≤maxLen:=grownCap_le_maxLen w n 0 3 (by unfold maxLen;omega)
 generalize grownCap w n 0 3=G at *
 have HM:Hid (G≤maxLen):=hGm;have hG63:G≤9223372036854775807:=by unfold maxLen at hGm;omega
 have HO:Hid ((w.drew.alloc (.cells (Builtin.zeroCells (Value.int i64 0).cells n++Builtin.zeroCells (Value.int i64 0).cells (G-n)) 3)).ownsRow w.heap.size 3 1 (.slice (some ⟨w.heap.size,0,none⟩) 0 G) 0 []):=
  World.ownsRow_made w.drew _ G (nLQ _) HM.out (by
   simp only[Array.size_append,size_zeroCells,in_zero,←Nat.add_mul]
   congr 1
   omega)
 clear hGm;go_enter func58,ntmps58
 go_wp2_with (at_builtin;refine Lib.wpList_append_run _ rfl _ _ _ _ rfl _ _ rfl rfl _ _ (hrz _) ?_)
 all_goals (go_ret;exact⟨_,rfl,HO.out,((bRQ _ _).drew).alloc (nLQ _) _⟩)
def inPt (w:World)(g o:Nat)(Ls:List (List Int)):Prop:=∀i (h:i<Ls.length),∃ao n cap,w.cell? ⟨g,o+i,none⟩=some (.slice ao n cap)∧GS inE w (.slice ao n cap) Ls[i]
theorem inPt.later {w w':World}{g o:Nat}{Ls:List (List Int)}(h:inPt w g o Ls)(hb:Below w.heap.size w w'):inPt w' g o Ls:=fun i hi=>by
 obtain⟨ao,n,cap,h1,h2⟩:=h i hi;exact⟨ao,n,cap,cell_later hb h1,h2.later hb⟩
theorem in_flat_next {Ls:List (List Int)}{k:Nat}(hk:k<Ls.length):(Ls.take (k+1)).flatten=(Ls.take k).flatten++Ls[k]:=by
 rw[List.take_succ_eq_append_getElem hk];simp only[List.flatten_append,List.flatten_cons,List.flatten_nil,List.append_nil]
theorem in_flat_le {Ls:List (List Int)}(k:Nat):(Ls.take k).flatten.length≤Ls.flatten.length:=by
 have:Ls.flatten=(Ls.take k).flatten++(Ls.drop k).flatten:=by rw[←List.flatten_append,List.take_append_drop]
 rw[this,List.length_append];omega
theorem in_append (w:World){ops:Array Oper}{rest:List Oper}{o:Oper}{a:Act}{Q:Exit→Act→World→Prop}(hgd:o.guard=none)(s x:Operand)(t:TypeId)
 (ho:o.op=.call { callee:=.builtin .append,args:=#[s,x],argTypes:=#[t,t] }) (ht:Tryd.prog.underlying t=some (.slice 3)) (base:Nat)
 (v:Value) (hs:a.eval s=v) (L:List Int) (hown:w.ownsRow base 3 1 v L.length (cellsG inE L)) (u:Value) (hx:a.eval x=u) (M:List Int) (hM:GS inE w u M)
 (h100:L.length+M.length≤1000000) (hbase:base≤w.heap.size)
 (h:∀v' w',w'.ownsRow base 3 1 v' (L++M).length (cellsG inE (L++M))→w.grownBy w' v.ownBlock→wpList prog ops Q rest (a.put o.dst v') w'):wpList prog ops Q (o :: rest) a w:=by
 obtain⟨i0,hi,hz0,hz1,hz2⟩:=info_parts infoInt;exact wpList_append_GS (E:=inE) w hgd s x t 3 ho ht i0 _ 8 hi hz0 hz1 hz2 in_zero base v hs L hown u hx M hM (by unfold maxLen;omega) (by omega) hbase h
theorem in_concat (g o m cap:Nat)(Ls:List (List Int))(w:World)(hm:Ls.length=m)(hm2:m≤1000)(hc:inPt w g o Ls)(hs:Ls.flatten.length≤1000):
 Calls prog 40 #[.slice (some ⟨g,o,none⟩) m cap] w fun e w'=>∃v,e=.returned v∧w'.ownsRow w.heap.size 3 1 v Ls.flatten.length (cellsG inE Ls.flatten)∧Below w.heap.size w w':=by
 have HM:Hid (Ls.length=m):=hm;have HC:Hid (inPt w g o Ls):=hc;have HS:Hid (Ls.flatten.length≤1000):=hs;obtain⟨N,hN⟩:∃N,N=Ls.flatten.length:=⟨_,rfl⟩;have HN:Hid (N=Ls.flatten.length):=hN;have hN2:N≤1000:=by omega
 clear hm hc hs hN;go_enter func40,ntmps40
 go_upto_block 0 with fail
 go_cut [3] from 3 (fun z w'=>z=.int i64 (N:Int)∧w'=w)
 case first =>
  go_wp2
  go_loopw [3,11] (fun z i wr=>∃k:Nat,k≤m∧i=.int i64 k∧z=.int i64 ((Ls.take k).flatten.length:Int)∧wr=w) (fun _ i _=>m-(intOf i).toNat)
  case atStart=>exact⟨0,by omega,rfl,rfl,rfl⟩
  case round =>
   obtain⟨k,hk,rfl,rfl,rfl⟩:=hrel;by_cases hlt:k<m
   ·have hkl:k<Ls.length:=by rw[HM.out];exact hlt
    obtain⟨ao,n,cap2,q0,hsr⟩:=HC.out k hkl;have HT:Hid ((Ls.take (k+1)).flatten.length=(Ls.take k).flatten.length+n):=by
     show _=_;rw[in_flat_next hkl,List.length_append,hsr.len]
    have hb1:(Ls.take k).flatten.length+n≤1000:=by
     have h1:=in_flat_le (Ls:=Ls) (k+1);have h2:=HS.out;have h3:=HT.out;omega
    generalize (Ls.take k).flatten.length=z at *
    clear hsr;go_wp2;go_roundw
    case rel=>exact⟨k+1,by omega,by go_num,by rw[HT.out];go_num,by simp⟩
    case measure=>simp[intOf];omega
   obtain rfl:k=m:=by omega
   go_wp2_with fail
   go_meet
   case rel=>exact⟨by rw[←HM.out,List.take_length,HN.out],rfl⟩
 case rest =>
  obtain⟨rfl,rfl⟩:=hcut
  go_wp2_with fail
  refine (in_grow_nil N _ hN2).mono ?_;rintro e w1 ⟨v,rfl,hown,hB⟩;have HO:Hid (w1.ownsRow wc.heap.size 3 1 v 0 []):=hown;have HB:Hid (Below wc.heap.size wc w1):=hB;clear hown hB;go_wp2
  go_loopw [6,27] (fun u i wr=>∃k:Nat,k≤m∧i=.int i64 k∧wr.ownsRow wc.heap.size 3 1 u (Ls.take k).flatten.length (cellsG inE (Ls.take k).flatten)∧Below wc.heap.size wc wr) (fun _ i _=>m-(intOf i).toNat)
  case atStart=>exact⟨0,by omega,rfl,HO.out,HB.out⟩
  case round =>
   obtain⟨k,hk,rfl,hown,hB⟩:=hrel;have HOW:Hid (wr.ownsRow wc.heap.size 3 1 u6 (Ls.take k).flatten.length (cellsG inE (Ls.take k).flatten)):=hown;have HBW:Hid (Below wc.heap.size wc wr):=hB;clear hown;by_cases hlt:k<m
   ·have hkl:k<Ls.length:=by rw[HM.out];exact hlt
    obtain⟨ao,n,cap2,q0,hsr⟩:=(HC.out.later hB) k hkl;have HSR:Hid (GS inE wr (.slice ao n cap2) Ls[k]):=hsr;have HL1:Hid ((Ls.take k).flatten.length+Ls[k].length≤1000000):=by
     have h1:=in_flat_le (Ls:=Ls) (k+1);rw[in_flat_next hkl,List.length_append] at h1;have h2:=HS.out;show _≤_;omega
    clear hsr hB
    go_wp2_with (at_builtin;refine in_append _ rfl _ _ 25 rfl underlying25 wc.heap.size _ rfl _ HOW.out _ rfl _ HSR.out HL1.out HBW.out.size ?_)
    intro v' w3 hown3 hgrow;have HO5:Hid (w3.ownsRow wc.heap.size 3 1 v' (Ls.take (k+1)).flatten.length (cellsG inE (Ls.take (k+1)).flatten)):=by
     show w3.ownsRow _ _ _ _ _ _;rw[in_flat_next hkl,show ((Ls.take k).flatten++Ls[k]).length=(List.take k (List.map List.length Ls)).sum+Ls[k].length by simp];exact hown3
    have HB5:Hid (Below wc.heap.size wc w3):=HBW.out.grown hgrow HBW.out.size (fun g hg=>(HOW.out.lt g hg).1);clear hown3 hgrow q0;go_wp2;go_roundw
    case rel=>exact⟨k+1,by omega,by go_num,HO5.out,HB5.out⟩
    case measure=>simp[intOf];omega
   obtain rfl:k=m:=by omega
   go_wp2;go_ret;refine⟨_,rfl,?_,HBW.out⟩;have:=HOW.out;rw[←HM.out,List.take_length] at this;exact this
def MgC (W:World)(g:Nat)(x0 x1 x2 x3 x4:Int)(x5:Bool)(x6 x7 x8 x9 x10 x11:Int):Prop:=
 W.cell? ⟨g,0,none⟩=some (.int i64 x0)∧W.cell? ⟨g,1,none⟩=some (.int i64 x1)∧W.cell? ⟨g,2,none⟩=some (.int i64 x2)∧W.cell? ⟨g,3,none⟩=some (.int i64 x3)∧W.cell? ⟨g,4,none⟩=some (.int i64 x4)∧W.cell? ⟨g,5,none⟩=some (.bool x5)∧W.cell? ⟨g,6,none⟩=some (.int i64 x6)∧W.cell? ⟨g,7,none⟩=some (.int i64 x7)∧W.cell? ⟨g,8,none⟩=some (.int i64 x8)∧W.cell? ⟨g,9,none⟩=some (.int i64 x9)∧W.cell? ⟨g,10,none⟩=some (.int i64 x10)∧W.cell? ⟨g,11,none⟩=some (.int i64 x11)
theorem MgC.later {W W':World}{g:Nat}{x0 x1 x2 x3 x4:Int}{x5:Bool}{x6 x7 x8 x9 x10 x11:Int}(h:MgC W g x0 x1 x2 x3 x4 x5 x6 x7 x8 x9 x10 x11)(hb:Below W.heap.size W W'):MgC W' g x0 x1 x2 x3 x4 x5 x6 x7 x8 x9 x10 x11:=by
 obtain⟨c0,c1,c2,c3,c4,c5,c6,c7,c8,c9,c10,c11⟩:=h;exact⟨cell_later hb c0,cell_later hb c1,cell_later hb c2,cell_later hb c3,cell_later hb c4,cell_later hb c5,cell_later hb c6,cell_later hb c7,cell_later hb c8,cell_later hb c9,cell_later hb c10,cell_later hb c11⟩
theorem MgC.lt {W:World}{g:Nat}{x0 x1 x2 x3 x4:Int}{x5:Bool}{x6 x7 x8 x9 x10 x11:Int}(h:MgC W g x0 x1 x2 x3 x4 x5 x6 x7 x8 x9 x10 x11):g<W.heap.size:=bLQ _ _ h.1
theorem mgc_new (w:World)(x0 x1 x2 x3 x4:Int)(x5:Bool)(x6 x7 x8 x9 x10 x11:Int)(T:TypeId):MgC (w.alloc (.cells #[.int i64 x0,.int i64 x1,.int i64 x2,.int i64 x3,.int i64 x4,.bool x5,.int i64 x6,.int i64 x7,.int i64 x8,.int i64 x9,.int i64 x10,.int i64 x11] T)) w.heap.size x0 x1 x2 x3 x4 x5 x6 x7 x8 x9 x10 x11:=by
 refine⟨?_,?_,?_,?_,?_,?_,?_,?_,?_,?_,?_,?_⟩ <;> simp
theorem checkOp_any (x4:Int)(x5:Bool)(x6 x7 x8 x9 x10 x11 t:Int)(w:World):
 Calls prog 78 #[.agg #[.int i64 x4,.bool x5,.int i64 x6,.int i64 x7,.int i64 x8,.int i64 x9,.int i64 x10,.int i64 x11],.int i64 t] w fun e w'=>e=.returned (noV (moN ⟨x4,x5,⟨x6,x7,x8,x9,x10,x11⟩⟩ t))∧Below w.heap.size w w':=by
 have HB0:Hid (Below w.heap.size w (w.alloc (.cells #[.int i64 x4,.bool x5,.int i64 x6,.int i64 x7,.int i64 x8,.int i64 x9,.int i64 x10,.int i64 x11] 43))):=(bRQ _ _).alloc (nLQ _) _;have HC0:Hid ((w.alloc (.cells #[.int i64 x4,.bool x5,.int i64 x6,.int i64 x7,.int i64 x8,.int i64 x9,.int i64 x10,.int i64 x11] 43)).cell? ⟨w.heap.size,0,none⟩=some (.int i64 x4)):=by show _=_;simp
 obtain⟨N,hN⟩:∃N,N=ruN x6 x7 x8 x9 x10 x11:=⟨_,rfl⟩;have e:moN ⟨x4,x5,⟨x6,x7,x8,x9,x10,x11⟩⟩ t=if N=0 then (if x4=t then 0 else 3) else N:=by rw[hN];rfl
 rw[e];have HN:Hid (ruN x6 x7 x8 x9 x10 x11=N):=hN.symm;clear e hN;by_cases h0:N=0
 ·subst h0;by_cases h1:x4=t
  ·subst h1;have ht:(x4==x4)=true:=by simp
   go_enter func78,ntmps78
   go_wp2_with fail
   refine (ruCheck_any x6 x7 x8 x9 x10 x11 _).mono ?_;rintro e w1 ⟨rfl,hb1⟩;have c1:=cell_later hb1 HC0.out;have HB1:Hid (Below w.heap.size w w1):=HB0.out.trans (hb1.mono HB0.out.size);rw[HN.out,no_ok rfl];clear hb1;go_wp2;go_ret;exact⟨by simp[noV],HB1.out⟩
  have ht:(x4==t)=false:=by simpa using h1
  rw[if_pos rfl,if_neg h1];go_enter func78,ntmps78
  go_wp2_with fail
  refine (ruCheck_any x6 x7 x8 x9 x10 x11 _).mono ?_;rintro e w1 ⟨rfl,hb1⟩;have c1:=cell_later hb1 HC0.out;have HB1:Hid (Below w.heap.size w w1):=HB0.out.trans (hb1.mono HB0.out.size);rw[HN.out,no_ok rfl];clear hb1;go_wp2;go_ret;exact⟨rfl,HB1.out⟩
 rw[if_neg h0];go_enter func78,ntmps78
 go_wp2_with fail
 refine (ruCheck_any x6 x7 x8 x9 x10 x11 _).mono ?_;rintro e w1 ⟨rfl,hb1⟩;have HB1:Hid (Below w.heap.size w w1):=HB0.out.trans (hb1.mono HB0.out.size);rw[HN.out,no_ne h0];clear hb1;go_wp2;go_ret;exact⟨by rw[no_ne h0];rfl,HB1.out⟩
theorem mg_no {m:Mg}(h:mgR m=false):mgN m=1:=by unfold mgN;rw[h];rfl
theorem mg_k {m:Mg}(h:¬(1≤m.k∧m.k≤3)):mgR m=false:=by
 cases e:mgR m
 ·rfl
 exact absurd (mg_rng.1 e).1 h
theorem mg_s {m:Mg}(h:¬(1≤m.s∧m.s≤6)):mgR m=false:=by
 cases e:mgR m
 ·rfl
 exact absurd (mg_rng.1 e).2.1 h
theorem mg_r {m:Mg}(h:¬(0≤m.r∧m.r≤19)):mgR m=false:=by
 cases e:mgR m
 ·rfl
 exact absurd (mg_rng.1 e).2.2.1 h
theorem mg_i {m:Mg}(h:¬(0≤m.i∧m.i≤200)):mgR m=false:=by
 cases e:mgR m
 ·rfl
 exact absurd (mg_rng.1 e).2.2.2 h
theorem mg_do {m:Mg}(h:mgR m=true)(h1:m.k=1):mgN m=moN m.o m.s:=by unfold mgN;rw[if_pos h,if_pos h1]
def elN (c:Bool)(k i:Int):Int:=if c && !(decide (k=3) && !(decide (i=0))) then 0 else 3
theorem mg_els {m:Mg}(h:mgR m=true)(h1:m.k≠1):mgN m=elN (oqB m.o zeP) m.k m.i:=by unfold mgN elN;rw[if_pos h,if_neg h1]
theorem k_no {x:Int}(h:¬(1≤x∧x≤3)):(x==1)=false∧(x==2)=false∧(x==3)=false:=by
 refine⟨?_,?_,?_⟩ <;> simp <;> omega
theorem wcheck_kind (x0 x1 x2 x3 x4:Int)(x5:Bool)(x6 x7 x8 x9 x10 x11:Int)(w:World)(hk:¬(1≤x0∧x0≤3)):
 Calls prog 70 #[.agg #[.int i64 x0,.int i64 x1,.int i64 x2,.int i64 x3,.int i64 x4,.bool x5,.int i64 x6,.int i64 x7,.int i64 x8,.int i64 x9,.int i64 x10,.int i64 x11]] w fun e w'=>e=.returned (.iface 73 (.int i64 1))∧Below w.heap.size w w':=by
 have HB0:Hid (Below w.heap.size w (w.alloc (.cells #[.int i64 x0,.int i64 x1,.int i64 x2,.int i64 x3,.int i64 x4,.bool x5,.int i64 x6,.int i64 x7,.int i64 x8,.int i64 x9,.int i64 x10,.int i64 x11] 50))):=(bRQ _ _).alloc (nLQ _) _;obtain⟨k1,k2,k3⟩:=k_no hk;have n1:(x0 != 1)=true:=by simp[bne,k1]
 have n2:(x0 != 2)=true:=by simp[bne,k2]
 have n3:(x0 != 3)=true:=by simp[bne,k3]
 have l1:¬x0=1:=by omega
 have l2:¬x0=2:=by omega
 have l3:¬x0=3:=by omega
 clear hk;go_enter func70,ntmps70;go_wp2;go_ret;exact⟨rfl,HB0.out⟩
theorem wcheck_switch (x0 x1 x2 x3 x4:Int)(x5:Bool)(x6 x7 x8 x9 x10 x11:Int)(w:World)(hk:1≤x0∧x0≤3)(hs:swB 6 x1=false):
 Calls prog 70 #[.agg #[.int i64 x0,.int i64 x1,.int i64 x2,.int i64 x3,.int i64 x4,.bool x5,.int i64 x6,.int i64 x7,.int i64 x8,.int i64 x9,.int i64 x10,.int i64 x11]] w fun e w'=>e=.returned (.iface 73 (.int i64 1))∧Below w.heap.size w w':=by
 have HB0:Hid (Below w.heap.size w (w.alloc (.cells #[.int i64 x0,.int i64 x1,.int i64 x2,.int i64 x3,.int i64 x4,.bool x5,.int i64 x6,.int i64 x7,.int i64 x8,.int i64 x9,.int i64 x10,.int i64 x11] 50))):=(bRQ _ _).alloc (nLQ _) _;have HC0:Hid (MgC (w.alloc (.cells #[.int i64 x0,.int i64 x1,.int i64 x2,.int i64 x3,.int i64 x4,.bool x5,.int i64 x6,.int i64 x7,.int i64 x8,.int i64 x9,.int i64 x10,.int i64 x11] 50)) w.heap.size x0 x1 x2 x3 x4 x5 x6 x7 x8 x9 x10 x11):=mgc_new w x0 x1 x2 x3 x4 x5 x6 x7 x8 x9 x10 x11 _;have HSW:Hid (swB 6 x1=false):=hs;clear hs
 rcases (by omega:x0=1∨x0=2∨x0=3) with rfl | rfl | rfl
 all_goals
  go_enter func70,ntmps70
  go_wp2_with fail
  refine (isSwitch_any 6 x1 _).mono ?_;rintro e w1 ⟨rfl,hb1⟩;have HB1:Hid (Below w.heap.size w w1):=HB0.out.trans (hb1.mono HB0.out.size);have HC1:Hid (MgC w1 w.heap.size _ x1 x2 x3 x4 x5 x6 x7 x8 x9 x10 x11):=HC0.out.later hb1;obtain⟨c0,c1,c2,c3,c4,c5,c6,c7,c8,c9,c10,c11⟩:=HC1.out;rw[HSW.out];clear hb1;go_wp2;go_ret;exact⟨rfl,HB1.out⟩
theorem wcheck_round (x0 x1 x2 x3 x4:Int)(x5:Bool)(x6 x7 x8 x9 x10 x11:Int)(w:World)(hk:1≤x0∧x0≤3)(hs:swB 6 x1=true)(hr:¬(0≤x2∧x2≤19)):
 Calls prog 70 #[.agg #[.int i64 x0,.int i64 x1,.int i64 x2,.int i64 x3,.int i64 x4,.bool x5,.int i64 x6,.int i64 x7,.int i64 x8,.int i64 x9,.int i64 x10,.int i64 x11]] w fun e w'=>e=.returned (.iface 73 (.int i64 1))∧Below w.heap.size w w':=by
 have HB0:Hid (Below w.heap.size w (w.alloc (.cells #[.int i64 x0,.int i64 x1,.int i64 x2,.int i64 x3,.int i64 x4,.bool x5,.int i64 x6,.int i64 x7,.int i64 x8,.int i64 x9,.int i64 x10,.int i64 x11] 50))):=(bRQ _ _).alloc (nLQ _) _;have HC0:Hid (MgC (w.alloc (.cells #[.int i64 x0,.int i64 x1,.int i64 x2,.int i64 x3,.int i64 x4,.bool x5,.int i64 x6,.int i64 x7,.int i64 x8,.int i64 x9,.int i64 x10,.int i64 x11] 50)) w.heap.size x0 x1 x2 x3 x4 x5 x6 x7 x8 x9 x10 x11):=mgc_new w x0 x1 x2 x3 x4 x5 x6 x7 x8 x9 x10 x11 _;have HSW:Hid (swB 6 x1=true):=hs;clear hs
 rcases (by omega:x2<0∨(¬x2<0∧20≤x2)) with h1 | ⟨h1,h2⟩
 all_goals
  clear hr
  rcases (by omega:x0=1∨x0=2∨x0=3) with rfl | rfl | rfl
  all_goals
   go_enter func70,ntmps70
   go_wp2_with fail
   refine (isSwitch_any 6 x1 _).mono ?_;rintro e w1 ⟨rfl,hb1⟩;have HB1:Hid (Below w.heap.size w w1):=HB0.out.trans (hb1.mono HB0.out.size);have HC1:Hid (MgC w1 w.heap.size _ x1 x2 x3 x4 x5 x6 x7 x8 x9 x10 x11):=HC0.out.later hb1;obtain⟨c0,c1,c2,c3,c4,c5,c6,c7,c8,c9,c10,c11⟩:=HC1.out;rw[HSW.out];clear hb1;go_wp2;go_ret;exact⟨rfl,HB1.out⟩
theorem wcheck_index (x0 x1 x2 x3 x4:Int)(x5:Bool)(x6 x7 x8 x9 x10 x11:Int)(w:World)(hk:1≤x0∧x0≤3)(hs:swB 6 x1=true)(hr:0≤x2∧x2≤19)(hi:¬(0≤x3∧x3≤200)):
 Calls prog 70 #[.agg #[.int i64 x0,.int i64 x1,.int i64 x2,.int i64 x3,.int i64 x4,.bool x5,.int i64 x6,.int i64 x7,.int i64 x8,.int i64 x9,.int i64 x10,.int i64 x11]] w fun e w'=>e=.returned (.iface 73 (.int i64 1))∧Below w.heap.size w w':=by
 have HB0:Hid (Below w.heap.size w (w.alloc (.cells #[.int i64 x0,.int i64 x1,.int i64 x2,.int i64 x3,.int i64 x4,.bool x5,.int i64 x6,.int i64 x7,.int i64 x8,.int i64 x9,.int i64 x10,.int i64 x11] 50))):=(bRQ _ _).alloc (nLQ _) _;have HC0:Hid (MgC (w.alloc (.cells #[.int i64 x0,.int i64 x1,.int i64 x2,.int i64 x3,.int i64 x4,.bool x5,.int i64 x6,.int i64 x7,.int i64 x8,.int i64 x9,.int i64 x10,.int i64 x11] 50)) w.heap.size x0 x1 x2 x3 x4 x5 x6 x7 x8 x9 x10 x11):=mgc_new w x0 x1 x2 x3 x4 x5 x6 x7 x8 x9 x10 x11 _;have HSW:Hid (swB 6 x1=true):=hs;clear hs;have hr1:¬x2<0:=by omega
 have hr2:¬20≤x2:=by omega
 rcases (by omega:x3<0∨(¬x3<0∧200<x3)) with h1 | ⟨h1,h2⟩
 all_goals
  clear hi hr
  rcases (by omega:x0=1∨x0=2∨x0=3) with rfl | rfl | rfl
  all_goals
   go_enter func70,ntmps70
   go_wp2_with fail
   refine (isSwitch_any 6 x1 _).mono ?_;rintro e w1 ⟨rfl,hb1⟩;have HB1:Hid (Below w.heap.size w w1):=HB0.out.trans (hb1.mono HB0.out.size);have HC1:Hid (MgC w1 w.heap.size _ x1 x2 x3 x4 x5 x6 x7 x8 x9 x10 x11):=HC0.out.later hb1;obtain⟨c0,c1,c2,c3,c4,c5,c6,c7,c8,c9,c10,c11⟩:=HC1.out;rw[HSW.out];clear hb1;go_wp2;go_ret;exact⟨rfl,HB1.out⟩
theorem wcheck_do (x1 x2 x3 x4:Int)(x5:Bool)(x6 x7 x8 x9 x10 x11:Int)(w:World)(hs:swB 6 x1=true)(hr:0≤x2∧x2≤19)(hi:0≤x3∧x3≤200):
 Calls prog 70 #[.agg #[.int i64 1,.int i64 x1,.int i64 x2,.int i64 x3,.int i64 x4,.bool x5,.int i64 x6,.int i64 x7,.int i64 x8,.int i64 x9,.int i64 x10,.int i64 x11]] w fun e w'=>e=.returned (noV (moN ⟨x4,x5,⟨x6,x7,x8,x9,x10,x11⟩⟩ x1))∧Below w.heap.size w w':=by
 have HB0:Hid (Below w.heap.size w (w.alloc (.cells #[.int i64 1,.int i64 x1,.int i64 x2,.int i64 x3,.int i64 x4,.bool x5,.int i64 x6,.int i64 x7,.int i64 x8,.int i64 x9,.int i64 x10,.int i64 x11] 50))):=(bRQ _ _).alloc (nLQ _) _;have HC0:Hid (MgC (w.alloc (.cells #[.int i64 1,.int i64 x1,.int i64 x2,.int i64 x3,.int i64 x4,.bool x5,.int i64 x6,.int i64 x7,.int i64 x8,.int i64 x9,.int i64 x10,.int i64 x11] 50)) w.heap.size 1 x1 x2 x3 x4 x5 x6 x7 x8 x9 x10 x11):=mgc_new w 1 x1 x2 x3 x4 x5 x6 x7 x8 x9 x10 x11 _;have HSW:Hid (swB 6 x1=true):=hs;have hr1:¬x2<0:=by omega
 have hr2:¬20≤x2:=by omega
 have hi1:¬x3<0:=by omega
 have hi2:¬200<x3:=by omega
 clear hs hr hi;go_enter func70,ntmps70
 go_wp2_with fail
 refine (isSwitch_any 6 x1 _).mono ?_;rintro e w1 ⟨rfl,hb1⟩;have HB1:Hid (Below w.heap.size w w1):=HB0.out.trans (hb1.mono HB0.out.size);have HC1:Hid (MgC w1 w.heap.size 1 x1 x2 x3 x4 x5 x6 x7 x8 x9 x10 x11):=HC0.out.later hb1;obtain⟨c0,c1,c2,c3,c4,c5,c6,c7,c8,c9,c10,c11⟩:=HC1.out;rw[HSW.out];clear hb1
 go_wp2_with fail
 refine (checkOp_any x4 x5 x6 x7 x8 x9 x10 x11 x1 _).mono ?_;rintro e w2 ⟨rfl,hb2⟩;have HB2:Hid (Below w.heap.size w w2):=HB1.out.trans (hb2.mono HB1.out.size);clear hb2;go_wp2;go_ret;exact⟨rfl,HB2.out⟩
theorem wcheck_else (x0 x1 x2 x3 x4:Int)(x5:Bool)(x6 x7 x8 x9 x10 x11:Int)(w:World)(hk:x0=2∨x0=3)(hs:swB 6 x1=true)(hr:0≤x2∧x2≤19)(hi:0≤x3∧x3≤200):
 Calls prog 70 #[.agg #[.int i64 x0,.int i64 x1,.int i64 x2,.int i64 x3,.int i64 x4,.bool x5,.int i64 x6,.int i64 x7,.int i64 x8,.int i64 x9,.int i64 x10,.int i64 x11]] w fun e w'=>e=.returned (noV (elN (oqB ⟨x4,x5,⟨x6,x7,x8,x9,x10,x11⟩⟩ zeP) x0 x3))∧Below w.heap.size w w':=by
 have HB0:Hid (Below w.heap.size w (w.alloc (.cells #[.int i64 x0,.int i64 x1,.int i64 x2,.int i64 x3,.int i64 x4,.bool x5,.int i64 x6,.int i64 x7,.int i64 x8,.int i64 x9,.int i64 x10,.int i64 x11] 50))):=(bRQ _ _).alloc (nLQ _) _;have HC0:Hid (MgC (w.alloc (.cells #[.int i64 x0,.int i64 x1,.int i64 x2,.int i64 x3,.int i64 x4,.bool x5,.int i64 x6,.int i64 x7,.int i64 x8,.int i64 x9,.int i64 x10,.int i64 x11] 50)) w.heap.size x0 x1 x2 x3 x4 x5 x6 x7 x8 x9 x10 x11):=mgc_new w x0 x1 x2 x3 x4 x5 x6 x7 x8 x9 x10 x11 _;have HSW:Hid (swB 6 x1=true):=hs;have hr1:¬x2<0:=by omega
 have hr2:¬20≤x2:=by omega
 have hi1:¬x3<0:=by omega
 have hi2:¬200<x3:=by omega
 clear hs hr hi;obtain⟨c,hc⟩:∃c,c=opB ⟨x4,x5,⟨x6,x7,x8,x9,x10,x11⟩⟩ ⟨0,false,⟨0,0,0,0,0,0⟩⟩:=⟨_,rfl⟩;have HC:Hid (opB ⟨x4,x5,⟨x6,x7,x8,x9,x10,x11⟩⟩ ⟨0,false,⟨0,0,0,0,0,0⟩⟩=c):=hc.symm;rw[show oqB ⟨x4,x5,⟨x6,x7,x8,x9,x10,x11⟩⟩ zeP=c from hc.symm];clear hc
 rcases hk with rfl | rfl
 all_goals
  go_enter func70,ntmps70
  go_wp2_with fail
  refine (isSwitch_any 6 x1 _).mono ?_;rintro e w1 ⟨rfl,hb1⟩;have HB1:Hid (Below w.heap.size w w1):=HB0.out.trans (hb1.mono HB0.out.size);have HC1:Hid (MgC w1 w.heap.size _ x1 x2 x3 x4 x5 x6 x7 x8 x9 x10 x11):=HC0.out.later hb1;obtain⟨c0,c1,c2,c3,c4,c5,c6,c7,c8,c9,c10,c11⟩:=HC1.out;rw[HSW.out];clear hb1;go_upto_region 8 with fail
  go_cut [47] from 48 (fun v w'=>v=.bool (!c)∧w'=w1)
  case first =>
   rcases op_ways x4 x5 x6 x7 x8 x9 x10 x11 0 false 0 0 0 0 0 0 with ⟨e0,e⟩ | ⟨e0,e1,e⟩ | ⟨e0,e1,e2,e⟩ | ⟨e0,e1,e2,e3,e⟩ | ⟨e0,e1,e2,e3,e4,e⟩ | ⟨e0,e1,e2,e3,e4,e5,e⟩ | ⟨e0,e1,e2,e3,e4,e5,e6,e⟩ | ⟨e0,e1,e2,e3,e4,e5,e6,e7,e⟩ | ⟨e0,e1,e2,e3,e4,e5,e6,e7,e⟩
   all_goals
    rw[HC.out] at e;have HE:Hid (c=_):=e;clear e
    go_wp2_with fail
    go_meet
    exact⟨by rw[HE.out];rfl,rfl⟩
  case rest =>
   obtain⟨rfl,hwc⟩:=hcut;have hwc2:=hwc.symm;clear hwc;subst hwc2;cases c with
   | false =>
     go_wp2;go_ret;exact⟨by simp[elN,noV],HB1.out⟩
   | true =>
     by_cases h0:x3=0
     ·subst h0;go_wp2;go_ret;exact⟨by simp[elN,noV],HB1.out⟩
     have h0':(x3==0)=false:=by simpa using h0
     have h0n:(x3 != 0)=true:=by simpa using h0
     go_wp2;go_ret;exact⟨by simp[elN,noV,h0],HB1.out⟩
theorem wcheck_any (x0 x1 x2 x3 x4:Int)(x5:Bool)(x6 x7 x8 x9 x10 x11:Int)(w:World):
 Calls prog 70 #[.agg #[.int i64 x0,.int i64 x1,.int i64 x2,.int i64 x3,.int i64 x4,.bool x5,.int i64 x6,.int i64 x7,.int i64 x8,.int i64 x9,.int i64 x10,.int i64 x11]] w fun e w'=>e=.returned (noV (mgN ⟨x0,x1,x2,x3,⟨x4,x5,⟨x6,x7,x8,x9,x10,x11⟩⟩⟩))∧Below w.heap.size w w':=by
 by_cases hk:1≤x0∧x0≤3
 ·cases hs:swB 6 x1
  ·rw[mg_no (mg_s (fun h=>by have:=sw_of.2 h;rw[hs] at this;cases this)),no_ne (by decide)];exact wcheck_switch x0 x1 x2 x3 x4 x5 x6 x7 x8 x9 x10 x11 w hk hs
  by_cases hr:0≤x2∧x2≤19
  ·by_cases hi:0≤x3∧x3≤200
   ·have hR:mgR ⟨x0,x1,x2,x3,⟨x4,x5,⟨x6,x7,x8,x9,x10,x11⟩⟩⟩=true:=mg_rng.2 ⟨hk,sw_of.1 hs,hr,hi⟩;by_cases h1:x0=1
    ·subst h1;rw[mg_do hR rfl];exact wcheck_do x1 x2 x3 x4 x5 x6 x7 x8 x9 x10 x11 w hs hr hi
    rw[mg_els hR h1];exact wcheck_else x0 x1 x2 x3 x4 x5 x6 x7 x8 x9 x10 x11 w (by omega) hs hr hi
   rw[mg_no (mg_i hi),no_ne (by decide)];exact wcheck_index x0 x1 x2 x3 x4 x5 x6 x7 x8 x9 x10 x11 w hk hs hr hi
  rw[mg_no (mg_r hr),no_ne (by decide)];exact wcheck_round x0 x1 x2 x3 x4 x5 x6 x7 x8 x9 x10 x11 w hk hs hr
 rw[mg_no (mg_k hk),no_ne (by decide)];exact wcheck_kind x0 x1 x2 x3 x4 x5 x6 x7 x8 x9 x10 x11 w hk
theorem infoNum:(Tryd.prog.info? 3).map (fun i=>(i.zero,i.size,i.bytes))=some (some (.int i64 0),1,8):=by kernel_rfl
def u8E:Enc Int where
 c:=fun x=>[.int .u8 x]
 n:=1
 len:=fun _=>rfl
 pos:=by decide
 one:=by
  intro x u hu;simp at hu;subst hu;rfl
theorem u8_cells (L:List Int):cellsG u8E L=L.map (Value.int .u8):=by
 induction L with
 | nil=>rfl
 | cons x r ih =>
   simp only[cellsG,List.flatMap_cons,List.map_cons] at *;rw[ih];rfl
theorem conv_own {W:World}{B n:Nat}{v:Value}{xs:List Int}(h:W.ownsRow B 5 u8E.n v xs.length (cellsG u8E xs))(hx:xs.length=n)(hn:0<n):
 ∃g c,v=.slice (some ⟨g,0,none⟩) n c∧(convert 141 9 v).run prog W=.ok (.string (strOfNums xs)) W:=by
 subst hx
 rcases h.2 with ⟨rfl,h0⟩ | ⟨g,cap,cur,rfl,_⟩
 ·exact absurd h0 (by omega)
 refine⟨g,cap,rfl,?_⟩;refine run_convert_bytes_arg (P:=prog) W 141 5 underlying141 underlying5 g 0 xs.length cap xs rfl (fun i hi=>?_) 9 underlying9;have hc:=h.cellAt i (by show i<xs.length*1;omega);rw[Nat.zero_add,hc,u8_cells,List.getElem?_map,List.getElem?_eq_getElem hi,List.getD_eq_getElem?_getD,List.getElem?_eq_getElem hi];rfl
theorem in_new (w:World)(L:List Int)(t:TypeId)(vs:List Value)(hv:vs=L.map (Value.int i64)):GAt inE (w.alloc (.cells vs.toArray t)) w.heap.size 0 L:=by
 intro i hi j u hu;obtain rfl:j=0:=by
  have:=(List.getElem?_eq_some_iff.1 hu).1;simpa[inE] using this
 have h:=vat_new w vs t i u (by
  rw[hv,List.getElem?_map,List.getElem?_eq_getElem hi];simp[inE] at hu;rw[←hu];rfl)
 have e:0+i*inE.n+0=0+i:=by show 0+i*1+0=0+i;omega
 rw[e];exact h
theorem step_append_lst {P:Program}{α:Type}{E:Enc α}(w:World){ops:Array Oper}{o:Oper}{a:Act}{K:Act→World→Prop}{Q:Exit→Act→World→Prop}{X:Prop}(hgd:o.guard=none)(s x:Operand)(t e:TypeId)
 (ho:o.op=.call { callee:=.builtin .append,args:=#[s,x],argTypes:=#[t,t] }) (ht:P.underlying t=some (.slice e)) (i:TypeInfo) (z:Value) (bytes:Nat) (hi:P.info? e=some i) (hz:i.zero=some z)
 (hsize:i.size=E.n) (hby:i.bytes=bytes) (hzs:z.cells.size=E.n) (base:Nat)
 (v:Value) (hs:a.eval s=v) (L:List α) (hown:w.ownsRow base e E.n v L.length (cellsG E L)) (g q c n:Nat) (hx:a.eval x=.slice (some ⟨g,q,none⟩) n c) (M:List α) (hn:M.length=n) (hM:GAt E w g q M)
 (h63:L.length+n≤maxLen) (hbytes:(L.length+n)*bytes≤140737488355328) (hbase:base≤w.heap.size)
 (h:∀v' w',w'.ownsRow base e E.n v' (L++M).length (cellsG E (L++M))→w.grownBy w' v.ownBlock→K (a.put o.dst v') w'):
 if Region.wanted o (yielded ops a.tmps)=true then Oper.wp P o a w K Q else X:=by
 have hw:Region.wanted o (yielded ops a.tmps)=true:=by simp[Region.wanted,hgd]
 rw[if_pos hw];have hc:=hM.cells;have hl:(cellsG E M).length=n*E.n:=by rw[cellsG_len,hn]
 obtain⟨v',w',hr,h2,h3,_⟩:=run_append_own (P:=P) w base t o.type e i z E.n bytes ht hi hz hsize hby hzs E.pos v _ _ hown ⟨g,q,none⟩ n c (cellsG E M) hl hc (cellsG_all M) h63 hbytes hbase;unfold Oper.wp execOp;simp only[ho,resolve,invoke,builtin,Sem.run_bind,Sem.run_pure,Result.andThen_ok,List.map_toArray,List.map_cons,List.map_nil,hs,hx,hr];exact h v' w' (by rw[List.length_append,cellsG_app,hn];exact h2) h3
theorem u8_wrap {n:Int}(h:0≤n∧n≤200):IntKind.u8.wrap n=n:=by rw[IntKind.wrap_u8];omega
theorem sm_take {L:List Int}{k:Nat}(h:k<L.length):smL (L.take (k+1))=smL (L.take k)+L[k]:=by
 rw[List.take_succ_eq_append_getElem h,sm_app]
theorem take_g {L:List Int}{k:Nat}(h:k<L.length):L.take (k+1)=L.take k++[L[k]]:=List.take_succ_eq_append_getElem h
def enT (m:Mg):ByteArray:=if mgN m=0 then mgT m else ByteArray.empty
theorem bit_same (b:Bool)(w:World):Calls prog 71 #[.bool b] w fun e w'=>e=.returned (.int i64 (btN b))∧w'=w:=by
 cases b
 ·go_enter func71,ntmps71;go_wp2;go_ret;exact⟨rfl,rfl⟩
 go_enter func71,ntmps71;go_wp2;go_ret;exact⟨rfl,rfl⟩
theorem keepC {V V':World}{b r:Nat}{x5:Bool}{x6 x7 x8 x9 x10 x11:Int}(hb:Below V.heap.size V V')(h:V.cell? ⟨b,5,none⟩=some (.bool x5)∧V.cell? ⟨r,0,none⟩=some (.int i64 x6)∧V.cell? ⟨r,1,none⟩=some (.int i64 x7)∧V.cell? ⟨r,2,none⟩=some (.int i64 x8)∧V.cell? ⟨r,3,none⟩=some (.int i64 x9)∧V.cell? ⟨r,4,none⟩=some (.int i64 x10)∧V.cell? ⟨r,5,none⟩=some (.int i64 x11)):V'.cell? ⟨b,5,none⟩=some (.bool x5)∧V'.cell? ⟨r,0,none⟩=some (.int i64 x6)∧V'.cell? ⟨r,1,none⟩=some (.int i64 x7)∧V'.cell? ⟨r,2,none⟩=some (.int i64 x8)∧V'.cell? ⟨r,3,none⟩=some (.int i64 x9)∧V'.cell? ⟨r,4,none⟩=some (.int i64 x10)∧V'.cell? ⟨r,5,none⟩=some (.int i64 x11):=by
 obtain⟨h1,h2,h3,h4,h5,h6,h7⟩:=h;exact⟨cell_later hb h1,cell_later hb h2,cell_later hb h3,cell_later hb h4,cell_later hb h5,cell_later hb h6,cell_later hb h7⟩
theorem keepD {V V':World}{b r R:Nat}{x5:Bool}{x6 x7 x8 x9 x10 x11:Int}(hg:V.grownBy V' (some R))(hb:some b≠some R)(hr:some r≠some R)(h:V.cell? ⟨b,5,none⟩=some (.bool x5)∧V.cell? ⟨r,0,none⟩=some (.int i64 x6)∧V.cell? ⟨r,1,none⟩=some (.int i64 x7)∧V.cell? ⟨r,2,none⟩=some (.int i64 x8)∧V.cell? ⟨r,3,none⟩=some (.int i64 x9)∧V.cell? ⟨r,4,none⟩=some (.int i64 x10)∧V.cell? ⟨r,5,none⟩=some (.int i64 x11)):V'.cell? ⟨b,5,none⟩=some (.bool x5)∧V'.cell? ⟨r,0,none⟩=some (.int i64 x6)∧V'.cell? ⟨r,1,none⟩=some (.int i64 x7)∧V'.cell? ⟨r,2,none⟩=some (.int i64 x8)∧V'.cell? ⟨r,3,none⟩=some (.int i64 x9)∧V'.cell? ⟨r,4,none⟩=some (.int i64 x10)∧V'.cell? ⟨r,5,none⟩=some (.int i64 x11):=by
 obtain⟨h1,h2,h3,h4,h5,h6,h7⟩:=h;exact⟨hg.cell h1 hb,hg.cell h2 hr,hg.cell h3 hr,hg.cell h4 hr,hg.cell h5 hr,hg.cell h6 hr,hg.cell h7 hr⟩
theorem wenc_no (x0 x1 x2 x3 x4:Int)(x5:Bool)(x6 x7 x8 x9 x10 x11:Int)(w:World)(h:mgN ⟨x0,x1,x2,x3,⟨x4,x5,⟨x6,x7,x8,x9,x10,x11⟩⟩⟩≠0):
 Calls prog 56 #[.agg #[.int i64 x0,.int i64 x1,.int i64 x2,.int i64 x3,.int i64 x4,.bool x5,.int i64 x6,.int i64 x7,.int i64 x8,.int i64 x9,.int i64 x10,.int i64 x11]] w fun e w'=>e=.returned (.tuple #[.string (enT ⟨x0,x1,x2,x3,⟨x4,x5,⟨x6,x7,x8,x9,x10,x11⟩⟩⟩),noV (mgN ⟨x0,x1,x2,x3,⟨x4,x5,⟨x6,x7,x8,x9,x10,x11⟩⟩⟩)])∧Below w.heap.size w w':=by
 have HB0:Hid (Below w.heap.size w (w.alloc (.cells #[.int i64 x0,.int i64 x1,.int i64 x2,.int i64 x3,.int i64 x4,.bool x5,.int i64 x6,.int i64 x7,.int i64 x8,.int i64 x9,.int i64 x10,.int i64 x11] 50))):=(bRQ _ _).alloc (nLQ _) _;obtain⟨N,hN⟩:∃N,N=mgN ⟨x0,x1,x2,x3,⟨x4,x5,⟨x6,x7,x8,x9,x10,x11⟩⟩⟩:=⟨_,rfl⟩;have HN:Hid (mgN ⟨x0,x1,x2,x3,⟨x4,x5,⟨x6,x7,x8,x9,x10,x11⟩⟩⟩=N):=hN.symm;have e:enT ⟨x0,x1,x2,x3,⟨x4,x5,⟨x6,x7,x8,x9,x10,x11⟩⟩⟩=ByteArray.empty:=by rw[enT,if_neg h]
 rw[e,←hN];rw[←hN] at h;clear hN e;go_enter func56,ntmps56
 go_wp2_with fail
 refine (wcheck_any x0 x1 x2 x3 x4 x5 x6 x7 x8 x9 x10 x11 _).mono ?_;rintro e w1 ⟨rfl,hb1⟩;have HB1:Hid (Below w.heap.size w w1):=HB0.out.trans (hb1.mono HB0.out.size);rw[HN.out,no_ne h];clear hb1;go_wp2;refine bodyPost_ret (v:=.tuple #[.string ⟨#[]⟩,.iface 73 (.int i64 N)]) (by simp[results,results56,go_sem]) rfl ⟨by rw[no_ne h];rfl,HB1.out⟩
theorem wenc_yes (x0 x1 x2 x3 x4:Int)(x5:Bool)(x6 x7 x8 x9 x10 x11:Int)(w:World)(h:mgN ⟨x0,x1,x2,x3,⟨x4,x5,⟨x6,x7,x8,x9,x10,x11⟩⟩⟩=0):
 Calls prog 56 #[.agg #[.int i64 x0,.int i64 x1,.int i64 x2,.int i64 x3,.int i64 x4,.bool x5,.int i64 x6,.int i64 x7,.int i64 x8,.int i64 x9,.int i64 x10,.int i64 x11]] w fun e w'=>e=.returned (.tuple #[.string (enT ⟨x0,x1,x2,x3,⟨x4,x5,⟨x6,x7,x8,x9,x10,x11⟩⟩⟩),noV (mgN ⟨x0,x1,x2,x3,⟨x4,x5,⟨x6,x7,x8,x9,x10,x11⟩⟩⟩)])∧Below w.heap.size w w':=by
 have HB0:Hid (Below w.heap.size w (w.alloc (.cells #[.int i64 x0,.int i64 x1,.int i64 x2,.int i64 x3,.int i64 x4,.bool x5,.int i64 x6,.int i64 x7,.int i64 x8,.int i64 x9,.int i64 x10,.int i64 x11] 50))):=(bRQ _ _).alloc (nLQ _) _;have HC0:Hid (MgC (w.alloc (.cells #[.int i64 x0,.int i64 x1,.int i64 x2,.int i64 x3,.int i64 x4,.bool x5,.int i64 x6,.int i64 x7,.int i64 x8,.int i64 x9,.int i64 x10,.int i64 x11] 50)) w.heap.size x0 x1 x2 x3 x4 x5 x6 x7 x8 x9 x10 x11):=mgc_new w x0 x1 x2 x3 x4 x5 x6 x7 x8 x9 x10 x11 _;have HN:Hid (mgN ⟨x0,x1,x2,x3,⟨x4,x5,⟨x6,x7,x8,x9,x10,x11⟩⟩⟩=0):=h;have HBY:Hid (byL (mgL ⟨x0,x1,x2,x3,⟨x4,x5,⟨x6,x7,x8,x9,x10,x11⟩⟩⟩)∧(mgL ⟨x0,x1,x2,x3,⟨x4,x5,⟨x6,x7,x8,x9,x10,x11⟩⟩⟩).length≤11∧4≤(mgL ⟨x0,x1,x2,x3,⟨x4,x5,⟨x6,x7,x8,x9,x10,x11⟩⟩⟩).length):=mg_by h;have e:enT ⟨x0,x1,x2,x3,⟨x4,x5,⟨x6,x7,x8,x9,x10,x11⟩⟩⟩=nmT (mgL ⟨x0,x1,x2,x3,⟨x4,x5,⟨x6,x7,x8,x9,x10,x11⟩⟩⟩):=by rw[enT,if_pos h];rfl
 have e2:noV (mgN ⟨x0,x1,x2,x3,⟨x4,x5,⟨x6,x7,x8,x9,x10,x11⟩⟩⟩)=.nilIface:=no_ok h;rw[e,e2];clear e e2 h;obtain⟨j0,hj,hy0,hy1,hy2⟩:=info_parts infoNum;have HJ:Hid (Tryd.prog.info? 3=some j0∧j0.zero=some (.int i64 0)∧j0.size=1∧j0.bytes=8):=⟨hj,hy0,hy1,hy2⟩;obtain⟨i0,hi,hz0,hz1,hz2⟩:=info_parts infoByte;have HI:Hid (Tryd.prog.info? 5=some i0∧i0.zero=some (.int .u8 0)∧i0.size=1∧i0.bytes=1):=⟨hi,hz0,hz1,hz2⟩;clear hj hy0 hy1 hy2 hi hz0 hz1 hz2;have HL1:Hid (x0=1→mgL ⟨x0,x1,x2,x3,⟨x4,x5,⟨x6,x7,x8,x9,x10,x11⟩⟩⟩=[x0,x1,x2,x3]++[btN x5,x6,x7,x8,x9,x10,x11]):=fun h=>by rw[mgL,if_pos h]
 have HL2:Hid (x0≠1→mgL ⟨x0,x1,x2,x3,⟨x4,x5,⟨x6,x7,x8,x9,x10,x11⟩⟩⟩=[x0,x1,x2,x3]):=fun h=>by rw[mgL,if_neg h];rfl
 obtain⟨L,hL⟩:∃L,L=mgL ⟨x0,x1,x2,x3,⟨x4,x5,⟨x6,x7,x8,x9,x10,x11⟩⟩⟩:=⟨_,rfl⟩;rw[←hL] at HBY HL1 HL2 ⊢;clear hL;go_enter func56,ntmps56
 go_wp2_with fail
 refine (wcheck_any x0 x1 x2 x3 x4 x5 x6 x7 x8 x9 x10 x11 _).mono ?_;rintro e w1 ⟨rfl,hb1⟩;have HB1:Hid (Below w.heap.size w w1):=HB0.out.trans (hb1.mono HB0.out.size);obtain⟨c0,c1,c2,c3,c4,c5,c6,c7,c8,c9,c10,c11⟩:=HC0.out.later hb1;rw[HN.out,no_ok rfl];have hlt1:w.heap.size<w1.heap.size:=bLQ _ _ c0;clear hb1
 go_upto_if 27 with fail
 go_cut [5] from 25 (fun v w'=>∃(g n c:Nat),v=.slice (some ⟨g,0,none⟩) n c∧L.length=n∧GAt inE w' g 0 L∧Below w.heap.size w w')
 case first =>
  obtain⟨w2,hw2⟩:∃V,V=w1.alloc (.cells #[.int i64 x0,.int i64 x1,.int i64 x2,.int i64 x3] 3):=⟨_,rfl⟩;have HG2:Hid (GAt inE w2 w1.heap.size 0 [x0,x1,x2,x3]):=by rw[hw2];exact in_new w1 [x0,x1,x2,x3] 3 [.int i64 x0,.int i64 x1,.int i64 x2,.int i64 x3] rfl
  have HB2:Hid (Below w.heap.size w w2):=by rw[hw2];exact HB1.out.alloc HB1.out.size _
  have hb12:Below w1.heap.size w1 w2:=by rw[hw2];exact (bRQ _ _).alloc (nLQ _) _
  have hsz2:w2.heap.size=w1.heap.size+1:=by rw[hw2];simp
  have HS2:Hid (w2.heap.size=w1.heap.size+1):=hsz2;have HO2:Hid (w2.ownsRow w1.heap.size 3 inE.n (.slice (some ⟨w1.heap.size,0,none⟩) 4 4) [x0,x1,x2,x3].length (cellsG inE [x0,x1,x2,x3])):=by
   rw[hw2];exact World.ownsRow_lit (base:=w1.heap.size) (e:=3) (size:=1) w1 #[.int i64 x0,.int i64 x1,.int i64 x2,.int i64 x3] 4 (nLQ _) (by decide) rfl
  rw[←hw2];by_cases hk:x0=1
  ·have hL:=HL1.out hk;subst hk;have d0:=cell_later hb12 c0;have d5:=cell_later hb12 c5;have d6:=cell_later hb12 c6;have d7:=cell_later hb12 c7;have d8:=cell_later hb12 c8;have d9:=cell_later hb12 c9;have d10:=cell_later hb12 c10;have d11:=cell_later hb12 c11;have HLL:Hid (L=[1,x1,x2,x3]++[btN x5,x6,x7,x8,x9,x10,x11]):=hL;clear c0 c1 c2 c3 c4 c5 c6 c7 c8 c9 c10 c11 hL hw2 hb12 hsz2;go_upto_region 7 with fail;obtain⟨w3,hw3⟩:∃V,V=w2.alloc (.cells #[.int i64 x6,.int i64 x7,.int i64 x8,.int i64 x9,.int i64 x10,.int i64 x11] 41):=⟨_,rfl⟩;rw[←hw3];have hb23:Below w2.heap.size w2 w3:=by rw[hw3];exact (bRQ _ _).alloc (nLQ _) _
   have hS3:w3.heap.size=w2.heap.size+1:=by rw[hw3];simp
   have HS3:Hid (w3.heap.size=w2.heap.size+1):=hS3;have f0:w3.cell? ⟨w2.heap.size,0,none⟩=some (.int i64 x6):=by rw[hw3];simp
   have f1:w3.cell? ⟨w2.heap.size,1,none⟩=some (.int i64 x7):=by rw[hw3];simp
   have f2:w3.cell? ⟨w2.heap.size,2,none⟩=some (.int i64 x8):=by rw[hw3];simp
   have f3:w3.cell? ⟨w2.heap.size,3,none⟩=some (.int i64 x9):=by rw[hw3];simp
   have f4:w3.cell? ⟨w2.heap.size,4,none⟩=some (.int i64 x10):=by rw[hw3];simp
   have f5:w3.cell? ⟨w2.heap.size,5,none⟩=some (.int i64 x11):=by rw[hw3];simp
   have hd5:=cell_later hb23 d5;have HO3:Hid (∀V,Below w3.heap.size w3 V→V.ownsRow w1.heap.size 3 inE.n (.slice (some ⟨w1.heap.size,0,none⟩) 4 4) [1,x1,x2,x3].length (cellsG inE [1,x1,x2,x3])):=fun V hV=>own_below (own_below HO2.out hb23) hV
   have HB3:Hid (Below w.heap.size w w3):=HB2.out.trans (hb23.mono HB2.out.size);have hgl:w2.heap.size<w3.heap.size:=by omega
   have hgl2:w.heap.size<w3.heap.size:=by have:=HS2.out;omega
   have HK:Hid (∀V,Below w3.heap.size w3 V→V.cell? ⟨w.heap.size,5,none⟩=some (.bool x5)∧V.cell? ⟨w2.heap.size,0,none⟩=some (.int i64 x6)∧V.cell? ⟨w2.heap.size,1,none⟩=some (.int i64 x7)∧V.cell? ⟨w2.heap.size,2,none⟩=some (.int i64 x8)∧V.cell? ⟨w2.heap.size,3,none⟩=some (.int i64 x9)∧V.cell? ⟨w2.heap.size,4,none⟩=some (.int i64 x10)∧V.cell? ⟨w2.heap.size,5,none⟩=some (.int i64 x11)):=fun V hV=>⟨cell_later hV hd5,cell_later hV f0,cell_later hV f1,cell_later hV f2,cell_later hV f3,cell_later hV f4,cell_later hV f5⟩
   have HKR:Hid (w3.cell? ⟨w.heap.size,5,none⟩=some (.bool x5)∧w3.cell? ⟨w2.heap.size,0,none⟩=some (.int i64 x6)∧w3.cell? ⟨w2.heap.size,1,none⟩=some (.int i64 x7)∧w3.cell? ⟨w2.heap.size,2,none⟩=some (.int i64 x8)∧w3.cell? ⟨w2.heap.size,3,none⟩=some (.int i64 x9)∧w3.cell? ⟨w2.heap.size,4,none⟩=some (.int i64 x10)∧w3.cell? ⟨w2.heap.size,5,none⟩=some (.int i64 x11)):=HK.out w3 (bRQ _ _);have HNE:Hid (some w.heap.size≠some w1.heap.size∧some w2.heap.size≠some w1.heap.size):=by
    have:=HS2.out;exact⟨fun h=>by have:=Option.some.inj h;omega,fun h=>by have:=Option.some.inj h;omega⟩
   have HLN1:Hid ([1,x1,x2,x3].length+7≤maxLen):=by show _≤_;unfold maxLen;simp
   have HLN2:Hid (([1,x1,x2,x3].length+7)*8≤140737488355328):=by show _≤_;simp
   have HSZ:Hid (∀V,Below w3.heap.size w3 V→w1.heap.size≤V.heap.size):=fun V hV=>by have:=hV.size;have:=HS3.out;have:=HS2.out;omega
   have HFIN:Hid (∀V V2,Below w3.heap.size w3 V→V.grownBy V2 (some w1.heap.size)→Below w.heap.size w V2):=fun V V2 hV hg=>by
    have h1:Below w.heap.size w V:=HB3.out.trans (hV.mono HB3.out.size);exact h1.grown hg h1.size (fun k hk=>by cases hk;exact Nat.le_of_lt hlt1)
   clear hw3 hb23 d0 d5 d6 d7 d8 d9 d10 d11 hS3
   go_region_held3 (fun V=>V.cell? ⟨w.heap.size,5,none⟩=some (.bool x5)∧V.cell? ⟨w2.heap.size,0,none⟩=some (.int i64 x6)∧V.cell? ⟨w2.heap.size,1,none⟩=some (.int i64 x7)∧V.cell? ⟨w2.heap.size,2,none⟩=some (.int i64 x8)∧V.cell? ⟨w2.heap.size,3,none⟩=some (.int i64 x9)∧V.cell? ⟨w2.heap.size,4,none⟩=some (.int i64 x10)∧V.cell? ⟨w2.heap.size,5,none⟩=some (.int i64 x11))
    (first | assumption | exact HKR.out | exact keepC (Below.drew (bRQ _ _)) (by assumption) | exact keepC (Below.alloc (bRQ _ _) (nLQ _) _) (by assumption) | exact keepD (by assumption) HNE.out.1 HNE.out.2 (by assumption))
    (first
     | (go_at_call 71;refine (bit_same x5 _).mono ?_;rintro e w' ⟨rfl,hb⟩;have hb':=hb.symm;subst hb';clear hb)
     | (refine step_append_lst (E:=inE) _ (by rfl) _ _ 25 3 (by rfl) underlying25 j0 _ 8 HJ.out.1 HJ.out.2.1 HJ.out.2.2.1 HJ.out.2.2.2 rfl w1.heap.size (.slice (some ⟨w1.heap.size,0,none⟩) 4 4) (by rfl) [1,x1,x2,x3] (HO3.out _ (by first | exact (bRQ _ _).drew.alloc (nLQ _) _ | exact ((bRQ _ _).alloc (nLQ _) _).drew | exact (bRQ _ _).alloc (nLQ _) _)) _ 0 7 7 (by rfl) [btN x5,x6,x7,x8,x9,x10,x11] (by rfl) (in_new _ [btN x5,x6,x7,x8,x9,x10,x11] 3 [.int i64 (btN x5),.int i64 x6,.int i64 x7,.int i64 x8,.int i64 x9,.int i64 x10,.int i64 x11] rfl) HLN1.out HLN2.out (HSZ.out _ (by first | exact (bRQ _ _).drew.alloc (nLQ _) _ | exact ((bRQ _ _).alloc (nLQ _) _).drew | exact (bRQ _ _).alloc (nLQ _) _)) ?_;intro v' w5 ho5 hg5;have HBF:Hid (Below w.heap.size w w5):=HFIN.out _ _ (by first | exact (bRQ _ _).drew.alloc (nLQ _) _ | exact ((bRQ _ _).alloc (nLQ _) _).drew | exact (bRQ _ _).alloc (nLQ _) _) hg5))
   obtain⟨gv,cv,hv'⟩:∃g c,v'=.slice (some ⟨g,0,none⟩) 11 c:=by
    rcases ho5.2 with ⟨_,h0⟩ | ⟨g,cap,cur,h1,_⟩
    ·cases h0
    exact⟨g,cap,h1⟩
   subst hv';have HG5:Hid (GS inE w5 (.slice (some ⟨gv,0,none⟩) 11 cv) ([1,x1,x2,x3]++[btN x5,x6,x7,x8,x9,x10,x11])):=own_GS ho5;clear ho5 hg5
   go_wp2_with fail
   go_meet
   refine⟨gv,11,cv,rfl,by rw[HLL.out];rfl,?_,HBF.out⟩;rw[HLL.out]
   rcases HG5.out with ⟨_,_,_,h⟩ | ⟨g,o,cap,h,_,_,h4⟩
   ·cases h
   cases h;exact h4
  have hL:=HL2.out hk;have k1:(x0==1)=false:=by simpa using hk
  have d0:=cell_later hb12 c0;clear c0 c1 c2 c3 c4 c5 c6 c7 c8 c9 c10 c11 hw2 hb12 hsz2
  go_wp2_with fail
  go_meet
  exact⟨w1.heap.size,4,4,rfl,by rw[hL];rfl,by rw[hL];exact HG2.out,HB2.out⟩
 case rest =>
  obtain⟨g,n,c,rfl,hn,hG,hB8⟩:=hcut;obtain⟨w8,hw8⟩:∃V,V=wc:=⟨_,rfl⟩;subst hw8;clear HC0 HB0 HB1 HL1 HL2 hlt1 c0 c1 c2 c3 c4 c5 c6 c7 c8 c9 c10 c11;have HB8:Hid (Below w.heap.size w w8):=hB8;have HGA:Hid (GAt inE w8 g 0 L):=hG;have HLN:Hid (L.length=n):=hn;have hn11:n≤11:=by have:=HBY.out.2.1;omega
  have hn4:4≤n:=by have:=HBY.out.2.2;omega
  clear hB8 hG hn;obtain⟨w9,hmk,hown0,hgr⟩:=run_make_own (P:=prog) w8 w8.heap.size 141 5 i0 (.int .u8 0) 1 underlying141 HI.out.1 HI.out.2.1 HI.out.2.2.1 .i64 .i64 12 (by rw[HI.out.2.2.2];decide) (by decide) (nLQ _);have hmk2:(Instr.makeSlice 141 (.int i64 0) (.int i64 12)).run prog w8=.ok (.slice (some ⟨w8.heap.size,0,none⟩) 0 12) w9:=hmk;have HO9:Hid (w9.ownsRow w8.heap.size 5 u8E.n (.slice (some ⟨w8.heap.size,0,none⟩) 0 12) (L.take 0).length (cellsG u8E (L.take 0))):=hown0;have HB9:Hid (Below w8.heap.size w8 w9):=below_grown hgr (nLQ _) (fun k hk=>by cases hk);clear hmk hown0 hgr;go_wp2
  go_loopw [7,8,55] (fun v sm ix wr=>∃k:Nat,k≤n∧ix=.int i64 (k:Int)∧sm=.int i64 (smL (L.take k))∧wr.ownsRow w8.heap.size 5 u8E.n v (L.take k).length (cellsG u8E (L.take k))∧Below w8.heap.size w8 wr) (fun _ _ ix _=>n-(intOf ix).toNat)
  case atStart=>exact⟨0,Nat.zero_le _,rfl,rfl,HO9.out,HB9.out⟩
  case round =>
   obtain⟨k,hk,rfl,rfl,hown,hB⟩:=hrel;obtain⟨T,hT⟩:∃T,T=L.take k:=⟨_,rfl⟩;have HT:Hid (L.take k=T):=hT.symm;have HOW:Hid (wr.ownsRow w8.heap.size 5 u8E.n u7 T.length (cellsG u8E T)):=by rw[hT];exact hown
   have HBR:Hid (Below w8.heap.size w8 wr):=hB;have hsz:w8.heap.size≤wr.heap.size:=hB.size;have HSB:Hid (0≤smL (L.take k)∧smL (L.take k)≤2200):=by
    have h1:=by_sum (by_take HBY.out.1 k);have h2:(L.take k).length≤11:=by simp;omega
    exact⟨h1.1,by omega⟩
   obtain⟨S,hS⟩:∃S,S=smL (L.take k):=⟨_,rfl⟩;have HS:Hid (smL (L.take k)=S):=hS.symm;rw[←hS] at HSB ⊢;have HLT:Hid (T.length≤11):=by show _≤_;rw[hT];simp;omega
   clear hown hS hT;by_cases hlt:k<n
   ·obtain⟨x,hkl,hx,q0⟩:=in_at (HGA.out.later hB) HLN.out hlt;rw[Nat.zero_add] at q0;have hxb:=HBY.out.1 L[k] (List.getElem_mem hkl);rw[hx] at hxb;have hu:=u8_wrap hxb;have HS2:Hid (smL (L.take (k+1))=S+x):=by show _=_;rw[sm_take hkl,hx,HS.out]
    have HT2:Hid (L.take (k+1)=T++[x]):=by show _=_;rw[take_g hkl,hx,HT.out]
    have hSw:IntKind.i64.wrap (S+x)=S+x:=by have:=HSB.out;rw[IntKind.wrap_i64];omega
    have hk0:(0:Int)≤(k:Int):=by omega
    have hk1:(k:Int)<(n:Int):=by omega
    clear hB hkl hx hxb
    go_wp2_with (at_builtin;refine wpList_append_blk (E:=u8E) _ rfl _ _ 141 5 rfl underlying141 i0 _ 1 HI.out.1 HI.out.2.1 HI.out.2.2.1 HI.out.2.2.2 rfl w8.heap.size _ rfl T (HOW.out.alloc _) wr.heap.size 0 1 rfl x (vat_new wr [.int .u8 x] _) ?c1 ?c2 ?c3 ?_)
    case c1=>have:=HLT.out;unfold maxLen;omega
    case c2=>have:=HLT.out;omega
    case c3=>first | (simp;omega) | omega
    intro v' w3 hown3 hgrow _;have HB3:Hid (Below w8.heap.size w8 w3):=(HBR.out.alloc hsz _).grown hgrow (by simp;omega) (fun g hg=>(HOW.out.lt g hg).1);have HO3:Hid (w3.ownsRow w8.heap.size 5 u8E.n v' (L.take (k+1)).length (cellsG u8E (L.take (k+1)))):=by
     show w3.ownsRow w8.heap.size 5 u8E.n v' (L.take (k+1)).length (cellsG u8E (L.take (k+1)));rw[HT2.out,List.length_append];exact hown3
    clear hgrow hown3;go_wp2;go_roundw
    case rel=>exact⟨k+1,by omega,by go_num,by rw[HS2.out],HO3.out,HB3.out⟩
    case measure=>simp[intOf];omega
   have hkn:k=n:=by omega
   have HLE:Hid (T=L):=by show _=_;rw[←HT.out,hkn,←HLN.out];exact List.take_length
   have HRR:Hid (∃R,R=smL L % 251∧S.tmod 251=R∧IntKind.i64.wrap R=R∧IntKind.u8.wrap R=R):=by
    have h1:=HSB.out;have h2:smL L=S:=by rw[←HS.out,HT.out,HLE.out]
    refine⟨smL L % 251,rfl,?_,?_,?_⟩
    ·rw[h2,Int.tmod_eq_emod_of_nonneg h1.1]
    ·rw[IntKind.wrap_i64];omega
    rw[IntKind.wrap_u8];omega
   obtain⟨R,hR,hR1,hR2,hR3⟩:=HRR.out;clear HRR;have HRR:Hid (nmT L=strOfNums (L++[R])):=by show _=_;rw[nmT,hR]
   have hk1:¬(k:Int)<(n:Int):=by omega
   clear hR hB hkn
   go_wp2_with (at_builtin;refine wpList_append_blk (E:=u8E) _ rfl _ _ 141 5 rfl underlying141 i0 _ 1 HI.out.1 HI.out.2.1 HI.out.2.2.1 HI.out.2.2.2 rfl w8.heap.size _ rfl T (HOW.out.alloc _) wr.heap.size 0 1 rfl R (vat_new wr [.int .u8 R] _) ?c1 ?c2 ?c3 ?_)
   case c1=>have:=HLT.out;unfold maxLen;omega
   case c2=>have:=HLT.out;omega
   case c3=>first | (simp;omega) | omega
   intro v' w3 hown3 hgrow _;have HB3:Hid (Below w8.heap.size w8 w3):=(HBR.out.alloc hsz _).grown hgrow (by simp;omega) (fun g hg=>(HOW.out.lt g hg).1);have HBF:Hid (Below w.heap.size w w3):=HB8.out.trans (HB3.out.mono HB8.out.size);rw[HLE.out] at hown3;have hown4:w3.ownsRow w8.heap.size 5 u8E.n v' (L++[R]).length (cellsG u8E (L++[R])):=by rw[List.length_append];exact hown3
   obtain⟨n9,hn9⟩:∃n9,(L++[R]).length=n9:=⟨_,rfl⟩;obtain⟨gv,cv,rfl,hcv⟩:=conv_own hown4 hn9 (by rw[←hn9];simp);clear hn9;clear hown4;clear hgrow hown3;go_wp2;refine bodyPost_ret (v:=.tuple #[.string (strOfNums (L++[R])),.nilIface]) (by simp[results,results56,go_sem]) rfl ⟨by rw[HRR.out],HBF.out⟩
theorem ptable_any {p B0:Nat}{O:Nat→Prop}{N:Int}{a:AgT}(w:World)(h:Pg w p B0 O N a)(ht:a.t.length≤1000):
 Calls prog 11 #[.pointer (some ⟨p,0,none⟩)] w fun e w'=>∃a1 n1 c1,e=.returned (.slice a1 n1 c1)∧SR w' (.slice a1 n1 c1) a.t∧Below w.heap.size w w':=by
 obtain⟨⟨ao,n,c⟩,pt,mp,vd,h,_,_⟩:=h;have c1:w.cell? ⟨p,1,none⟩=some (.slice ao n c):=h.c1;have hs:SR w (.slice ao n c) a.t:=h.t;have hpl:=h.pl;have hp:=pat1 23 hs;have HP:Hid (PAt (w.alloc (.cells #[.slice ao n c] 23)) w.heap.size 0 [a.t]):=hp;have HB0:Hid (Below w.heap.size w (w.alloc (.cells #[.slice ao n c] 23))):=(bRQ _ _).alloc (nLQ _) _;have HL:Hid ([a.t].flatten.length≤1000):=by show _≤1000;simpa using ht
 obtain⟨t,hte⟩:∃t,t=a.t:=⟨_,rfl⟩;rw[←hte] at HP HL ⊢;clear h hs hp ht hte;go_enter func11,ntmps11
 go_wp2_with fail
 refine (concat_any _ 0 1 1 [t] _ rfl (by omega) HP.out HL.out).mono ?_;rintro e w1 ⟨u,rfl,hown,hb1⟩;have hsr:=own_SR hown;have e1:[t].flatten=t:=by simp
 rw[e1] at hsr;obtain⟨ao3,n3,cap3,rfl,_⟩:=hsr.form;have HS1:Hid (SR w1 (.slice ao3 n3 cap3) t):=hsr;have HB1:Hid (Below w.heap.size w w1):=HB0.out.trans (hb1.mono HB0.out.size);clear hown hb1 hsr HP HL e1;go_wp2;go_ret;exact⟨_,_,_,rfl,HS1.out,HB1.out⟩
theorem in_pt1 {W:World}{a1:AdQ}{n1 c1:Nat}{L1:List Int}(t:TypeId)(h1:GS inE W (.slice a1 n1 c1) L1):inPt (W.alloc (.cells #[.slice a1 n1 c1] t)) W.heap.size 0 [L1]:=by
 have hb:Below W.heap.size W (W.alloc (.cells #[.slice a1 n1 c1] t)):=(bRQ _ _).alloc (nLQ _) _;intro i hi
 match i,hi with
 | 0,_=>exact⟨a1,n1,c1,by simp,h1.later hb⟩
theorem pdone_any {p B0:Nat}{O:Nat→Prop}{N:Int}{a:AgT}(w:World)(h:Pg w p B0 O N a)(hd:a.d.length≤1000):
 Calls prog 16 #[.pointer (some ⟨p,0,none⟩)] w fun e w'=>∃a1 n1 c1,e=.returned (.slice a1 n1 c1)∧GS inE w' (.slice a1 n1 c1) a.d∧Below w.heap.size w w':=by
 obtain⟨x,pt,mp,vd,h,_,_⟩:=h;obtain⟨ao,c,e0⟩:=own_form h.d;have hs:GS inE w vd a.d:=own_GS h.d;have c1:=h.cd;rw[e0] at hs c1;obtain⟨n,hn⟩:∃n,n=a.d.length:=⟨_,rfl⟩;rw[←hn] at hs c1;have hpl:=h.pl;have hp:=in_pt1 25 hs;have HP:Hid (inPt (w.alloc (.cells #[.slice ao n c] 25)) w.heap.size 0 [a.d]):=hp;have HB0:Hid (Below w.heap.size w (w.alloc (.cells #[.slice ao n c] 25))):=(bRQ _ _).alloc (nLQ _) _;have HL:Hid ([a.d].flatten.length≤1000):=by show _≤1000;simpa using hd
 obtain⟨t,hte⟩:∃t,t=a.d:=⟨_,rfl⟩;rw[←hte] at HP HL ⊢;clear h hs hp hd hte e0 hn;go_enter func16,ntmps16
 go_wp2_with fail
 refine (in_concat _ 0 1 1 [t] _ rfl (by omega) HP.out HL.out).mono ?_;rintro e w1 ⟨u,rfl,hown,hb1⟩;have e1:[t].flatten=t:=by simp
 rw[e1] at hown;obtain⟨ao3,cap3,rfl⟩:=own_form hown;have HS1:Hid (GS inE w1 (.slice ao3 t.length cap3) t):=own_GS (E:=inE) hown;have HB1:Hid (Below w.heap.size w w1):=HB0.out.trans (hb1.mono HB0.out.size);clear hown hb1 HP HL e1;obtain⟨n3,hn3⟩:∃n3,n3=t.length:=⟨_,rfl⟩;rw[←hn3] at HS1 ⊢;clear hn3;go_wp2;go_ret;exact⟨_,_,_,rfl,HS1.out,HB1.out⟩
theorem pyes_any {p:Nat}{N:Int}(r:Int)(w:World)(h:w.cell? ⟨p,0,none⟩=some (.int i64 N)):
 Calls prog 31 #[.pointer (some ⟨p,0,none⟩),.int i64 r] w fun e w'=>e=.returned (.slice (some ⟨w.heap.size,0,none⟩) 1 1)∧w'=w.alloc (.cells #[.int i64 3,.int i64 N,.int i64 r,.int i64 0,.int i64 0,.bool false,.int i64 0,.int i64 0,.int i64 0,.int i64 0,.int i64 0,.int i64 0] 50):=by
 go_enter func31,ntmps31;go_wp2;go_ret;exact⟨rfl,rfl⟩
theorem wenc_any (x0 x1 x2 x3 x4:Int)(x5:Bool)(x6 x7 x8 x9 x10 x11:Int)(w:World):
 Calls prog 56 #[.agg #[.int i64 x0,.int i64 x1,.int i64 x2,.int i64 x3,.int i64 x4,.bool x5,.int i64 x6,.int i64 x7,.int i64 x8,.int i64 x9,.int i64 x10,.int i64 x11]] w fun e w'=>e=.returned (.tuple #[.string (enT ⟨x0,x1,x2,x3,⟨x4,x5,⟨x6,x7,x8,x9,x10,x11⟩⟩⟩),noV (mgN ⟨x0,x1,x2,x3,⟨x4,x5,⟨x6,x7,x8,x9,x10,x11⟩⟩⟩)])∧Below w.heap.size w w':=by
 by_cases h:mgN ⟨x0,x1,x2,x3,⟨x4,x5,⟨x6,x7,x8,x9,x10,x11⟩⟩⟩=0
 ·exact wenc_yes x0 x1 x2 x3 x4 x5 x6 x7 x8 x9 x10 x11 w h
 exact wenc_no x0 x1 x2 x3 x4 x5 x6 x7 x8 x9 x10 x11 w h
theorem pcheck_any {p:Nat}{N:Int}(x0 x1 x2 x3 x4:Int)(x5:Bool)(x6 x7 x8 x9 x10 x11:Int)(w:World)(h:w.cell? ⟨p,0,none⟩=some (.int i64 N)):
 Calls prog 30 #[.pointer (some ⟨p,0,none⟩),.agg #[.int i64 x0,.int i64 x1,.int i64 x2,.int i64 x3,.int i64 x4,.bool x5,.int i64 x6,.int i64 x7,.int i64 x8,.int i64 x9,.int i64 x10,.int i64 x11]] w fun e w'=>e=.returned (noV (hrN N ⟨x0,x1,x2,x3,⟨x4,x5,⟨x6,x7,x8,x9,x10,x11⟩⟩⟩))∧Below w.heap.size w w':=by
 have HB0:Hid (Below w.heap.size w (w.alloc (.cells #[.int i64 x0,.int i64 x1,.int i64 x2,.int i64 x3,.int i64 x4,.bool x5,.int i64 x6,.int i64 x7,.int i64 x8,.int i64 x9,.int i64 x10,.int i64 x11] 50))):=(bRQ _ _).alloc (nLQ _) _;have HC:Hid (w.cell? ⟨p,0,none⟩=some (.int i64 N)):=h;have HM0:Hid ((w.alloc (.cells #[.int i64 x0,.int i64 x1,.int i64 x2,.int i64 x3,.int i64 x4,.bool x5,.int i64 x6,.int i64 x7,.int i64 x8,.int i64 x9,.int i64 x10,.int i64 x11] 50)).cell? ⟨w.heap.size,0,none⟩=some (.int i64 x0)∧(w.alloc (.cells #[.int i64 x0,.int i64 x1,.int i64 x2,.int i64 x3,.int i64 x4,.bool x5,.int i64 x6,.int i64 x7,.int i64 x8,.int i64 x9,.int i64 x10,.int i64 x11] 50)).cell? ⟨w.heap.size,1,none⟩=some (.int i64 x1)):=by constructor <;> simp
 obtain⟨Z,hZ⟩:∃Z,Z=mgN ⟨x0,x1,x2,x3,⟨x4,x5,⟨x6,x7,x8,x9,x10,x11⟩⟩⟩:=⟨_,rfl⟩;have HZ:Hid (Z=mgN ⟨x0,x1,x2,x3,⟨x4,x5,⟨x6,x7,x8,x9,x10,x11⟩⟩⟩):=hZ;have HH:Hid (hrN N ⟨x0,x1,x2,x3,⟨x4,x5,⟨x6,x7,x8,x9,x10,x11⟩⟩⟩=if Z=0 then (if x1=N then (if x0=3 then 6 else 0) else 5) else Z):=by rw[hZ];rfl
 obtain⟨H,hH⟩:∃H,H=hrN N ⟨x0,x1,x2,x3,⟨x4,x5,⟨x6,x7,x8,x9,x10,x11⟩⟩⟩:=⟨_,rfl⟩;rw[←hH] at HH ⊢;obtain⟨T,hT⟩:∃T,T=enT ⟨x0,x1,x2,x3,⟨x4,x5,⟨x6,x7,x8,x9,x10,x11⟩⟩⟩:=⟨_,rfl⟩;have HT:Hid (T=enT ⟨x0,x1,x2,x3,⟨x4,x5,⟨x6,x7,x8,x9,x10,x11⟩⟩⟩):=hT;clear h hZ hH hT;go_enter func30,ntmps30
 go_wp2_with fail
 refine (wenc_any x0 x1 x2 x3 x4 x5 x6 x7 x8 x9 x10 x11 _).mono ?_;rintro e w1 ⟨rfl,hb1⟩;rw[←HZ.out,←HT.out];have m0:=cell_later hb1 HM0.out.1;have m1:=cell_later hb1 HM0.out.2;have HB1:Hid (Below w.heap.size w w1):=HB0.out.trans (hb1.mono HB0.out.size);have c0:=cell_later HB1.out HC.out;clear hb1 HM0 HC HT HZ;by_cases hz:Z=0
 ·subst hz;rw[no_ok rfl];obtain⟨B1,hB1⟩:∃B1:Bool,B1=(x1 != N):=⟨_,rfl⟩;have HBN:Hid ((x1 != N)=B1):=hB1.symm;clear hB1;go_upto_region 4 with fail
  go_cut [21] from 15 to 20 (fun q w'=>q=.bool B1∧Below w1.heap.size w1 w')
  case first =>
   clear HB1 HH
   go_region
   all_goals (go_wp2_with fail;go_meet)
   all_goals exact⟨by rw[HBN.out],Below.drew (bRQ _ _)⟩
  case rest =>
   obtain⟨rfl,hbc⟩:=hcut;have m2:=cell_later hbc m0;have HB2:Hid (Below w.heap.size w wc):=HB1.out.trans (hbc.mono HB1.out.size);clear m0 m1 c0 hbc;cases B1 with
   | false =>
     have hN:x1=N:=by have:=HBN.out;simpa using this
     by_cases h3:x0=3
     ·have HN:Hid (H=6):=by show _=_;rw[HH.out];simp[hN,h3]
      subst h3;clear hN HBN HH;go_wp2;go_ret;exact⟨by rw[HN.out];rfl,HB2.out⟩
     have HN:Hid (H=0):=by show _=_;rw[HH.out];simp[hN,h3]
     have h3b:(x0==3)=false:=by simpa using h3
     clear hN HBN HH;go_wp2;go_ret;exact⟨by rw[HN.out];rfl,HB2.out⟩
   | true =>
     have hN:x1≠N:=by have:=HBN.out;simpa using this
     have HN:Hid (H=5):=by show _=_;rw[HH.out];simp[hN]
     clear hN HBN HH;go_wp2;go_ret;exact⟨by rw[HN.out];rfl,HB2.out⟩
 have HN:Hid (H=Z):=by show _=_;rw[HH.out,if_neg hz]
 rw[no_ne hz];go_wp2;go_ret;exact⟨by rw[HN.out,no_ne hz];rfl,HB1.out⟩
def askS (a:AgT)(r:Nat)(i:Int):AgT:=if manyK a (r:Int)<0 then { a with m:=a.m.set r i } else a
def keepS (a:AgT)(r:Nat)(i:Int)(o:Op8):AgT:=if hasK a.l (r:Int) i=true then a else { a with l:=a.l++[⟨(r:Int),i,o⟩] }
theorem many_other {a:AgT}{r s:Nat}{i:Int}(h:s≠r):manyK { a with m:=a.m.set r i } (s:Int)=manyK a (s:Int):=by
 simp only[manyK,Int.toNat_natCast,List.getD_eq_getElem?_getD];rw[List.getElem?_set_ne (Ne.symm h)]
theorem ptm_ask {a:AgT}{r:Nat}{i:Int}{pt:Nat→Pt}{mp:Nat→List (Int×Op8)}(h:∀s,s<20→PtM a s (pt s) (mp s))(hr:r<20)(hm:a.m.length=20)(hi:0≤i∧i≤1000)(s:Nat)(hs:s<20):
 PtM { a with m:=a.m.set r i } s (updF pt r ⟨(pt r).m,(pt r).h,true,i,(pt r).d⟩ s) (updF mp r (mp r) s):=by
 have g:=h s hs;by_cases e:s=r
 ·subst e;have hy:manyK { a with m:=a.m.set s i } (s:Int)=i:=by
   have:=many_set (a:=a) (r:=(s:Int)) (i:=i) (by omega) (by omega);simp only[Int.toNat_natCast] at this;simp only[manyK,Int.toNat_natCast];exact this
  rw[upd_same,upd_same];exact⟨g.hh,g.hd,by rw[hy];simp[hi.1],fun _=>hy.symm,hi.2,g.hk⟩
 rw[upd_other _ _ e,upd_other _ _ e];exact⟨g.hh,g.hd,by rw[many_other e];exact g.ha,by rw[many_other e];exact g.hs,g.hl,g.hk⟩
theorem hd_app (l:List Kp)(x:Kp)(r:Int):hdN (l++[x]) r=hdN l r+if x.r=r then 1 else 0:=by
 rw[hdN,hdN,List.countP_append,List.countP_singleton];by_cases h:x.r=r
 ·rw[if_pos h,if_pos (by simpa using h)]
 rw[if_neg h,if_neg (by simpa using h)]
theorem ptm_keep {a:AgT}{r:Nat}{i:Int}{o:Op8}{pt:Nat→Pt}{mp:Nat→List (Int×Op8)}{m:Option Nat}(h:∀s,s<20→PtM a s (pt s) (mp s))(hr:r<20)(hn:hasK a.l (r:Int) i=false)(hd:(pt r).d=false)(s:Nat)(hs:s<20):
 PtM { a with l:=a.l++[⟨(r:Int),i,o⟩] } s (updF pt r ⟨m,(pt r).h+1,(pt r).a,(pt r).s,(pt r).d⟩ s) (updF mp r (mput qI i o (mp r)) s):=by
 have g:=h s hs;have hk:∀j,keptO (a.l++[⟨(r:Int),i,o⟩]) (s:Int) j=if (s:Int)=(r:Int)∧j=i then some o else keptO a.l (s:Int) j:=fun j=>kept_new hn _ _
 by_cases e:s=r
 ·subst e;rw[upd_same,upd_same];refine⟨?_,g.hd,g.ha,g.hs,g.hl,fun hd j=>?_⟩
  ·rw[hd_app,if_pos rfl];show (pt s).h+1=_;rw[g.hh];omega
  rw[hk j,mget_put qI_iff];by_cases e2:j=i
  ·subst e2;rw[if_pos ((qI_iff j j).2 rfl),if_pos ⟨rfl,rfl⟩]
  rw[if_neg (fun h=>e2 ((qI_iff j i).1 h)),if_neg (fun h=>e2 h.2)];exact g.hk hd j
 have e3:¬(s:Int)=(r:Int):=by omega
 rw[upd_other _ _ e,upd_other _ _ e];refine⟨?_,g.hd,g.ha,g.hs,g.hl,fun hd j=>?_⟩
 ·rw[hd_app,if_neg (fun h=>e3 h.symm)];exact g.hh
 rw[hk j,if_neg (fun h=>e3 h.1)];exact g.hk hd j
theorem pask_any {p B0:Nat}{O:Nat→Prop}{N:Int}{a:AgT}(r:Nat)(i:Int)(w:World)(h:Pg w p B0 O N a)(hr:r<20)(hm:a.m.length=20)(hi:0≤i∧i≤1000):
 Calls prog 32 #[.pointer (some ⟨p,2+r*5,none⟩),.int i64 i] w fun e w'=>e=.returned (.tuple #[])∧Pg w' p B0 O N (askS a r i)∧Kb (fun b=>¬O b) w w'∧w'.heap.size=w.heap.size:=by
 obtain⟨x,pt,mp,vd,h,h2,h3⟩:=h;have q:=h.pc r hr;have g:=h2 r hr;obtain⟨o,ho⟩:∃o,o=2+r*5:=⟨_,rfl⟩;obtain⟨q0,q1,q2,q3,q4⟩:=q;rw[←ho] at q2 q3;have f2:=h.f (o+2);have f3:=h.f (o+3);have HH:Hid (PgC w p B0 O N a.t a.d x pt mp vd):=h;have H2:Hid (∀r,r<20→PtM a r (pt r) (mp r)):=h2;have H3:Hid (∀q∈a.l,0≤q.r∧q.r<20):=h3;have hpl:=h.pl;cases hak:(pt r).a with
 | true =>
   rw[hak] at q2;have HA:Hid (askS a r i=a):=by
    have h5:=g.ha;rw[hak] at h5;exact if_neg (by simpa using h5.symm)
   rw[←ho];clear h h2 h3 g q0 q1 q3 q4 hak ho hi hm;go_enter func32,ntmps32;go_wp2;refine bodyPost_end (v:=.tuple #[]) (by simp[results,results32,go_sem]) rfl ?_;exact⟨rfl,by rw[HA.out];exact⟨x,pt,mp,vd,HH.out,H2.out,H3.out⟩,Kb.refl _ _,rfl⟩
 | false =>
   rw[hak] at q2;have HA:Hid (askS a r i={ a with m:=a.m.set r i }):=by
    have h5:=g.ha;rw[hak] at h5;exact if_pos (by simpa using h5.symm)
   have HF:Hid (Pg ((w.setCell ⟨p,o+2,none⟩ (.bool true)).setCell ⟨p,o+3,none⟩ (.int i64 i)) p B0 O N { a with m:=a.m.set r i }∧Kb (fun b=>¬O b) w ((w.setCell ⟨p,o+2,none⟩ (.bool true)).setCell ⟨p,o+3,none⟩ (.int i64 i))):=by
    subst ho;have hp:=h.pc r hr;have h4:=h.poke hr (j:=2) (by omega) (v:=.bool true) (q:={ pt r with a:=true }) (M:=mp r) ⟨cell_off hp.c0 (by omega) _,cell_off hp.c1 (by omega) _,World.cell?_setCell_same _ _ _ hp.c2,cell_off hp.c3 (by omega) _,cell_off hp.c4 (by omega) _⟩ (.inl ⟨rfl,rfl⟩);have hp2:=h4.pc r hr;have h5:=h4.poke hr (j:=3) (by omega) (v:=.int i64 i) (q:=⟨(pt r).m,(pt r).h,true,i,(pt r).d⟩) (M:=mp r) (by
     rw[upd_same] at hp2;exact⟨cell_off hp2.c0 (by omega) _,cell_off hp2.c1 (by omega) _,cell_off hp2.c2 (by omega) _,World.cell?_setCell_same _ _ _ hp2.c3,cell_off hp2.c4 (by omega) _⟩) (.inl ⟨by rw[upd_same],by rw[upd_same]⟩)
    refine⟨⟨x,_,_,vd,h5,fun s hs=>?_,h3⟩,((Kb.refl _ w).setCell (q:=⟨p,2+r*5+2,none⟩) (fun _ h6=>h6 h.pO) _).setCell (q:=⟨p,2+r*5+3,none⟩) (fun _ h6=>h6 h.pO) _⟩;have h6:=ptm_ask h2 hr hm hi s hs;by_cases e:s=r
    ·subst e;rw[upd_same,upd_same] at h6 ⊢;exact h6
    rw[upd_other _ _ e,upd_other _ _ e] at h6 ⊢;rw[upd_other _ _ e,upd_other _ _ e];exact h6
   rw[←ho];clear h h2 h3 g q0 q1 q4 hak ho hi hm;go_enter func32,ntmps32;go_wp2;refine bodyPost_end (v:=.tuple #[]) (by simp[results,results32,go_sem]) rfl ?_;exact⟨rfl,by rw[HA.out];exact HF.out.1,HF.out.2,by simp[World.setCell]⟩
theorem pkeep_any {p B0:Nat}{O:Nat→Prop}{N:Int}{a:AgT}(r:Nat)(i y0:Int)(y1:Bool)(y2 y3 y4 y5 y6 y7:Int)(w:World)(h:Pg w p B0 O N a)(hr:r<20)(hd:doneK a (r:Int)=false)(hl:a.l.length≤100000):
 Calls prog 33 #[.pointer (some ⟨p,2+r*5,none⟩),.int i64 i,.agg #[.int i64 y0,.bool y1,.int i64 y2,.int i64 y3,.int i64 y4,.int i64 y5,.int i64 y6,.int i64 y7]] w fun e w'=>e=.returned (.tuple #[]) ∧
  ∃O',Pg w' p B0 O' N (keepS a r i ⟨y0,y1,⟨y2,y3,y4,y5,y6,y7⟩⟩)∧(∀b,O' b→O b∨w.heap.size≤b)∧Kb (fun b=>¬O b) w w':=by
 obtain⟨x,pt,mp,vd,h,h2,h3⟩:=h;obtain⟨o,ho⟩:∃o,o=2+r*5:=⟨_,rfl⟩;have HO:Hid (o=2+r*5):=ho;have HH:Hid (PgC w p B0 O N a.t a.d x pt mp vd):=h;have H2:Hid (∀r,r<20→PtM a r (pt r) (mp r)):=h2;have H3:Hid (∀q∈a.l,0≤q.r∧q.r<20):=h3;have HR:Hid (r<20):=hr;have hpl:=h.pl;obtain⟨B,hB⟩:∃B,B=hasK a.l (r:Int) i:=⟨_,rfl⟩;have HBB:Hid (B=hasK a.l (r:Int) i):=hB;have HPD:Hid ((pt r).d=false):=by rw[(h2 r hr).hd];exact hd
 obtain⟨z,hz⟩:∃z,z=(mget qI i (mp r)).getD zeP:=⟨_,rfl⟩;have hb1:Below w.heap.size w (w.alloc (.cells #[.int i64 y0,.bool y1,.int i64 y2,.int i64 y3,.int i64 y4,.int i64 y5,.int i64 y6,.int i64 y7] 43)):=(bRQ _ _).alloc (nLQ _) _;have HB1:Hid (Below w.heap.size w (w.alloc (.cells #[.int i64 y0,.bool y1,.int i64 y2,.int i64 y3,.int i64 y4,.int i64 y5,.int i64 y6,.int i64 y7] 43))):=hb1;have hlk:=((h.later hb1).pm r hr).look i;rw[←hz,(h2 r hr).hk (by rw[(h2 r hr).hd];exact hd) i,kept_has,←hB] at hlk;obtain⟨m,hm⟩:∃m,m=(pt r).m:=⟨_,rfl⟩;have HM:Hid ((pt r).m=m):=hm.symm;rw[←hm] at hlk;have q0:=(h.pc r hr).c0;rw[←ho,←hm] at q0;obtain⟨z0,z1,⟨z2,z3,z4,z5,z6,z7⟩⟩:=z;have hlk2:(Instr.lookup 76 (.map m) (.int i64 i) true).run prog (w.alloc (.cells #[.int i64 y0,.bool y1,.int i64 y2,.int i64 y3,.int i64 y4,.int i64 y5,.int i64 y6,.int i64 y7] 43))=.ok (.tuple #[.agg #[.int i64 z0,.bool z1,.int i64 z2,.int i64 z3,.int i64 z4,.int i64 z5,.int i64 z6,.int i64 z7],.bool B]) (w.alloc (.cells #[.int i64 y0,.bool y1,.int i64 y2,.int i64 y3,.int i64 y4,.int i64 y5,.int i64 y6,.int i64 y7] 43)):=hlk;have HLl:Hid (a.l.length≤100000):=hl;rw[←ho];clear h h2 h3 hr hd hB hz hm hlk hb1 ho hl;have qT:∀(w:World) (r:Option Nat),(binOp .eql 76 (.map r) (.map none)).run prog w=.ok (.bool r.isNone) w:=fun w r=>run_eql_map_nil w _ _ _ r underlying76
 go_enter func33,ntmps33;cases B with
 | true =>
   have HS:Hid (keepS a r i ⟨y0,y1,⟨y2,y3,y4,y5,y6,y7⟩⟩=a):=if_pos HBB.out.symm;go_wp2;refine bodyPost_ret (v:=.tuple #[]) (by simp[results,results33,go_sem]) rfl ⟨rfl,?_⟩;rw[HS.out];have hb2:=HB1.out.alloc HB1.out.size (Obj.cells #[.int i64 z0,.bool z1,.int i64 z2,.int i64 z3,.int i64 z4,.int i64 z5,.int i64 z6,.int i64 z7] 43);exact⟨O,⟨x,pt,mp,vd,HH.out.later hb2,H2.out,H3.out⟩,fun b h=>.inl h,Kb.of_below hb2 fun b h _=>h⟩
 | false =>
   have HS:Hid (keepS a r i ⟨y0,y1,⟨y2,y3,y4,y5,y6,y7⟩⟩={ a with l:=a.l++[⟨(r:Int),i,⟨y0,y1,⟨y2,y3,y4,y5,y6,y7⟩⟩⟩] }):=if_neg (by rw[←HBB.out];simp);cases m with
   | some b =>
     go_upto_region 5 with fail;obtain⟨V,hV⟩:∃V,V=(w.alloc (.cells #[.int i64 y0,.bool y1,.int i64 y2,.int i64 y3,.int i64 y4,.int i64 y5,.int i64 y6,.int i64 y7] 43)).alloc (.cells #[.int i64 z0,.bool z1,.int i64 z2,.int i64 z3,.int i64 z4,.int i64 z5,.int i64 z6,.int i64 z7] 43):=⟨_,rfl⟩;have HVB:Hid (Below w.heap.size w V):=by rw[hV];exact HB1.out.alloc HB1.out.size _
     have r0:V.cell? ⟨w.heap.size,0,none⟩=some (.int i64 y0):=by rw[hV];simp
     have r1:V.cell? ⟨w.heap.size,1,none⟩=some (.bool y1):=by rw[hV];simp
     have r2:V.cell? ⟨w.heap.size,2,none⟩=some (.int i64 y2):=by rw[hV];simp
     have r3:V.cell? ⟨w.heap.size,3,none⟩=some (.int i64 y3):=by rw[hV];simp
     have r4:V.cell? ⟨w.heap.size,4,none⟩=some (.int i64 y4):=by rw[hV];simp
     have r5:V.cell? ⟨w.heap.size,5,none⟩=some (.int i64 y5):=by rw[hV];simp
     have r6:V.cell? ⟨w.heap.size,6,none⟩=some (.int i64 y6):=by rw[hV];simp
     have r7:V.cell? ⟨w.heap.size,7,none⟩=some (.int i64 y7):=by rw[hV];simp
     rw[←hV];clear hV;obtain⟨O1,pt1,mp1,HG,HM1,HP1,HE1,HE2,HO1,HKV⟩:∃(O1:Nat→Prop) (pt1:Nat→Pt) (mp1:Nat→List (Int×Op8)),Hid (PgC V p B0 O1 N a.t a.d x pt1 mp1 vd)∧Hid ((pt1 r).m=some b)∧Hid ((pt1 r).h=(pt r).h∧(pt1 r).a=(pt r).a∧(pt1 r).s=(pt r).s∧(pt1 r).d=(pt r).d)∧Hid (mp1 r=mp r)∧Hid (∀s,s≠r→pt1 s=pt s∧mp1 s=mp s)∧Hid (∀b,O1 b→O b∨w.heap.size≤b)∧Hid (Kb (fun b=>¬O b) w V):=
      ⟨O,pt,mp,HH.out.later HVB.out,HM.out,⟨rfl,rfl,rfl,rfl⟩,rfl,fun s _=>⟨rfl,rfl⟩,fun b h=>.inl h,Kb.of_below HVB.out fun b h _=>h⟩
     clear q0 hlk2 HB1;obtain⟨hh,hhh⟩:∃hh,hh=(pt r).h:=⟨_,rfl⟩;have HHH:Hid (hh=(pt r).h):=hhh;have hh0:0≤hh∧hh≤100000:=by
      rw[hhh,(H2.out r HR.out).hh];have h5:hdN a.l (r:Int)≤a.l.length:=List.countP_le_length;have h6:=HLl.out;omega
     have hwr:IntKind.i64.wrap (hh+1)=hh+1:=wrap_small (by omega) (by omega);have hmat:MAt intKey opV8 V b (mp1 r):=by
      rcases HG.out.pm r HR.out with ⟨e1,_⟩ | ⟨c,e1,e2⟩
      ·rw[HM1.out] at e1;cases e1
      rw[HM1.out] at e1;cases e1;exact e2
     obtain⟨V2,hrun,hM2,hg2⟩:=run_update_M (hmat.later (Below.drew (bRQ _ _))) 76 43 underlying76 i (⟨y0,y1,⟨y2,y3,y4,y5,y6,y7⟩⟩:Op8);have hrun2:(Instr.mapUpdate 76 (.map (some b)) (.int i64 i) (.agg #[.int i64 y0,.bool y1,.int i64 y2,.int i64 y3,.int i64 y4,.int i64 y5,.int i64 y6,.int i64 y7])).run prog V.drew=.ok () V2:=hrun;have g2:=(HG.out.later (Below.drew (bRQ _ _))).putMap HR.out HM1.out hg2 hM2;have HG2:Hid (PgC V2 p B0 O1 N a.t a.d x pt1 (updF mp1 r (mput qI i ⟨y0,y1,⟨y2,y3,y4,y5,y6,y7⟩⟩ (mp1 r))) vd):=g2;have hv2:Kb (fun b=>¬O b) w V2:=by
      refine Kb.grown (Kb.drew HKV.out) hg2 fun c e hl h6=>?_
      cases e
      rcases HO1.out b (HG.out.ob b (.inr (.inl ⟨r,HR.out,HM1.out⟩))) with h7 | h7
      ·exact h6 h7
      omega
     have HV2:Hid (Kb (fun b=>¬O b) w V2):=hv2;have u0:=(HG.out.pc r HR.out).c0;rw[←HO.out,HM1.out] at u0;have u1:=(g2.pc r HR.out).c1;rw[←HO.out,HP1.out.1,←HHH.out] at u1;have uf:=g2.f (o+1);have hpl2:=g2.pl;have hplV:=HG.out.pl;clear hrun hM2 hg2 g2 hmat hhh hv2
     go_region
     go_wp2;refine bodyPost_end (v:=.tuple #[]) (by simp[results,results33,go_sem]) rfl ⟨rfl,O1,?_,HO1.out,HV2.out.setCell (q:=⟨p,o+1,none⟩) (fun _ h6=>h6 HH.out.pO) _⟩;rw[HS.out];have hoo:=HO.out;subst hoo;have hp:=HG2.out.pc r HR.out;have hq:PtAt (V2.setCell ⟨p,2+r*5+1,none⟩ (.int i64 (hh+1))) p (2+r*5) ⟨some b,hh+1,(pt r).a,(pt r).s,(pt r).d⟩:=by
      refine⟨?_,World.cell?_setCell_same _ _ _ hp.c1,?_,?_,?_⟩
      ·have:=cell_off hp.c0 (j:=2+r*5+1) (by omega) (.int i64 (hh+1));rw[HM1.out] at this;exact this
      ·have:=cell_off hp.c2 (j:=2+r*5+1) (by omega) (.int i64 (hh+1));rw[HP1.out.2.1] at this;exact this
      ·have:=cell_off hp.c3 (j:=2+r*5+1) (by omega) (.int i64 (hh+1));rw[HP1.out.2.2.1] at this;exact this
      have:=cell_off hp.c4 (j:=2+r*5+1) (by omega) (.int i64 (hh+1));rw[HP1.out.2.2.2] at this;exact this
     have h5:=HG2.out.poke HR.out (j:=1) (by omega) hq (.inl ⟨HM1.out.symm,rfl⟩);have hn:hasK a.l (r:Int) i=false:=HBB.out.symm;refine⟨x,_,_,vd,h5,fun s hs=>?_,fun q hq=>?_⟩
     ·have h6:=ptm_keep (o:=⟨y0,y1,⟨y2,y3,y4,y5,y6,y7⟩⟩) (m:=some b) H2.out HR.out hn HPD.out s hs;by_cases e:s=r
      ·subst e;rw[upd_same,upd_same] at h6 ⊢;rw[upd_same,HE1.out,HHH.out];exact h6
      rw[upd_other _ _ e,upd_other _ _ e] at h6 ⊢;rw[upd_other _ _ e,(HE2.out s e).1,(HE2.out s e).2];exact h6
     rcases List.mem_append.1 hq with h6 | h6
     ·exact H3.out q h6
     rw[List.mem_singleton] at h6;subst h6;have:=HR.out;show (0:Int)≤(r:Int)∧(r:Int)<20;omega
   | none =>
     go_upto_region 3 with fail;obtain⟨V0,hV0⟩:∃V0,V0=(w.alloc (.cells #[.int i64 y0,.bool y1,.int i64 y2,.int i64 y3,.int i64 y4,.int i64 y5,.int i64 y6,.int i64 y7] 43)).alloc (.cells #[.int i64 z0,.bool z1,.int i64 z2,.int i64 z3,.int i64 z4,.int i64 z5,.int i64 z6,.int i64 z7] 43):=⟨_,rfl⟩;have HVB0:Hid (Below w.heap.size w V0):=by rw[hV0];exact HB1.out.alloc HB1.out.size _
     have s0:V0.cell? ⟨w.heap.size,0,none⟩=some (.int i64 y0):=by rw[hV0];simp
     have s1:V0.cell? ⟨w.heap.size,1,none⟩=some (.bool y1):=by rw[hV0];simp
     have s2:V0.cell? ⟨w.heap.size,2,none⟩=some (.int i64 y2):=by rw[hV0];simp
     have s3:V0.cell? ⟨w.heap.size,3,none⟩=some (.int i64 y3):=by rw[hV0];simp
     have s4:V0.cell? ⟨w.heap.size,4,none⟩=some (.int i64 y4):=by rw[hV0];simp
     have s5:V0.cell? ⟨w.heap.size,5,none⟩=some (.int i64 y5):=by rw[hV0];simp
     have s6:V0.cell? ⟨w.heap.size,6,none⟩=some (.int i64 y6):=by rw[hV0];simp
     have s7:V0.cell? ⟨w.heap.size,7,none⟩=some (.int i64 y7):=by rw[hV0];simp
     rw[←hV0];clear hV0;have hplV0:p<V0.heap.size:=Nat.lt_of_lt_of_le hpl HVB0.out.size;have u0:V0.cell? ⟨p,o,none⟩=some (.map none):=cell_later HVB0.out q0;have uf:V0.frozen? ⟨p,o,none⟩=false:=by rw[HVB0.out.frozen (p:=⟨p,o,none⟩) hpl];exact HH.out.f o
     obtain⟨V1,hV1⟩:∃V1,V1=V0.alloc (.map #[] 0):=⟨_,rfl⟩;obtain⟨b,hb⟩:∃b,b=V0.heap.size:=⟨_,rfl⟩;have hmk:(Instr.makeMap 76 none).run prog V0=.ok (.map (some b)) V1:=by rw[hV1,hb];exact run_makeMap (P:=prog) 76 V0
     have hv1:Below V0.heap.size V0 V1:=by rw[hV1];exact (bRQ _ _).alloc (nLQ _) _
     have hmn:MAt intKey opV8 V1 b []:=by rw[hV1,hb];exact mat_new _ _ _
     have hgn:=(HH.out).newMap HR.out HM.out (HVB0.out.trans (hv1.mono HVB0.out.size)) (by rw[hb];exact HVB0.out.size) hmn;rw[←HO.out] at hgn;have HGN:Hid (PgC (V1.setCell ⟨p,o,none⟩ (.map (some b))) p B0 (fun c=>O c∨c=b) N a.t a.d x (updF pt r { pt r with m:=some b }) (updF mp r []) vd):=hgn;have HV1:Hid (Below V0.heap.size V0 V1):=hv1;have HBL:Hid (w.heap.size≤b):=by show _≤_;rw[hb];exact HVB0.out.size
     have u1':V1.cell? ⟨p,o,none⟩=some (.map none):=cell_later hv1 u0;have uf1:V1.frozen? ⟨p,o,none⟩=false:=by rw[hv1.frozen (p:=⟨p,o,none⟩) hplV0];exact uf
     have hplV1:p<V1.heap.size:=Nat.lt_of_lt_of_le hplV0 hv1.size;have HC8:Hid (V1.cell? ⟨w.heap.size,0,none⟩=some (.int i64 y0)∧V1.cell? ⟨w.heap.size,1,none⟩=some (.bool y1)∧V1.cell? ⟨w.heap.size,2,none⟩=some (.int i64 y2)∧V1.cell? ⟨w.heap.size,3,none⟩=some (.int i64 y3)∧V1.cell? ⟨w.heap.size,4,none⟩=some (.int i64 y4)∧V1.cell? ⟨w.heap.size,5,none⟩=some (.int i64 y5)∧V1.cell? ⟨w.heap.size,6,none⟩=some (.int i64 y6)∧V1.cell? ⟨w.heap.size,7,none⟩=some (.int i64 y7)):=
      ⟨cell_later hv1 s0,cell_later hv1 s1,cell_later hv1 s2,cell_later hv1 s3,cell_later hv1 s4,cell_later hv1 s5,cell_later hv1 s6,cell_later hv1 s7⟩
     clear q0 hlk2 HB1 hV1 hb hv1 hmn hgn s0 s1 s2 s3 s4 s5 s6 s7;go_upto_region 5 with fail;obtain⟨V,hV⟩:∃V,V=V1.setCell ⟨p,o,none⟩ (.map (some b)):=⟨_,rfl⟩;obtain⟨r0,r1,r2,r3,r4,r5,r6,r7⟩:V.cell? ⟨w.heap.size,0,none⟩=some (.int i64 y0)∧V.cell? ⟨w.heap.size,1,none⟩=some (.bool y1)∧V.cell? ⟨w.heap.size,2,none⟩=some (.int i64 y2)∧V.cell? ⟨w.heap.size,3,none⟩=some (.int i64 y3)∧V.cell? ⟨w.heap.size,4,none⟩=some (.int i64 y4)∧V.cell? ⟨w.heap.size,5,none⟩=some (.int i64 y5)∧V.cell? ⟨w.heap.size,6,none⟩=some (.int i64 y6)∧V.cell? ⟨w.heap.size,7,none⟩=some (.int i64 y7):=by
      have hne:w.heap.size≠p:=by omega
      obtain⟨c0,c1,c2,c3,c4,c5,c6,c7⟩:=HC8.out;have hz:∀j v,V1.cell? ⟨w.heap.size,j,none⟩=some v→V.cell? ⟨w.heap.size,j,none⟩=some v:=fun j v h=>by
       rw[hV,World.cell?_setCell_other _ _ _ _ (by intro e;cases e;exact hne rfl)];exact h
      exact⟨hz _ _ c0,hz _ _ c1,hz _ _ c2,hz _ _ c3,hz _ _ c4,hz _ _ c5,hz _ _ c6,hz _ _ c7⟩
     have hgn:PgC V p B0 (fun c=>O c∨c=b) N a.t a.d x (updF pt r { pt r with m:=some b }) (updF mp r []) vd:=by rw[hV];exact HGN.out
     have hkv:Kb (fun b=>¬O b) w V:=by
      rw[hV];exact (Kb.of_below (HVB0.out.trans (HV1.out.mono HVB0.out.size)) fun b h _=>h).setCell (q:=⟨p,o,none⟩) (fun _ h6=>h6 HH.out.pO) _
     rw[←hV];obtain⟨O1,pt1,mp1,HG,HM1,HP1,HE1,HE2,HO1,HKV⟩:∃(O1:Nat→Prop) (pt1:Nat→Pt) (mp1:Nat→List (Int×Op8)),Hid (PgC V p B0 O1 N a.t a.d x pt1 mp1 vd)∧Hid ((pt1 r).m=some b)∧Hid ((pt1 r).h=(pt r).h∧(pt1 r).a=(pt r).a∧(pt1 r).s=(pt r).s∧(pt1 r).d=(pt r).d)∧Hid (mp1 r=mp r)∧Hid (∀s,s≠r→pt1 s=pt s∧mp1 s=mp s)∧Hid (∀b,O1 b→O b∨w.heap.size≤b)∧Hid (Kb (fun b=>¬O b) w V):=by
      have hm0:mp r=[]:=by
       rcases HH.out.pm r HR.out with ⟨_,e⟩ | ⟨c,e,_⟩
       ·exact e
       rw[HM.out] at e;cases e
      refine⟨_,_,_,hgn,?_,?_,?_,fun s hs=>⟨upd_other _ _ hs,upd_other _ _ hs⟩,?_,hkv⟩
      ·show (updF pt r { pt r with m:=some b } r).m=some b;rw[upd_same]
      ·show _∧_∧_∧_;rw[upd_same];exact⟨rfl,rfl,rfl,rfl⟩
      ·show updF mp r [] r=mp r;rw[upd_same,hm0]
      rintro c (h | rfl)
      ·exact .inl h
      exact .inr HBL.out
     clear hV hgn hkv u0 uf u1' uf1 hplV0 hplV1 hmk;obtain⟨hh,hhh⟩:∃hh,hh=(pt r).h:=⟨_,rfl⟩;have HHH:Hid (hh=(pt r).h):=hhh;have hh0:0≤hh∧hh≤100000:=by
      rw[hhh,(H2.out r HR.out).hh];have h5:hdN a.l (r:Int)≤a.l.length:=List.countP_le_length;have h6:=HLl.out;omega
     have hwr:IntKind.i64.wrap (hh+1)=hh+1:=wrap_small (by omega) (by omega);have hmat:MAt intKey opV8 V b (mp1 r):=by
      rcases HG.out.pm r HR.out with ⟨e1,_⟩ | ⟨c,e1,e2⟩
      ·rw[HM1.out] at e1;cases e1
      rw[HM1.out] at e1;cases e1;exact e2
     obtain⟨V2,hrun,hM2,hg2⟩:=run_update_M (hmat.later (Below.drew (bRQ _ _))) 76 43 underlying76 i (⟨y0,y1,⟨y2,y3,y4,y5,y6,y7⟩⟩:Op8);have hrun2:(Instr.mapUpdate 76 (.map (some b)) (.int i64 i) (.agg #[.int i64 y0,.bool y1,.int i64 y2,.int i64 y3,.int i64 y4,.int i64 y5,.int i64 y6,.int i64 y7])).run prog V.drew=.ok () V2:=hrun;have g2:=(HG.out.later (Below.drew (bRQ _ _))).putMap HR.out HM1.out hg2 hM2;have HG2:Hid (PgC V2 p B0 O1 N a.t a.d x pt1 (updF mp1 r (mput qI i ⟨y0,y1,⟨y2,y3,y4,y5,y6,y7⟩⟩ (mp1 r))) vd):=g2;have hv2:Kb (fun b=>¬O b) w V2:=by
      refine Kb.grown (Kb.drew HKV.out) hg2 fun c e hl h6=>?_
      cases e
      rcases HO1.out b (HG.out.ob b (.inr (.inl ⟨r,HR.out,HM1.out⟩))) with h7 | h7
      ·exact h6 h7
      omega
     have HV2:Hid (Kb (fun b=>¬O b) w V2):=hv2;have u0:=(HG.out.pc r HR.out).c0;rw[←HO.out,HM1.out] at u0;have u1:=(g2.pc r HR.out).c1;rw[←HO.out,HP1.out.1,←HHH.out] at u1;have uf:=g2.f (o+1);have hpl2:=g2.pl;have hplV:=HG.out.pl;clear hrun hM2 hg2 g2 hmat hhh hv2
     go_region
     go_wp2;refine bodyPost_end (v:=.tuple #[]) (by simp[results,results33,go_sem]) rfl ⟨rfl,O1,?_,HO1.out,HV2.out.setCell (q:=⟨p,o+1,none⟩) (fun _ h6=>h6 HH.out.pO) _⟩;rw[HS.out];have hoo:=HO.out;subst hoo;have hp:=HG2.out.pc r HR.out;have hq:PtAt (V2.setCell ⟨p,2+r*5+1,none⟩ (.int i64 (hh+1))) p (2+r*5) ⟨some b,hh+1,(pt r).a,(pt r).s,(pt r).d⟩:=by
      refine⟨?_,World.cell?_setCell_same _ _ _ hp.c1,?_,?_,?_⟩
      ·have:=cell_off hp.c0 (j:=2+r*5+1) (by omega) (.int i64 (hh+1));rw[HM1.out] at this;exact this
      ·have:=cell_off hp.c2 (j:=2+r*5+1) (by omega) (.int i64 (hh+1));rw[HP1.out.2.1] at this;exact this
      ·have:=cell_off hp.c3 (j:=2+r*5+1) (by omega) (.int i64 (hh+1));rw[HP1.out.2.2.1] at this;exact this
      have:=cell_off hp.c4 (j:=2+r*5+1) (by omega) (.int i64 (hh+1));rw[HP1.out.2.2.2] at this;exact this
     have h5:=HG2.out.poke HR.out (j:=1) (by omega) hq (.inl ⟨HM1.out.symm,rfl⟩);have hn:hasK a.l (r:Int) i=false:=HBB.out.symm;refine⟨x,_,_,vd,h5,fun s hs=>?_,fun q hq=>?_⟩
     ·have h6:=ptm_keep (o:=⟨y0,y1,⟨y2,y3,y4,y5,y6,y7⟩⟩) (m:=some b) H2.out HR.out hn HPD.out s hs;by_cases e:s=r
      ·subst e;rw[upd_same,upd_same] at h6 ⊢;rw[upd_same,HE1.out,HHH.out];exact h6
      rw[upd_other _ _ e,upd_other _ _ e] at h6 ⊢;rw[upd_other _ _ e,(HE2.out s e).1,(HE2.out s e).2];exact h6
     rcases List.mem_append.1 hq with h6 | h6
     ·exact H3.out q h6
     rw[List.mem_singleton] at h6;subst h6;have:=HR.out;show (0:Int)≤(r:Int)∧(r:Int)<20;omega
end
end Go.Proofs.YtcbapfgohocghaaDoor
