/- Contracts and facts on the way to AgentOnce, joined into one text: TableConcat, TableIdx, RuleTab2, TableDo, TableDo2, TableBey, TableOps, TableDiff2, RuleTwo, TableSame, NetCheck, SmNet, ClassMem, ChangeMem, ChangeBox, AgentWorkMath, StCube, StRule. -/
import Derived.Test.YtcbapfgohocghaaDoorAgentOnceP2
namespace Go.Proofs.YtcbapfgohocghaaDoor
set_option linter.unusedSimpArgs false
set_option linter.unusedVariables false
set_option maxHeartbeats 16000000
set_option maxRecDepth 100000
open Go.Proofs.Tryd
open IntKind (i64)
section
open Go.RowKit
theorem grow_nil (n:Nat)(w:World)(hn:n≤1000):
 Calls prog 50 #[.slice none 0 0,.int i64 n] w fun e w'=>∃v,e=.returned v∧w'.ownsRow w.heap.size 41 6 v 0 []∧Below w.heap.size w w':=by
 have h1:¬((n:Int)<0):=by omega
 by_cases h0:n=0
 ·subst h0;go_enter func50,ntmps50;go_wp2;go_ret;exact⟨_,rfl,World.ownsRow_nil _ _ _ _,bRQ _ _⟩
 obtain⟨i0,hi,hz0,hz1,hz2⟩:=info_parts infoRule;have h3:wrap64 ((n:Int)-0)=(n:Int):=by unfold wrap64;omega
 have h4:(n:Int) > 0:=by omega
 have hrz:∀ty,(Builtin.append_ #[23,3] ty #[.slice none 0 0,.int i64 n]).run prog w =
  .ok (.slice (some ⟨w.heap.size,0,none⟩) n (grownCap w n 0 41)) (w.drew.alloc (.cells (Builtin.zeroCells (Value.agg #[.int i64 0,.int i64 0,.int i64 0,.int i64 0,.int i64 0,.int i64 0]).cells n++Builtin.zeroCells (Value.agg #[.int i64 0,.int i64 0,.int i64 0,.int i64 0,.int i64 0,.int i64 0]).cells (grownCap w n 0 41-n)) 41)):=fun ty =>
  Lib.run_append_nil_zeros w 23 3 ty 41 i0 _ .i64 .i64 underlying23 underlying3 hi hz0 n (by omega) (by rw[hz1];decide) (by omega) (by rw[hz2];omega)
 have hGn:n≤grownCap w n 0 41:=grownCap_ge w _ _ _;have hGm:grownCap w n 0 41≤maxLen:=grownCap_le_maxLen w n 0 41 (by unfold maxLen;omega)
 generalize grownCap w n 0 41=G at *
 have HM:Hid (G≤maxLen):=hGm;have hG63:G≤9223372036854775807:=by unfold maxLen at hGm;omega
 have HO:Hid ((w.drew.alloc (.cells (Builtin.zeroCells (Value.agg #[.int i64 0,.int i64 0,.int i64 0,.int i64 0,.int i64 0,.int i64 0]).cells n++Builtin.zeroCells (Value.agg #[.int i64 0,.int i64 0,.int i64 0,.int i64 0,.int i64 0,.int i64 0]).cells (G-n)) 41)).ownsRow w.heap.size 41 6 (.slice (some ⟨w.heap.size,0,none⟩) 0 G) 0 []):=
  World.ownsRow_made w.drew _ G (nLQ _) HM.out (by
   simp only[Array.size_append,size_zeroCells,sixCells,←Nat.add_mul]
   congr 1
   omega)
 clear hGm;go_enter func50,ntmps50
 go_wp2_with (at_builtin;refine Lib.wpList_append_run _ rfl _ _ _ _ rfl _ _ rfl rfl _ _ (hrz _) ?_)
 all_goals (go_ret;exact⟨_,rfl,HO.out,((bRQ _ _).drew).alloc (nLQ _) _⟩)
def PAt (w:World)(g o:Nat)(Ls:TsQ):Prop:=∀i (h:i<Ls.length),∃ao n cap,w.cell? ⟨g,o+i,none⟩=some (.slice ao n cap)∧SR w (.slice ao n cap) Ls[i]
theorem PAt.later {w w':World}{g o:Nat}{Ls:TsQ}(h:PAt w g o Ls)(hb:Below w.heap.size w w'):PAt w' g o Ls:=fun i hi=>by
 obtain⟨ao,n,cap,h1,h2⟩:=h i hi;exact⟨ao,n,cap,cell_later hb h1,h2.later hb⟩
theorem SR.len {w:World}{ao:AdQ}{n cap:Nat}{L:List Ru}(h:SR w (.slice ao n cap) L):L.length=n:=by
 rcases h with ⟨_,_,e,rfl⟩ | ⟨_,_,_,e,_⟩
 ·simp at e;simp[e]
 simp at e;exact e.2.1.symm
theorem flat_next {Ls:TsQ}{k:Nat}(hk:k<Ls.length):(Ls.take (k+1)).flatten=(Ls.take k).flatten++Ls[k]:=by
 rw[List.take_succ_eq_append_getElem hk];simp only[List.flatten_append,List.flatten_cons,List.flatten_nil,List.append_nil]
theorem flat_le {Ls:TsQ}(k:Nat):(Ls.take k).flatten.length≤Ls.flatten.length:=by
 have:Ls.flatten=(Ls.take k).flatten++(Ls.drop k).flatten:=by rw[←List.flatten_append,List.take_append_drop]
 rw[this,List.length_append];omega
theorem concat_any (g o m cap:Nat)(Ls:TsQ)(w:World)(hm:Ls.length=m)(hm2:m≤1000)(hc:PAt w g o Ls)(hs:Ls.flatten.length≤1000):
 Calls prog 26 #[.slice (some ⟨g,o,none⟩) m cap] w fun e w'=>∃v,e=.returned v∧w'.ownsRow w.heap.size 41 6 v Ls.flatten.length (cellsR Ls.flatten)∧Below w.heap.size w w':=by
 have HM:Hid (Ls.length=m):=hm;have HC:Hid (PAt w g o Ls):=hc;have HS:Hid (Ls.flatten.length≤1000):=hs;obtain⟨N,hN⟩:∃N,N=Ls.flatten.length:=⟨_,rfl⟩;have HN:Hid (N=Ls.flatten.length):=hN;have hN2:N≤1000:=by omega
 clear hm hc hs hN;go_enter func26,ntmps26
 go_upto_block 0 with fail
 go_cut [3] from 3 (fun z w'=>z=.int i64 (N:Int)∧w'=w)
 case first =>
  go_wp2
  go_loopw [3,11] (fun z i wr=>∃k:Nat,k≤m∧i=.int i64 k∧z=.int i64 ((Ls.take k).flatten.length:Int)∧wr=w) (fun _ i _=>m-(intOf i).toNat)
  case atStart=>exact⟨0,by omega,rfl,rfl,rfl⟩
  case round =>
   obtain⟨k,hk,rfl,rfl,rfl⟩:=hrel;by_cases hlt:k<m
   ·have hkl:k<Ls.length:=by rw[HM.out];exact hlt
    obtain⟨ao,n,cap2,q0,hsr⟩:=HC.out k hkl;have HT:Hid ((Ls.take (k+1)).flatten.length=(Ls.take k).flatten.length+n):=by
     show _=_;rw[flat_next hkl,List.length_append,hsr.len]
    have hb1:(Ls.take k).flatten.length+n≤1000:=by
     have h1:=flat_le (Ls:=Ls) (k+1);have h2:=HS.out;have h3:=HT.out;omega
    generalize (Ls.take k).flatten.length=z at *
    clear hsr;go_wp2;go_roundw
    case rel=>exact⟨k+1,by omega,by go_num,by rw[HT.out];go_num,by simp⟩
    case measure=>simp[intOf];omega
   obtain rfl:k=m:=by omega
   go_wp2_with fail
   go_meet
   case rel=>exact⟨by rw[←HM.out,List.take_length,HN.out],rfl⟩
 case rest =>
  obtain⟨rfl,rfl⟩:=hcut
  go_wp2_with fail
  refine (grow_nil N _ hN2).mono ?_;rintro e w1 ⟨v,rfl,hown,hB⟩;have HO:Hid (w1.ownsRow wc.heap.size 41 6 v 0 []):=hown;have HB:Hid (Below wc.heap.size wc w1):=hB;clear hown hB;go_wp2
  go_loopw [6,27] (fun u i wr=>∃k:Nat,k≤m∧i=.int i64 k∧wr.ownsRow wc.heap.size 41 6 u (Ls.take k).flatten.length (cellsR (Ls.take k).flatten)∧Below wc.heap.size wc wr) (fun _ i _=>m-(intOf i).toNat)
  case atStart=>exact⟨0,by omega,rfl,HO.out,HB.out⟩
  case round =>
   obtain⟨k,hk,rfl,hown,hB⟩:=hrel;have HOW:Hid (wr.ownsRow wc.heap.size 41 6 u6 (Ls.take k).flatten.length (cellsR (Ls.take k).flatten)):=hown;have HBW:Hid (Below wc.heap.size wc wr):=hB;clear hown;by_cases hlt:k<m
   ·have hkl:k<Ls.length:=by rw[HM.out];exact hlt
    obtain⟨ao,n,cap2,q0,hsr⟩:=(HC.out.later hB) k hkl;have HSR:Hid (SR wr (.slice ao n cap2) Ls[k]):=hsr;have HL1:Hid ((Ls.take k).flatten.length+Ls[k].length≤1000):=by
     have h1:=flat_le (Ls:=Ls) (k+1);rw[flat_next hkl,List.length_append] at h1;have h2:=HS.out;show _≤_;omega
    clear hsr hB
    go_wp2_with (at_builtin;refine wpList_append_SR _ rfl _ _ 23 rfl underlying23 wc.heap.size _ rfl _ HOW.out _ rfl _ HSR.out HL1.out HBW.out.size ?_)
    intro v' w3 hown3 hgrow;have HO5:Hid (w3.ownsRow wc.heap.size 41 6 v' (Ls.take (k+1)).flatten.length (cellsR (Ls.take (k+1)).flatten)):=by
     show w3.ownsRow _ _ _ _ _ _;rw[flat_next hkl,show ((Ls.take k).flatten++Ls[k]).length=(List.take k (List.map List.length Ls)).sum+Ls[k].length by simp];exact hown3
    have HB5:Hid (Below wc.heap.size wc w3):=HBW.out.grown hgrow HBW.out.size (fun g hg=>(HOW.out.lt g hg).1);clear hown3 hgrow q0;go_wp2;go_roundw
    case rel=>exact⟨k+1,by omega,by go_num,HO5.out,HB5.out⟩
    case measure=>simp[intOf];omega
   obtain rfl:k=m:=by omega
   go_wp2;go_ret;refine⟨_,rfl,?_,HBW.out⟩;have:=HOW.out;rw[←HM.out,List.take_length] at this;exact this
theorem eq_ways (p m b o s v p' m' b' o' s' v':Int):
 ((p==p')=false∧eqR ⟨p,m,b,o,s,v⟩ ⟨p',m',b',o',s',v'⟩=false) ∨
 ((p==p')=true∧(m==m')=false∧eqR ⟨p,m,b,o,s,v⟩ ⟨p',m',b',o',s',v'⟩=false) ∨
 ((p==p')=true∧(m==m')=true∧(b==b')=false∧eqR ⟨p,m,b,o,s,v⟩ ⟨p',m',b',o',s',v'⟩=false) ∨
 ((p==p')=true∧(m==m')=true∧(b==b')=true∧(o==o')=false∧eqR ⟨p,m,b,o,s,v⟩ ⟨p',m',b',o',s',v'⟩=false) ∨
 ((p==p')=true∧(m==m')=true∧(b==b')=true∧(o==o')=true∧(s==s')=false∧eqR ⟨p,m,b,o,s,v⟩ ⟨p',m',b',o',s',v'⟩=false) ∨
 ((p==p')=true∧(m==m')=true∧(b==b')=true∧(o==o')=true∧(s==s')=true∧(v==v')=false∧eqR ⟨p,m,b,o,s,v⟩ ⟨p',m',b',o',s',v'⟩=false) ∨
 ((p==p')=true∧(m==m')=true∧(b==b')=true∧(o==o')=true∧(s==s')=true∧(v==v')=true∧eqR ⟨p,m,b,o,s,v⟩ ⟨p',m',b',o',s',v'⟩=true):=by
 unfold eqR;by_cases h1:p=p'
 ·by_cases h2:m=m'
  ·by_cases h3:b=b'
   ·by_cases h4:o=o'
    ·by_cases h5:s=s'
     ·by_cases h6:v=v'
      ·simp[h1,h2,h3,h4,h5,h6]
      simp[h1,h2,h3,h4,h5,h6]
     simp[h1,h2,h3,h4,h5]
    simp[h1,h2,h3,h4]
   simp[h1,h2,h3]
  simp[h1,h2]
 simp[h1]
theorem run_eqlR (p m b o s v p' m' b' o' s' v':Int)(w:World):(binOp .eql 41 (.agg #[.int i64 p,.int i64 m,.int i64 b,.int i64 o,.int i64 s,.int i64 v]) (.agg #[.int i64 p',.int i64 m',.int i64 b',.int i64 o',.int i64 s',.int i64 v'])).run prog w=.ok (.bool (eqR ⟨p,m,b,o,s,v⟩ ⟨p',m',b',o',s',v'⟩)) w:=by
 rcases eq_ways p m b o s v p' m' b' o' s' v' with ⟨e1,e⟩ | ⟨e1,e2,e⟩ | ⟨e1,e2,e3,e⟩ | ⟨e1,e2,e3,e4,e⟩ | ⟨e1,e2,e3,e4,e5,e⟩ | ⟨e1,e2,e3,e4,e5,e6,e⟩ | ⟨e1,e2,e3,e4,e5,e6,e⟩
 all_goals
  rw[e];go_simp
def CI (w:World)(B:Nat)(p m b q s v:Int)(g o:Nat)(p' m' b' q' s' v':Int)(w':World):Prop:=
 Below w.heap.size w w'∧(w'.cell? ⟨B,0,none⟩=some (.int i64 p)∧w'.cell? ⟨B,1,none⟩=some (.int i64 m)∧w'.cell? ⟨B,2,none⟩=some (.int i64 b) ∧
  w'.cell? ⟨B,3,none⟩=some (.int i64 q)∧w'.cell? ⟨B,4,none⟩=some (.int i64 s)∧w'.cell? ⟨B,5,none⟩=some (.int i64 v)) ∧
 w'.cell? ⟨g,o,none⟩=some (.int i64 p')∧w'.cell? ⟨g,o+1,none⟩=some (.int i64 m')∧w'.cell? ⟨g,o+2,none⟩=some (.int i64 b') ∧
  w'.cell? ⟨g,o+3,none⟩=some (.int i64 q')∧w'.cell? ⟨g,o+4,none⟩=some (.int i64 s')∧w'.cell? ⟨g,o+5,none⟩=some (.int i64 v')
theorem CI.later {w W W':World}{B:Nat}{p m b q s v:Int}{g o:Nat}{p' m' b' q' s' v':Int}(hb:Below W.heap.size W W')(h:CI w B p m b q s v g o p' m' b' q' s' v' W):CI w B p m b q s v g o p' m' b' q' s' v' W':=by
 obtain⟨h0,⟨h1,h2,h3,h4,h5,h6⟩,k1,k2,k3,k4,k5,k6⟩:=h;exact⟨h0.trans (hb.mono h0.size),⟨cell_later hb h1,cell_later hb h2,cell_later hb h3,cell_later hb h4,cell_later hb h5,cell_later hb h6⟩,cell_later hb k1,cell_later hb k2,cell_later hb k3,cell_later hb k4,cell_later hb k5,cell_later hb k6⟩
theorem index_any (ao:AdQ)(n cap:Nat)(p m b o s v:Int)(L:List Ru)(w:World)(hn:L.length=n)(hn2:n≤maxLen)(ha:0<n→∃g o,ao=some ⟨g,o,none⟩∧RAt w g o L∧cap≤maxLen):
 Calls prog 69 #[.slice ao n cap,.agg #[.int i64 p,.int i64 m,.int i64 b,.int i64 o,.int i64 s,.int i64 v]] w fun e w'=>e=.returned (.int i64 (ixP (fun a=>eqR ⟨p,m,b,o,s,v⟩ a) L))∧Below w.heap.size w w':=by
 have HN:Hid (L.length=n):=hn;have HA:Hid (0<n→∃g o,ao=some ⟨g,o,none⟩∧RAt w g o L∧cap≤maxLen):=ha;have HC0:=C6.new w p m b o s v 41;have HB0:Hid (Below w.heap.size w (w.alloc (.cells #[.int i64 p,.int i64 m,.int i64 b,.int i64 o,.int i64 s,.int i64 v] 41))):=(bRQ _ _).alloc (nLQ _) _;unfold maxLen at hn2;clear hn ha;go_enter func69,ntmps69;go_wp2
 go_loopw [8] (fun i wr=>∃k:Nat,k≤n∧i=.int i64 k∧(L.take k).any (fun a=>eqR ⟨p,m,b,o,s,v⟩ a)=false∧Below w.heap.size w wr∧C6 wr w.heap.size 0 ⟨p,m,b,o,s,v⟩)
  (fun i _=>n-(intOf i).toNat)
 case atStart=>exact⟨0,by omega,rfl,by simp,HB0.out,HC0⟩
 case round =>
  obtain⟨k,hk,rfl,hno,hB,hC⟩:=hrel;have HB:Hid (Below w.heap.size w wr):=hB;have HC:Hid (C6 wr w.heap.size 0 ⟨p,m,b,o,s,v⟩):=hC;have HNO:Hid ((L.take k).any (fun a=>eqR ⟨p,m,b,o,s,v⟩ a)=false):=hno;clear hno HC0 HB0;by_cases hlt:k<n
  ·obtain⟨g,og,hao,hc,_⟩:=HA.out (by omega);subst hao;obtain⟨p',m',b',o',s',v',hkl,hL,q0,q1,q2,q3,q4,q5⟩:=(hc.later hB).at HN.out hlt;have HL:Hid (L[k]=⟨p',m',b',o',s',v'⟩):=hL;obtain⟨r0,r1,r2,r3,r4,r5⟩:=hC;simp only[Nat.zero_add] at r0 r1 r2 r3 r4 r5;have HCE:Hid (CI wr w.heap.size p m b o s v g (og+k*6) p' m' b' o' s' v' wr):=⟨bRQ _ _,⟨r0,r1,r2,r3,r4,r5⟩,q0,q1,q2,q3,q4,q5⟩;clear hL hB HA q0 q1 q2 q3 q4 q5 r0 r1 r2 r3 r4 r5;go_upto_region 4 with fail;have kb0:(0:Int)≤(k:Int):=by omega
   have kb1:(k:Int)<(n:Int):=by omega
   go_cut [16] from 9 to 18 (fun c w'=>c=.bool (eqR ⟨p,m,b,o,s,v⟩ ⟨p',m',b',o',s',v'⟩)∧Below wr.heap.size wr w')
   case first =>
    as_aux_lemma =>
     refine wp_region_quiet (C:=CI wr w.heap.size p m b o s v g (og+k*6) p' m' b' o' s' v') (by kernel_rfl) (by kernel_rfl) (CI.later (W:=wr) (Below.drew (bRQ _ _)) HCE.out) ?_;simp only[List.toList_toArray];go_big_quiet_want;refine qv (.agg #[.int i64 p,.int i64 m,.int i64 b,.int i64 o,.int i64 s,.int i64 v]) ?_ ?_
     ·rintro w' ⟨z0,⟨z1,z2,z3,z4,z5,z6⟩,y1,y2,y3,y4,y5,y6⟩;go_simp
     simp only[Act.put,AP];go_big_quiet_on;go_big_quiet_want;refine qv (.slice (some ⟨g,og,none⟩) n cap) ?_ ?_
     ·rintro w' ⟨z0,⟨z1,z2,z3,z4,z5,z6⟩,y1,y2,y3,y4,y5,y6⟩;go_simp
     simp only[Act.put,AP];go_big_quiet_on;go_big_quiet_want;refine qv (.int i64 (k:Int)) ?_ ?_
     ·rintro w' ⟨z0,⟨z1,z2,z3,z4,z5,z6⟩,y1,y2,y3,y4,y5,y6⟩;go_simp
     simp only[Act.put,AP];go_big_quiet_on;go_big_quiet_want;refine qv (.pointer (some ⟨g,og+k*6,none⟩)) ?_ ?_
     ·rintro w' ⟨z0,⟨z1,z2,z3,z4,z5,z6⟩,y1,y2,y3,y4,y5,y6⟩;go_simp
     simp only[Act.put,AP];go_big_quiet_on;go_big_quiet_want;refine qv (.agg #[.int i64 p',.int i64 m',.int i64 b',.int i64 o',.int i64 s',.int i64 v']) ?_ ?_
     ·rintro w' ⟨z0,⟨z1,z2,z3,z4,z5,z6⟩,y1,y2,y3,y4,y5,y6⟩;go_simp
     simp only[Act.put,AP];go_big_quiet_on;go_big_quiet_want;refine quiet_val (v:=.bool (eqR ⟨p,m,b,o,s,v⟩ ⟨p',m',b',o',s',v'⟩)) (fun w' hC=>exec_bin rfl (by go_simp) (run_eqlR p m b o s v p' m' b' o' s' v' w')) ?_;simp only[Act.put,AP];go_big_quiet_on;refine wpQuiet_nil ?_;intro w' hC
     go_wp2_with fail
     go_meet
     case rel=>exact⟨rfl,hC.1⟩
   case rest =>
    obtain⟨rfl,hB2⟩:=hcut;have HB2:Hid (Below w.heap.size w wc):=HB.out.trans (hB2.mono HB.out.size);have HC2:Hid (C6 wc w.heap.size 0 ⟨p,m,b,o,s,v⟩):=HC.out.later hB2;clear hB2;cases ho:eqR ⟨p,m,b,o,s,v⟩ ⟨p',m',b',o',s',v'⟩
    ·go_wp2;go_roundw
     case rel=>exact⟨k+1,by omega,by go_num,any_nextR hkl HNO.out (by rw[HL.out];exact ho),HB2.out,HC2.out⟩
     case measure=>simp[intOf];omega
    go_wp2;go_ret;exact⟨by rw[ixP_hit hkl HNO.out (by rw[HL.out];exact ho)];rfl,HB2.out⟩
  obtain rfl:k=n:=by omega
  go_wp2;go_ret;exact⟨by have:=HNO.out;rw[←HN.out,List.take_length] at this;rw[ixP_no this];rfl,HB.out⟩
theorem tb_long {L:List Ru}(h:12<L.length):tbN L=4:=by simp[tbN,h]
theorem tb_at {L:List Ru}(h:L.length≤12){k:Nat}(hk:k<L.length){x:Int}(h1:tbTo L (k+1)=x)(h2:x≠0):tbN L=x:=by
 subst h1;rw[tbN,if_neg (by omega)];exact to_le h2 hk
theorem to_bad {L:List Ru}{k:Nat}{r:Ru}(hk:k<L.length)(hr:L[k]=r)(h:tbTo L k=0)(h2:r.n≠0):tbTo L (k+1)=r.n:=by
 rw[tbTo,if_pos h,getD_at hk,hr,if_neg h2]
theorem to_clash {L:List Ru}{k:Nat}{r:Ru}(hk:k<L.length)(hr:L[k]=r)(h:tbTo L k=0)(h2:r.n=0)(h3:(L.take k).any (fun a=>keyB a r)=true):tbTo L (k+1)=7:=by
 rw[tbTo,if_pos h,getD_at hk,hr,if_pos h2,h3];rfl
theorem to_next {L:List Ru}{k:Nat}{r:Ru}(hk:k<L.length)(hr:L[k]=r)(h:tbTo L k=0)(h2:r.n=0)(h3:(L.take k).any (fun a=>keyB a r)=false):tbTo L (k+1)=0:=by
 rw[tbTo,if_pos h,getD_at hk,hr,if_pos h2,h3];rfl
theorem table_some (g o cap n:Nat)(L:List Ru)(w:World)(hc:RAt w g o L)(hn:L.length=n)(hl:n≤12)(hcap:n≤cap)(hcap2:cap≤maxLen):
 Calls prog 25 #[.slice (some ⟨g,o,none⟩) n cap] w fun e w'=>e=.returned (noV (tbN L))∧Below w.heap.size w w':=by
 have HN:Hid (L.length=n):=hn;unfold maxLen at hcap2;clear hn;go_enter func25,ntmps25;go_wp2
 go_loopw [12] (fun i wr=>∃k:Nat,k≤n∧i=.int i64 k∧tbTo L k=0∧Below w.heap.size w wr) (fun i _=>n-(intOf i).toNat)
 case atStart=>exact⟨0,by omega,rfl,rfl,bRQ _ _⟩
 case round =>
  obtain⟨k,hk,rfl,hno,hB⟩:=hrel;have HB:Hid (Below w.heap.size w wr):=hB;have HNO:Hid (tbTo L k=0):=hno;clear hno;by_cases hlt:k<n
  ·obtain⟨p,m,b,q,s,v,hkl,hL,q0,q1,q2,q3,q4,q5⟩:=(hc.later hB).at HN.out hlt;have HL:Hid (L[k]=⟨p,m,b,q,s,v⟩):=hL;have HC6:=C6.new wr p m b q s v 41;have HRT:=((hc.later hB).later ((bRQ _ _).alloc (nLQ _) (Obj.cells #[.int i64 p,.int i64 m,.int i64 b,.int i64 q,.int i64 s,.int i64 v] 41))).take k;have HTL:Hid ((L.take k).length=k):=by show (L.take k).length=k;simp;omega
   have hk2:k≤cap:=by omega
   clear hL hB;by_cases ho:ruN p m b q s v=0
   ·go_wp2_with fail
    refine (ruCheck_any _ _ _ _ _ _ _).mono ?_;rintro e w1 ⟨rfl,hb1⟩;rw[no_ok ho];have HB1:=HB.out.trans (((bRQ _ _).alloc (nLQ _) _).trans (hb1.mono (by simp)) |>.mono HB.out.size);have HC7:=HC6.later hb1;have HR7:=HRT.later hb1;clear hb1 HC6 HRT;cases ho2:(L.take k).any (fun a=>keyB a ⟨p,m,b,q,s,v⟩)
    ·go_wp2_with fail
     refine (containsR_any _ _ _ k _ ⟨p,m,b,q,s,v⟩ (L.take k) _ HR7 HTL.out (by unfold maxLen;omega) (by unfold maxLen;omega) HC7).mono ?_;rintro e w2 ⟨rfl,hb2⟩;rw[ho2];have HB2:=HB1.trans (hb2.mono HB1.size);clear hb2;go_wp2;go_roundw
     case rel=>exact⟨k+1,by omega,by go_num,to_next hkl HL.out HNO.out ho ho2,HB2⟩
     case measure=>simp[intOf];omega
    go_wp2_with fail
    refine (containsR_any _ _ _ k _ ⟨p,m,b,q,s,v⟩ (L.take k) _ HR7 HTL.out (by unfold maxLen;omega) (by unfold maxLen;omega) HC7).mono ?_;rintro e w2 ⟨rfl,hb2⟩;rw[ho2];have HB2:=HB1.trans (hb2.mono HB1.size);clear hb2;go_wp2;go_ret;refine⟨?_,HB2⟩;rw[tb_at (by rw[HN.out];exact hl) hkl (to_clash hkl HL.out HNO.out ho ho2) (by decide)];rfl
   go_wp2_with fail
   refine (ruCheck_any _ _ _ _ _ _ _).mono ?_;rintro e w1 ⟨rfl,hb1⟩;rw[no_ne ho];have HB1:=HB.out.trans (((bRQ _ _).alloc (nLQ _) _).trans (hb1.mono (by simp)) |>.mono HB.out.size);clear hb1;go_wp2;go_ret;refine⟨?_,HB1⟩;rw[tb_at (by rw[HN.out];exact hl) hkl (to_bad hkl HL.out HNO.out ho) ho,no_ne (show Ru.n ⟨p,m,b,q,s,v⟩≠0 from ho)];rfl
  obtain rfl:k=n:=by omega
  go_wp2;go_ret;refine⟨?_,HB.out⟩;have e1:tbN L=0:=by
   rw[tbN,if_neg (by rw[HN.out];omega),HN.out];exact HNO.out
  rw[e1];rfl
theorem table_long (ao:AdQ)(cap n:Nat)(w:World)(hl:12<n):
 Calls prog 25 #[.slice ao n cap] w fun e w'=>e=.returned (.iface 73 (.int i64 4))∧Below w.heap.size w w':=by
 go_enter func25,ntmps25;go_wp2;go_ret;exact⟨rfl,bRQ _ _⟩
theorem table_nil (ao:AdQ)(cap:Nat)(w:World):
 Calls prog 25 #[.slice ao 0 cap] w fun e w'=>e=.returned .nilIface∧Below w.heap.size w w':=by
 go_enter func25,ntmps25;go_wp2
 go_loopw [12] (fun i wr=>i=.int i64 0∧wr=w) (fun i _=>0)
 case atStart=>exact⟨rfl,rfl⟩
 case round =>
  obtain⟨rfl,rfl⟩:=hrel;go_wp2;go_ret;exact⟨rfl,bRQ _ _⟩
theorem table_any (v:Value)(L:List Ru)(w:World)(h:SR w v L):
 Calls prog 25 #[v] w fun e w'=>e=.returned (noV (tbN L))∧Below w.heap.size w w':=by
 rcases h with ⟨ao,cap,rfl,rfl⟩ | ⟨g,o,cap,rfl,h1,h2,hc⟩
 ·exact table_nil ao cap w
 by_cases h12:12<L.length
 ·rw[tb_long h12];exact table_long _ _ _ _ h12
 exact table_some _ _ _ _ L w hc rfl (by omega) h1 h2
theorem with1_any (p m b o s v:Int)(r:Ru)(B:Nat)(w:World)(hc:C6 w B 0 r):
 Calls prog 68 #[.agg #[.int i64 p,.int i64 m,.int i64 b,.int i64 o,.int i64 s,.int i64 v],.pointer (some ⟨B,0,none⟩)] w fun e w'=>e=.returned (.bool (keyB ⟨p,m,b,o,s,v⟩ r))∧Below w.heap.size w w':=by
 obtain⟨p',m',b',o',s',v'⟩:=r;obtain⟨c0,c1,c2,c3,c4,c5⟩:=hc;simp only[Nat.zero_add] at c0 c1 c2 c3 c4 c5;have hlt:B<w.heap.size:=bLQ _ _ c0;go_enter func68,ntmps68
 go_wp2_with fail
 refine (clash_any _ _ _ _ _ _ _ _ _ _ _ _ _).mono ?_;rintro e w1 ⟨rfl,hb1⟩;go_wp2;go_ret;exact⟨rfl,((bRQ _ _).alloc (nLQ _) _).trans (hb1.mono (by simp))⟩
theorem with1_asks (r:Ru)(B:Nat)(w:World)(hc:C6 w B 0 r):Asks w 68 (.pointer (some ⟨B,0,none⟩)) (fun a=>keyB a r):=
 fun p m b o s v W hW=>with1_any p m b o s v r B W (hc.later hW)
theorem SR.nil (w:World):SR w (.slice none 0 0) []:=.inl ⟨none,0,rfl,rfl⟩
def NR (w:World)(B:Nat)(v:Value)(L:List Ru):Prop:=w.ownsRow B 41 6 v L.length (cellsR L)
theorem NR.sr {w:World}{B:Nat}{v:Value}{L:List Ru}(h:NR w B v L):SR w v L:=own_SR h
theorem NR.nil (w:World)(B:Nat):NR w B (.slice none 0 0) []:=World.ownsRow_nil w B _ 6
theorem NR.mono {w:World}{B B':Nat}{v:Value}{L:List Ru}(h:NR w B v L)(hB:B'≤B):NR w B' v L:=by
 obtain⟨h1,h2 | ⟨g,cap,cur,hv,hb,h3⟩⟩:=h
 ·exact⟨h1,.inl h2⟩
 exact⟨h1,.inr ⟨g,cap,cur,hv,Nat.le_trans hB hb,h3⟩⟩
theorem NR.later {w w':World}{B:Nat}{v:Value}{L:List Ru}(h:NR w B v L)(hb:Below w.heap.size w w'):NR w' B v L:=h.kept ⟨hb.os,hb.tape,hb.output,hb.size,fun k hk _=>hb.block k hk⟩ (Classical.em _)
theorem NR.of {w:World}{B:Nat}{v:Value}{L M:List Ru}(h:w.ownsRow B 41 6 v L.length (cellsR L))(e:L=M):NR w B v M:=by subst e;exact h
theorem sr_one (w:World)(p m b o s v:Int)(t:TypeId):SR (w.alloc (.cells #[.int i64 p,.int i64 m,.int i64 b,.int i64 o,.int i64 s,.int i64 v] t)) (.slice (some ⟨w.heap.size,0,none⟩) 1 1) [⟨p,m,b,o,s,v⟩]:=by
 refine .inr ⟨w.heap.size,0,1,rfl,nLQ _,by unfold maxLen;omega,fun i hi=>?_⟩;obtain rfl:i=0:=by simp at hi;omega
 have h:=C6.new w p m b o s v t;simp only[Nat.zero_mul,Nat.add_zero,List.getElem_cons_zero];exact h
theorem pat2 {W:World}{a1 a2:AdQ}{n1 c1 n2 c2:Nat}{L1 L2:List Ru}(t:TypeId)(h1:SR W (.slice a1 n1 c1) L1)(h2:SR W (.slice a2 n2 c2) L2):
 PAt (W.alloc (.cells #[.slice a1 n1 c1,.slice a2 n2 c2] t)) W.heap.size 0 [L1,L2]:=by
 have hb:Below W.heap.size W (W.alloc (.cells #[.slice a1 n1 c1,.slice a2 n2 c2] t)):=(bRQ _ _).alloc (nLQ _) _;intro i hi
 match i,hi with
 | 0,_=>exact⟨a1,n1,c1,by simp,h1.later hb⟩
 | 1,_=>exact⟨a2,n2,c2,by simp,h2.later hb⟩
theorem RAt.drop {w:World}{g o:Nat}{L:List Ru}(h:RAt w g o L)(k:Nat):RAt w g (o+k*6) (L.drop k):=by
 intro i hi;have hi2:k+i<L.length:=by simp at hi;omega
 have:=h (k+i) hi2;rw[List.getElem_drop];have e:o+(k+i)*6=o+k*6+i*6:=by omega
 rw[←e];exact this
theorem ch_hit {L:List Ru}{r:Ru}(h:hitB L r=true):chN L true r=7:=by simp[chN,h]
theorem ch_full {L:List Ru}{r:Ru}(h:hitB L r=false)(h2:12≤L.length):chN L true r=4:=by simp[chN,h,h2]
theorem ch_add {L:List Ru}{r:Ru}(h:hitB L r=false)(h2:¬12≤L.length):chN L true r=0:=by simp[chN,h,h2]
theorem chL_ne {L:List Ru}{a:Bool}{r:Ru}(h:chN L a r≠0):chL L a r=[]:=by simp[chL,h]
theorem chL_add {L:List Ru}{r:Ru}(h:chN L true r=0):chL L true r=L++[r]:=by simp[chL,h]
theorem ch_none {L:List Ru}{r:Ru}(h:inB L r=false):chN L false r=5:=by simp[chN,h]
theorem ch_take {L:List Ru}{r:Ru}(h:inB L r=true):chN L false r=0:=by simp[chN,h]
theorem chL_take {L:List Ru}{r:Ru}(h:chN L false r=0):chL L false r=L.take (ixN L r)++L.drop (ixN L r+1):=by simp[chL,h]
theorem with_any (ao:AdQ)(n cap:Nat)(p m b o s v:Int)(L:List Ru)(w:World)(hs:SR w (.slice ao n cap) L):
 Calls prog 54 #[.slice ao n cap,.agg #[.int i64 p,.int i64 m,.int i64 b,.int i64 o,.int i64 s,.int i64 v]] w fun e w'=>∃u,e=.returned (.tuple #[u,noV (chN L true ⟨p,m,b,o,s,v⟩)])∧NR w' w.heap.size u (chL L true ⟨p,m,b,o,s,v⟩)∧Below w.heap.size w w':=by
 obtain⟨ao',n',cap',e,hn,hn2,hn3,ha⟩:=hs.form;cases e;have HN:Hid (L.length=n):=hn;have HC0:=C6.new w p m b o s v 41;have hB0:Below w.heap.size w (w.alloc (.cells #[.int i64 p,.int i64 m,.int i64 b,.int i64 o,.int i64 s,.int i64 v] 41)):=(bRQ _ _).alloc (nLQ _) _;have HS0:Hid (SR (w.alloc (.cells #[.int i64 p,.int i64 m,.int i64 b,.int i64 o,.int i64 s,.int i64 v] 41)) (.slice ao n cap) L):=hs.later hB0;have HA:Hid (0<n→∃g o,ao=some ⟨g,o,none⟩∧RAt w g o L∧cap≤maxLen):=ha;have HB0:Hid (Below w.heap.size w (w.alloc (.cells #[.int i64 p,.int i64 m,.int i64 b,.int i64 o,.int i64 s,.int i64 v] 41))):=hB0;have HM:Hid (n≤maxLen):=hn2;have hn63:n≤9223372036854775807:=by unfold maxLen at hn2;omega
 clear hn ha hs hn2 hB0;cases hh:hitB L ⟨p,m,b,o,s,v⟩
 ·have HH:Hid (L.any (fun a=>keyB a ⟨p,m,b,o,s,v⟩)=false):=hh;by_cases h12:12≤n
  ·rw[ch_full hh (by rw[HN.out];exact h12),chL_ne (by rw[ch_full hh (by rw[HN.out];exact h12)];decide)];clear hh;go_enter func54,ntmps54
   go_wp2_with fail
   refine (containsF ao n cap _ _ _ L _ HN.out HM.out (fun h=>by obtain⟨g,o,e1,e2,e3⟩:=HA.out h;exact⟨g,o,e1,e2.later HB0.out,e3⟩) (enters_of func68 (by kernel_rfl) rfl) (with1_asks ⟨p,m,b,o,s,v⟩ _ _ HC0)).mono ?_;rintro e w1 ⟨rfl,hb1⟩;rw[HH.out];have HB1:Hid (Below w.heap.size w w1):=HB0.out.trans (hb1.mono HB0.out.size);clear hb1;go_wp2;refine bodyPost_ret (v:=.tuple #[.slice none 0 0,.iface 73 (.int i64 4)]) (by simp[results,results54,go_sem]) rfl ⟨_,rfl,NR.nil _ _,HB1.out⟩
  rw[ch_add hh (by rw[HN.out];exact h12),chL_add (ch_add hh (by rw[HN.out];exact h12))];clear hh;go_enter func54,ntmps54
  go_wp2_with fail
  refine (containsF ao n cap _ _ _ L _ HN.out HM.out (fun h=>by obtain⟨g,o,e1,e2,e3⟩:=HA.out h;exact⟨g,o,e1,e2.later HB0.out,e3⟩) (enters_of func68 (by kernel_rfl) rfl) (with1_asks ⟨p,m,b,o,s,v⟩ _ _ HC0)).mono ?_;rintro e w1 ⟨rfl,hb1⟩;rw[HH.out];have HB1:Hid (Below w.heap.size w w1):=HB0.out.trans (hb1.mono HB0.out.size);have HS1:Hid (SR w1 (.slice ao n cap) L):=HS0.out.later hb1;obtain⟨c0,c1,c2,c3,c4,c5⟩:=HC0.later hb1;simp only[Nat.zero_add] at c0 c1 c2 c3 c4 c5;have hlt:w.heap.size<w1.heap.size:=bLQ _ _ c0;clear hb1
  go_wp2_with fail
  have hB2:Below w1.heap.size w1 (w1.alloc (.cells #[.int i64 p,.int i64 m,.int i64 b,.int i64 o,.int i64 s,.int i64 v] 41)):=(bRQ _ _).alloc (nLQ _) _;have hp:=pat2 23 (HS1.out.later hB2) (sr_one w1 p m b o s v 41);have hB3:=hB2.trans (((bRQ _ _).alloc (nLQ _) (.cells #[.slice ao n cap,.slice (some ⟨w1.heap.size,0,none⟩) 1 1] 23)).mono hB2.size);simp only[World.size_alloc] at hp;refine (concat_any _ 0 2 2 [L,[⟨p,m,b,o,s,v⟩]] _ rfl (by omega) hp (by simp[HN.out];omega)).mono ?_;rintro e w2 ⟨u,rfl,hown,hb2⟩;have HB2:Hid (Below w.heap.size w w2):=HB1.out.trans ((hB3.trans (hb2.mono hB3.size)).mono HB1.out.size);have HO:Hid (NR w2 w.heap.size u (L++[⟨p,m,b,o,s,v⟩])):=(NR.of hown (by simp)).mono (by have:=HB1.out.size;simp;omega);clear hb2 hown hp hB2 hB3;go_wp2;refine bodyPost_ret (v:=.tuple #[u,.nilIface]) (by simp[results,results54,go_sem]) rfl ⟨_,rfl,HO.out,HB2.out⟩
 have HH:Hid (L.any (fun a=>keyB a ⟨p,m,b,o,s,v⟩)=true):=hh;rw[ch_hit hh,chL_ne (by rw[ch_hit hh];decide)];clear hh;go_enter func54,ntmps54
 go_wp2_with fail
 refine (containsF ao n cap _ _ _ L _ HN.out HM.out (fun h=>by obtain⟨g,o,e1,e2,e3⟩:=HA.out h;exact⟨g,o,e1,e2.later HB0.out,e3⟩) (enters_of func68 (by kernel_rfl) rfl) (with1_asks ⟨p,m,b,o,s,v⟩ _ _ HC0)).mono ?_;rintro e w1 ⟨rfl,hb1⟩;rw[HH.out];have HB1:Hid (Below w.heap.size w w1):=HB0.out.trans (hb1.mono HB0.out.size);clear hb1;go_wp2;refine bodyPost_ret (v:=.tuple #[.slice none 0 0,.iface 73 (.int i64 7)]) (by simp[results,results54,go_sem]) rfl ⟨_,rfl,NR.nil _ _,HB1.out⟩
theorem keepQ {w1 W W':World}(hb:Below W.heap.size W W')(h:Below w1.heap.size w1 W):Below w1.heap.size w1 W':=h.trans (hb.mono h.size)
theorem ix_no {L:List Ru}{r:Ru}(h:inB L r=false):ixP (fun a=>eqR r a) L = -1:=ixP_no h
theorem ix_yes {L:List Ru}{r:Ru}(h:inB L r=true):ixP (fun a=>eqR r a) L=(ixN L r:Int):=by
 unfold ixP;rw[if_pos (show L.any (fun a=>eqR r a)=true from h)];rfl
theorem ix_lt {L:List Ru}{r:Ru}(h:inB L r=true):ixN L r<L.length:=by
 unfold ixN;rw[List.findIdx_lt_length];simpa[inB] using h
theorem without_any (ao:AdQ)(n cap:Nat)(p m b o s v:Int)(L:List Ru)(w:World)(hs:SR w (.slice ao n cap) L)(h1000:n≤1000):
 Calls prog 55 #[.slice ao n cap,.agg #[.int i64 p,.int i64 m,.int i64 b,.int i64 o,.int i64 s,.int i64 v]] w fun e w'=>∃u,e=.returned (.tuple #[u,noV (chN L false ⟨p,m,b,o,s,v⟩)])∧NR w' w.heap.size u (chL L false ⟨p,m,b,o,s,v⟩)∧Below w.heap.size w w':=by
 obtain⟨ao',n',cap',e,hn,hn2,hn3,ha⟩:=hs.form;cases e;have HN:Hid (L.length=n):=hn;have hB0:Below w.heap.size w (w.alloc (.cells #[.int i64 p,.int i64 m,.int i64 b,.int i64 o,.int i64 s,.int i64 v] 41)):=(bRQ _ _).alloc (nLQ _) _;have HA:Hid (0<n→∃g o,ao=some ⟨g,o,none⟩∧RAt w g o L∧cap≤maxLen):=ha;have HB0:Hid (Below w.heap.size w (w.alloc (.cells #[.int i64 p,.int i64 m,.int i64 b,.int i64 o,.int i64 s,.int i64 v] 41))):=hB0;have HM:Hid (n≤maxLen):=hn2;clear hn ha hs hn2 hB0;cases hh:inB L ⟨p,m,b,o,s,v⟩
 ·rw[ch_none hh,chL_ne (by rw[ch_none hh];decide)];have HH:Hid (ixP (fun a=>eqR ⟨p,m,b,o,s,v⟩ a) L = -1):=ix_no hh;clear hh;go_enter func55,ntmps55
  go_wp2_with fail
  refine (index_any ao n cap p m b o s v L _ HN.out HM.out (fun h=>by obtain⟨g,o,e1,e2,e3⟩:=HA.out h;exact⟨g,o,e1,e2.later HB0.out,e3⟩)).mono ?_;rintro e w1 ⟨rfl,hb1⟩;rw[HH.out];have HB1:Hid (Below w.heap.size w w1):=HB0.out.trans (hb1.mono HB0.out.size);clear hb1;go_wp2;refine bodyPost_ret (v:=.tuple #[.slice none 0 0,.iface 73 (.int i64 5)]) (by simp[results,results55,go_sem]) rfl ⟨_,rfl,NR.nil _ _,HB1.out⟩
 rw[ch_take hh,chL_take (ch_take hh)];have HH:Hid (ixP (fun a=>eqR ⟨p,m,b,o,s,v⟩ a) L=(ixN L ⟨p,m,b,o,s,v⟩:Int)):=ix_yes hh;have hi:ixN L ⟨p,m,b,o,s,v⟩<n:=by
  have:=ix_lt hh;rw[HN.out] at this;exact this
 obtain⟨g,og,hao,hRA,hcm⟩:=HA.out (by omega);subst hao
 generalize ixN L ⟨p,m,b,o,s,v⟩=i at *
 have HRA:Hid (RAt w g og L):=hRA;have HCM:Hid (cap≤maxLen):=hcm;have hc63:(cap:Int)≤9223372036854775807:=by unfold maxLen at hcm;omega
 clear hh hRA hcm HA;go_enter func55,ntmps55
 go_wp2_with fail
 refine (index_any _ n cap p m b o s v L _ HN.out HM.out (fun h=>⟨g,og,rfl,HRA.out.later HB0.out,HCM.out⟩)).mono ?_;rintro e w1 ⟨rfl,hb1⟩;rw[HH.out];have HB1:Hid (Below w.heap.size w w1):=HB0.out.trans (hb1.mono HB0.out.size);have HR1:Hid (RAt w1 g og L):=(HRA.out.later HB0.out).later hb1;clear hb1;have i0:¬((i:Int)<0):=by omega
 have i01:(0:Int)≤(i:Int):=by omega
 have i1:(i:Int)≤(cap:Int):=by omega
 have i2:((i+1:Nat):Int)≤(n:Int):=by omega
 have i21:(0:Int)≤((i+1:Nat):Int):=by omega
 have i3:IntKind.i64.wrap ((i:Int)+1)=((i+1:Nat):Int):=by rw[IntKind.wrap_i64];omega
 have HT1:Hid (SR w1 (.slice (some ⟨g,og,none⟩) i cap) (L.take i)):=by
  have e1:(L.take i).length=i:=by rw[List.length_take,HN.out];omega
  exact .inr ⟨g,og,cap,by rw[e1],by rw[e1];omega,HCM.out,HR1.out.take i⟩
 have HLEN:Hid ([L.take i,L.drop (i+1)].flatten.length≤1000):=by
  show _≤1000;simp only[List.flatten_cons,List.flatten_nil,List.append_nil,List.length_append,List.length_take,List.length_drop,HN.out];omega
 by_cases hcj:cap=i+1
 ·have HT2:Hid (SR w1 (.slice (some ⟨g,og,none⟩) 0 0) (L.drop (i+1))):=.inl ⟨_,_,rfl,List.drop_eq_nil_of_le (by rw[HN.out];omega)⟩
  generalize hj:i+1=j at i2 i21 i3 hcj
  subst hcj;go_wp2
  go_region_held3 (fun w'=>Below w1.heap.size w1 w') (first | assumption | exact Below.drew (bRQ _ _) | exact keepQ (by assumption) (by assumption) | exact keepQ (Below.drew (bRQ _ _)) (by assumption) | exact keepQ (Below.alloc (bRQ _ _) (nLQ _) _) (by assumption))
   (first | (go_at_call 26;refine (concat_any _ 0 2 2 [L.take i,L.drop (i+1)] _ rfl (by omega) ((pat2 _ HT1.out HT2.out).later (Below.drew (bRQ _ _))) HLEN.out).mono ?_;rintro e w' ⟨u,rfl,hown,hb⟩))
  have HO:Hid (NR w' w.heap.size u (L.take i++L.drop (i+1))):=(NR.of hown (by simp)).mono (by have:=HB1.out.size;simp;omega);have HB2:Hid (Below w.heap.size w w'):=HB1.out.trans ((‹Below w1.heap.size w1 w'›).mono HB1.out.size);clear hown;go_wp2;refine bodyPost_ret (v:=.tuple #[u,.nilIface]) (by simp[results,results55,go_sem]) rfl ⟨_,rfl,HO.out,HB2.out⟩
 have HT2:Hid (SR w1 (.slice (some ⟨g,og+(i+1)*6,none⟩) (n-(i+1)) (cap-(i+1))) (L.drop (i+1))):=by
  have e1:(L.drop (i+1)).length=n-(i+1):=by rw[List.length_drop,HN.out]
  exact .inr ⟨g,og+(i+1)*6,cap-(i+1),by rw[e1],by rw[e1];omega,Nat.le_trans (Nat.sub_le _ _) HCM.out,HR1.out.drop (i+1)⟩
 generalize hj:i+1=j at i2 i21 i3 hcj HT2 HLEN
 go_wp2
 go_region_held3 (fun w'=>Below w1.heap.size w1 w') (first | assumption | exact Below.drew (bRQ _ _) | exact keepQ (by assumption) (by assumption) | exact keepQ (Below.drew (bRQ _ _)) (by assumption) | exact keepQ (Below.alloc (bRQ _ _) (nLQ _) _) (by assumption))
  (first | (go_at_call 26;refine (concat_any _ 0 2 2 [L.take i,L.drop j] _ rfl (by omega) ((pat2 _ HT1.out HT2.out).later (Below.drew (bRQ _ _))) HLEN.out).mono ?_;rintro e w' ⟨u,rfl,hown,hb⟩))
 have HO:Hid (NR w' w.heap.size u (L.take i++L.drop (i+1))):=(NR.of hown (by rw[hj];simp)).mono (by have:=HB1.out.size;simp;omega);have HB2:Hid (Below w.heap.size w w'):=HB1.out.trans ((‹Below w1.heap.size w1 w'›).mono HB1.out.size);clear hown;go_wp2;refine bodyPost_ret (v:=.tuple #[u,.nilIface]) (by simp[results,results55,go_sem]) rfl ⟨_,rfl,HO.out,HB2.out⟩
theorem do_tb {L:List Ru}{a:Bool}{r:Ru}(h:tbN L≠0):doN L a r=tbN L∧doL L a r=[]:=by
 have e:doN L a r=tbN L:=by simp[doN,h]
 exact⟨e,by rw[doL,e,if_neg h]⟩
theorem do_ru {L:List Ru}{a:Bool}{r:Ru}(h:tbN L=0)(h2:r.n≠0):doN L a r=r.n∧doL L a r=[]:=by
 have e:doN L a r=r.n:=by simp[doN,h,h2]
 exact⟨e,by rw[doL,e,if_neg h2]⟩
theorem do_ch {L:List Ru}{a:Bool}{r:Ru}(h:tbN L=0)(h2:r.n=0):doN L a r=chN L a r∧doL L a r=chL L a r:=by
 have e:doN L a r=chN L a r:=by simp[doN,h,h2]
 refine⟨e,?_⟩;by_cases h3:chN L a r=0
 ·rw[doL,e,if_pos h3]
 rw[doL,e,if_neg h3,chL_ne h3]
theorem do_own (ao:AdQ)(n cap:Nat)(a:Bool)(p m b o s v:Int)(L:List Ru)(w:World)(hs:SR w (.slice ao n cap) L):
 Calls prog 29 #[.slice ao n cap,.bool a,.agg #[.int i64 p,.int i64 m,.int i64 b,.int i64 o,.int i64 s,.int i64 v]] w fun e w'=>∃u,e=.returned (.tuple #[u,noV (doN L a ⟨p,m,b,o,s,v⟩)])∧NR w' w.heap.size u (doL L a ⟨p,m,b,o,s,v⟩)∧Below w.heap.size w w':=by
 have hB0:Below w.heap.size w (w.alloc (.cells #[.int i64 p,.int i64 m,.int i64 b,.int i64 o,.int i64 s,.int i64 v] 41)):=(bRQ _ _).alloc (nLQ _) _;have HC0:=C6.new w p m b o s v 41;have HS0:Hid (SR (w.alloc (.cells #[.int i64 p,.int i64 m,.int i64 b,.int i64 o,.int i64 s,.int i64 v] 41)) (.slice ao n cap) L):=hs.later hB0;have HB0:Hid (Below w.heap.size w (w.alloc (.cells #[.int i64 p,.int i64 m,.int i64 b,.int i64 o,.int i64 s,.int i64 v] 41))):=hB0;have HLN:Hid (L.length=n):=hs.len;clear hs hB0;by_cases h1:tbN L=0
 ·have HT:Hid (tbN L=0):=h1;by_cases h2:(⟨p,m,b,o,s,v⟩:Ru).n=0
  ·have HR:Hid (ruN p m b o s v=0):=h2;have HN1:Hid (n≤1000):=by
    have:=(tb_iff.1 h1).1;have:=HLN.out;show n≤1000;omega
   rw[(do_ch h1 h2).1,(do_ch h1 h2).2];clear h1 h2;cases a
   ·go_enter func29,ntmps29
    go_wp2_with fail
    refine (table_any _ L _ HS0.out).mono ?_;rintro e w1 ⟨rfl,hb1⟩;rw[no_ok HT.out];have HB1:Hid (Below w.heap.size w w1):=HB0.out.trans (hb1.mono HB0.out.size);have HS1:Hid (SR w1 (.slice ao n cap) L):=HS0.out.later hb1;have HC1:Hid (C6 w1 w.heap.size 0 ⟨p,m,b,o,s,v⟩):=HC0.later hb1;obtain⟨c0,c1,c2,c3,c4,c5⟩:=HC0.later hb1;simp only[Nat.zero_add] at c0 c1 c2 c3 c4 c5;have hlt:w.heap.size<w1.heap.size:=bLQ _ _ c0;clear hb1
    go_wp2_with fail
    refine (ruCheck_any _ _ _ _ _ _ _).mono ?_;rintro e w2 ⟨rfl,hb2⟩;rw[no_ok HR.out];have HB2:Hid (Below w.heap.size w w2):=HB1.out.trans (hb2.mono HB1.out.size);have HS2:Hid (SR w2 (.slice ao n cap) L):=HS1.out.later hb2;obtain⟨d0,d1,d2,d3,d4,d5⟩:=HC1.out.later hb2;simp only[Nat.zero_add] at d0 d1 d2 d3 d4 d5;have hlt2:w.heap.size<w2.heap.size:=bLQ _ _ d0;clear hb2 c0 c1 c2 c3 c4 c5
    go_wp2_with fail
    refine (without_any ao n cap p m b o s v L _ HS2.out HN1.out).mono ?_;rintro e w3 ⟨u,rfl,hsr,hb3⟩;have HB3:Hid (Below w.heap.size w w3):=HB2.out.trans (hb3.mono HB2.out.size);have HO:Hid (NR w3 w.heap.size u (chL L false ⟨p,m,b,o,s,v⟩)):=hsr.mono HB2.out.size;clear hb3 hsr d0 d1 d2 d3 d4 d5
    generalize hE:noV (chN L false ⟨p,m,b,o,s,v⟩)=E
    have HE:Hid (noV (chN L false ⟨p,m,b,o,s,v⟩)=E):=hE;clear hE;go_wp2;refine bodyPost_ret (v:=.tuple #[u,E]) (by simp[results,results29,go_sem]) rfl ⟨_,by rw[HE.out],HO.out,HB3.out⟩
   go_enter func29,ntmps29
   go_wp2_with fail
   refine (table_any _ L _ HS0.out).mono ?_;rintro e w1 ⟨rfl,hb1⟩;rw[no_ok HT.out];have HB1:Hid (Below w.heap.size w w1):=HB0.out.trans (hb1.mono HB0.out.size);have HS1:Hid (SR w1 (.slice ao n cap) L):=HS0.out.later hb1;have HC1:Hid (C6 w1 w.heap.size 0 ⟨p,m,b,o,s,v⟩):=HC0.later hb1;obtain⟨c0,c1,c2,c3,c4,c5⟩:=HC0.later hb1;simp only[Nat.zero_add] at c0 c1 c2 c3 c4 c5;have hlt:w.heap.size<w1.heap.size:=bLQ _ _ c0;clear hb1
   go_wp2_with fail
   refine (ruCheck_any _ _ _ _ _ _ _).mono ?_;rintro e w2 ⟨rfl,hb2⟩;rw[no_ok HR.out];have HB2:Hid (Below w.heap.size w w2):=HB1.out.trans (hb2.mono HB1.out.size);have HS2:Hid (SR w2 (.slice ao n cap) L):=HS1.out.later hb2;obtain⟨d0,d1,d2,d3,d4,d5⟩:=HC1.out.later hb2;simp only[Nat.zero_add] at d0 d1 d2 d3 d4 d5;have hlt2:w.heap.size<w2.heap.size:=bLQ _ _ d0;clear hb2 c0 c1 c2 c3 c4 c5
   go_wp2_with fail
   refine (with_any ao n cap p m b o s v L _ HS2.out).mono ?_;rintro e w3 ⟨u,rfl,hsr,hb3⟩;have HB3:Hid (Below w.heap.size w w3):=HB2.out.trans (hb3.mono HB2.out.size);have HO:Hid (NR w3 w.heap.size u (chL L true ⟨p,m,b,o,s,v⟩)):=hsr.mono HB2.out.size;clear hb3 hsr d0 d1 d2 d3 d4 d5
   generalize hE:noV (chN L true ⟨p,m,b,o,s,v⟩)=E
   have HE:Hid (noV (chN L true ⟨p,m,b,o,s,v⟩)=E):=hE;clear hE;go_wp2;refine bodyPost_ret (v:=.tuple #[u,E]) (by simp[results,results29,go_sem]) rfl ⟨_,by rw[HE.out],HO.out,HB3.out⟩
  have HR:Hid (ruN p m b o s v≠0):=h2;rw[(do_ru h1 h2).1,(do_ru h1 h2).2];have HRV:Hid (noV (Ru.n ⟨p,m,b,o,s,v⟩)=.iface 73 (.int i64 (ruN p m b o s v))):=no_ne h2;clear h1 h2;go_enter func29,ntmps29
  go_wp2_with fail
  refine (table_any _ L _ HS0.out).mono ?_;rintro e w1 ⟨rfl,hb1⟩;rw[no_ok HT.out];have HB1:Hid (Below w.heap.size w w1):=HB0.out.trans (hb1.mono HB0.out.size);obtain⟨c0,c1,c2,c3,c4,c5⟩:=HC0.later hb1;simp only[Nat.zero_add] at c0 c1 c2 c3 c4 c5;have hlt:w.heap.size<w1.heap.size:=bLQ _ _ c0;clear hb1
  go_wp2_with fail
  refine (ruCheck_any _ _ _ _ _ _ _).mono ?_;rintro e w2 ⟨rfl,hb2⟩;rw[no_ne HR.out];have HB2:Hid (Below w.heap.size w w2):=HB1.out.trans (hb2.mono HB1.out.size);clear hb2 c0 c1 c2 c3 c4 c5;go_wp2;refine bodyPost_ret (v:=.tuple #[.slice none 0 0,.iface 73 (.int i64 (ruN p m b o s v))]) (by simp[results,results29,go_sem]) rfl ⟨_,by rw[HRV.out],NR.nil _ _,HB2.out⟩
 have HT:Hid (tbN L≠0):=h1;rw[(do_tb h1).1,(do_tb h1).2,no_ne h1];clear h1;go_enter func29,ntmps29
 go_wp2_with fail
 refine (table_any _ L _ HS0.out).mono ?_;rintro e w1 ⟨rfl,hb1⟩;rw[no_ne HT.out];have HB1:Hid (Below w.heap.size w w1):=HB0.out.trans (hb1.mono HB0.out.size);clear hb1;go_wp2;refine bodyPost_ret (v:=.tuple #[.slice none 0 0,.iface 73 (.int i64 (tbN L))]) (by simp[results,results29,go_sem]) rfl ⟨_,rfl,NR.nil _ _,HB1.out⟩
theorem own_apart {w:World}{b1 e1 s1 n1 b2 e2 s2 n2:Nat}{v1 v2:Value}{x1 x2:List Value}(h1:w.ownsRow b1 e1 s1 v1 n1 x1)(h2:w.ownsRow b2 e2 s2 v2 n2 x2)(he:e1≠e2):v1.ownBlock=none∨v1.ownBlock≠v2.ownBlock:=by
 rcases h1.2 with ⟨rfl,_⟩ | ⟨g,cap,cur,rfl,_,hg,_⟩
 ·exact .inl rfl
 refine .inr ?_
 rcases h2.2 with ⟨rfl,_⟩ | ⟨g2,cap2,cur2,rfl,_,hg2,_⟩
 ·exact fun h=>by cases h
 intro h;simp only[Value.ownBlock,Option.some.injEq] at h;subst h;rw[hg] at hg2;simp only[Option.some.injEq,Obj.cells.injEq] at hg2;exact he hg2.2.1
theorem pat1 {W:World}{a1:AdQ}{n1 c1:Nat}{L1:List Ru}(t:TypeId)(h1:SR W (.slice a1 n1 c1) L1):
 PAt (W.alloc (.cells #[.slice a1 n1 c1] t)) W.heap.size 0 [L1]:=by
 have hb:Below W.heap.size W (W.alloc (.cells #[.slice a1 n1 c1] t)):=(bRQ _ _).alloc (nLQ _) _;intro i hi
 match i,hi with
 | 0,_=>exact⟨a1,n1,c1,by simp,h1.later hb⟩
structure C8 (w:World)(g o:Nat)(x:Op8):Prop where
 c0:w.cell? ⟨g,o,none⟩=some (.int i64 x.w)
 c1:w.cell? ⟨g,o+1,none⟩=some (.bool x.a)
 c2:w.cell? ⟨g,o+2,none⟩=some (.int i64 x.r.p)
 c3:w.cell? ⟨g,o+3,none⟩=some (.int i64 x.r.m)
 c4:w.cell? ⟨g,o+4,none⟩=some (.int i64 x.r.b)
 c5:w.cell? ⟨g,o+5,none⟩=some (.int i64 x.r.o)
 c6:w.cell? ⟨g,o+6,none⟩=some (.int i64 x.r.s)
 c7:w.cell? ⟨g,o+7,none⟩=some (.int i64 x.r.v)
theorem C8.later {w w':World}{g o:Nat}{x:Op8}(h:C8 w g o x)(hb:Below w.heap.size w w'):C8 w' g o x:=
 ⟨cell_later hb h.c0,cell_later hb h.c1,cell_later hb h.c2,cell_later hb h.c3,cell_later hb h.c4,cell_later hb h.c5,cell_later hb h.c6,cell_later hb h.c7⟩
theorem C8.new (w:World)(y:Int)(a:Bool)(p m b o s v:Int)(t:TypeId):C8 (w.alloc (.cells #[.int i64 y,Value.bool a,.int i64 p,.int i64 m,.int i64 b,.int i64 o,.int i64 s,.int i64 v] t)) w.heap.size 0 ⟨y,a,⟨p,m,b,o,s,v⟩⟩:=by
 refine⟨?_,?_,?_,?_,?_,?_,?_,?_⟩ <;> simp
def OAt (w:World)(g o:Nat)(L:List Op8):Prop:=∀i (h:i<L.length),C8 w g (o+i*8) L[i]
theorem OAt.later {w w':World}{g o:Nat}{L:List Op8}(h:OAt w g o L)(hb:Below w.heap.size w w'):OAt w' g o L:=fun i hi=>(h i hi).later hb
def SO (w:World)(v:Value)(L:List Op8):Prop:=
 (∃ao cap,v=.slice ao 0 cap∧L=[])∨∃g o cap,v=.slice (some ⟨g,o,none⟩) L.length cap∧L.length≤cap∧cap≤maxLen∧OAt w g o L
theorem SO.later {w w':World}{v:Value}{L:List Op8}(h:SO w v L)(hb:Below w.heap.size w w'):SO w' v L:=by
 rcases h with h | ⟨g,o,cap,h1,h2,h3,h4⟩
 ·exact .inl h
 exact .inr ⟨g,o,cap,h1,h2,h3,h4.later hb⟩
theorem SO.form {w:World}{v:Value}{L:List Op8}(h:SO w v L):∃ao n cap,v=.slice ao n cap∧L.length=n∧n≤maxLen∧n≤cap∧(0<n→∃g o,ao=some ⟨g,o,none⟩∧OAt w g o L∧cap≤maxLen):=by
 rcases h with ⟨ao,cap,rfl,rfl⟩ | ⟨g,o,cap,rfl,h1,h2,h3⟩
 ·exact⟨ao,0,cap,rfl,rfl,Nat.zero_le _,Nat.zero_le _,fun h=>absurd h (by omega)⟩
 exact⟨_,_,cap,rfl,rfl,Nat.le_trans h1 h2,h1,fun _=>⟨g,o,rfl,h3,h2⟩⟩
theorem SO.nil (w:World):SO w (.slice none 0 0) []:=.inl ⟨none,0,rfl,rfl⟩
theorem OAt.at {w:World}{g o:Nat}{L:List Op8}(h:OAt w g o L){n k:Nat}(hn:L.length=n)(hk:k<n):
 ∃ (y:Int) (a:Bool) (p m b q s v:Int) (hl:k<L.length),L[k]=⟨y,a,⟨p,m,b,q,s,v⟩⟩∧(w.cell? ⟨g,o+k*8,none⟩=some (.int i64 y)∧w.cell? ⟨g,o+k*8+1,none⟩=some (.bool a)∧w.cell? ⟨g,o+k*8+2,none⟩=some (.int i64 p)∧w.cell? ⟨g,o+k*8+3,none⟩=some (.int i64 m)∧w.cell? ⟨g,o+k*8+4,none⟩=some (.int i64 b) ∧
   w.cell? ⟨g,o+k*8+5,none⟩=some (.int i64 q)∧w.cell? ⟨g,o+k*8+6,none⟩=some (.int i64 s)∧w.cell? ⟨g,o+k*8+7,none⟩=some (.int i64 v)):=
 have hl:k<L.length:=by omega
 have c:=h k hl
 ⟨_,_,_,_,_,_,_,_,hl,rfl,c.c0,c.c1,c.c2,c.c3,c.c4,c.c5,c.c6,c.c7⟩
def cellsO (L:List Op8):List Value:=L.flatMap fun x=>[.int i64 x.w,.bool x.a,.int i64 x.r.p,.int i64 x.r.m,.int i64 x.r.b,.int i64 x.r.o,.int i64 x.r.s,.int i64 x.r.v]
theorem cellsO_app (L M:List Op8):cellsO (L++M)=cellsO L++cellsO M:=by simp[cellsO]
theorem cellsO_at (L:List Op8)(i:Nat)(h:i<L.length):(cellsO L)[i*8]?=some (.int i64 (L[i]).w)∧(cellsO L)[i*8+1]?=some (.bool (L[i]).a)∧(cellsO L)[i*8+2]?=some (.int i64 (L[i]).r.p)∧(cellsO L)[i*8+3]?=some (.int i64 (L[i]).r.m) ∧
 (cellsO L)[i*8+4]?=some (.int i64 (L[i]).r.b)∧(cellsO L)[i*8+5]?=some (.int i64 (L[i]).r.o)∧(cellsO L)[i*8+6]?=some (.int i64 (L[i]).r.s)∧(cellsO L)[i*8+7]?=some (.int i64 (L[i]).r.v):=by
 induction L generalizing i with
 | nil=>simp at h
 | cons p r ih =>
   cases i with
   | zero=>simp[cellsO]
   | succ i =>
     have:=ih i (by simpa using h);have e1:(i+1)*8=i*8+1+1+1+1+1+1+1+1:=by omega
     simpa[cellsO,e1] using this
theorem own_SO {w:World}{B e:Nat}{v:Value}{L:List Op8}(h:w.ownsRow B e 8 v L.length (cellsO L)):SO w v L:=by
 rcases h.2 with ⟨rfl,h0⟩ | ⟨g,cap,cur,rfl,_,_,h1,h2,_⟩
 ·exact .inl ⟨none,0,rfl,List.length_eq_zero_iff.1 h0⟩
 refine .inr ⟨g,0,cap,rfl,h1,h2,fun i hi=>?_⟩;obtain⟨a0,a1,a2,a3,a4,a5,a6,a7⟩:=cellsO_at L i hi;rw[Nat.zero_add];refine⟨?_,?_,?_,?_,?_,?_,?_,?_⟩
 ·rw[h.cellAt _ (by omega)];exact a0
 ·rw[h.cellAt _ (by omega)];exact a1
 ·rw[h.cellAt _ (by omega)];exact a2
 ·rw[h.cellAt _ (by omega)];exact a3
 ·rw[h.cellAt _ (by omega)];exact a4
 ·rw[h.cellAt _ (by omega)];exact a5
 ·rw[h.cellAt _ (by omega)];exact a6
 rw[h.cellAt _ (by omega)];exact a7
theorem infoOp:(Tryd.prog.info? 43).map (fun i=>(i.zero,i.size,i.bytes))=some (some (.agg #[.int i64 0,.bool false,.int i64 0,.int i64 0,.int i64 0,.int i64 0,.int i64 0,.int i64 0]),8,64):=by kernel_rfl
theorem eightCells:(Value.agg #[.int i64 0,.bool false,.int i64 0,.int i64 0,.int i64 0,.int i64 0,.int i64 0,.int i64 0]).cells.size=8:=by simp[Value.cells]
theorem wpList_append_op (w:World){ops:Array Oper}{rest:List Oper}{o:Oper}{a:Act}{Q:Exit→Act→World→Prop}(hgd:o.guard=none)(s x:Operand)(t:TypeId)
 (ho:o.op=.call { callee:=.builtin .append,args:=#[s,x],argTypes:=#[t,t] }) (ht:Tryd.prog.underlying t=some (.slice 43)) (base:Nat)
 (v:Value) (hs:a.eval s=v) (L:List Op8) (hown:w.ownsRow base 43 8 v L.length (cellsO L)) (B:Nat) (hx:a.eval x=.slice (some ⟨B,0,none⟩) 1 1) (y:Op8) (hM:C8 w B 0 y)
 (h100:L.length≤1000) (hbase:base≤w.heap.size)
 (h:∀v' w',w'.ownsRow base 43 8 v' (L++[y]).length (cellsO (L++[y]))→w.grownBy w' v.ownBlock→wpList prog ops Q rest (a.put o.dst v') w'):wpList prog ops Q (o :: rest) a w:=by
 obtain⟨i0,hi,hz0,hz1,hz2⟩:=info_parts infoOp;refine wpList_append_own w hgd s x t ho base 43 i0 (.agg #[.int i64 0,.bool false,.int i64 0,.int i64 0,.int i64 0,.int i64 0,.int i64 0,.int i64 0]) 8 64 ht hi hz0 hz1 hz2 eightCells (by decide) v _ _ hs hown ⟨B,0,none⟩ 1 1 (cellsO [y]) hx rfl ?_ ?_ (by unfold maxLen;omega) (by omega) hbase ?_
 ·intro j u hj;rw[addr_add,Nat.zero_add];obtain⟨c0,c1,c2,c3,c4,c5,c6,c7⟩:=hM
  match j,hj with
  | 0,hj=>simp[cellsO] at hj;subst hj;exact c0
  | 1,hj=>simp[cellsO] at hj;subst hj;exact c1
  | 2,hj=>simp[cellsO] at hj;subst hj;exact c2
  | 3,hj=>simp[cellsO] at hj;subst hj;exact c3
  | 4,hj=>simp[cellsO] at hj;subst hj;exact c4
  | 5,hj=>simp[cellsO] at hj;subst hj;exact c5
  | 6,hj=>simp[cellsO] at hj;subst hj;exact c6
  | 7,hj=>simp[cellsO] at hj;subst hj;exact c7
 ·intro u hu;simp[cellsO] at hu
  rcases hu with rfl | rfl | rfl | rfl | rfl | rfl | rfl | rfl <;> rfl
 intro v' w' h1 h2 _;refine h v' w' ?_ h2;rw[List.length_append,cellsO_app];exact h1
theorem al_step {L:List Ru}{O:List Op8}{k:Nat}(hk:k<O.length):alN L (O.drop k)=(if doN L (O[k]).a (O[k]).r=0 then alN (doL L (O[k]).a (O[k]).r) (O.drop (k+1)) else doN L (O[k]).a (O[k]).r)∧alL L (O.drop k)=(if doN L (O[k]).a (O[k]).r=0 then alL (doL L (O[k]).a (O[k]).r) (O.drop (k+1)) else []):=by
 rw[List.drop_eq_getElem_cons hk,alN,alL];exact⟨rfl,rfl⟩
theorem all_own (ao:AdQ)(n cap:Nat)(ao2:AdQ)(n2 cap2:Nat)(L:List Ru)(O:List Op8)(w:World)(hs:SR w (.slice ao n cap) L)(ht:SO w (.slice ao2 n2 cap2) O)(h1000:L.length≤1000):
 Calls prog 37 #[.slice ao n cap,.slice ao2 n2 cap2] w fun e w'=>∃u,e=.returned (.tuple #[u,noV (alN L O)])∧NR w' w.heap.size u (alL L O)∧Below w.heap.size w w':=by
 have hp:=pat1 23 hs;have hB0:Below w.heap.size w (w.alloc (.cells #[.slice ao n cap] 23)):=(bRQ _ _).alloc (nLQ _) _;have HP:Hid (PAt (w.alloc (.cells #[.slice ao n cap] 23)) w.heap.size 0 [L]):=hp;have HB0:Hid (Below w.heap.size w (w.alloc (.cells #[.slice ao n cap] 23))):=hB0;have HL2:Hid ([L].flatten.length≤1000):=by show _≤1000;simpa using h1000
 obtain⟨ao',n',cap',e,hn,hn2,hn3,ha⟩:=ht.form;cases e;have HN:Hid (O.length=n2):=hn;have HA:Hid (0<n2→∃g o,ao2=some ⟨g,o,none⟩∧OAt w g o O∧cap2≤maxLen):=ha;have hn63:n2≤9223372036854775807:=by unfold maxLen at hn2;omega
 clear hs ht hp hB0 h1000 hn ha hn2;obtain⟨N,hN⟩:∃N,N=alN L O:=⟨_,rfl⟩;obtain⟨R,hR⟩:∃R,R=alL L O:=⟨_,rfl⟩;rw[←hN,←hR];have HNN:Hid (N=alN L O):=hN;have HRR:Hid (R=alL L O):=hR;clear hN hR;go_enter func37,ntmps37
 go_wp2_with fail
 refine (concat_any _ 0 1 1 [L] _ rfl (by omega) HP.out HL2.out).mono ?_;rintro e w1 ⟨u,rfl,hown,hb1⟩;have hsr:=own_SR hown;obtain⟨ao3,n3,cap3,rfl,_⟩:=hsr.form;have HS1:Hid (NR w1 w.heap.size (.slice ao3 n3 cap3) L):=by
  have e1:[L].flatten=L:=by simp
  rw[e1] at hown;exact NR.mono hown HB0.out.size
 have HB1:Hid (Below w.heap.size w w1):=HB0.out.trans (hb1.mono HB0.out.size);clear hown hb1 hsr HP HL2;go_wp2
 go_loopw [6,16] (fun u i wr=>∃k:Nat,k≤n2∧i=.int i64 k∧(∃a4 n4 c4 K,u=.slice a4 n4 c4∧NR wr w.heap.size (.slice a4 n4 c4) K∧N=alN K (O.drop k)∧R=alL K (O.drop k))∧Below w.heap.size w wr) (fun _ i _=>n2-(intOf i).toNat)
 case atStart=>exact⟨0,by omega,rfl,⟨_,_,_,L,rfl,HS1.out,by rw[HNN.out];rfl,by rw[HRR.out];rfl⟩,HB1.out⟩
 case round =>
  obtain⟨k,hk,rfl,⟨a4,n4,c4,K,rfl,hsr,hN,hR⟩,hB⟩:=hrel;have HS:Hid (NR wr w.heap.size (.slice a4 n4 c4) K):=hsr;have HB:Hid (Below w.heap.size w wr):=hB;have HN4:Hid (N=alN K (O.drop k)):=hN;have HR4:Hid (R=alL K (O.drop k)):=hR;clear HS1 HB1 hsr hN hR;by_cases hlt:k<n2
  ·obtain⟨g,og,hao,hOA,_⟩:=HA.out (by omega);subst hao;obtain⟨y,a,p,m,b,q,s,v,hkl,hOk,q0,q1,q2,q3,q4,q5,q6,q7⟩:=(hOA.later hB).at HN.out hlt;have hBA:Below wr.heap.size wr (wr.alloc (.cells #[.int i64 y,Value.bool a,.int i64 p,.int i64 m,.int i64 b,.int i64 q,.int i64 s,.int i64 v] 43)):=(bRQ _ _).alloc (nLQ _) _;have HSA:Hid (SR (wr.alloc (.cells #[.int i64 y,Value.bool a,.int i64 p,.int i64 m,.int i64 b,.int i64 q,.int i64 s,.int i64 v] 43)) (.slice a4 n4 c4) K):=HS.out.sr.later hBA;have HBA:Hid (Below w.heap.size w (wr.alloc (.cells #[.int i64 y,Value.bool a,.int i64 p,.int i64 m,.int i64 b,.int i64 q,.int i64 s,.int i64 v] 43))):=hB.trans (hBA.mono hB.size);have hst:=al_step (L:=K) hkl;rw[hOk] at hst;simp only at hst;have HA2:Hid (0<n2→∃g' o',some (⟨g,og,none⟩:Addr)=some ⟨g',o',none⟩∧OAt w g' o' O∧cap2≤maxLen):=HA.out;clear hOA hOk hB hBA HA HS;by_cases hd:doN K a ⟨p,m,b,q,s,v⟩=0
   ·have HD:Hid (doN K a ⟨p,m,b,q,s,v⟩=0):=hd;rw[if_pos hd,if_pos hd] at hst;have HN5:Hid (N=alN (doL K a ⟨p,m,b,q,s,v⟩) (O.drop (k+1))):=HN4.out.trans hst.1;have HR5:Hid (R=alL (doL K a ⟨p,m,b,q,s,v⟩) (O.drop (k+1))):=HR4.out.trans hst.2;clear hd hst
    go_wp2_with fail
    refine (do_own a4 n4 c4 a p m b q s v K _ HSA.out).mono ?_;rintro e w2 ⟨x,rfl,hx,hb2⟩;rw[no_ok HD.out];obtain⟨a5,n5,c5,rfl,_⟩:=hx.sr.form;have HX:Hid (NR w2 w.heap.size (.slice a5 n5 c5) (doL K a ⟨p,m,b,q,s,v⟩)):=hx.mono HBA.out.size;have HB2:Hid (Below w.heap.size w w2):=HBA.out.trans (hb2.mono HBA.out.size);clear hb2 hx q0 q1 q2 q3 q4 q5 q6 q7;go_wp2;go_roundw
    case rel=>exact⟨k+1,by omega,by go_num,⟨_,_,_,_,rfl,HX.out,HN5.out,HR5.out⟩,HB2.out⟩
    case measure=>simp[intOf];omega
   have HD:Hid (doN K a ⟨p,m,b,q,s,v⟩≠0):=hd;rw[if_neg hd,if_neg hd] at hst;have HN5:Hid (N=doN K a ⟨p,m,b,q,s,v⟩):=HN4.out.trans hst.1;have HR5:Hid (R=[]):=HR4.out.trans hst.2;clear hd hst
   go_wp2_with fail
   refine (do_own a4 n4 c4 a p m b q s v K _ HSA.out).mono ?_;rintro e w2 ⟨x,rfl,hx,hb2⟩;rw[no_ne HD.out];have HB2:Hid (Below w.heap.size w w2):=HBA.out.trans (hb2.mono HBA.out.size);clear hb2 hx q0 q1 q2 q3 q4 q5 q6 q7;go_wp2;refine bodyPost_ret (v:=.tuple #[.slice none 0 0,.iface 73 (.int i64 (doN K a ⟨p,m,b,q,s,v⟩))]) (by simp[results,results37,go_sem]) rfl ⟨_,by rw[HN5.out,no_ne HD.out],by rw[HR5.out];exact NR.nil _ _,HB2.out⟩
  obtain rfl:k=n2:=by omega
  have HE:Hid (N=0∧R=K):=by
   have e1:O.drop k=[]:=List.drop_eq_nil_of_le (by rw[HN.out];exact nLQ _);have h1:=HN4.out;have h2:=HR4.out;rw[e1] at h1 h2;exact⟨h1,h2⟩
  clear hB;go_wp2;refine bodyPost_ret (v:=.tuple #[.slice a4 n4 c4,.nilIface]) (by simp[results,results37,go_sem]) rfl ⟨_,by rw[HE.out.1];rfl,by rw[HE.out.2];exact HS.out,HB.out⟩
def CD (w:World)(g o:Nat)(p m b q s v:Int)(g' o':Nat)(p' m' b' q' s' v':Int)(w':World):Prop:=
 Below w.heap.size w w'∧(w'.cell? ⟨g,o,none⟩=some (.int i64 p)∧w'.cell? ⟨g,o+1,none⟩=some (.int i64 m)∧w'.cell? ⟨g,o+2,none⟩=some (.int i64 b) ∧
  w'.cell? ⟨g,o+3,none⟩=some (.int i64 q)∧w'.cell? ⟨g,o+4,none⟩=some (.int i64 s)∧w'.cell? ⟨g,o+5,none⟩=some (.int i64 v)) ∧
 w'.cell? ⟨g',o',none⟩=some (.int i64 p')∧w'.cell? ⟨g',o'+1,none⟩=some (.int i64 m')∧w'.cell? ⟨g',o'+2,none⟩=some (.int i64 b') ∧
  w'.cell? ⟨g',o'+3,none⟩=some (.int i64 q')∧w'.cell? ⟨g',o'+4,none⟩=some (.int i64 s')∧w'.cell? ⟨g',o'+5,none⟩=some (.int i64 v')
theorem CD.later {w W W':World}{g o:Nat}{p m b q s v:Int}{g' o':Nat}{p' m' b' q' s' v':Int}(hb:Below W.heap.size W W')(h:CD w g o p m b q s v g' o' p' m' b' q' s' v' W):CD w g o p m b q s v g' o' p' m' b' q' s' v' W':=by
 obtain⟨h0,⟨h1,h2,h3,h4,h5,h6⟩,k1,k2,k3,k4,k5,k6⟩:=h;exact⟨h0.trans (hb.mono h0.size),⟨cell_later hb h1,cell_later hb h2,cell_later hb h3,cell_later hb h4,cell_later hb h5,cell_later hb h6⟩,cell_later hb k1,cell_later hb k2,cell_later hb k3,cell_later hb k4,cell_later hb k5,cell_later hb k6⟩
theorem tabs_any (ao:AdQ)(n cap:Nat)(ao2:AdQ)(n2 cap2:Nat)(L:List Ru)(w:World)(hs:SR w (.slice ao n cap) L)(ht:SR w (.slice ao2 n2 cap2) L):
 Calls prog 10 #[.slice ao n cap,.slice ao2 n2 cap2] w fun e w'=>e=.returned (.bool true)∧Below w.heap.size w w':=by
 obtain⟨ao',n',cap',e,hn,hn2,hn3,ha⟩:=hs.form;cases e;obtain⟨ao',n',cap',e,hm,hm2,hm3,hb⟩:=ht.form;cases e;obtain rfl:n=n2:=by omega
 have HN:Hid (L.length=n):=hn;have HA:Hid (0<n→∃g o,ao=some ⟨g,o,none⟩∧RAt w g o L∧cap≤maxLen):=ha;have HA2:Hid (0<n→∃g o,ao2=some ⟨g,o,none⟩∧RAt w g o L∧cap2≤maxLen):=hb;have hn63:n≤9223372036854775807:=by unfold maxLen at hn2;omega
 clear hs ht hn ha hm hb hn2 hm2;go_enter func10,ntmps10;go_wp2
 go_loopw [5] (fun i wr=>∃k:Nat,k≤n∧i=.int i64 k∧Below w.heap.size w wr) (fun i _=>n-(intOf i).toNat)
 case atStart=>exact⟨0,by omega,rfl,bRQ _ _⟩
 case round =>
  obtain⟨k,hk,rfl,hB⟩:=hrel;have HB:Hid (Below w.heap.size w wr):=hB;by_cases hlt:k<n
  ·obtain⟨g,og,hao,hc,_⟩:=HA.out (by omega);obtain⟨g2,og2,hao2,hc2,_⟩:=HA2.out (by omega);subst hao hao2;obtain⟨p,m,b,q,s,v,hkl,hLk,q0,q1,q2,q3,q4,q5⟩:=(hc.later hB).at HN.out hlt;obtain⟨p',m',b',q',s',v',_,hLk2,r0,r1,r2,r3,r4,r5⟩:=(hc2.later hB).at HN.out hlt;rw[hLk] at hLk2;simp only[Ru.mk.injEq] at hLk2;obtain⟨rfl,rfl,rfl,rfl,rfl,rfl⟩:=hLk2;have HCE:Hid (CD w g (og+k*6) p m b q s v g2 (og2+k*6) p m b q s v wr):=⟨hB,⟨q0,q1,q2,q3,q4,q5⟩,r0,r1,r2,r3,r4,r5⟩;clear q0 q1 q2 q3 q4 q5 r0 r1 r2 r3 r4 r5 hB hc hc2 hLk HA HA2;go_upto_region 6 with fail;have kb0:(0:Int)≤(k:Int):=by omega
   have kb1:(k:Int)<(n:Int):=by omega
   go_cut [25] from 11 to 25 (fun c w'=>c=.bool false∧Below w.heap.size w w')
   case first =>
    as_aux_lemma =>
     refine wp_region_quiet (C:=CD w g (og+k*6) p m b q s v g2 (og2+k*6) p m b q s v) (by kernel_rfl) (by kernel_rfl) (CD.later (W:=wr) (Below.drew (bRQ _ _)) HCE.out) ?_;simp only[List.toList_toArray];go_big_quiet_want;refine qv (.slice (some ⟨g,og,none⟩) n cap) ?_ ?_
     ·rintro w' ⟨z0,⟨z1,z2,z3,z4,z5,z6⟩,y1,y2,y3,y4,y5,y6⟩;go_simp
     simp only[Act.put,AP];go_big_quiet_on;go_big_quiet_want;refine qv (.int i64 (k:Int)) ?_ ?_
     ·rintro w' ⟨z0,⟨z1,z2,z3,z4,z5,z6⟩,y1,y2,y3,y4,y5,y6⟩;go_simp
     simp only[Act.put,AP];go_big_quiet_on;go_big_quiet_want;refine qv (.pointer (some ⟨g,og+k*6,none⟩)) ?_ ?_
     ·rintro w' ⟨z0,⟨z1,z2,z3,z4,z5,z6⟩,y1,y2,y3,y4,y5,y6⟩;go_simp
     simp only[Act.put,AP];go_big_quiet_on;go_big_quiet_want;refine qv (.agg #[.int i64 p,.int i64 m,.int i64 b,.int i64 q,.int i64 s,.int i64 v]) ?_ ?_
     ·rintro w' ⟨z0,⟨z1,z2,z3,z4,z5,z6⟩,y1,y2,y3,y4,y5,y6⟩;go_simp
     simp only[Act.put,AP];go_big_quiet_on;go_big_quiet_want;refine qv (.slice (some ⟨g2,og2,none⟩) n cap2) ?_ ?_
     ·rintro w' ⟨z0,⟨z1,z2,z3,z4,z5,z6⟩,y1,y2,y3,y4,y5,y6⟩;go_simp
     simp only[Act.put,AP];go_big_quiet_on;go_big_quiet_want;refine qv (.int i64 (k:Int)) ?_ ?_
     ·rintro w' ⟨z0,⟨z1,z2,z3,z4,z5,z6⟩,y1,y2,y3,y4,y5,y6⟩;go_simp
     simp only[Act.put,AP];go_big_quiet_on;go_big_quiet_want;refine qv (.pointer (some ⟨g2,og2+k*6,none⟩)) ?_ ?_
     ·rintro w' ⟨z0,⟨z1,z2,z3,z4,z5,z6⟩,y1,y2,y3,y4,y5,y6⟩;go_simp
     simp only[Act.put,AP];go_big_quiet_on;go_big_quiet_want;refine qv (.agg #[.int i64 p,.int i64 m,.int i64 b,.int i64 q,.int i64 s,.int i64 v]) ?_ ?_
     ·rintro w' ⟨z0,⟨z1,z2,z3,z4,z5,z6⟩,y1,y2,y3,y4,y5,y6⟩;go_simp
     simp only[Act.put,AP];go_big_quiet_on;go_big_quiet_want;refine qv (.bool false) ?_ ?_
     ·rintro w' ⟨z0,⟨z1,z2,z3,z4,z5,z6⟩,y1,y2,y3,y4,y5,y6⟩;go_simp
     simp only[Act.put,AP];go_big_quiet_on;refine wpQuiet_nil ?_;intro w' hC
     go_wp2_with fail
     go_meet
     case rel=>exact⟨rfl,hC.1⟩
   case rest =>
    obtain⟨rfl,hB2⟩:=hcut;clear HCE;go_wp2;go_roundw
    case rel=>exact⟨k+1,by omega,by go_num,hB2⟩
    case measure=>simp[intOf];omega
  obtain rfl:k=n:=by omega
  go_wp2;go_ret;exact⟨rfl,HB.out⟩
def TAt (w:World)(g o:Nat)(Ts:TsQ):Prop:=∀i (h:i<Ts.length),∃ao n cap,w.cell? ⟨g,o+i,none⟩=some (.slice ao n cap)∧SR w (.slice ao n cap) Ts[i]
theorem TAt.later {w w':World}{g o:Nat}{Ts:TsQ}(h:TAt w g o Ts)(hb:Below w.heap.size w w'):TAt w' g o Ts:=fun i hi=>by
 obtain⟨ao,n,cap,h1,h2⟩:=h i hi;exact⟨ao,n,cap,cell_later hb h1,h2.later hb⟩
def TS (w:World)(v:Value)(Ts:TsQ):Prop:=
 (∃ao cap,v=.slice ao 0 cap∧Ts=[])∨∃g o cap,v=.slice (some ⟨g,o,none⟩) Ts.length cap∧Ts.length≤cap∧cap≤maxLen∧TAt w g o Ts
theorem TS.later {w w':World}{v:Value}{Ts:TsQ}(h:TS w v Ts)(hb:Below w.heap.size w w'):TS w' v Ts:=by
 rcases h with h | ⟨g,o,cap,h1,h2,h3,h4⟩
 ·exact .inl h
 exact .inr ⟨g,o,cap,h1,h2,h3,h4.later hb⟩
theorem TS.form {w:World}{v:Value}{Ts:TsQ}(h:TS w v Ts):∃ao n cap,v=.slice ao n cap∧Ts.length=n∧n≤maxLen∧n≤cap∧(0<n→∃g o,ao=some ⟨g,o,none⟩∧TAt w g o Ts∧cap≤maxLen):=by
 rcases h with ⟨ao,cap,rfl,rfl⟩ | ⟨g,o,cap,rfl,h1,h2,h3⟩
 ·exact⟨ao,0,cap,rfl,rfl,Nat.zero_le _,Nat.zero_le _,fun h=>absurd h (by omega)⟩
 exact⟨_,_,cap,rfl,rfl,Nat.le_trans h1 h2,h1,fun _=>⟨g,o,rfl,h3,h2⟩⟩
theorem TS.len {w:World}{ao:AdQ}{n cap:Nat}{Ts:TsQ}(h:TS w (.slice ao n cap) Ts):Ts.length=n:=by
 rcases h with ⟨_,_,e,rfl⟩ | ⟨_,_,_,e,_⟩
 ·simp at e;simp[e]
 simp at e;exact e.2.1.symm
theorem getT {Ts:TsQ}{k:Nat}(hk:k<Ts.length):Ts.getD k []=Ts[k]:=by simp[List.getD,hk]
def NeBox (W:World)(g:Nat)(S:Int)(v1 v2 v3:Value):Prop:=W.cell? ⟨g,0,none⟩=some (.int i64 S)∧W.cell? ⟨g,1,none⟩=some v1∧W.cell? ⟨g,2,none⟩=some v2∧W.cell? ⟨g,3,none⟩=some v3
theorem nebox_new (w:World)(S:Int)(v1 v2 v3:Value)(t:TypeId):NeBox (w.alloc (.cells #[.int i64 S,v1,v2,v3] t)) w.heap.size S v1 v2 v3:=by
 refine⟨?_,?_,?_,?_⟩ <;> simp
theorem NeBox.later {W W':World}{g:Nat}{S:Int}{v1 v2 v3:Value}(h:NeBox W g S v1 v2 v3)(hb:Below W.heap.size W W'):NeBox W' g S v1 v2 v3:=
 ⟨cell_later hb h.1,cell_later hb h.2.1,cell_later hb h.2.2.1,cell_later hb h.2.2.2⟩
theorem ncheck_any (S:Int)(ao:AdQ)(n cap:Nat)(ao2:AdQ)(n2 cap2:Nat)(ao3:AdQ)(n3 cap3:Nat)(Ls:LkQ)(Hs:HoQ)(Ts:TsQ)(w:World)
 (hL:GS lnkE w (.slice ao n cap) Ls) (hH:GS hstE w (.slice ao2 n2 cap2) Hs) (hT:TS w (.slice ao3 n3 cap3) Ts):
 Calls prog 27 #[.agg #[.int i64 S,.slice ao n cap,.slice ao2 n2 cap2,.slice ao3 n3 cap3]] w fun e w'=>e=.returned (noV (ntN S Ls Hs Ts))∧Below w.heap.size w w':=by
 have hb1:Below w.heap.size w (w.alloc (.cells #[.int i64 S,.slice ao n cap,.slice ao2 n2 cap2,.slice ao3 n3 cap3] 37)):=(bRQ _ _).alloc (nLQ _) _;obtain⟨C,hC⟩:∃C,C=ntN S Ls Hs Ts:=⟨_,rfl⟩;have HC:Hid (C=ntN S Ls Hs Ts):=hC;rw[←hC];have HL2:Hid (GS lnkE (w.alloc (.cells #[.int i64 S,.slice ao n cap,.slice ao2 n2 cap2,.slice ao3 n3 cap3] 37)) (.slice ao n cap) Ls):=hL.later hb1;have HH2:Hid (GS hstE (w.alloc (.cells #[.int i64 S,.slice ao n cap,.slice ao2 n2 cap2,.slice ao3 n3 cap3] 37)) (.slice ao2 n2 cap2) Hs):=hH.later hb1;have HT2:Hid (TS (w.alloc (.cells #[.int i64 S,.slice ao n cap,.slice ao2 n2 cap2,.slice ao3 n3 cap3] 37)) (.slice ao3 n3 cap3) Ts):=hT.later hb1;have HB2:Hid (Below w.heap.size w (w.alloc (.cells #[.int i64 S,.slice ao n cap,.slice ao2 n2 cap2,.slice ao3 n3 cap3] 37))):=hb1;have HX:Hid (NeBox (w.alloc (.cells #[.int i64 S,.slice ao n cap,.slice ao2 n2 cap2,.slice ao3 n3 cap3] 37)) w.heap.size S (.slice ao n cap) (.slice ao2 n2 cap2) (.slice ao3 n3 cap3)):=nebox_new w S _ _ _ 37;clear hC hb1 hL hH hT;go_enter func27,ntmps27
 go_wp2_with fail
 refine (check_any S ao n cap ao2 n2 cap2 Ls Hs _ HL2.out HH2.out).mono ?_;rintro e w1 ⟨rfl,hb1⟩;obtain⟨T,hT⟩:∃T,T=tpN S Ls Hs:=⟨_,rfl⟩;have HT:Hid (T=tpN S Ls Hs):=hT;rw[←hT];have HB1:Hid (Below w.heap.size w w1):=HB2.out.trans (hb1.mono HB2.out.size);obtain⟨b0,b1,b2,b3⟩:=HX.out.later hb1;have HT1:Hid (TS w1 (.slice ao3 n3 cap3) Ts):=HT2.out.later hb1;clear hT hb1 HX HL2 HH2 HB2 HT2;by_cases h0:T=0
 ·subst h0;rw[no_ok rfl];obtain⟨_,_,_,e2,hTn,hTm,_,hTa⟩:=HT1.out.form;cases e2;have HTN:Hid (Ts.length=n3):=hTn;have HTM:Hid (n3≤maxLen):=hTm;have HTA:Hid (0<n3→∃g o,ao3=some ⟨g,o,none⟩∧TAt w1 g o Ts∧cap3≤maxLen):=hTa;have n63:n3≤9223372036854775807:=by unfold maxLen at hTm;omega
  clear hTn hTm hTa HT1;by_cases hS:(n3:Int)=S
  ·have HC2:Hid (C=tsTo Ts n3):=by
    show _=_;rw[HC.out,ntN,if_pos HT.out.symm,if_pos (by rw[HTN.out];exact hS),HTN.out]
   have e1:((n3:Int) != S)=false:=by simp[hS]
   clear hS HC;go_wp2
   go_loopw [24] (fun i wr=>∃k:Nat,k≤n3∧i=.int i64 k∧tsTo Ts k=0∧Below w1.heap.size w1 wr) (fun i _=>n3-(intOf i).toNat)
   case atStart=>exact⟨0,by omega,rfl,rfl,bRQ _ _⟩
   case round =>
    obtain⟨k,hk,rfl,hz,hB⟩:=hrel;have HZ:Hid (tsTo Ts k=0):=hz;have HB:Hid (Below w1.heap.size w1 wr):=hB;have HBw:Hid (Below w.heap.size w wr):=HB1.out.trans (hB.mono HB1.out.size);clear hz b0 b1 b2 b3;by_cases hlt:k<n3
    ·obtain⟨g,o,hao,hc,_⟩:=HTA.out (by omega);subst hao;obtain⟨a4,n4,c4,q0,hs⟩:=(hc.later hB) k (by rw[HTN.out];exact hlt);have HS4:Hid (SR wr (.slice a4 n4 c4) (Ts.getD k [])):=by
      show SR _ _ _;rw[getT (by rw[HTN.out];exact hlt)];exact hs
     clear hs hc hB
     go_wp2_with fail
     refine (table_any _ (Ts.getD k []) _ HS4.out).mono ?_;rintro e w2 ⟨rfl,hb2⟩;obtain⟨R,hR⟩:∃R,R=tbN (Ts.getD k []):=⟨_,rfl⟩;have HR:Hid (tsTo Ts (k+1)=R):=by
      show _=_;rw[tsTo,if_pos HZ.out,hR]
     rw[←hR];have HB3:Hid (Below w1.heap.size w1 w2):=HB.out.trans (hb2.mono HB.out.size);have HBw3:Hid (Below w.heap.size w w2):=HBw.out.trans (hb2.mono HBw.out.size);clear hR hb2 q0;by_cases hN:R=0
     ·subst hN;rw[no_ok rfl];go_wp2;go_roundw
      case rel=>exact⟨k+1,by omega,by go_num,HR.out,HB3.out⟩
      case measure=>simp[intOf];omega
     rw[no_ne hN];have HCR:Hid (C=R):=by
      show _=_;rw[HC2.out,ts_le (k:=k+1) (by rw[HR.out];exact hN) (by omega),HR.out]
     have HNN:Hid (R≠0):=hN;clear hN;go_wp2;go_ret;exact⟨by rw[HCR.out,no_ne HNN.out];rfl,HBw3.out⟩
    obtain rfl:k=n3:=by omega
    have HCR:Hid (C=0):=by
     show _=_;rw[HC2.out,HZ.out]
    clear hB;go_wp2;go_ret;exact⟨by rw[HCR.out];rfl,HBw.out⟩
  have HC2:Hid (C=3):=by
   show _=_;rw[HC.out,ntN,if_pos HT.out.symm,if_neg (by rw[HTN.out];exact hS)]
  have e1:((n3:Int) != S)=true:=by simpa using hS
  clear hS HC;go_wp2;go_ret;exact⟨by rw[HC2.out];rfl,HB1.out⟩
 rw[no_ne h0];have HC2:Hid (C=T):=by
  show _=_;rw[HC.out,ntN,←HT.out,if_neg h0]
 have HN0:Hid (T≠0):=h0;clear h0;go_wp2;go_ret;exact⟨by rw[HC2.out,no_ne HN0.out];rfl,HB1.out⟩
def NN (W:World)(B:Nat)(S:Int)(a1 a2 a3:Value)(S':Int)(b1 b2 b3:Value):Prop:=NeBox W B S a1 a2 a3∧NeBox W (B+1) S' b1 b2 b3
theorem nn_new (w:World)(S:Int)(a1 a2 a3:Value)(S':Int)(b1 b2 b3:Value)(t:TypeId):NN ((w.alloc (.cells #[.int i64 S,a1,a2,a3] t)).alloc (.cells #[.int i64 S',b1,b2,b3] t)) w.heap.size S a1 a2 a3 S' b1 b2 b3:=by
 refine⟨(nebox_new w S a1 a2 a3 t).later ((bRQ _ _).alloc (nLQ _) _),?_⟩;have:=nebox_new (w.alloc (.cells #[.int i64 S,a1,a2,a3] t)) S' b1 b2 b3 t;simpa using this
theorem NN.later {W W':World}{B:Nat}{S:Int}{a1 a2 a3:Value}{S':Int}{b1 b2 b3:Value}(h:NN W B S a1 a2 a3 S' b1 b2 b3)(hb:Below W.heap.size W W'):NN W' B S a1 a2 a3 S' b1 b2 b3:=⟨h.1.later hb,h.2.later hb⟩
theorem NeBox.grown {W W':World}{g:Nat}{S:Int}{v1 v2 v3:Value}{row:Option Nat}(h:NeBox W g S v1 v2 v3)(hg:W.grownBy W' row)(hne:some g≠row):NeBox W' g S v1 v2 v3:=
 ⟨hg.cell h.1 hne,hg.cell h.2.1 hne,hg.cell h.2.2.1 hne,hg.cell h.2.2.2 hne⟩
theorem NN.grown {W W':World}{B:Nat}{S:Int}{a1 a2 a3:Value}{S':Int}{b1 b2 b3:Value}{row:Option Nat}(h:NN W B S a1 a2 a3 S' b1 b2 b3)(hg:W.grownBy W' row)(hr:∀g,row=some g→B+2≤g):NN W' B S a1 a2 a3 S' b1 b2 b3:=
 ⟨h.1.grown hg (fun e=>by have:=hr _ e.symm;omega),h.2.grown hg (fun e=>by have:=hr _ e.symm;omega)⟩
def inE:Enc Int where
 c:=fun x=>[.int i64 x]
 n:=1
 len:=fun _=>rfl
 pos:=by decide
 one:=by
  intro x u hu;simp at hu;subst hu;rfl
theorem in_at {w:World}{g o:Nat}{L:List Int}(h:GAt inE w g o L){n k:Nat}(hn:L.length=n)(hk:k<n):∃(x:Int) (hl:k<L.length),L[k]=x∧w.cell? ⟨g,o+k,none⟩=some (.int i64 x):=by
 have hl:k<L.length:=by omega
 have:=h k hl 0 _ rfl;refine⟨_,hl,rfl,?_⟩;have e:o+k*inE.n+0=o+k:=by show o+k*1+0=o+k;omega
 rw[e] at this;exact this
abbrev SlT:Type:=AdQ×Nat×Nat
def slV (x:SlT):Value:=.slice x.1 x.2.1 x.2.2
def slE:Enc SlT where
 c:=fun x=>[slV x]
 n:=1
 len:=fun _=>rfl
 pos:=by decide
 one:=by
  intro x u hu;simp at hu;subst hu;rfl
theorem sl_cells (L:List SlT):cellsG slE L=L.map slV:=by
 induction L with
 | nil=>rfl
 | cons x r ih =>
   simp only[cellsG,List.flatMap_cons,List.map_cons] at *;rw[ih];rfl
theorem own_rows2 {w:World}{b1 e1 s1 n1 b2 e2 s2 n2:Nat}{v1 v2:Value}{x1 x2:List Value}(h1:w.ownsRow b1 e1 s1 v1 n1 x1)(h2:w.ownsRow b2 e2 s2 v2 n2 x2)(he:e1≠e2):v1.ownBlock=none∨v1.ownBlock≠v2.ownBlock:=by
 rcases h1.2 with ⟨rfl,_⟩ | ⟨g,cap,cur,rfl,_,hg,_⟩
 ·exact .inl rfl
 refine .inr ?_
 rcases h2.2 with ⟨rfl,_⟩ | ⟨g2,cap2,cur2,rfl,_,hg2,_⟩
 ·exact fun h=>by cases h
 intro h;simp only[Value.ownBlock,Option.some.injEq] at h;subst h;rw[hg] at hg2;simp only[Option.some.injEq,Obj.cells.injEq] at hg2;exact he hg2.2.1
theorem grown_below {w w':World}(hb:Below w.heap.size w w'):w.grownBy w' none:=⟨hb.os,hb.tape,hb.output,hb.size,fun k hk _=>hb.block k hk⟩
theorem grown_set (w:World)(b i:Nat)(v:Value):w.grownBy (w.setCell ⟨b,i,none⟩ v) (some b):=
 ⟨rfl,rfl,rfl,by simp[World.setCell],fun k _ hk=>Below.heap_setCell _ _ _ _ (fun e=>hk (by simp[e]))⟩
theorem none_or (o:Option Nat):o=none∨o≠none:=by cases o <;> simp
theorem run_append_blk {P:Program}{w:World}{base:Nat}(t ty e:TypeId)(i:TypeInfo)(z:Value)(ht:P.underlying t=some (.slice e))(hi:P.info? e=some i)(hz:i.zero=some z)
 (v:Value) (n:Nat) (xs:List Value) (hown:w.ownsRow base e i.size v n xs)
 (a:Addr) (c:Nat) (news:List Value) (hl:news.length=1*i.size) (hnews:∀j u,news[j]?=some u→w.cell? (a.add j)=some u) (h1:∀u∈news,u.oneCell'=true)
 (h63:n+1≤maxLen) (hbytes:(n+1)*i.bytes≤140737488355328) {v':Value} {w':World} (hr:(Builtin.append_ #[t,t] ty #[v,.slice (some a) 1 c]).run P w=.ok v' w'):v'.ownBlock=v.ownBlock∨v'.ownBlock=some w.heap.size:=by
 have hm:n+1≤9223372036854775807:=by simp only[maxLen] at h63;omega
 rcases hown.2 with ⟨rfl,rfl⟩ | ⟨g,cap,cur,rfl,hbg,hg,hnc,hcm,hcs,htake⟩
 ·rw[run_append_nil (P:=P) w t ty e i z ht hi hz a 1 c news hl hnews (by omega) (by omega) (by have hb:=hbytes;simp only[Nat.zero_add] at hb;omega)] at hr;cases hr;exact .inr rfl
 by_cases hroom:n+1≤cap
 ·have hfit:n*i.size+news.length≤cur.size:=by rw[hl,hcs,←Nat.add_mul];exact Nat.mul_le_mul_right _ hroom
  rw[run_append_room (P:=P) w t ty e i ht hi g n cap cur hg a 1 c news hl hnews h1 hroom hfit] at hr;cases hr;exact .inl rfl
 rw[run_append_grow (P:=P) w t ty e i z ht hi hz ⟨g,0,none⟩ n cap xs hown.1 (hown.cells (g:=g) rfl) a 1 c news hl hnews (by omega) (by omega) (growslice_fits (by omega) hbytes)] at hr;cases hr;exact .inr rfl
theorem wpList_append_blk {P:Program}{α:Type}{E:Enc α}(w:World){ops:Array Oper}{rest:List Oper}{o:Oper}{a:Act}{Q:Exit→Act→World→Prop}(hgd:o.guard=none)(s x:Operand)(t e:TypeId)
 (ho:o.op=.call { callee:=.builtin .append,args:=#[s,x],argTypes:=#[t,t] }) (ht:P.underlying t=some (.slice e)) (i:TypeInfo) (z:Value) (bytes:Nat) (hi:P.info? e=some i) (hz:i.zero=some z)
 (hsize:i.size=E.n) (hby:i.bytes=bytes) (hzs:z.cells.size=E.n) (base:Nat)
 (v:Value) (hs:a.eval s=v) (L:List α) (hown:w.ownsRow base e E.n v L.length (cellsG E L)) (g q c:Nat) (hx:a.eval x=.slice (some ⟨g,q,none⟩) 1 c) (y:α) (hM:VAt w g q (E.c y))
 (h63:L.length+1≤maxLen) (hbytes:(L.length+1)*bytes≤140737488355328) (hbase:base≤w.heap.size)
 (h:∀v' w',w'.ownsRow base e E.n v' (L++[y]).length (cellsG E (L++[y]))→w.grownBy w' v.ownBlock→v'.ownBlock=v.ownBlock∨v'.ownBlock=some w.heap.size→wpList P ops Q rest (a.put o.dst v') w'):wpList P ops Q (o :: rest) a w:=by
 have hG:GAt E w g q [y]:=by
  intro k hk;obtain rfl:k=0:=by simp at hk;omega
  simpa using hM
 have hc:=hG.cells;rw[cellsG_one] at hc;have hl:(E.c y).length=1*E.n:=by rw[E.len];omega
 obtain⟨v',w',hr,h2,h3,_⟩:=run_append_own (P:=P) w base t o.type e i z E.n bytes ht hi hz hsize hby hzs E.pos v _ _ hown ⟨g,q,none⟩ 1 c (E.c y) hl hc (E.one y) h63 hbytes hbase;have hb:=run_append_blk (P:=P) t o.type e i z ht hi hz v _ _ (by rw[hsize];exact hown) ⟨g,q,none⟩ c (E.c y) (by rw[hsize];exact hl) hc (E.one y) h63 (by rw[hby];exact hbytes) hr;refine wpList_plain hgd fun K hK=>?_
 unfold Oper.wp execOp;simp only[ho,resolve,invoke,builtin,Sem.run_bind,Sem.run_pure,Result.andThen_ok,List.map_toArray,List.map_cons,List.map_nil,hs,hx,hr];exact hK _ _ (h v' w' (by rw[List.length_append,cellsG_app,cellsG_one];exact h2) h3 hb)
section
variable {e1 e2:TypeId}{w w':World}{B:Nat}{v u:Value}{vs us:List SlT}{Cs Ps:List (List Int)}
end
def offB (x:SlT)(b:Nat):Prop:=x.2.1=0∨∀a,x.1=some a→a.block≠b
theorem RAt.lt {w:World}{g o:Nat}{L:List Ru}(h:RAt w g o L)(h0:0<L.length):g<w.heap.size:=bLQ _ _ (h 0 h0).c0
theorem SR.off {w:World}{x:SlT}{L:List Ru}(h:SR w (slV x) L){b:Nat}(hb:w.heap.size≤b):offB x b:=by
 obtain⟨ao,n,cap⟩:=x
 rcases h with ⟨ao',cap',e,rfl⟩ | ⟨g,o,cap',e,h1,h2,h3⟩
 ·simp only[slV,Value.slice.injEq] at e;exact .inl e.2.1
 simp only[slV,Value.slice.injEq] at e;obtain⟨rfl,rfl,rfl⟩:=e;by_cases h0:L.length=0
 ·exact .inl h0
 refine .inr fun a ha=>?_
 cases ha;have:=h3.lt (by omega);show g≠b;omega
theorem SR.grown {w w':World}{x:SlT}{L:List Ru}{row:Option Nat}(h:SR w (slV x) L)(hg:w.grownBy w' row)(ho:∀b,row=some b→offB x b):SR w' (slV x) L:=by
 obtain⟨ao,n,cap⟩:=x
 rcases h with ⟨ao',cap',e,rfl⟩ | ⟨g,o,cap',e,h1,h2,h3⟩
 ·exact .inl ⟨ao',cap',e,rfl⟩
 simp only[slV,Value.slice.injEq] at e;obtain⟨rfl,rfl,rfl⟩:=e;by_cases h0:L.length=0
 ·exact .inl ⟨_,_,by rw[slV,h0],List.length_eq_zero_iff.1 h0⟩
 have hne:some g≠row:=by
  intro e
  rcases ho g e.symm with h4 | h4
  ·exact h0 h4
  exact h4 _ rfl rfl
 refine .inr ⟨g,o,cap,rfl,h1,h2,fun i hi=>?_⟩;obtain⟨c0,c1,c2,c3,c4,c5⟩:=h3 i hi;exact⟨hg.cell c0 hne,hg.cell c1 hne,hg.cell c2 hne,hg.cell c3 hne,hg.cell c4 hne,hg.cell c5 hne⟩
structure TR (e:TypeId)(w:World)(A B:Nat)(v:Value)(vs:List SlT)(Ts:TsQ):Prop where
 ov:w.ownsRow B e slE.n v vs.length (cellsG slE vs)
 lv:vs.length=Ts.length
 rv:∀(i:Nat) (x:SlT) (L:List Ru),vs[i]?=some x→Ts[i]?=some L→SR w (slV x) L∧∀b,v.ownBlock=some b→offB x b
 rz:∀(i:Nat) (x:SlT),vs[i]?=some x→∀b,A≤b→b<B→offB x b
section
variable {e:TypeId}{w w':World}{A B:Nat}{v:Value}{vs:List SlT}{Ts:TsQ}
theorem tr_nil (e:TypeId)(w:World)(A B:Nat):TR e w A B (.slice none 0 0) [] []:=
 ⟨World.ownsRow_nil w B e slE.n,rfl,fun i x L h=>by simp at h,fun i x h=>by simp at h⟩
theorem TR.later (h:TR e w A B v vs Ts)(hb:Below w.heap.size w w'):TR e w' A B v vs Ts:=
 ⟨h.ov.kept (grown_below hb) (none_or _),h.lv,fun i x L h1 h2=>⟨(h.rv i x L h1 h2).1.later hb,(h.rv i x L h1 h2).2⟩,h.rz⟩
theorem TR.grown (h:TR e w A B v vs Ts){b:Nat}(hg:w.grownBy w' (some b))(h1:A≤b)(h2:b<B):TR e w' A B v vs Ts:=by
 refine⟨h.ov.kept hg (.inr fun e=>?_),h.lv,fun i x L a1 a2=>⟨(h.rv i x L a1 a2).1.grown hg (fun c hc=>?_),(h.rv i x L a1 a2).2⟩,h.rz⟩
 ·have:=(h.ov.lt b e).1;omega
 cases hc;exact h.rz i x a1 b h1 h2
theorem TR.push (h:TR e w A B v vs Ts){x:SlT}{L:List Ru}(hx:SR w (slV x) L){v':Value}(hox:∀b,v.ownBlock=some b→offB x b)(hoz:∀b,A≤b→b<B→offB x b)
 (hg:w.grownBy w' v.ownBlock) (ho:w'.ownsRow B e slE.n v' (vs++[x]).length (cellsG slE (vs++[x]))) (hb:v'.ownBlock=v.ownBlock∨v'.ownBlock=some w.heap.size):TR e w' A B v' (vs++[x]) (Ts++[L]):=by
 have one:∀{y:SlT} {M:List Ru},SR w (slV y) M→(∀b,v.ownBlock=some b→offB y b)→SR w' (slV y) M∧∀b,v'.ownBlock=some b→offB y b:=by
  intro y M h1 h2;refine⟨h1.grown hg h2,fun b hv=>?_⟩
  rcases hb with hb | hb
  ·exact h2 b (by rw[←hb];exact hv)
  rw[hb] at hv;cases hv;exact h1.off (nLQ _)
 refine⟨ho,by simp[h.lv],fun i y M h1 h2=>?_,fun i y h1=>?_⟩
 ·by_cases hi:i<vs.length
  ·rw[List.getElem?_append_left hi] at h1;rw[List.getElem?_append_left (by rw[←h.lv];exact hi)] at h2;obtain⟨a1,a2⟩:=h.rv i y M h1 h2;exact one a1 a2
  have hi2:i=vs.length:=by
   have:=(List.getElem?_eq_some_iff.1 h1).1;simp at this;omega
  subst hi2;simp at h1;rw[h.lv] at h2;simp at h2;subst h1 h2;exact one hx hox
 by_cases hi:i<vs.length
 ·rw[List.getElem?_append_left hi] at h1;exact h.rz i y h1
 have hi2:i=vs.length:=by
  have:=(List.getElem?_eq_some_iff.1 h1).1;simp at this;omega
 subst hi2;simp at h1;subst h1;exact hoz
theorem TR.put {g n cap i:Nat}(h:TR e w A B (.slice (some ⟨g,0,none⟩) n cap) vs Ts){x:SlT}{L:List Ru}(hx:SR w (slV x) L)(hox:offB x g)(hoz:∀b,A≤b→b<B→offB x b):TR e (w.setCell ⟨g,i,none⟩ (slV x)) A B (.slice (some ⟨g,0,none⟩) n cap) (vs.set i x) (Ts.set i L):=by
 have hgw:w.grownBy (w.setCell ⟨g,i,none⟩ (slV x)) (some g):=grown_set w g i (slV x);refine⟨?_,by simp[h.lv],fun j y M a1 a2=>?_,fun j y a1=>?_⟩
 ·have h1:=h.ov;have hn:n=vs.length:=by
   rcases h1.2 with ⟨h3,_⟩ | ⟨_,_,_,h3,_⟩
   ·cases h3
   simp only[Value.slice.injEq] at h3;exact h3.2.1
  rw[List.length_set,sl_cells,List.map_set];rw[sl_cells,←hn] at h1;rw[←hn];exact (h1.stored _ _).1
 ·have hj:j<(vs.set i x).length:=(List.getElem?_eq_some_iff.1 a1).1;rw[List.length_set] at hj;by_cases hij:i=j
  ·subst hij;rw[List.getElem?_set_self hj] at a1;rw[List.getElem?_set_self (by rw[←h.lv];exact hj)] at a2;cases a1;cases a2;refine⟨hx.grown hgw (fun b hb=>by cases hb;exact hox),fun b hb=>?_⟩;cases hb;exact hox
  rw[List.getElem?_set_ne hij] at a1 a2;obtain⟨b1,b2⟩:=h.rv j y M a1 a2;exact⟨b1.grown hgw (fun b hb=>by cases hb;exact b2 g rfl),b2⟩
 have hj:j<(vs.set i x).length:=(List.getElem?_eq_some_iff.1 a1).1;rw[List.length_set] at hj;by_cases hij:i=j
 ·subst hij;rw[List.getElem?_set_self hj] at a1;cases a1;exact hoz
 rw[List.getElem?_set_ne hij] at a1;exact h.rz j y a1
theorem TR.ts (h:TR e w A B v vs Ts):TS w v Ts:=by
 rcases own_GS h.ov with ⟨ao,cap,rfl,h0⟩ | ⟨g,o,cap,rfl,h1,h2,h3⟩
 ·refine .inl ⟨ao,cap,rfl,?_⟩;have:=h.lv;rw[h0] at this;exact List.length_eq_zero_iff.1 this.symm
 refine .inr ⟨g,o,cap,by rw[h.lv],by rw[←h.lv];exact h1,h2,fun i hi=>?_⟩;have hi2:i<vs.length:=by rw[h.lv];exact hi
 have:=h3 i hi2 0 _ rfl;have e:o+i*slE.n+0=o+i:=by show o+i*1+0=o+i;omega
 rw[e] at this;exact⟨_,_,_,this,(h.rv i _ _ (List.getElem?_eq_getElem hi2) (List.getElem?_eq_getElem hi)).1⟩
theorem TR.at {g n cap i:Nat}(h:TR e w A B (.slice (some ⟨g,0,none⟩) n cap) vs Ts)(hi:i<Ts.length):∃x:SlT,w.cell? ⟨g,i,none⟩=some (slV x)∧SR w (slV x) (Ts.getD i [])∧w.frozen? ⟨g,i,none⟩=false∧n=Ts.length∧B≤g∧g<w.heap.size:=by
 have h1:=h.ov;have hn:n=vs.length:=by
  rcases h1.2 with ⟨h3,_⟩ | ⟨_,_,_,h3,_⟩
  ·cases h3
  simp only[Value.slice.injEq] at h3;exact h3.2.1
 have hi2:i<vs.length:=by rw[h.lv];exact hi
 rw[sl_cells,←hn] at h1;refine⟨vs[i],?_,?_,h1.frozenAt i,by rw[hn,h.lv],(h1.lt g rfl).1,(h1.lt g rfl).2⟩
 ·rw[h1.cellAt i (by show i<n*1;omega)];simp[hi2]
 rw[getT hi];exact (h.rv i _ _ (List.getElem?_eq_getElem hi2) (List.getElem?_eq_getElem hi)).1
end
theorem ca_split {S:Int}{Ts:TsQ}{l:List Op8}{k:Nat}(hk:k<l.length)(h:caN S Ts (l.take k)=0):caN S Ts l=caN S (caT Ts (l.take k)) (l[k] :: l.drop (k+1)):=by
 have e:l=l.take k++(l[k] :: l.drop (k+1)):=by simp
 conv=>lhs;rw[e]
 rw[ca_app,if_pos h]
theorem cs_take {S:Int}{Ts:TsQ}{l:List Op8}{k:Nat}(hk:k<l.length)(h:caN S Ts (l.take k)=0):caN S Ts (l.take (k+1))=caN S (caT Ts (l.take k)) [l[k]]∧caT Ts (l.take (k+1))=caT (caT Ts (l.take k)) [l[k]]:=by
 rw[List.take_succ_eq_append_getElem hk,ca_app,if_pos h,cj_app];exact⟨rfl,rfl⟩
def nvS (X S:Int):Int:=if X=0 then S else 0
def nvL {α:Type}(X:Int)(L:List α):List α:=if X=0 then L else []
structure AB (W:World)(B:Nat)(S:Int)(v1 v2 v3:Value):Prop where
 n:NeBox W B S v1 v2 v3
 r:NeBox W (B+1) 0 (.slice none 0 0) (.slice none 0 0) (.slice none 0 0)
 f:∀c,W.frozen? ⟨B+1,c,none⟩=false
theorem ab_new (w:World)(S:Int)(v1 v2 v3:Value)(t:TypeId):AB ((w.alloc (.cells #[.int i64 S,v1,v2,v3] t)).alloc (.cells #[.int i64 0,.slice none 0 0,.slice none 0 0,.slice none 0 0] t)) w.heap.size S v1 v2 v3:=by
 obtain⟨h1,h2⟩:=nn_new w S v1 v2 v3 0 (.slice none 0 0) (.slice none 0 0) (.slice none 0 0) t;refine⟨h1,h2,fun c=>?_⟩;have h:=heap_alloc_new (w.alloc (.cells #[.int i64 S,v1,v2,v3] t)) (Obj.cells #[.int i64 0,.slice none 0 0,.slice none 0 0,.slice none 0 0] t);rw[World.size_alloc] at h;simp only[World.frozen?,h];simp
theorem AB.lt {W:World}{B:Nat}{S:Int}{v1 v2 v3:Value}(h:AB W B S v1 v2 v3):B+1<W.heap.size:=bLQ W ⟨B+1,0,none⟩ h.r.1
theorem AB.grown {W W':World}{B:Nat}{S:Int}{v1 v2 v3:Value}{row:Option Nat}(h:AB W B S v1 v2 v3)(hg:W.grownBy W' row)(hr:∀g,row=some g→B+2≤g):AB W' B S v1 v2 v3:=
 ⟨h.n.grown hg (fun e=>by have:=hr _ e.symm;omega),h.r.grown hg (fun e=>by have:=hr _ e.symm;omega),fun c=>(World.frozen?_of_block (hg.block (B+1) h.lt (fun e=>by have:=hr _ e.symm;omega))).trans (h.f c)⟩
theorem AB.later {W W':World}{B:Nat}{S:Int}{v1 v2 v3:Value}(h:AB W B S v1 v2 v3)(hb:Below W.heap.size W W'):AB W' B S v1 v2 v3:=h.grown (grown_below hb) (fun g hg=>by cases hg)
def put4 (W:World)(b:Nat)(x y z u:Value):World:=(((W.setCell ⟨b,0,none⟩ x).setCell ⟨b,1,none⟩ y).setCell ⟨b,2,none⟩ z).setCell ⟨b,3,none⟩ u
theorem below_pn4 {B:Nat}{a W:World}(h:Below B a W)(b:Nat)(hb:B≤b)(x y z u:Value):Below B a (put4 W b x y z u):=(((h.setCell hb _).setCell hb _).setCell hb _).setCell hb _
theorem grown_put4 (W:World)(b:Nat)(x y z u:Value):W.grownBy (put4 W b x y z u) (some b):=by
 have h1:=grown_set W b 0 x;have h2:=grown_set (W.setCell ⟨b,0,none⟩ x) b 1 y;have h3:=grown_set ((W.setCell ⟨b,0,none⟩ x).setCell ⟨b,1,none⟩ y) b 2 z;have h4:=grown_set (((W.setCell ⟨b,0,none⟩ x).setCell ⟨b,1,none⟩ y).setCell ⟨b,2,none⟩ z) b 3 u;exact⟨rfl,rfl,rfl,Nat.le_trans (Nat.le_trans (Nat.le_trans h1.size h2.size) h3.size) h4.size,fun k hk hne=>(((h4.block k (Nat.lt_of_lt_of_le hk (Nat.le_trans (Nat.le_trans h1.size h2.size) h3.size)) hne).trans (h3.block k (Nat.lt_of_lt_of_le hk (Nat.le_trans h1.size h2.size)) hne)).trans (h2.block k (Nat.lt_of_lt_of_le hk h1.size) hne)).trans (h1.block k hk hne)⟩
theorem TR.mono {e:TypeId}{w:World}{A B B':Nat}{v:Value}{vs:List SlT}{Ts:TsQ}(h:TR e w A B v vs Ts)(hB:B'≤B):TR e w A B' v vs Ts:=
 ⟨own_mono h.ov hB,h.lv,h.rv,fun i x h1 b h2 h3=>h.rz i x h1 b h2 (by omega)⟩
theorem rdy_step (a:AgT)(r k:Nat):rdyTo a r (k+1)=if rdyB a (r:Int)=true then (r:Int) else rdyTo a (r+1) k:=rfl
theorem al_right:∀(l:List Op8) (t:List Ru),tbN t=0→alN t l=0→tbN (alL t l)=0
 | [],t,h,_=>h
 | o :: l,t,h,h2=>by
   have e1:alN t (o :: l)=if doN t o.a o.r=0 then alN (doL t o.a o.r) l else doN t o.a o.r:=rfl
   have e2:alL t (o :: l)=if doN t o.a o.r=0 then alL (doL t o.a o.r) l else []:=rfl
   by_cases h3:doN t o.a o.r=0
   ·rw[e1,if_pos h3] at h2;rw[e2,if_pos h3];exact al_right l _ (do_right h3) h2
   rw[e1,if_neg h3] at h2;exact absurd h2 h3
theorem rdyTo_yes {a:AgT}:∀(k:Nat) {r:Nat},¬rdyTo a r k<0→∃i:Nat,rdyTo a r k=(i:Int)∧i<r+k∧rdyB a (i:Int)=true
 | 0,r,h=>by
   have:rdyTo a r 0 = -1:=rfl;rw[this] at h;exact absurd (by decide) h
 | k+1,r,h=>by
   rw[rdy_step] at h ⊢;by_cases h1:rdyB a (r:Int)=true
   ·rw[if_pos h1];exact⟨r,rfl,by omega,h1⟩
   rw[if_neg h1] at h ⊢;obtain⟨i,h2,h3,h4⟩:=rdyTo_yes k h;exact⟨i,h2,by omega,h4⟩
end
section
open Go.ChangeShapes Go.WideShapes Go.ChangeAt Go.RowKit Go.Joins
def cuE:Enc (Int×Int) where
 c:=fun x=>[.int i64 x.1,.int i64 x.2]
 n:=2
 len:=fun _=>rfl
 pos:=by decide
 one:=by
  intro x u hu;simp at hu
  rcases hu with rfl | rfl <;> rfl
theorem cu_open {H:Type}{enc:TypeId×Value→H}{W:World}{n:Nat}{cs:List Value}{x:DataW H×List MemPlace}
 (h:DataW.trod enc prog W 0 (fun _=>true) true n 39 cs=some x):∃y,cs=cuE.c y:=by
 obtain⟨xs,k,_,_,hl,hlen,hf⟩:=DataW.trod_struct underlying39 h;have hC:Tryd.prog.cellsOf 39=2:=by kernel_rfl
 have hT0:Tryd.prog.cellsOf 3=1:=by kernel_rfl
 rw[hC] at hl
 match cs,hl with
 | [c0,c1],_ =>
   match xs,hlen with
   | [z0,z1],_ =>
     have g0:=hf 0 _ rfl;have g1:=hf 1 _ rfl;simp[hT0] at g0 g1;obtain⟨v0,e0,_,_⟩:=DataW.trod_int underlying3 g0;obtain⟨v1,e1,_,_⟩:=DataW.trod_int underlying3 g1;simp[] at e0 e1;refine⟨(v0,v1),?_⟩;simp[cuE,e0,e1]
def rlE:Enc (Ru) where
 c:=fun x=>[.int i64 x.p,.int i64 x.m,.int i64 x.b,.int i64 x.o,.int i64 x.s,.int i64 x.v]
 n:=6
 len:=fun _=>rfl
 pos:=by decide
 one:=by
  intro x u hu;simp at hu
  rcases hu with rfl | rfl | rfl | rfl | rfl | rfl <;> rfl
theorem rl_open {H:Type}{enc:TypeId×Value→H}{W:World}{n:Nat}{cs:List Value}{x:DataW H×List MemPlace}
 (h:DataW.trod enc prog W 0 (fun _=>true) true n 41 cs=some x):∃y,cs=rlE.c y:=by
 obtain⟨xs,k,_,_,hl,hlen,hf⟩:=DataW.trod_struct underlying41 h;have hC:Tryd.prog.cellsOf 41=6:=by kernel_rfl
 have hT0:Tryd.prog.cellsOf 3=1:=by kernel_rfl
 have hT1:Tryd.prog.cellsOf 39=2:=by kernel_rfl
 rw[hC] at hl
 match cs,hl with
 | [c0,c1,c2,c3,c4,c5],_ =>
   match xs,hlen with
   | [z0,z1,z2,z3,z4],_ =>
     have g0:=hf 0 _ rfl;have g1:=hf 1 _ rfl;have g2:=hf 2 _ rfl;have g3:=hf 3 _ rfl;have g4:=hf 4 _ rfl;simp[hT0,hT1] at g0 g1 g2 g3 g4;obtain⟨v0,e0,_,_⟩:=DataW.trod_int underlying3 g0;obtain⟨s1,e1⟩:=cu_open g1;obtain⟨v3,e2,_,_⟩:=DataW.trod_int underlying3 g2;obtain⟨v4,e3,_,_⟩:=DataW.trod_int underlying3 g3;obtain⟨v5,e4,_,_⟩:=DataW.trod_int underlying3 g4;simp[cuE] at e0 e1 e2 e3 e4;refine⟨⟨v0,s1.1,s1.2,v3,v4,v5⟩,?_⟩;simp[rlE,e0,e1,e2,e3,e4]
end
end Go.Proofs.YtcbapfgohocghaaDoor
