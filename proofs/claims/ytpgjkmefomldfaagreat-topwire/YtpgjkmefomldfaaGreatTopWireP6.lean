/- Contracts and facts on the way to TopWire, joined into one text: TableMath, TableConcat, TableIdx, TableDo, TopOne, MixMath, ChangeMath, StCube, StRule, StOp, TcMath, WtMath, WireMath, AgentMath, DriveMath, AlikeMath. -/
import Derived.Test.YtpgjkmefomldfaaGreatTopWireP5
namespace Go.Proofs.YtpgjkmefomldfaaGreat
set_option linter.unusedSimpArgs false
set_option linter.unusedVariables false
set_option maxHeartbeats 16000000
set_option maxRecDepth 100000
open Go.Proofs.Tryz
open IntKind (i64)
section
open Go.RowKit
def eqR (a b:Ru):Bool:=decide (a.p=b.p)&&(decide (a.m=b.m)&&(decide (a.b=b.b)&&(decide (a.o=b.o)&&(decide (a.s=b.s)&&decide (a.v=b.v)))))
theorem eq_R {a b:Ru}:eqR a b=true↔a=b:=by
 obtain⟨p,m,b1,o,s,v⟩:=a;obtain⟨p',m',b',o',s',v'⟩:=b;simp[eqR]
theorem eq_no {a b:Ru}:eqR a b=false↔a≠b:=by
 rw[←Bool.not_eq_true,Ne,eq_R]
theorem eq_rf (a:Ru):eqR a a=true:=eq_R.2 rfl
def inB (L:List Ru)(r:Ru):Bool:=L.any (fun a=>eqR r a)
theorem in_iff {L:List Ru}{r:Ru}:inB L r=true↔r∈L:=by
 simp only[inB,List.any_eq_true,eq_R];exact⟨fun ⟨x,h,e⟩=>e ▸ h,fun h=>⟨r,h,rfl⟩⟩
def ixN (L:List Ru)(r:Ru):Nat:=L.findIdx (fun a=>eqR r a)
def hitB (L:List Ru)(r:Ru):Bool:=L.any (fun a=>keyB a r)
def chN (L:List Ru)(add:Bool)(r:Ru):Int:=if add then (if hitB L r then 7 else if 12≤L.length then 4 else 0) else (if inB L r then 0 else 5)
def chL (L:List Ru)(add:Bool)(r:Ru):List Ru:=if chN L add r=0 then (if add then L++[r] else L.take (ixN L r)++L.drop (ixN L r+1)) else []
def doN (L:List Ru)(add:Bool)(r:Ru):Int:=if tbN L=0 then (if r.n=0 then chN L add r else r.n) else tbN L
def doL (L:List Ru)(add:Bool)(r:Ru):List Ru:=if doN L add r=0 then chL L add r else []
structure Op8 where
 w:Int
 a:Bool
 r:Ru
def alN:List Ru→List Op8→Int
 | _,[]=>0
 | L,o :: l=>if doN L o.a o.r=0 then alN (doL L o.a o.r) l else doN L o.a o.r
def alL:List Ru→List Op8→List Ru
 | L,[]=>L
 | L,o :: l=>if doN L o.a o.r=0 then alL (doL L o.a o.r) l else []
theorem tb_iff {L:List Ru}:tbN L=0↔L.length≤12∧(∀r∈L,r.ok=true)∧L.Pairwise (fun a b=>keyB a b=false):=by
 rw[tb_0,cl_no,okR,List.all_eq_true,List.pairwise_iff_getElem];refine and_congr Iff.rfl (and_congr Iff.rfl ⟨fun h i j hi hj hij=>?_,fun h i j hij hj=>?_⟩)
 ·have:=h i j hij hj;rw[getD_at hi,getD_at hj] at this;exact this
 rw[getD_at (by omega),getD_at hj];exact h i j (by omega) hj hij
theorem key_rf (a:Ru):keyB a a=true:=by simp[keyB,ord_rf]
theorem tb_sub {L M:List Ru}(h:tbN L=0)(hs:M.Sublist L):tbN M=0:=by
 rw[tb_iff] at h ⊢;exact⟨Nat.le_trans hs.length_le h.1,fun r hr=>h.2.1 r (hs.subset hr),h.2.2.sublist hs⟩
theorem tb_one {L:List Ru}{r:Ru}(h:tbN L=0)(hr:r.ok=true)(hh:hitB L r=false)(hl:L.length<12):tbN (L++[r])=0:=by
 rw[tb_iff] at h ⊢;refine⟨by simp;omega,?_,?_⟩
 ·intro x hx;rw[List.mem_append,List.mem_singleton] at hx
  rcases hx with hx | rfl
  ·exact h.2.1 x hx
  exact hr
 rw[List.pairwise_append];refine⟨h.2.2,List.pairwise_singleton _ _,fun a ha b hb=>?_⟩;rw[List.mem_singleton] at hb;subst hb;simp only[hitB,List.any_eq_false] at hh;simpa using hh a ha
theorem tb_nodup {L:List Ru}(h:tbN L=0):L.Nodup:=by
 rw[tb_iff] at h;refine h.2.2.imp ?_;rintro a b hk rfl;rw[key_rf] at hk;cases hk
theorem ix_split {L M:List Ru}{r:Ru}(h:r ∉ L):ixN (L++r :: M) r=L.length:=by
 induction L with
 | nil=>simp[ixN,List.findIdx_cons,eq_rf]
 | cons x l ih =>
   have h1:eqR r x=false:=eq_no.2 (fun e=>h (by rw[e];exact List.mem_cons_self));have h2:=ih (fun hm=>h (List.mem_cons_of_mem _ hm));simp only[ixN] at h2 ⊢;rw[List.cons_append,List.findIdx_cons,h1,h2];rfl
theorem do_take {A B:List Ru}{r:Ru}(h:tbN (A++r :: B)=0):doN (A++r :: B) false r=0∧doL (A++r :: B) false r=A++B:=by
 have hm:r∈A++r :: B:=by simp
 have hno:r ∉ A:=by
  have:=tb_nodup h;rw[List.nodup_append] at this;intro hA;exact this.2.2 r hA r (by simp) rfl
 have hr:r.n=0:=n_ok ((tb_iff.1 h).2.1 r hm);have hc:chN (A++r :: B) false r=0:=by simp[chN,in_iff.2 hm]
 have hd:doN (A++r :: B) false r=0:=by rw[doN,if_pos h,if_pos hr,hc]
 refine⟨hd,?_⟩;rw[doL,if_pos hd,chL,if_pos hc,ix_split hno];simp
theorem do_add {L:List Ru}{r:Ru}(h:tbN L=0)(hr:r.ok=true)(hh:hitB L r=false)(hl:L.length<12):doN L true r=0∧doL L true r=L++[r]:=by
 have hc:chN L true r=0:=by
  rw[chN,hh];simp;omega
 have hd:doN L true r=0:=by rw[doN,if_pos h,if_pos (n_ok hr),hc]
 exact⟨hd,by rw[doL,if_pos hd,chL,if_pos hc];rfl⟩
theorem add_yes {L:List Ru}{r:Ru}(h:doN L true r=0):tbN L=0∧r.ok=true∧hitB L r=false∧L.length<12:=by
 unfold doN at h;by_cases h1:tbN L=0
 ·rw[if_pos h1] at h;by_cases h2:r.n=0
  ·rw[if_pos h2,chN] at h;simp only[if_true] at h;cases h3:hitB L r
   ·rw[h3] at h;by_cases h4:12≤L.length
    ·simp[h4] at h
    exact⟨h1,ok_n h2,rfl,by omega⟩
   rw[h3] at h;simp at h
  rw[if_neg h2] at h;exact absurd h h2
 rw[if_neg h1] at h;exact absurd h h1
theorem grow_nil (n:Nat)(w:World)(hn:n≤1000):
 Calls prog 68 #[.slice none 0 0,.int i64 n] w fun e w'=>∃v,e=.returned v∧w'.ownsRow w.heap.size 47 6 v 0 []∧Below w.heap.size w w':=by
 have h1:¬((n:Int)<0):=by omega
 by_cases h0:n=0
 ·subst h0;go_enter func68,ntmps68;go_wp2;go_ret;exact⟨_,rfl,World.ownsRow_nil _ _ _ _,bRQ _ _⟩
 obtain⟨i0,hi,hz0,hz1,hz2⟩:=info_parts infoRule;have h3:wrap64 ((n:Int)-0)=(n:Int):=by unfold wrap64;omega
 have h4:(n:Int) > 0:=by omega
 have hrz:∀ty,(Builtin.append_ #[58,3] ty #[.slice none 0 0,.int i64 n]).run prog w =
  .ok (.slice (some ⟨w.heap.size,0,none⟩) n (grownCap w n 0 47)) (w.drew.alloc (.cells (Builtin.zeroCells (Value.agg #[.int i64 0,.int i64 0,.int i64 0,.int i64 0,.int i64 0,.int i64 0]).cells n++Builtin.zeroCells (Value.agg #[.int i64 0,.int i64 0,.int i64 0,.int i64 0,.int i64 0,.int i64 0]).cells (grownCap w n 0 47-n)) 47)):=fun ty =>
  Lib.run_append_nil_zeros w 58 3 ty 47 i0 _ .i64 .i64 underlying58 underlying3 hi hz0 n (by omega) (by rw[hz1];decide) (by omega) (by rw[hz2];omega)
 have hGn:n≤grownCap w n 0 47:=grownCap_ge w _ _ _;have hGm:grownCap w n 0 47≤maxLen:=grownCap_le_maxLen w n 0 47 (by unfold maxLen;omega)
 generalize grownCap w n 0 47=G at *
 have HM:Hid (G≤maxLen):=hGm;have hG63:G≤9223372036854775807:=by unfold maxLen at hGm;omega
 have HO:Hid ((w.drew.alloc (.cells (Builtin.zeroCells (Value.agg #[.int i64 0,.int i64 0,.int i64 0,.int i64 0,.int i64 0,.int i64 0]).cells n++Builtin.zeroCells (Value.agg #[.int i64 0,.int i64 0,.int i64 0,.int i64 0,.int i64 0,.int i64 0]).cells (G-n)) 47)).ownsRow w.heap.size 47 6 (.slice (some ⟨w.heap.size,0,none⟩) 0 G) 0 []):=
  World.ownsRow_made w.drew _ G (nLQ _) HM.out (by
   simp only[Array.size_append,size_zeroCells,sixCells,←Nat.add_mul]
   congr 1
   omega)
 clear hGm;go_enter func68,ntmps68
 go_wp2_with (at_builtin;refine Lib.wpList_append_run _ rfl _ _ _ _ rfl _ _ rfl rfl _ _ (hrz _) ?_)
 all_goals (go_ret;exact⟨_,rfl,HO.out,((bRQ _ _).drew).alloc (nLQ _) _⟩)
def PAt (w:World)(g o:Nat)(Ls:TsQ):Prop:=∀i (h:i<Ls.length),∃ao n cap,w.cell? ⟨g,o+i,none⟩=some (.slice ao n cap)∧SR w (.slice ao n cap) Ls[i]
theorem PAt.later {w w':World}{g o:Nat}{Ls:TsQ}(h:PAt w g o Ls)(hb:Below w.heap.size w w'):PAt w' g o Ls:=fun i hi=>by
 obtain⟨ao,n,cap,h1,h2⟩:=h i hi;exact⟨ao,n,cap,cell_later hb h1,h2.later hb⟩
theorem SR.len {w:World}{ao:AdQ}{n cap:Nat}{L:List Ru}(h:SR w (.slice ao n cap) L):L.length=n:=by
 rcases h with ⟨_,_,e,rfl⟩ | ⟨_,_,_,e,_⟩
 ·simp at e;simp[e]
 simp at e;exact e.2.1.symm
theorem flat_next {Ls:TsQ}{k:Nat}(hk:k<Ls.length):(Ls.take (k+1)).flatten=(Ls.take k).flatten++Ls[k]:=by
 rw[List.take_succ_eq_append_getElem hk];simp only[List.flatten_append,List.flatten_cons,List.flatten_nil,List.append_nil]
theorem flat_le {Ls:TsQ}(k:Nat):(Ls.take k).flatten.length≤Ls.flatten.length:=by
 have:Ls.flatten=(Ls.take k).flatten++(Ls.drop k).flatten:=by rw[←List.flatten_append,List.take_append_drop]
 rw[this,List.length_append];omega
theorem concat_any (g o m cap:Nat)(Ls:TsQ)(w:World)(hm:Ls.length=m)(hm2:m≤1000)(hc:PAt w g o Ls)(hs:Ls.flatten.length≤1000):
 Calls prog 33 #[.slice (some ⟨g,o,none⟩) m cap] w fun e w'=>∃v,e=.returned v∧w'.ownsRow w.heap.size 47 6 v Ls.flatten.length (cellsR Ls.flatten)∧Below w.heap.size w w':=by
 have HM:Hid (Ls.length=m):=hm;have HC:Hid (PAt w g o Ls):=hc;have HS:Hid (Ls.flatten.length≤1000):=hs;obtain⟨N,hN⟩:∃N,N=Ls.flatten.length:=⟨_,rfl⟩;have HN:Hid (N=Ls.flatten.length):=hN;have hN2:N≤1000:=by omega
 clear hm hc hs hN;go_enter func33,ntmps33
 go_upto_block 0 with fail
 go_cut [3] from 3 (fun z w'=>z=.int i64 (N:Int)∧w'=w)
 case first =>
  go_wp2
  go_loopw [3,11] (fun z i wr=>∃k:Nat,k≤m∧i=.int i64 k∧z=.int i64 ((Ls.take k).flatten.length:Int)∧wr=w) (fun _ i _=>m-(intOf i).toNat)
  case atStart=>exact⟨0,by omega,rfl,rfl,rfl⟩
  case round =>
   obtain⟨k,hk,rfl,rfl,rfl⟩:=hrel;by_cases hlt:k<m
   ·have hkl:k<Ls.length:=by rw[HM.out];exact hlt
    obtain⟨ao,n,cap2,q0,hsr⟩:=HC.out k hkl;have HT:Hid ((Ls.take (k+1)).flatten.length=(Ls.take k).flatten.length+n):=by
     show _=_;rw[flat_next hkl,List.length_append,hsr.len]
    have hb1:(Ls.take k).flatten.length+n≤1000:=by
     have h1:=flat_le (Ls:=Ls) (k+1);have h2:=HS.out;have h3:=HT.out;omega
    generalize (Ls.take k).flatten.length=z at *
    clear hsr;go_wp2;go_roundw
    case rel=>exact⟨k+1,by omega,by go_num,by rw[HT.out];go_num,by simp⟩
    case measure=>simp[intOf];omega
   obtain rfl:k=m:=by omega
   go_wp2_with fail
   go_meet
   case rel=>exact⟨by rw[←HM.out,List.take_length,HN.out],rfl⟩
 case rest =>
  obtain⟨rfl,rfl⟩:=hcut
  go_wp2_with fail
  refine (grow_nil N _ hN2).mono ?_;rintro e w1 ⟨v,rfl,hown,hB⟩;have HO:Hid (w1.ownsRow wc.heap.size 47 6 v 0 []):=hown;have HB:Hid (Below wc.heap.size wc w1):=hB;clear hown hB;go_wp2
  go_loopw [6,27] (fun u i wr=>∃k:Nat,k≤m∧i=.int i64 k∧wr.ownsRow wc.heap.size 47 6 u (Ls.take k).flatten.length (cellsR (Ls.take k).flatten)∧Below wc.heap.size wc wr) (fun _ i _=>m-(intOf i).toNat)
  case atStart=>exact⟨0,by omega,rfl,HO.out,HB.out⟩
  case round =>
   obtain⟨k,hk,rfl,hown,hB⟩:=hrel;have HOW:Hid (wr.ownsRow wc.heap.size 47 6 u6 (Ls.take k).flatten.length (cellsR (Ls.take k).flatten)):=hown;have HBW:Hid (Below wc.heap.size wc wr):=hB;clear hown;by_cases hlt:k<m
   ·have hkl:k<Ls.length:=by rw[HM.out];exact hlt
    obtain⟨ao,n,cap2,q0,hsr⟩:=(HC.out.later hB) k hkl;have HSR:Hid (SR wr (.slice ao n cap2) Ls[k]):=hsr;have HL1:Hid ((Ls.take k).flatten.length+Ls[k].length≤1000):=by
     have h1:=flat_le (Ls:=Ls) (k+1);rw[flat_next hkl,List.length_append] at h1;have h2:=HS.out;show _≤_;omega
    clear hsr hB
    go_wp2_with (at_builtin;refine wpList_append_SR _ rfl _ _ 58 rfl underlying58 wc.heap.size _ rfl _ HOW.out _ rfl _ HSR.out HL1.out HBW.out.size ?_)
    intro v' w3 hown3 hgrow;have HO5:Hid (w3.ownsRow wc.heap.size 47 6 v' (Ls.take (k+1)).flatten.length (cellsR (Ls.take (k+1)).flatten)):=by
     show w3.ownsRow _ _ _ _ _ _;rw[flat_next hkl,show ((Ls.take k).flatten++Ls[k]).length=(List.take k (List.map List.length Ls)).sum+Ls[k].length by simp];exact hown3
    have HB5:Hid (Below wc.heap.size wc w3):=HBW.out.grown hgrow HBW.out.size (fun g hg=>(HOW.out.lt g hg).1);clear hown3 hgrow q0;go_wp2;go_roundw
    case rel=>exact⟨k+1,by omega,by go_num,HO5.out,HB5.out⟩
    case measure=>simp[intOf];omega
   obtain rfl:k=m:=by omega
   go_wp2;go_ret;refine⟨_,rfl,?_,HBW.out⟩;have:=HOW.out;rw[←HM.out,List.take_length] at this;exact this
theorem eq_ways (p m b o s v p' m' b' o' s' v':Int):
 ((p==p')=false∧eqR ⟨p,m,b,o,s,v⟩ ⟨p',m',b',o',s',v'⟩=false) ∨
 ((p==p')=true∧(m==m')=false∧eqR ⟨p,m,b,o,s,v⟩ ⟨p',m',b',o',s',v'⟩=false) ∨
 ((p==p')=true∧(m==m')=true∧(b==b')=false∧eqR ⟨p,m,b,o,s,v⟩ ⟨p',m',b',o',s',v'⟩=false) ∨
 ((p==p')=true∧(m==m')=true∧(b==b')=true∧(o==o')=false∧eqR ⟨p,m,b,o,s,v⟩ ⟨p',m',b',o',s',v'⟩=false) ∨
 ((p==p')=true∧(m==m')=true∧(b==b')=true∧(o==o')=true∧(s==s')=false∧eqR ⟨p,m,b,o,s,v⟩ ⟨p',m',b',o',s',v'⟩=false) ∨
 ((p==p')=true∧(m==m')=true∧(b==b')=true∧(o==o')=true∧(s==s')=true∧(v==v')=false∧eqR ⟨p,m,b,o,s,v⟩ ⟨p',m',b',o',s',v'⟩=false) ∨
 ((p==p')=true∧(m==m')=true∧(b==b')=true∧(o==o')=true∧(s==s')=true∧(v==v')=true∧eqR ⟨p,m,b,o,s,v⟩ ⟨p',m',b',o',s',v'⟩=true):=by
 unfold eqR;by_cases h1:p=p'
 ·by_cases h2:m=m'
  ·by_cases h3:b=b'
   ·by_cases h4:o=o'
    ·by_cases h5:s=s'
     ·by_cases h6:v=v'
      ·simp[h1,h2,h3,h4,h5,h6]
      simp[h1,h2,h3,h4,h5,h6]
     simp[h1,h2,h3,h4,h5]
    simp[h1,h2,h3,h4]
   simp[h1,h2,h3]
  simp[h1,h2]
 simp[h1]
theorem run_eqlR (p m b o s v p' m' b' o' s' v':Int)(w:World):(binOp .eql 47 (.agg #[.int i64 p,.int i64 m,.int i64 b,.int i64 o,.int i64 s,.int i64 v]) (.agg #[.int i64 p',.int i64 m',.int i64 b',.int i64 o',.int i64 s',.int i64 v'])).run prog w=.ok (.bool (eqR ⟨p,m,b,o,s,v⟩ ⟨p',m',b',o',s',v'⟩)) w:=by
 rcases eq_ways p m b o s v p' m' b' o' s' v' with ⟨e1,e⟩ | ⟨e1,e2,e⟩ | ⟨e1,e2,e3,e⟩ | ⟨e1,e2,e3,e4,e⟩ | ⟨e1,e2,e3,e4,e5,e⟩ | ⟨e1,e2,e3,e4,e5,e6,e⟩ | ⟨e1,e2,e3,e4,e5,e6,e⟩
 all_goals
  rw[e];go_simp
def CI (w:World)(B:Nat)(p m b q s v:Int)(g o:Nat)(p' m' b' q' s' v':Int)(w':World):Prop:=
 Below w.heap.size w w'∧(w'.cell? ⟨B,0,none⟩=some (.int i64 p)∧w'.cell? ⟨B,1,none⟩=some (.int i64 m)∧w'.cell? ⟨B,2,none⟩=some (.int i64 b) ∧
  w'.cell? ⟨B,3,none⟩=some (.int i64 q)∧w'.cell? ⟨B,4,none⟩=some (.int i64 s)∧w'.cell? ⟨B,5,none⟩=some (.int i64 v)) ∧
 w'.cell? ⟨g,o,none⟩=some (.int i64 p')∧w'.cell? ⟨g,o+1,none⟩=some (.int i64 m')∧w'.cell? ⟨g,o+2,none⟩=some (.int i64 b') ∧
  w'.cell? ⟨g,o+3,none⟩=some (.int i64 q')∧w'.cell? ⟨g,o+4,none⟩=some (.int i64 s')∧w'.cell? ⟨g,o+5,none⟩=some (.int i64 v')
theorem CI.later {w W W':World}{B:Nat}{p m b q s v:Int}{g o:Nat}{p' m' b' q' s' v':Int}(hb:Below W.heap.size W W')(h:CI w B p m b q s v g o p' m' b' q' s' v' W):CI w B p m b q s v g o p' m' b' q' s' v' W':=by
 obtain⟨h0,⟨h1,h2,h3,h4,h5,h6⟩,k1,k2,k3,k4,k5,k6⟩:=h;exact⟨h0.trans (hb.mono h0.size),⟨cell_later hb h1,cell_later hb h2,cell_later hb h3,cell_later hb h4,cell_later hb h5,cell_later hb h6⟩,cell_later hb k1,cell_later hb k2,cell_later hb k3,cell_later hb k4,cell_later hb k5,cell_later hb k6⟩
theorem index_any (ao:AdQ)(n cap:Nat)(p m b o s v:Int)(L:List Ru)(w:World)(hn:L.length=n)(hn2:n≤maxLen)(ha:0<n→∃g o,ao=some ⟨g,o,none⟩∧RAt w g o L∧cap≤maxLen):
 Calls prog 88 #[.slice ao n cap,.agg #[.int i64 p,.int i64 m,.int i64 b,.int i64 o,.int i64 s,.int i64 v]] w fun e w'=>e=.returned (.int i64 (ixP (fun a=>eqR ⟨p,m,b,o,s,v⟩ a) L))∧Below w.heap.size w w':=by
 have HN:Hid (L.length=n):=hn;have HA:Hid (0<n→∃g o,ao=some ⟨g,o,none⟩∧RAt w g o L∧cap≤maxLen):=ha;have HC0:=C6.new w p m b o s v 47;have HB0:Hid (Below w.heap.size w (w.alloc (.cells #[.int i64 p,.int i64 m,.int i64 b,.int i64 o,.int i64 s,.int i64 v] 47))):=(bRQ _ _).alloc (nLQ _) _;unfold maxLen at hn2;clear hn ha;go_enter func88,ntmps88;go_wp2
 go_loopw [8] (fun i wr=>∃k:Nat,k≤n∧i=.int i64 k∧(L.take k).any (fun a=>eqR ⟨p,m,b,o,s,v⟩ a)=false∧Below w.heap.size w wr∧C6 wr w.heap.size 0 ⟨p,m,b,o,s,v⟩)
  (fun i _=>n-(intOf i).toNat)
 case atStart=>exact⟨0,by omega,rfl,by simp,HB0.out,HC0⟩
 case round =>
  obtain⟨k,hk,rfl,hno,hB,hC⟩:=hrel;have HB:Hid (Below w.heap.size w wr):=hB;have HC:Hid (C6 wr w.heap.size 0 ⟨p,m,b,o,s,v⟩):=hC;have HNO:Hid ((L.take k).any (fun a=>eqR ⟨p,m,b,o,s,v⟩ a)=false):=hno;clear hno HC0 HB0;by_cases hlt:k<n
  ·obtain⟨g,og,hao,hc,_⟩:=HA.out (by omega);subst hao;obtain⟨p',m',b',o',s',v',hkl,hL,q0,q1,q2,q3,q4,q5⟩:=(hc.later hB).at HN.out hlt;have HL:Hid (L[k]=⟨p',m',b',o',s',v'⟩):=hL;obtain⟨r0,r1,r2,r3,r4,r5⟩:=hC;simp only[Nat.zero_add] at r0 r1 r2 r3 r4 r5;have HCE:Hid (CI wr w.heap.size p m b o s v g (og+k*6) p' m' b' o' s' v' wr):=⟨bRQ _ _,⟨r0,r1,r2,r3,r4,r5⟩,q0,q1,q2,q3,q4,q5⟩;clear hL hB HA q0 q1 q2 q3 q4 q5 r0 r1 r2 r3 r4 r5;go_upto_region 4 with fail;have kb0:(0:Int)≤(k:Int):=by omega
   have kb1:(k:Int)<(n:Int):=by omega
   go_cut [16] from 9 to 18 (fun c w'=>c=.bool (eqR ⟨p,m,b,o,s,v⟩ ⟨p',m',b',o',s',v'⟩)∧Below wr.heap.size wr w')
   case first =>
    as_aux_lemma =>
     refine wp_region_quiet (C:=CI wr w.heap.size p m b o s v g (og+k*6) p' m' b' o' s' v') (by kernel_rfl) (by kernel_rfl) (CI.later (W:=wr) (Below.drew (bRQ _ _)) HCE.out) ?_;simp only[List.toList_toArray];go_big_quiet_want;refine qv (.agg #[.int i64 p,.int i64 m,.int i64 b,.int i64 o,.int i64 s,.int i64 v]) ?_ ?_
     ·rintro w' ⟨z0,⟨z1,z2,z3,z4,z5,z6⟩,y1,y2,y3,y4,y5,y6⟩;go_simp
     simp only[Act.put,AP];go_big_quiet_on;go_big_quiet_want;refine qv (.slice (some ⟨g,og,none⟩) n cap) ?_ ?_
     ·rintro w' ⟨z0,⟨z1,z2,z3,z4,z5,z6⟩,y1,y2,y3,y4,y5,y6⟩;go_simp
     simp only[Act.put,AP];go_big_quiet_on;go_big_quiet_want;refine qv (.int i64 (k:Int)) ?_ ?_
     ·rintro w' ⟨z0,⟨z1,z2,z3,z4,z5,z6⟩,y1,y2,y3,y4,y5,y6⟩;go_simp
     simp only[Act.put,AP];go_big_quiet_on;go_big_quiet_want;refine qv (.pointer (some ⟨g,og+k*6,none⟩)) ?_ ?_
     ·rintro w' ⟨z0,⟨z1,z2,z3,z4,z5,z6⟩,y1,y2,y3,y4,y5,y6⟩;go_simp
     simp only[Act.put,AP];go_big_quiet_on;go_big_quiet_want;refine qv (.agg #[.int i64 p',.int i64 m',.int i64 b',.int i64 o',.int i64 s',.int i64 v']) ?_ ?_
     ·rintro w' ⟨z0,⟨z1,z2,z3,z4,z5,z6⟩,y1,y2,y3,y4,y5,y6⟩;go_simp
     simp only[Act.put,AP];go_big_quiet_on;go_big_quiet_want;refine quiet_val (v:=.bool (eqR ⟨p,m,b,o,s,v⟩ ⟨p',m',b',o',s',v'⟩)) (fun w' hC=>exec_bin rfl (by go_simp) (run_eqlR p m b o s v p' m' b' o' s' v' w')) ?_;simp only[Act.put,AP];go_big_quiet_on;refine wpQuiet_nil ?_;intro w' hC
     go_wp2_with fail
     go_meet
     case rel=>exact⟨rfl,hC.1⟩
   case rest =>
    obtain⟨rfl,hB2⟩:=hcut;have HB2:Hid (Below w.heap.size w wc):=HB.out.trans (hB2.mono HB.out.size);have HC2:Hid (C6 wc w.heap.size 0 ⟨p,m,b,o,s,v⟩):=HC.out.later hB2;clear hB2;cases ho:eqR ⟨p,m,b,o,s,v⟩ ⟨p',m',b',o',s',v'⟩
    ·go_wp2;go_roundw
     case rel=>exact⟨k+1,by omega,by go_num,any_nextR hkl HNO.out (by rw[HL.out];exact ho),HB2.out,HC2.out⟩
     case measure=>simp[intOf];omega
    go_wp2;go_ret;exact⟨by rw[ixP_hit hkl HNO.out (by rw[HL.out];exact ho)];rfl,HB2.out⟩
  obtain rfl:k=n:=by omega
  go_wp2;go_ret;exact⟨by have:=HNO.out;rw[←HN.out,List.take_length] at this;rw[ixP_no this];rfl,HB.out⟩
theorem with1_any (p m b o s v:Int)(r:Ru)(B:Nat)(w:World)(hc:C6 w B 0 r):
 Calls prog 87 #[.agg #[.int i64 p,.int i64 m,.int i64 b,.int i64 o,.int i64 s,.int i64 v],.pointer (some ⟨B,0,none⟩)] w fun e w'=>e=.returned (.bool (keyB ⟨p,m,b,o,s,v⟩ r))∧Below w.heap.size w w':=by
 obtain⟨p',m',b',o',s',v'⟩:=r;obtain⟨c0,c1,c2,c3,c4,c5⟩:=hc;simp only[Nat.zero_add] at c0 c1 c2 c3 c4 c5;have hlt:B<w.heap.size:=bLQ _ _ c0;go_enter func87,ntmps87
 go_wp2_with fail
 refine (clash_any _ _ _ _ _ _ _ _ _ _ _ _ _).mono ?_;rintro e w1 ⟨rfl,hb1⟩;go_wp2;go_ret;exact⟨rfl,((bRQ _ _).alloc (nLQ _) _).trans (hb1.mono (by simp))⟩
theorem with1_asks (r:Ru)(B:Nat)(w:World)(hc:C6 w B 0 r):Asks w 87 (.pointer (some ⟨B,0,none⟩)) (fun a=>keyB a r):=
 fun p m b o s v W hW=>with1_any p m b o s v r B W (hc.later hW)
theorem SR.nil (w:World):SR w (.slice none 0 0) []:=.inl ⟨none,0,rfl,rfl⟩
def NR (w:World)(B:Nat)(v:Value)(L:List Ru):Prop:=w.ownsRow B 47 6 v L.length (cellsR L)
theorem NR.sr {w:World}{B:Nat}{v:Value}{L:List Ru}(h:NR w B v L):SR w v L:=own_SR h
theorem NR.nil (w:World)(B:Nat):NR w B (.slice none 0 0) []:=World.ownsRow_nil w B _ 6
theorem NR.mono {w:World}{B B':Nat}{v:Value}{L:List Ru}(h:NR w B v L)(hB:B'≤B):NR w B' v L:=by
 obtain⟨h1,h2 | ⟨g,cap,cur,hv,hb,h3⟩⟩:=h
 ·exact⟨h1,.inl h2⟩
 exact⟨h1,.inr ⟨g,cap,cur,hv,Nat.le_trans hB hb,h3⟩⟩
theorem NR.later {w w':World}{B:Nat}{v:Value}{L:List Ru}(h:NR w B v L)(hb:Below w.heap.size w w'):NR w' B v L:=h.kept ⟨hb.os,hb.tape,hb.output,hb.size,fun k hk _=>hb.block k hk⟩ (Classical.em _)
theorem NR.of {w:World}{B:Nat}{v:Value}{L M:List Ru}(h:w.ownsRow B 47 6 v L.length (cellsR L))(e:L=M):NR w B v M:=by subst e;exact h
theorem sr_one (w:World)(p m b o s v:Int)(t:TypeId):SR (w.alloc (.cells #[.int i64 p,.int i64 m,.int i64 b,.int i64 o,.int i64 s,.int i64 v] t)) (.slice (some ⟨w.heap.size,0,none⟩) 1 1) [⟨p,m,b,o,s,v⟩]:=by
 refine .inr ⟨w.heap.size,0,1,rfl,nLQ _,by unfold maxLen;omega,fun i hi=>?_⟩;obtain rfl:i=0:=by simp at hi;omega
 have h:=C6.new w p m b o s v t;simp only[Nat.zero_mul,Nat.add_zero,List.getElem_cons_zero];exact h
theorem pat2 {W:World}{a1 a2:AdQ}{n1 c1 n2 c2:Nat}{L1 L2:List Ru}(t:TypeId)(h1:SR W (.slice a1 n1 c1) L1)(h2:SR W (.slice a2 n2 c2) L2):
 PAt (W.alloc (.cells #[.slice a1 n1 c1,.slice a2 n2 c2] t)) W.heap.size 0 [L1,L2]:=by
 have hb:Below W.heap.size W (W.alloc (.cells #[.slice a1 n1 c1,.slice a2 n2 c2] t)):=(bRQ _ _).alloc (nLQ _) _;intro i hi
 match i,hi with
 | 0,_=>exact⟨a1,n1,c1,by simp,h1.later hb⟩
 | 1,_=>exact⟨a2,n2,c2,by simp,h2.later hb⟩
theorem RAt.drop {w:World}{g o:Nat}{L:List Ru}(h:RAt w g o L)(k:Nat):RAt w g (o+k*6) (L.drop k):=by
 intro i hi;have hi2:k+i<L.length:=by simp at hi;omega
 have:=h (k+i) hi2;rw[List.getElem_drop];have e:o+(k+i)*6=o+k*6+i*6:=by omega
 rw[←e];exact this
theorem ch_hit {L:List Ru}{r:Ru}(h:hitB L r=true):chN L true r=7:=by simp[chN,h]
theorem ch_full {L:List Ru}{r:Ru}(h:hitB L r=false)(h2:12≤L.length):chN L true r=4:=by simp[chN,h,h2]
theorem ch_add {L:List Ru}{r:Ru}(h:hitB L r=false)(h2:¬12≤L.length):chN L true r=0:=by simp[chN,h,h2]
theorem chL_ne {L:List Ru}{a:Bool}{r:Ru}(h:chN L a r≠0):chL L a r=[]:=by simp[chL,h]
theorem chL_add {L:List Ru}{r:Ru}(h:chN L true r=0):chL L true r=L++[r]:=by simp[chL,h]
theorem ch_none {L:List Ru}{r:Ru}(h:inB L r=false):chN L false r=5:=by simp[chN,h]
theorem ch_take {L:List Ru}{r:Ru}(h:inB L r=true):chN L false r=0:=by simp[chN,h]
theorem chL_take {L:List Ru}{r:Ru}(h:chN L false r=0):chL L false r=L.take (ixN L r)++L.drop (ixN L r+1):=by simp[chL,h]
theorem with_any (ao:AdQ)(n cap:Nat)(p m b o s v:Int)(L:List Ru)(w:World)(hs:SR w (.slice ao n cap) L):
 Calls prog 53 #[.slice ao n cap,.agg #[.int i64 p,.int i64 m,.int i64 b,.int i64 o,.int i64 s,.int i64 v]] w fun e w'=>∃u,e=.returned (.tuple #[u,noV (chN L true ⟨p,m,b,o,s,v⟩)])∧NR w' w.heap.size u (chL L true ⟨p,m,b,o,s,v⟩)∧Below w.heap.size w w':=by
 obtain⟨ao',n',cap',e,hn,hn2,hn3,ha⟩:=hs.form;cases e;have HN:Hid (L.length=n):=hn;have HC0:=C6.new w p m b o s v 47;have hB0:Below w.heap.size w (w.alloc (.cells #[.int i64 p,.int i64 m,.int i64 b,.int i64 o,.int i64 s,.int i64 v] 47)):=(bRQ _ _).alloc (nLQ _) _;have HS0:Hid (SR (w.alloc (.cells #[.int i64 p,.int i64 m,.int i64 b,.int i64 o,.int i64 s,.int i64 v] 47)) (.slice ao n cap) L):=hs.later hB0;have HA:Hid (0<n→∃g o,ao=some ⟨g,o,none⟩∧RAt w g o L∧cap≤maxLen):=ha;have HB0:Hid (Below w.heap.size w (w.alloc (.cells #[.int i64 p,.int i64 m,.int i64 b,.int i64 o,.int i64 s,.int i64 v] 47))):=hB0;have HM:Hid (n≤maxLen):=hn2;have hn63:n≤9223372036854775807:=by unfold maxLen at hn2;omega
 clear hn ha hs hn2 hB0;cases hh:hitB L ⟨p,m,b,o,s,v⟩
 ·have HH:Hid (L.any (fun a=>keyB a ⟨p,m,b,o,s,v⟩)=false):=hh;by_cases h12:12≤n
  ·rw[ch_full hh (by rw[HN.out];exact h12),chL_ne (by rw[ch_full hh (by rw[HN.out];exact h12)];decide)];clear hh;go_enter func53,ntmps53
   go_wp2_with fail
   refine (containsF ao n cap _ _ _ L _ HN.out HM.out (fun h=>by obtain⟨g,o,e1,e2,e3⟩:=HA.out h;exact⟨g,o,e1,e2.later HB0.out,e3⟩) (enters_of func87 (by kernel_rfl) rfl) (with1_asks ⟨p,m,b,o,s,v⟩ _ _ HC0)).mono ?_;rintro e w1 ⟨rfl,hb1⟩;rw[HH.out];have HB1:Hid (Below w.heap.size w w1):=HB0.out.trans (hb1.mono HB0.out.size);clear hb1;go_wp2;refine bodyPost_ret (v:=.tuple #[.slice none 0 0,.iface 81 (.int i64 4)]) (by simp[results,results53,go_sem]) rfl ⟨_,rfl,NR.nil _ _,HB1.out⟩
  rw[ch_add hh (by rw[HN.out];exact h12),chL_add (ch_add hh (by rw[HN.out];exact h12))];clear hh;go_enter func53,ntmps53
  go_wp2_with fail
  refine (containsF ao n cap _ _ _ L _ HN.out HM.out (fun h=>by obtain⟨g,o,e1,e2,e3⟩:=HA.out h;exact⟨g,o,e1,e2.later HB0.out,e3⟩) (enters_of func87 (by kernel_rfl) rfl) (with1_asks ⟨p,m,b,o,s,v⟩ _ _ HC0)).mono ?_;rintro e w1 ⟨rfl,hb1⟩;rw[HH.out];have HB1:Hid (Below w.heap.size w w1):=HB0.out.trans (hb1.mono HB0.out.size);have HS1:Hid (SR w1 (.slice ao n cap) L):=HS0.out.later hb1;obtain⟨c0,c1,c2,c3,c4,c5⟩:=HC0.later hb1;simp only[Nat.zero_add] at c0 c1 c2 c3 c4 c5;have hlt:w.heap.size<w1.heap.size:=bLQ _ _ c0;clear hb1
  go_wp2_with fail
  have hB2:Below w1.heap.size w1 (w1.alloc (.cells #[.int i64 p,.int i64 m,.int i64 b,.int i64 o,.int i64 s,.int i64 v] 47)):=(bRQ _ _).alloc (nLQ _) _;have hp:=pat2 58 (HS1.out.later hB2) (sr_one w1 p m b o s v 47);have hB3:=hB2.trans (((bRQ _ _).alloc (nLQ _) (.cells #[.slice ao n cap,.slice (some ⟨w1.heap.size,0,none⟩) 1 1] 58)).mono hB2.size);simp only[World.size_alloc] at hp;refine (concat_any _ 0 2 2 [L,[⟨p,m,b,o,s,v⟩]] _ rfl (by omega) hp (by simp[HN.out];omega)).mono ?_;rintro e w2 ⟨u,rfl,hown,hb2⟩;have HB2:Hid (Below w.heap.size w w2):=HB1.out.trans ((hB3.trans (hb2.mono hB3.size)).mono HB1.out.size);have HO:Hid (NR w2 w.heap.size u (L++[⟨p,m,b,o,s,v⟩])):=(NR.of hown (by simp)).mono (by have:=HB1.out.size;simp;omega);clear hb2 hown hp hB2 hB3;go_wp2;refine bodyPost_ret (v:=.tuple #[u,.nilIface]) (by simp[results,results53,go_sem]) rfl ⟨_,rfl,HO.out,HB2.out⟩
 have HH:Hid (L.any (fun a=>keyB a ⟨p,m,b,o,s,v⟩)=true):=hh;rw[ch_hit hh,chL_ne (by rw[ch_hit hh];decide)];clear hh;go_enter func53,ntmps53
 go_wp2_with fail
 refine (containsF ao n cap _ _ _ L _ HN.out HM.out (fun h=>by obtain⟨g,o,e1,e2,e3⟩:=HA.out h;exact⟨g,o,e1,e2.later HB0.out,e3⟩) (enters_of func87 (by kernel_rfl) rfl) (with1_asks ⟨p,m,b,o,s,v⟩ _ _ HC0)).mono ?_;rintro e w1 ⟨rfl,hb1⟩;rw[HH.out];have HB1:Hid (Below w.heap.size w w1):=HB0.out.trans (hb1.mono HB0.out.size);clear hb1;go_wp2;refine bodyPost_ret (v:=.tuple #[.slice none 0 0,.iface 81 (.int i64 7)]) (by simp[results,results53,go_sem]) rfl ⟨_,rfl,NR.nil _ _,HB1.out⟩
theorem keepQ {w1 W W':World}(hb:Below W.heap.size W W')(h:Below w1.heap.size w1 W):Below w1.heap.size w1 W':=h.trans (hb.mono h.size)
theorem ix_no {L:List Ru}{r:Ru}(h:inB L r=false):ixP (fun a=>eqR r a) L = -1:=ixP_no h
theorem ix_yes {L:List Ru}{r:Ru}(h:inB L r=true):ixP (fun a=>eqR r a) L=(ixN L r:Int):=by
 unfold ixP;rw[if_pos (show L.any (fun a=>eqR r a)=true from h)];rfl
theorem ix_lt {L:List Ru}{r:Ru}(h:inB L r=true):ixN L r<L.length:=by
 unfold ixN;rw[List.findIdx_lt_length];simpa[inB] using h
theorem without_any (ao:AdQ)(n cap:Nat)(p m b o s v:Int)(L:List Ru)(w:World)(hs:SR w (.slice ao n cap) L)(h1000:n≤1000):
 Calls prog 54 #[.slice ao n cap,.agg #[.int i64 p,.int i64 m,.int i64 b,.int i64 o,.int i64 s,.int i64 v]] w fun e w'=>∃u,e=.returned (.tuple #[u,noV (chN L false ⟨p,m,b,o,s,v⟩)])∧NR w' w.heap.size u (chL L false ⟨p,m,b,o,s,v⟩)∧Below w.heap.size w w':=by
 obtain⟨ao',n',cap',e,hn,hn2,hn3,ha⟩:=hs.form;cases e;have HN:Hid (L.length=n):=hn;have hB0:Below w.heap.size w (w.alloc (.cells #[.int i64 p,.int i64 m,.int i64 b,.int i64 o,.int i64 s,.int i64 v] 47)):=(bRQ _ _).alloc (nLQ _) _;have HA:Hid (0<n→∃g o,ao=some ⟨g,o,none⟩∧RAt w g o L∧cap≤maxLen):=ha;have HB0:Hid (Below w.heap.size w (w.alloc (.cells #[.int i64 p,.int i64 m,.int i64 b,.int i64 o,.int i64 s,.int i64 v] 47))):=hB0;have HM:Hid (n≤maxLen):=hn2;clear hn ha hs hn2 hB0;cases hh:inB L ⟨p,m,b,o,s,v⟩
 ·rw[ch_none hh,chL_ne (by rw[ch_none hh];decide)];have HH:Hid (ixP (fun a=>eqR ⟨p,m,b,o,s,v⟩ a) L = -1):=ix_no hh;clear hh;go_enter func54,ntmps54
  go_wp2_with fail
  refine (index_any ao n cap p m b o s v L _ HN.out HM.out (fun h=>by obtain⟨g,o,e1,e2,e3⟩:=HA.out h;exact⟨g,o,e1,e2.later HB0.out,e3⟩)).mono ?_;rintro e w1 ⟨rfl,hb1⟩;rw[HH.out];have HB1:Hid (Below w.heap.size w w1):=HB0.out.trans (hb1.mono HB0.out.size);clear hb1;go_wp2;refine bodyPost_ret (v:=.tuple #[.slice none 0 0,.iface 81 (.int i64 5)]) (by simp[results,results54,go_sem]) rfl ⟨_,rfl,NR.nil _ _,HB1.out⟩
 rw[ch_take hh,chL_take (ch_take hh)];have HH:Hid (ixP (fun a=>eqR ⟨p,m,b,o,s,v⟩ a) L=(ixN L ⟨p,m,b,o,s,v⟩:Int)):=ix_yes hh;have hi:ixN L ⟨p,m,b,o,s,v⟩<n:=by
  have:=ix_lt hh;rw[HN.out] at this;exact this
 obtain⟨g,og,hao,hRA,hcm⟩:=HA.out (by omega);subst hao
 generalize ixN L ⟨p,m,b,o,s,v⟩=i at *
 have HRA:Hid (RAt w g og L):=hRA;have HCM:Hid (cap≤maxLen):=hcm;have hc63:(cap:Int)≤9223372036854775807:=by unfold maxLen at hcm;omega
 clear hh hRA hcm HA;go_enter func54,ntmps54
 go_wp2_with fail
 refine (index_any _ n cap p m b o s v L _ HN.out HM.out (fun h=>⟨g,og,rfl,HRA.out.later HB0.out,HCM.out⟩)).mono ?_;rintro e w1 ⟨rfl,hb1⟩;rw[HH.out];have HB1:Hid (Below w.heap.size w w1):=HB0.out.trans (hb1.mono HB0.out.size);have HR1:Hid (RAt w1 g og L):=(HRA.out.later HB0.out).later hb1;clear hb1;have i0:¬((i:Int)<0):=by omega
 have i01:(0:Int)≤(i:Int):=by omega
 have i1:(i:Int)≤(cap:Int):=by omega
 have i2:((i+1:Nat):Int)≤(n:Int):=by omega
 have i21:(0:Int)≤((i+1:Nat):Int):=by omega
 have i3:IntKind.i64.wrap ((i:Int)+1)=((i+1:Nat):Int):=by rw[IntKind.wrap_i64];omega
 have HT1:Hid (SR w1 (.slice (some ⟨g,og,none⟩) i cap) (L.take i)):=by
  have e1:(L.take i).length=i:=by rw[List.length_take,HN.out];omega
  exact .inr ⟨g,og,cap,by rw[e1],by rw[e1];omega,HCM.out,HR1.out.take i⟩
 have HLEN:Hid ([L.take i,L.drop (i+1)].flatten.length≤1000):=by
  show _≤1000;simp only[List.flatten_cons,List.flatten_nil,List.append_nil,List.length_append,List.length_take,List.length_drop,HN.out];omega
 by_cases hcj:cap=i+1
 ·have HT2:Hid (SR w1 (.slice (some ⟨g,og,none⟩) 0 0) (L.drop (i+1))):=.inl ⟨_,_,rfl,List.drop_eq_nil_of_le (by rw[HN.out];omega)⟩
  generalize hj:i+1=j at i2 i21 i3 hcj
  subst hcj;go_wp2
  go_region_held3 (fun w'=>Below w1.heap.size w1 w') (first | assumption | exact Below.drew (bRQ _ _) | exact keepQ (by assumption) (by assumption) | exact keepQ (Below.drew (bRQ _ _)) (by assumption) | exact keepQ (Below.alloc (bRQ _ _) (nLQ _) _) (by assumption))
   (first | (go_at_call 33;refine (concat_any _ 0 2 2 [L.take i,L.drop (i+1)] _ rfl (by omega) ((pat2 _ HT1.out HT2.out).later (Below.drew (bRQ _ _))) HLEN.out).mono ?_;rintro e w' ⟨u,rfl,hown,hb⟩))
  have HO:Hid (NR w' w.heap.size u (L.take i++L.drop (i+1))):=(NR.of hown (by simp)).mono (by have:=HB1.out.size;simp;omega);have HB2:Hid (Below w.heap.size w w'):=HB1.out.trans ((‹Below w1.heap.size w1 w'›).mono HB1.out.size);clear hown;go_wp2;refine bodyPost_ret (v:=.tuple #[u,.nilIface]) (by simp[results,results54,go_sem]) rfl ⟨_,rfl,HO.out,HB2.out⟩
 have HT2:Hid (SR w1 (.slice (some ⟨g,og+(i+1)*6,none⟩) (n-(i+1)) (cap-(i+1))) (L.drop (i+1))):=by
  have e1:(L.drop (i+1)).length=n-(i+1):=by rw[List.length_drop,HN.out]
  exact .inr ⟨g,og+(i+1)*6,cap-(i+1),by rw[e1],by rw[e1];omega,Nat.le_trans (Nat.sub_le _ _) HCM.out,HR1.out.drop (i+1)⟩
 generalize hj:i+1=j at i2 i21 i3 hcj HT2 HLEN
 go_wp2
 go_region_held3 (fun w'=>Below w1.heap.size w1 w') (first | assumption | exact Below.drew (bRQ _ _) | exact keepQ (by assumption) (by assumption) | exact keepQ (Below.drew (bRQ _ _)) (by assumption) | exact keepQ (Below.alloc (bRQ _ _) (nLQ _) _) (by assumption))
  (first | (go_at_call 33;refine (concat_any _ 0 2 2 [L.take i,L.drop j] _ rfl (by omega) ((pat2 _ HT1.out HT2.out).later (Below.drew (bRQ _ _))) HLEN.out).mono ?_;rintro e w' ⟨u,rfl,hown,hb⟩))
 have HO:Hid (NR w' w.heap.size u (L.take i++L.drop (i+1))):=(NR.of hown (by rw[hj];simp)).mono (by have:=HB1.out.size;simp;omega);have HB2:Hid (Below w.heap.size w w'):=HB1.out.trans ((‹Below w1.heap.size w1 w'›).mono HB1.out.size);clear hown;go_wp2;refine bodyPost_ret (v:=.tuple #[u,.nilIface]) (by simp[results,results54,go_sem]) rfl ⟨_,rfl,HO.out,HB2.out⟩
def oneA:ByteArray:=⟨#[97]⟩
def oneH:HoQ:=[(oneA,(1,2))]
def oneT:TsQ:=[[⟨1,0,0,2,0,0⟩]]
theorem one_send:seN 1 [] oneH oneT oneA 3=0∧(seV 1 [] oneH oneT oneA 3).1=1:=by decide +kernel
theorem one_holds:wiN 1 [] oneH oneT [⟨1,oneA,oneA,0⟩]=0:=by decide +kernel
theorem ts_one1 {W0 W:World}{v:Value}{L:List Ru}(t:TypeId)(hs:∀V,Below W0.heap.size W0 V→SR V v L)(ao:AdQ)(n c:Nat)(hv:v=.slice ao n c)(hW:W=W0.alloc (.cells #[v] t)):TS W (.slice (some ⟨W0.heap.size,0,none⟩) 1 1) [L]:=by
 subst hv hW;refine .inr ⟨W0.heap.size,0,1,rfl,nLQ _,by unfold maxLen;omega,fun i hi=>?_⟩;have hi0:i=0:=by simpa using hi
 subst hi0;have h0:=vat_new W0 [.slice ao n c] t 0 _ rfl;simp only[Nat.zero_add] at h0;exact⟨ao,n,c,h0,hs _ ((bRQ _ _).alloc (nLQ _) _)⟩
theorem topone_any (w:World):Calls prog 4 #[] w fun e w'=>e=.returned (.bool true)∧Below w.heap.size w w':=by
 obtain⟨a,ha⟩:∃a,a=oneA:=⟨_,rfl⟩;obtain⟨w1,hw1⟩:∃V,V=w.alloc (.cells #[.string ⟨#[97]⟩,.int i64 1,.int i64 2] 67):=⟨_,rfl⟩;obtain⟨w2,hw2⟩:∃V,V=w1.alloc (.cells #[.int i64 1,.int i64 0,.int i64 0,.int i64 2,.int i64 0,.int i64 0] 47):=⟨_,rfl⟩;obtain⟨w3,hw3⟩:∃V,V=w2.alloc (.cells #[.slice (some ⟨w1.heap.size,0,none⟩) 1 1] 58):=⟨_,rfl⟩;obtain⟨w4,hw4⟩:∃V,V=w3.alloc (.cells #[.int i64 1,.slice none 0 0,.slice (some ⟨w.heap.size,0,none⟩) 1 1,.slice (some ⟨w2.heap.size,0,none⟩) 1 1] 28):=⟨_,rfl⟩;have b1:Below w.heap.size w w1:=by rw[hw1];exact (bRQ _ _).alloc (nLQ _) _
 have b2:Below w1.heap.size w1 w2:=by rw[hw2];exact (bRQ _ _).alloc (nLQ _) _
 have b3:Below w2.heap.size w2 w3:=by rw[hw3];exact (bRQ _ _).alloc (nLQ _) _
 have b4:Below w3.heap.size w3 w4:=by rw[hw4];exact (bRQ _ _).alloc (nLQ _) _
 have s1:w1.heap.size=w.heap.size+1:=by rw[hw1];exact Array.size_push ..
 have s2:w2.heap.size=w.heap.size+1+1:=by rw[hw2,←s1];exact Array.size_push ..
 have s3:w3.heap.size=w.heap.size+1+1+1:=by rw[hw3,←s2];exact Array.size_push ..
 have b24:Below w2.heap.size w2 w4:=b3.trans (b4.mono b3.size);have b14:Below w1.heap.size w1 w4:=b2.trans (b24.mono b2.size);have HB4:Hid (Below w.heap.size w w4):=b1.trans (b14.mono b1.size);have HH:Hid (∀V,Below w4.heap.size w4 V→GS hstE V (.slice (some ⟨w.heap.size,0,none⟩) 1 1) oneH):=fun V hV=>by
  have h1:GS hstE w1 (.slice (some ⟨w.heap.size,0,none⟩) 1 1) oneH:=by rw[hw1];exact hst_row w oneA 1 2 _
  exact (h1.later b14).later hV
 have HT:Hid (∀V,Below w4.heap.size w4 V→TS V (.slice (some ⟨w.heap.size+1+1,0,none⟩) 1 1) oneT):=fun V hV=>by
  have h0:∀V,Below w2.heap.size w2 V→SR V (.slice (some ⟨w1.heap.size,0,none⟩) 1 1) [⟨1,0,0,2,0,0⟩]:=fun V hV=>by
   have:SR w2 (.slice (some ⟨w1.heap.size,0,none⟩) 1 1) [⟨1,0,0,2,0,0⟩]:=by rw[hw2];exact sr_one w1 1 0 0 2 0 0 _
   exact this.later hV
  have h1:=ts_one1 58 h0 _ _ _ rfl hw3;rw[s2] at h1;exact (h1.later b4).later hV
 have HN:Hid (∀V,Below w4.heap.size w4 V→NeBox V (w.heap.size+1+1+1) 1 (.slice none 0 0) (.slice (some ⟨w.heap.size,0,none⟩) 1 1) (.slice (some ⟨w.heap.size+1+1,0,none⟩) 1 1)):=fun V hV=>by
  have h1:NeBox w4 (w.heap.size+1+1+1) 1 (.slice none 0 0) (.slice (some ⟨w.heap.size,0,none⟩) 1 1) (.slice (some ⟨w.heap.size+1+1,0,none⟩) 1 1):=by
   have h2:=nebox_new w3 1 (.slice none 0 0) (.slice (some ⟨w.heap.size,0,none⟩) 1 1) (.slice (some ⟨w2.heap.size,0,none⟩) 1 1) 28;rw[←hw4,s3,s2] at h2;exact h2
  exact h1.later hV
 have HW4:Hid ((((w.alloc (.cells #[.string ⟨#[97]⟩,.int i64 1,.int i64 2] 67)).alloc (.cells #[.int i64 1,.int i64 0,.int i64 0,.int i64 2,.int i64 0,.int i64 0] 47)).alloc (.cells #[.slice (some ⟨w.heap.size+1,0,none⟩) 1 1] 58)).alloc (.cells #[.int i64 1,.slice none 0 0,.slice (some ⟨w.heap.size,0,none⟩) 1 1,.slice (some ⟨w.heap.size+1+1,0,none⟩) 1 1] 28)=w4):=by
  show _=_;rw[hw4,hw3,s2,s1,hw2,hw1]
 clear hw1 hw2 hw3 hw4 b1 b2 b3 b4 b14 b24 s1 s2 s3 ha;go_enter func4,ntmps4;go_upto_region 2 with fail;rw[HW4.out];clear HW4;obtain⟨n0,n1,n2,n3⟩:=HN.out w4 (bRQ _ _)
 go_wp2_with fail
 refine (send_any 1 none 0 0 (some ⟨w.heap.size,0,none⟩) 1 1 (some ⟨w.heap.size+1+1,0,none⟩) 1 1 [] oneH oneT oneA 3 _ (GS.nil _) (HH.out _ (bRQ _ _)) (HT.out _ (bRQ _ _))).mono ?_;rintro e w5 ⟨a4,n4,c4,rfl,_,hb5⟩;rw[one_send.1,one_send.2];obtain⟨H,hH⟩:∃H,H=(seV 1 [] oneH oneT oneA 3).2.1:=⟨_,rfl⟩;rw[←hH,show noV 0=.nilIface from rfl];have HB5:Hid (Below w4.heap.size w4 w5):=hb5;clear hb5 hH n0 n1 n2 n3;go_upto_region 3 with fail;obtain⟨w6,hw6⟩:∃V,V=w5.alloc (.cells #[.int i64 1,.string H,.slice a4 n4 c4] 70):=⟨_,rfl⟩;have b6:Below w5.heap.size w5 w6:=by rw[hw6];exact (bRQ _ _).alloc (nLQ _) _
 have f6:w6.cell? ⟨w5.heap.size,0,none⟩=some (.int i64 1):=by
  have:=vat_new w5 [.int i64 1,.string H,.slice a4 n4 c4] 70 0 _ rfl;rw[Nat.zero_add] at this;rw[hw6];exact this
 rw[←hw6];have HB6:Hid (Below w4.heap.size w4 w6):=HB5.out.trans (b6.mono HB5.out.size);obtain⟨z5,hz5⟩:∃z,z=w5.heap.size:=⟨_,rfl⟩;rw[←hz5] at f6 ⊢;have HF6:Hid (∀V,Below w6.heap.size w6 V→V.cell? ⟨z5,0,none⟩=some (.int i64 1)):=fun V hV=>cell_later hV f6
 clear hw6 b6 f6 hz5 HB5;obtain⟨n0,n1,n2,n3⟩:=HN.out w6 HB6.out;have HCW:Hid (∀V,Below w6.heap.size w6 V→Calls prog 18 #[.agg #[.int i64 1,.slice none 0 0,.slice (some ⟨w.heap.size,0,none⟩) 1 1,.slice (some ⟨w.heap.size+1+1,0,none⟩) 1 1],.slice (some ⟨V.heap.size,0,none⟩) 1 1] (V.alloc (.cells #[.int i64 1,.string ⟨#[97]⟩,.string ⟨#[97]⟩,.int i64 0] 78)) fun e w' =>
  ∃x y z,e=.returned (.tuple #[.agg #[.int i64 x,.string y,.int i64 z],.nilIface])∧Below w6.heap.size w6 w'):=fun V hV=>by
  have hb:Below w6.heap.size w6 (V.alloc (.cells #[.int i64 1,.string ⟨#[97]⟩,.string ⟨#[97]⟩,.int i64 0] 78)):=hV.alloc hV.size _;have hb4:=HB6.out.trans (hb.mono HB6.out.size);refine (holds_any 1 none 0 0 (some ⟨w.heap.size,0,none⟩) 1 1 (some ⟨w.heap.size+1+1,0,none⟩) 1 1 (some ⟨V.heap.size,0,none⟩) 1 1 [] oneH oneT [⟨1,oneA,oneA,0⟩] _ (GS.nil _) (HH.out _ hb4) (HT.out _ hb4) (wis_row V 1 oneA oneA 0 _)).mono ?_;rintro e w' ⟨rfl,hb'⟩;rw[one_holds];exact⟨_,_,_,rfl,hb.trans (hb'.mono hb.size)⟩
 go_wp2_with fail
 refine (HCW.out _ (bRQ _ _)).mono ?_;rintro e w8 ⟨x,y,z,rfl,hb8⟩;have HB8:Hid (Below w6.heap.size w6 w8):=hb8;have h0:=HF6.out _ (hb8.alloc hb8.size (Obj.cells #[.int i64 x,.string y,.int i64 z] 74));have HBF:Hid (Below w.heap.size w (w8.alloc (.cells #[.int i64 x,.string y,.int i64 z] 74))):=HB4.out.trans ((HB6.out.trans ((hb8.alloc hb8.size _).mono HB6.out.size)).mono HB4.out.size);clear hb8 n0 n1 n2 n3;go_wp2;go_ret;exact⟨rfl,HBF.out⟩
structure LO {α:Type}(r:α→α→Bool):Prop where
 irr:∀a,r a a=false
 tr:∀a b c,r a b=true→r b c=true→r a c=true
 tot:∀a b,r a b=false→r b a=false→a=b
theorem LO.asy {α:Type}{r:α→α→Bool}(h:LO r){a b:α}(hab:r a b=true):r b a=false:=by
 cases e:r b a
 ·rfl
 have:=h.tr a b a hab e;rw[h.irr] at this;cases this
theorem lo_int:LO (fun (a b:Int)=>decide (a<b)):=⟨by simp,fun a b c h1 h2=>by simp at *;omega,fun a b h1 h2=>by simp at *;omega⟩
def Ris {α:Type}(r:α→α→Bool)(l:List α):Prop:=l.Pairwise fun a b=>r a b=true
theorem ris_ext {α:Type}{r:α→α→Bool}(hr:LO r):∀{l m:List α},Ris r l→Ris r m→(∀x,x∈l↔x∈m)→l=m
 | [],[],_,_,_=>rfl
 | [],y :: m,_,_,h=>by have:=(h y).2 (by simp);simp at this
 | x :: l,[],_,_,h=>by have:=(h x).1 (by simp);simp at this
 | x :: l,y :: m,h1,h2,h=>by
   have a1:=List.pairwise_cons.1 h1;have a2:=List.pairwise_cons.1 h2;have e:x=y:=by
    rcases List.mem_cons.1 ((h x).1 (by simp)) with e | hx
    ·exact e
    rcases List.mem_cons.1 ((h y).2 (by simp)) with e | hy
    ·exact e.symm
    have b1:=a1.1 y hy;have b2:=a2.1 x hx;rw[hr.asy b1] at b2;cases b2
   subst e;rw[ris_ext hr a1.2 a2.2 (fun z=>?_)];have hz:=h z;constructor
   ·intro hm
    rcases List.mem_cons.1 (hz.1 (List.mem_cons_of_mem _ hm)) with e | e
    ·subst e;have:=a1.1 z hm;rw[hr.irr] at this;cases this
    exact e
   intro hm
   rcases List.mem_cons.1 (hz.2 (List.mem_cons_of_mem _ hm)) with e | e
   ·subst e;have:=a2.1 z hm;rw[hr.irr] at this;cases this
   exact e
def puR {α:Type}(r:α→α→Bool)(f:α):List α→List α
 | []=>[f]
 | x :: l=>if r f x=true then f :: x :: l else if r x f=true then x :: puR r f l else x :: l
theorem pu_mem {α:Type}{r:α→α→Bool}(hr:LO r)(f:α):∀{l:List α} {x:α},x∈puR r f l↔x=f∨x∈l
 | [],x=>by simp[puR]
 | y :: l,x=>by
   rw[puR];by_cases h1:r f y=true
   ·rw[if_pos h1];simp
   rw[if_neg h1];by_cases h2:r y f=true
   ·rw[if_pos h2,List.mem_cons,pu_mem hr f,List.mem_cons];constructor
    ·rintro (h | h | h)
     ·exact .inr (.inl h)
     ·exact .inl h
     exact .inr (.inr h)
    rintro (h | h | h)
    ·exact .inr (.inl h)
    ·exact .inl h
    exact .inr (.inr h)
   rw[if_neg h2];have e:y=f:=hr.tot _ _ (by simpa using h2) (by simpa using h1);subst e;simp
theorem pu_ris {α:Type}{r:α→α→Bool}(hr:LO r)(f:α):∀{l:List α},Ris r l→Ris r (puR r f l)
 | [],_=>by simp[puR,Ris]
 | y :: l,h=>by
   have a:=List.pairwise_cons.1 h;rw[puR];by_cases h1:r f y=true
   ·rw[if_pos h1];refine List.pairwise_cons.2 ⟨fun z hz=>?_,h⟩
    rcases List.mem_cons.1 hz with rfl | hz
    ·exact h1
    exact hr.tr _ _ _ h1 (a.1 z hz)
   rw[if_neg h1];by_cases h2:r y f=true
   ·rw[if_pos h2];refine List.pairwise_cons.2 ⟨fun z hz=>?_,pu_ris hr f a.2⟩
    rcases (pu_mem hr f).1 hz with rfl | hz
    ·exact h2
    exact a.1 z hz
   rw[if_neg h2];exact h
def caN (S:Int):TsQ→List Op8→Int
 | _,[]=>0
 | Ts,o :: l=>if swB S o.w=true then (if doN (taT Ts o.w) o.a o.r=0 then caN S (Ts.set (o.w-1).toNat (doL (taT Ts o.w) o.a o.r)) l else doN (taT Ts o.w) o.a o.r) else 1
def caT:TsQ→List Op8→TsQ
 | Ts,[]=>Ts
 | Ts,o :: l=>caT (Ts.set (o.w-1).toNat (doL (taT Ts o.w) o.a o.r)) l
def tsOk (Ts:TsQ):Prop:=∀L∈Ts,tbN L=0
theorem ca_len (Ts:TsQ)(l:List Op8):(caT Ts l).length=Ts.length:=by
 induction l generalizing Ts with
 | nil=>rfl
 | cons o l ih=>rw[caT,ih,List.length_set]
theorem ca_app (S:Int)(Ts:TsQ)(a b:List Op8):caN S Ts (a++b)=if caN S Ts a=0 then caN S (caT Ts a) b else caN S Ts a:=by
 induction a generalizing Ts with
 | nil=>simp[caN,caT]
 | cons o l ih =>
   rw[List.cons_append,caN,caN,caT];by_cases h1:swB S o.w=true
   ·rw[if_pos h1,if_pos h1];by_cases h2:doN (taT Ts o.w) o.a o.r=0
    ·rw[if_pos h2,if_pos h2,ih]
    rw[if_neg h2,if_neg h2,if_neg h2]
   rw[if_neg h1,if_neg h1];rfl
theorem cj_app (Ts:TsQ)(a b:List Op8):caT Ts (a++b)=caT (caT Ts a) b:=by
 induction a generalizing Ts with
 | nil=>rfl
 | cons o l ih=>rw[List.cons_append,caT,caT,ih]
theorem ca_cons {S:Int}{Ts:TsQ}{o:Op8}{l:List Op8}(h:caN S Ts (o :: l)=0):
 swB S o.w=true∧doN (taT Ts o.w) o.a o.r=0∧caN S (Ts.set (o.w-1).toNat (doL (taT Ts o.w) o.a o.r)) l=0:=by
 rw[caN] at h;by_cases h1:swB S o.w=true
 ·rw[if_pos h1] at h;by_cases h2:doN (taT Ts o.w) o.a o.r=0
  ·rw[if_pos h2] at h;exact⟨h1,h2,h⟩
  rw[if_neg h2] at h;exact absurd h h2
 rw[if_neg h1] at h;omega
theorem take_yes {L:List Ru}{r:Ru}(h:doN L false r=0):tbN L=0∧∃A B,L=A++r :: B∧doL L false r=A++B:=by
 have h0:=h;unfold doN at h;by_cases h1:tbN L=0
 ·rw[if_pos h1] at h;by_cases h2:r.n=0
  ·rw[if_pos h2,chN] at h;simp only[Bool.false_eq_true,if_false] at h;cases h3:inB L r
   ·rw[h3] at h;simp at h
   obtain⟨A,B,rfl⟩:=List.append_of_mem (in_iff.1 h3);exact⟨h1,A,B,rfl,(do_take h1).2⟩
  rw[if_neg h2] at h;exact absurd h h2
 rw[if_neg h1] at h;exact absurd h h1
theorem do_right {L:List Ru}{a:Bool}{r:Ru}(h:doN L a r=0):tbN (doL L a r)=0:=by
 cases a with
 | true =>
   obtain⟨h1,h2,h3,h4⟩:=add_yes h;rw[(do_add h1 h2 h3 h4).2];exact tb_one h1 h2 h3 h4
 | false =>
   obtain⟨h1,A,B,rfl,e⟩:=take_yes h;rw[e];exact tb_sub h1 (List.Sublist.append (List.Sublist.refl _) (List.sublist_cons_self r B))
theorem ok_set {Ts:TsQ}{k:Nat}{L:List Ru}(h:tsOk Ts)(hL:tbN L=0):tsOk (Ts.set k L):=by
 intro x hx
 rcases List.mem_or_eq_of_mem_set hx with h1 | rfl
 ·exact h x h1
 exact hL
theorem ca_right {S:Int}:∀{l:List Op8} {Ts:TsQ},tsOk Ts→caN S Ts l=0→tsOk (caT Ts l)
 | [],_,h,_=>h
 | o :: l,Ts,h,e=>by
   obtain⟨h1,h2,h3⟩:=ca_cons e;rw[caT];exact ca_right (ok_set h (do_right h2)) h3
theorem getD_set (Ts:TsQ)(k j:Nat)(L:List Ru):(Ts.set k L).getD j []=if j=k∧k<Ts.length then L else Ts.getD j []:=by
 rw[List.getD_eq_getElem?_getD,List.getElem?_set,List.getD_eq_getElem?_getD];by_cases h:k=j
 ·subst h;by_cases h2:k<Ts.length
  ·simp[h2]
  rw[if_pos rfl,if_neg h2,if_neg (by omega),List.getElem?_eq_none (by omega)]
 rw[if_neg h,if_neg (by omega)]
theorem ta_set {Ts:TsQ}{w:Int}{L:List Ru}(h1:1≤w)(h2:w≤Ts.length):taT (Ts.set (w-1).toNat L) w=L:=by
 have h:(w-1).toNat<Ts.length:=by omega
 rw[taT,List.getD_eq_getElem?_getD,List.getElem?_set_self h];rfl
def cgN (S:Int)(Ls:LkQ)(Hs:HoQ)(Ts:TsQ)(l:List Op8):Int:=
 if ntN S Ls Hs Ts=0 then (if 200<l.length then 4 else caN S Ts l) else ntN S Ls Hs Ts
theorem ok_ts {Ts:TsQ}(h:∀k,k<Ts.length→tbN (Ts.getD k [])=0):tsOk Ts:=by
 intro L hL;obtain⟨k,hk,rfl⟩:=List.getElem_of_mem hL;have:=h k hk;rw[List.getD_eq_getElem?_getD,List.getElem?_eq_getElem hk] at this;exact this
theorem cg_0 {S:Int}{Ls:LkQ}{Hs:HoQ}{Ts:TsQ}{l:List Op8}(h:cgN S Ls Hs Ts l=0):ntN S Ls Hs Ts=0∧l.length≤200∧caN S Ts l=0:=by
 unfold cgN at h;by_cases e:ntN S Ls Hs Ts=0
 ·rw[if_pos e] at h;by_cases e2:200<l.length
  ·rw[if_pos e2] at h;omega
  rw[if_neg e2] at h;exact⟨e,by omega,h⟩
 rw[if_neg e] at h;exact absurd h e
end
section
open Go.ChangeShapes Go.WideShapes Go.ChangeAt Go.RowKit Go.Joins
def cuE:Enc (Int×Int) where
 c:=fun x=>[.int i64 x.1,.int i64 x.2]
 n:=2
 len:=fun _=>rfl
 pos:=by decide
 one:=by
  intro x u hu;simp at hu
  rcases hu with rfl | rfl <;> rfl
theorem cu_open {H:Type}{enc:TypeId×Value→H}{W:World}{n:Nat}{cs:List Value}{x:DataW H×List MemPlace}
 (h:DataW.trod enc prog W 0 (fun _=>true) true n 45 cs=some x):∃y,cs=cuE.c y:=by
 obtain⟨xs,k,_,_,hl,hlen,hf⟩:=DataW.trod_struct underlying45 h;have hC:Tryz.prog.cellsOf 45=2:=by kernel_rfl
 have hT0:Tryz.prog.cellsOf 3=1:=by kernel_rfl
 rw[hC] at hl
 match cs,hl with
 | [c0,c1],_ =>
   match xs,hlen with
   | [z0,z1],_ =>
     have g0:=hf 0 _ rfl;have g1:=hf 1 _ rfl;simp[hT0] at g0 g1;obtain⟨v0,e0,_,_⟩:=DataW.trod_int underlying3 g0;obtain⟨v1,e1,_,_⟩:=DataW.trod_int underlying3 g1;simp[] at e0 e1;refine⟨(v0,v1),?_⟩;simp[cuE,e0,e1]
def rlE:Enc (Ru) where
 c:=fun x=>[.int i64 x.p,.int i64 x.m,.int i64 x.b,.int i64 x.o,.int i64 x.s,.int i64 x.v]
 n:=6
 len:=fun _=>rfl
 pos:=by decide
 one:=by
  intro x u hu;simp at hu
  rcases hu with rfl | rfl | rfl | rfl | rfl | rfl <;> rfl
theorem rl_cells {w:World}{g o:Nat}{x0 x1 x2 x3 x4 x5:Int}(h:VAt w g o (rlE.c ⟨x0,x1,x2,x3,x4,x5⟩)):w.cell? ⟨g,o,none⟩=some (.int i64 x0)∧w.cell? ⟨g,o+1,none⟩=some (.int i64 x1)∧w.cell? ⟨g,o+2,none⟩=some (.int i64 x2)∧w.cell? ⟨g,o+3,none⟩=some (.int i64 x3)∧w.cell? ⟨g,o+4,none⟩=some (.int i64 x4)∧w.cell? ⟨g,o+5,none⟩=some (.int i64 x5):=
 ⟨h 0 _ rfl,h 1 _ rfl,h 2 _ rfl,h 3 _ rfl,h 4 _ rfl,h 5 _ rfl⟩
theorem rl_open {H:Type}{enc:TypeId×Value→H}{W:World}{n:Nat}{cs:List Value}{x:DataW H×List MemPlace}
 (h:DataW.trod enc prog W 0 (fun _=>true) true n 47 cs=some x):∃y,cs=rlE.c y:=by
 obtain⟨xs,k,_,_,hl,hlen,hf⟩:=DataW.trod_struct underlying47 h;have hC:Tryz.prog.cellsOf 47=6:=by kernel_rfl
 have hT0:Tryz.prog.cellsOf 3=1:=by kernel_rfl
 have hT1:Tryz.prog.cellsOf 45=2:=by kernel_rfl
 rw[hC] at hl
 match cs,hl with
 | [c0,c1,c2,c3,c4,c5],_ =>
   match xs,hlen with
   | [z0,z1,z2,z3,z4],_ =>
     have g0:=hf 0 _ rfl;have g1:=hf 1 _ rfl;have g2:=hf 2 _ rfl;have g3:=hf 3 _ rfl;have g4:=hf 4 _ rfl;simp[hT0,hT1] at g0 g1 g2 g3 g4;obtain⟨v0,e0,_,_⟩:=DataW.trod_int underlying3 g0;obtain⟨s1,e1⟩:=cu_open g1;obtain⟨v3,e2,_,_⟩:=DataW.trod_int underlying3 g2;obtain⟨v4,e3,_,_⟩:=DataW.trod_int underlying3 g3;obtain⟨v5,e4,_,_⟩:=DataW.trod_int underlying3 g4;simp[cuE] at e0 e1 e2 e3 e4;refine⟨⟨v0,s1.1,s1.2,v3,v4,v5⟩,?_⟩;simp[rlE,e0,e1,e2,e3,e4]
def opE:Enc (Op8) where
 c:=fun x=>[.int i64 x.w,.bool x.a,.int i64 x.r.p,.int i64 x.r.m,.int i64 x.r.b,.int i64 x.r.o,.int i64 x.r.s,.int i64 x.r.v]
 n:=8
 len:=fun _=>rfl
 pos:=by decide
 one:=by
  intro x u hu;simp at hu
  rcases hu with rfl | rfl | rfl | rfl | rfl | rfl | rfl | rfl <;> rfl
theorem op_cells {w:World}{g o:Nat}{x0:Int}{x1:Bool}{x2 x3 x4 x5 x6 x7:Int}(h:VAt w g o (opE.c ⟨x0,x1,⟨x2,x3,x4,x5,x6,x7⟩⟩)):w.cell? ⟨g,o,none⟩=some (.int i64 x0)∧w.cell? ⟨g,o+1,none⟩=some (.bool x1)∧w.cell? ⟨g,o+2,none⟩=some (.int i64 x2)∧w.cell? ⟨g,o+3,none⟩=some (.int i64 x3)∧w.cell? ⟨g,o+4,none⟩=some (.int i64 x4)∧w.cell? ⟨g,o+5,none⟩=some (.int i64 x5)∧w.cell? ⟨g,o+6,none⟩=some (.int i64 x6)∧w.cell? ⟨g,o+7,none⟩=some (.int i64 x7):=
 ⟨h 0 _ rfl,h 1 _ rfl,h 2 _ rfl,h 3 _ rfl,h 4 _ rfl,h 5 _ rfl,h 6 _ rfl,h 7 _ rfl⟩
theorem op_at {w:World}{g o:Nat}{L:List (Op8)}(h:GAt opE w g o L){n k:Nat}(hn:L.length=n)(hk:k<n):
 ∃(x0:Int) (x1:Bool) (x2:Int) (x3:Int) (x4:Int) (x5:Int) (x6:Int) (x7:Int) (hl:k<L.length),L[k]=⟨x0,x1,⟨x2,x3,x4,x5,x6,x7⟩⟩∧w.cell? ⟨g,o+k*8,none⟩=some (.int i64 x0)∧w.cell? ⟨g,o+k*8+1,none⟩=some (.bool x1)∧w.cell? ⟨g,o+k*8+2,none⟩=some (.int i64 x2)∧w.cell? ⟨g,o+k*8+3,none⟩=some (.int i64 x3)∧w.cell? ⟨g,o+k*8+4,none⟩=some (.int i64 x4)∧w.cell? ⟨g,o+k*8+5,none⟩=some (.int i64 x5)∧w.cell? ⟨g,o+k*8+6,none⟩=some (.int i64 x6)∧w.cell? ⟨g,o+k*8+7,none⟩=some (.int i64 x7):=
 have hl:k<L.length:=by omega
 ⟨_,_,_,_,_,_,_,_,hl,rfl,op_cells (h k hl)⟩
theorem op_new (w:World)(x0:Int)(x1:Bool)(x2 x3 x4 x5 x6 x7:Int)(t:TypeId):VAt (w.alloc (.cells #[.int i64 x0,.bool x1,.int i64 x2,.int i64 x3,.int i64 x4,.int i64 x5,.int i64 x6,.int i64 x7] t)) w.heap.size 0 (opE.c ⟨x0,x1,⟨x2,x3,x4,x5,x6,x7⟩⟩):=vat_new w [.int i64 x0,.bool x1,.int i64 x2,.int i64 x3,.int i64 x4,.int i64 x5,.int i64 x6,.int i64 x7] t
def opB (a b:Op8):Bool:=(a.w==b.w)&&((a.a==b.a)&&((a.r.p==b.r.p)&&((a.r.m==b.r.m)&&((a.r.b==b.r.b)&&((a.r.o==b.r.o)&&((a.r.s==b.r.s)&&((a.r.v==b.r.v))))))))
theorem op_ways (x0:Int)(x1:Bool)(x2 x3 x4 x5 x6 x7 y0:Int)(y1:Bool)(y2 y3 y4 y5 y6 y7:Int):
 ((x0==y0)=false∧opB ⟨x0,x1,⟨x2,x3,x4,x5,x6,x7⟩⟩ ⟨y0,y1,⟨y2,y3,y4,y5,y6,y7⟩⟩=false) ∨
 ((x0==y0)=true∧(x1==y1)=false∧opB ⟨x0,x1,⟨x2,x3,x4,x5,x6,x7⟩⟩ ⟨y0,y1,⟨y2,y3,y4,y5,y6,y7⟩⟩=false) ∨
 ((x0==y0)=true∧(x1==y1)=true∧(x2==y2)=false∧opB ⟨x0,x1,⟨x2,x3,x4,x5,x6,x7⟩⟩ ⟨y0,y1,⟨y2,y3,y4,y5,y6,y7⟩⟩=false) ∨
 ((x0==y0)=true∧(x1==y1)=true∧(x2==y2)=true∧(x3==y3)=false∧opB ⟨x0,x1,⟨x2,x3,x4,x5,x6,x7⟩⟩ ⟨y0,y1,⟨y2,y3,y4,y5,y6,y7⟩⟩=false) ∨
 ((x0==y0)=true∧(x1==y1)=true∧(x2==y2)=true∧(x3==y3)=true∧(x4==y4)=false∧opB ⟨x0,x1,⟨x2,x3,x4,x5,x6,x7⟩⟩ ⟨y0,y1,⟨y2,y3,y4,y5,y6,y7⟩⟩=false) ∨
 ((x0==y0)=true∧(x1==y1)=true∧(x2==y2)=true∧(x3==y3)=true∧(x4==y4)=true∧(x5==y5)=false∧opB ⟨x0,x1,⟨x2,x3,x4,x5,x6,x7⟩⟩ ⟨y0,y1,⟨y2,y3,y4,y5,y6,y7⟩⟩=false) ∨
 ((x0==y0)=true∧(x1==y1)=true∧(x2==y2)=true∧(x3==y3)=true∧(x4==y4)=true∧(x5==y5)=true∧(x6==y6)=false∧opB ⟨x0,x1,⟨x2,x3,x4,x5,x6,x7⟩⟩ ⟨y0,y1,⟨y2,y3,y4,y5,y6,y7⟩⟩=false) ∨
 ((x0==y0)=true∧(x1==y1)=true∧(x2==y2)=true∧(x3==y3)=true∧(x4==y4)=true∧(x5==y5)=true∧(x6==y6)=true∧(x7==y7)=false∧opB ⟨x0,x1,⟨x2,x3,x4,x5,x6,x7⟩⟩ ⟨y0,y1,⟨y2,y3,y4,y5,y6,y7⟩⟩=false) ∨
 ((x0==y0)=true∧(x1==y1)=true∧(x2==y2)=true∧(x3==y3)=true∧(x4==y4)=true∧(x5==y5)=true∧(x6==y6)=true∧(x7==y7)=true∧opB ⟨x0,x1,⟨x2,x3,x4,x5,x6,x7⟩⟩ ⟨y0,y1,⟨y2,y3,y4,y5,y6,y7⟩⟩=true):=by
 have e:opB ⟨x0,x1,⟨x2,x3,x4,x5,x6,x7⟩⟩ ⟨y0,y1,⟨y2,y3,y4,y5,y6,y7⟩⟩=((x0==y0)&&((x1==y1)&&((x2==y2)&&((x3==y3)&&((x4==y4)&&((x5==y5)&&((x6==y6)&&((x7==y7))))))))):=rfl;rw[e];cases h0:(x0==y0)
 ·simp
 skip;cases h1:(x1==y1)
 ·simp
 skip;cases h2:(x2==y2)
 ·simp
 skip;cases h3:(x3==y3)
 ·simp
 skip;cases h4:(x4==y4)
 ·simp
 skip;cases h5:(x5==y5)
 ·simp
 skip;cases h6:(x6==y6)
 ·simp
 skip;cases h7:(x7==y7)
 ·simp
 skip;simp
theorem op_info:(Tryz.prog.info? 49).map (fun i=>(i.zero,i.size,i.bytes))=some (some (.agg #[.int i64 0,.bool false,.int i64 0,.int i64 0,.int i64 0,.int i64 0,.int i64 0,.int i64 0]),8,64):=by kernel_rfl
theorem op_zero:(Value.agg #[.int i64 0,.bool false,.int i64 0,.int i64 0,.int i64 0,.int i64 0,.int i64 0,.int i64 0]).cells.size=8:=by simp[Value.cells]
theorem op_open {H:Type}{enc:TypeId×Value→H}{W:World}{n:Nat}{cs:List Value}{x:DataW H×List MemPlace}
 (h:DataW.trod enc prog W 0 (fun _=>true) true n 49 cs=some x):∃y,cs=opE.c y:=by
 obtain⟨xs,k,_,_,hl,hlen,hf⟩:=DataW.trod_struct underlying49 h;have hC:Tryz.prog.cellsOf 49=8:=by kernel_rfl
 have hT0:Tryz.prog.cellsOf 3=1:=by kernel_rfl
 have hT1:Tryz.prog.cellsOf 4=1:=by kernel_rfl
 have hT2:Tryz.prog.cellsOf 47=6:=by kernel_rfl
 rw[hC] at hl
 match cs,hl with
 | [c0,c1,c2,c3,c4,c5,c6,c7],_ =>
   match xs,hlen with
   | [z0,z1,z2],_ =>
     have g0:=hf 0 _ rfl;have g1:=hf 1 _ rfl;have g2:=hf 2 _ rfl;simp[hT0,hT1,hT2] at g0 g1 g2;obtain⟨v0,e0,_,_⟩:=DataW.trod_int underlying3 g0;obtain⟨v1,e1,_⟩:=DataW.trod_bool underlying4 g1;obtain⟨s2,e2⟩:=rl_open g2;simp[rlE] at e0 e1 e2;refine⟨⟨v0,v1,⟨s2.p,s2.m,s2.b,s2.o,s2.s,s2.v⟩⟩,?_⟩;simp[opE,e0,e1,e2]
theorem ops_of {H:Type}{enc:TypeId×Value→H}{W:World}{base:Nat}{v:Value}{d:DataW H}{p:List MemPlace}
 (hv:Value.okWide prog W .any base 29 v) (h:DataW.Trod enc prog W 0 (fun _=>true) true 29 v d p):∃L,GS opE W v L:=
 gs_of (E:=opE) 29 49 underlying29 (by kernel_rfl) ⟨0,false,⟨0,0,0,0,0,0⟩⟩ (fun _ _ _ h=>op_open h) hv h
end
section
open Go.RowKit
def ltI (a b:Int):Bool:=decide (a<b)
theorem lo_ltI:LO ltI:=lo_int
def tcL (l:List Op8):List Int:=l.foldl (fun R o=>puR ltI o.w R) []
theorem tc_ris:∀(l:List Op8) (R:List Int),Ris ltI R→Ris ltI (l.foldl (fun R o=>puR ltI o.w R) R)
 | [],R,h=>h
 | x :: l,R,h=>tc_ris l _ (pu_ris lo_ltI x.w h)
theorem tc_mem:∀(l:List Op8) (R:List Int) (s:Int),s∈l.foldl (fun R o=>puR ltI o.w R) R↔s∈R∨∃o∈l,o.w=s
 | [],R,s=>by simp
 | x :: l,R,s=>by
   rw[List.foldl_cons,tc_mem l,pu_mem lo_ltI];constructor
   ·rintro ((rfl | h) | ⟨o,h1,h2⟩)
    ·exact .inr ⟨x,by simp,rfl⟩
    ·exact .inl h
    exact .inr ⟨o,by simp[h1],h2⟩
   rintro (h | ⟨o,h1,h2⟩)
   ·exact .inl (.inr h)
   rcases List.mem_cons.1 h1 with rfl | h1
   ·exact .inl (.inl h2.symm)
   exact .inr ⟨o,h1,h2⟩
end
section
def wtI (l m:List Int):List Int:=l.filter fun x => !(m.any fun y=>y==x)
end
section
open Go.RowKit
structure Mg where
 k:Int
 s:Int
 r:Int
 i:Int
 o:Op8
def zeP:Op8:=⟨0,false,⟨0,0,0,0,0,0⟩⟩
def zeM:Mg:=⟨0,0,0,0,zeP⟩
def oqB (a b:Op8):Bool:=(a.w==b.w)&&((a.a==b.a)&&((a.r.p==b.r.p)&&((a.r.m==b.r.m)&&((a.r.b==b.r.b)&&((a.r.o==b.r.o)&&((a.r.s==b.r.s)&&((a.r.v==b.r.v))))))))
theorem oqB_iff (a b:Op8):oqB a b=true↔a=b:=by
 have e:oqB a b=((a.w==b.w)&&((a.a==b.a)&&((a.r.p==b.r.p)&&((a.r.m==b.r.m)&&((a.r.b==b.r.b)&&((a.r.o==b.r.o)&&((a.r.s==b.r.s)&&((a.r.v==b.r.v))))))))):=rfl;rw[e];simp only[Bool.and_eq_true,beq_iff_eq];constructor
 ·intro h;obtain⟨a0,a1,⟨a2,a3,a4,a5,a6,a7⟩⟩:=a;obtain⟨b0,b1,⟨b2,b3,b4,b5,b6,b7⟩⟩:=b;simp at h ⊢;simp[h]
 intro h;subst h;simp
def mgR (m:Mg):Bool:=(decide (1≤m.k)&&decide (m.k≤3))&&((decide (1≤m.s)&&decide (m.s≤6))&&((decide (0≤m.r)&&decide (m.r≤19))&&(decide (0≤m.i)&&decide (m.i≤200))))
def moN (o:Op8)(s:Int):Int:=if o.r.n=0 then (if o.w=s then 0 else 3) else o.r.n
def mgN (m:Mg):Int:=if mgR m then (if m.k=1 then moN m.o m.s else (if oqB m.o zeP && !(decide (m.k=3) && !(decide (m.i=0))) then 0 else 3)) else 1
theorem mg_bd (m:Mg):0≤mgN m∧mgN m≤3:=by
 unfold mgN moN;have h:0≤m.o.r.n∧m.o.r.n≤3:=ruN_bd _ _ _ _ _ _
 split
 ·split
  ·split
   ·split <;> omega
   omega
  split <;> omega
 omega
theorem mg_rng {m:Mg}:mgR m=true↔(1≤m.k∧m.k≤3)∧(1≤m.s∧m.s≤6)∧(0≤m.r∧m.r≤19)∧(0≤m.i∧m.i≤200):=by
 simp[mgR]
def btN (b:Bool):Int:=if b then 1 else 0
def mgL (m:Mg):List Int:=[m.k,m.s,m.r,m.i]++if m.k=1 then [btN m.o.a,m.o.r.p,m.o.r.m,m.o.r.b,m.o.r.o,m.o.r.s,m.o.r.v] else []
def smL (l:List Int):Int:=l.foldl (· + ·) 0
theorem sm_app (l:List Int)(x:Int):smL (l++[x])=smL l+x:=by simp[smL]
def nmT (l:List Int):ByteArray:=strOfNums (l++[smL l % 251])
def mgT (m:Mg):ByteArray:=nmT (mgL m)
def byL (l:List Int):Prop:=∀x∈l,0≤x∧x≤200
theorem mg_1 {m:Mg}(h:mgN m=0):mgR m=true∧(m.k=1→m.o.r.n=0∧m.o.w=m.s)∧(m.k≠1→m.o=zeP∧(m.k=3→m.i=0)):=by
 unfold mgN moN at h
 split at h
 ·next hR =>
  refine⟨hR,fun h1=>?_,fun h1=>?_⟩
  ·rw[if_pos h1] at h
   split at h
   ·split at h
    ·exact⟨by assumption,by assumption⟩
    cases h
   exact absurd h (by assumption)
  rw[if_neg h1] at h
  split at h
  ·next h2 =>
   simp only[Bool.and_eq_true] at h2;refine⟨(oqB_iff _ _).1 h2.1,fun h3=>?_⟩;have:=h2.2;simp[h3] at this;exact this
  cases h
 cases h
theorem mg_by {m:Mg}(h:mgN m=0):byL (mgL m)∧(mgL m).length≤11∧4≤(mgL m).length:=by
 obtain⟨hR,h1,h2⟩:=mg_1 h;have hr:=mg_rng.1 hR;by_cases hk:m.k=1
 ·obtain⟨h3,h4⟩:=h1 hk;have h5:ruOk m.o.r.p m.o.r.m m.o.r.b m.o.r.o m.o.r.s m.o.r.v=true:=by
   cases h6:ruOk m.o.r.p m.o.r.m m.o.r.b m.o.r.o m.o.r.s m.o.r.v
   ·exact absurd h3 (ruN_ne h6)
   rfl
  have h6:=ru_in (ru_ok h5).1;have h7:=ok_of (ru_ok h5).2.1;refine⟨?_,?_,?_⟩
  ·intro x hx;simp only[mgL,if_pos hk,List.cons_append,List.nil_append,List.mem_cons,List.not_mem_nil,or_false] at hx;have hb:0≤btN m.o.a∧btN m.o.a≤1:=by unfold btN;split <;> omega
   rcases hx with rfl | rfl | rfl | rfl | rfl | rfl | rfl | rfl | rfl | rfl | rfl <;> omega
  ·simp[mgL,hk]
  simp[mgL,hk]
 refine⟨?_,?_,?_⟩
 ·intro x hx;simp only[mgL,if_neg hk,List.cons_append,List.nil_append,List.mem_cons,List.not_mem_nil,or_false] at hx
  rcases hx with rfl | rfl | rfl | rfl <;> omega
 ·simp[mgL,hk]
 simp[mgL,hk]
theorem by_take {l:List Int}(h:byL l)(k:Nat):byL (l.take k):=fun x hx=>h x (List.mem_of_mem_take hx)
theorem by_sum:∀{l:List Int},byL l→0≤smL l∧smL l≤200*l.length:=by
 have key:∀(l:List Int) (a:Int),byL l→a≤l.foldl (· + ·) a∧l.foldl (· + ·) a≤a+200*l.length:=by
  intro l
  induction l with
  | nil=>intro a _;simp
  | cons x r ih =>
    intro a h;have h1:=h x List.mem_cons_self;have h2:=ih (a+x) (fun y hy=>h y (List.mem_cons_of_mem _ hy));simp only[List.foldl_cons,List.length_cons];omega
 intro l h;have:=key l 0 h;unfold smL;omega
def lnM (c:Nat):Nat:=if c=1 then 12 else if c=2∨c=3 then 5 else 0
theorem ln_le (c:Nat):lnM c≤12:=by unfold lnM;split;omega;split <;> omega
theorem ln_5 {c:Nat}(h:lnM c≠0):5≤lnM c:=by
 unfold lnM at h ⊢
 split
 ·omega
 split
 ·omega
 next h1 h2=>rw[if_neg h1,if_neg h2] at h;exact absurd rfl h
def byN (b:ByteArray)(j:Nat):Nat:=(b.data.toList.getD j 0).toNat
theorem byN_at (b:ByteArray)(j:Nat)(h:j<b.size):byN b j=b[j].toNat:=by
 have h2:j<b.data.toList.length:=by rw[←Lib.size_eq];exact h
 unfold byN;rw[List.getD_eq_getElem?_getD,List.getElem?_eq_getElem h2];rfl
def rrM (b:ByteArray):Ru:=⟨byN b 5,byN b 6,byN b 7,byN b 8,byN b 9,byN b 10⟩
def wrM (b:ByteArray):Mg:=⟨byN b 0,byN b 1,byN b 2,byN b 3,if byN b 0=1 then ⟨byN b 1,byN b 4==1,rrM b⟩ else zeP⟩
def dcB (b:ByteArray):Bool := !(b.size==0)&&(decide (b.size=lnM (byN b 0))&&(decide (mgN (wrM b)=0)&&decide (mgT (wrM b)=b)))
def dcV (b:ByteArray):Mg:=if dcB b then wrM b else zeM
theorem dc_text {b:ByteArray}(h:dcB b=true):mgT (dcV b)=b∧mgN (dcV b)=0∧b.size=lnM (byN b 0):=by
 unfold dcV;rw[if_pos h];simp only[dcB,Bool.and_eq_true,decide_eq_true_eq,beq_iff_eq] at h;exact⟨h.2.2.2,h.2.2.1,h.2.1⟩
theorem nmt_size (l:List Int):(nmT l).size=l.length+1:=by unfold nmT;rw[strOfNums_size];simp
theorem nm_at {l:List Int}(h:byL l){j:Nat}(hj:j<l.length):(byN (nmT l) j:Int)=l[j]:=by
 have hb:=h l[j] (List.getElem_mem hj);unfold byN nmT;rw[strOfNums_data,List.getD_eq_getElem?_getD,List.getElem?_map,List.getElem?_append_left hj,List.getElem?_eq_getElem hj];simp only[Option.map_some,Option.getD_some];rw[UInt8.toNat_ofNat'];omega
theorem mg_len {m:Mg}(h:mgN m=0):(mgT m).size=lnM (byN (mgT m) 0)∧(mgT m).size=(if m.k=1 then 12 else 5):=by
 obtain⟨hb,_,h4⟩:=mg_by h;have h0:(byN (mgT m) 0:Int)=m.k:=by
  have:=nm_at hb (j:=0) (by omega);rw[mgT,this];simp[mgL]
 have hr:=mg_rng.1 (mg_1 h).1;unfold lnM;unfold mgT at *;rw[nmt_size];by_cases hk:m.k=1
 ·rw[if_pos (by omega),if_pos hk];simp[mgL,hk]
 rw[if_neg (by omega),if_pos (by omega),if_neg hk];simp[mgL,hk]
theorem dc_back {m:Mg}(h:mgN m=0):dcB (mgT m)=true∧dcV (mgT m)=m:=by
 obtain⟨hb,_,h4⟩:=mg_by h;obtain⟨hR,h1,h2⟩:=mg_1 h;have hs:=mg_len h;have e0:(byN (mgT m) 0:Int)=m.k:=by rw[mgT,nm_at hb (j:=0) (by omega)];simp[mgL]
 have e1:(byN (mgT m) 1:Int)=m.s:=by rw[mgT,nm_at hb (j:=1) (by omega)];simp[mgL]
 have e2:(byN (mgT m) 2:Int)=m.r:=by rw[mgT,nm_at hb (j:=2) (by omega)];simp[mgL]
 have e3:(byN (mgT m) 3:Int)=m.i:=by rw[mgT,nm_at hb (j:=3) (by omega)];simp[mgL]
 have hrd:wrM (mgT m)=m:=by
  by_cases hk:m.k=1
  ·have hl:(mgL m).length=11:=by simp[mgL,hk]
   have e4:(byN (mgT m) 4:Int)=btN m.o.a:=by rw[mgT,nm_at hb (j:=4) (by omega)];simp[mgL,hk]
   have e5:(byN (mgT m) 5:Int)=m.o.r.p:=by rw[mgT,nm_at hb (j:=5) (by omega)];simp[mgL,hk]
   have e6:(byN (mgT m) 6:Int)=m.o.r.m:=by rw[mgT,nm_at hb (j:=6) (by omega)];simp[mgL,hk]
   have e7:(byN (mgT m) 7:Int)=m.o.r.b:=by rw[mgT,nm_at hb (j:=7) (by omega)];simp[mgL,hk]
   have e8:(byN (mgT m) 8:Int)=m.o.r.o:=by rw[mgT,nm_at hb (j:=8) (by omega)];simp[mgL,hk]
   have e9:(byN (mgT m) 9:Int)=m.o.r.s:=by rw[mgT,nm_at hb (j:=9) (by omega)];simp[mgL,hk]
   have e10:(byN (mgT m) 10:Int)=m.o.r.v:=by rw[mgT,nm_at hb (j:=10) (by omega)];simp[mgL,hk]
   have ea:(byN (mgT m) 4==1)=m.o.a:=by
    cases ha:m.o.a
    ·have:byN (mgT m) 4=0:=by rw[ha] at e4;simp[btN] at e4;omega
     rw[this];rfl
    have:byN (mgT m) 4=1:=by rw[ha] at e4;simp[btN] at e4;omega
    rw[this];rfl
   unfold wrM rrM;rw[if_pos (by omega),e0,e1,e2,e3,e5,e6,e7,e8,e9,e10,ea];have hw:=(h1 hk).2;obtain⟨k,s,r,i,⟨w,a,⟨p,mm,b,o,ss,v⟩⟩⟩:=m;simp at hw ⊢;exact hw.symm
  unfold wrM;rw[if_neg (by omega),e0,e1,e2,e3,←(h2 hk).1]
 have hd:dcB (mgT m)=true:=by
  simp only[dcB,Bool.and_eq_true,decide_eq_true_eq,beq_iff_eq,hrd];refine⟨?_,hs.1,h,trivial⟩;have:(mgT m).size≠0:=by rw[hs.2];split <;> omega
  simpa using this
 exact⟨hd,by rw[dcV,if_pos hd,hrd]⟩
def wtK:Nat→ByteArray→Option (List Mg×ByteArray)
 | 0,b=>some ([],b)
 | k + 1,b=>if b.size=0 then some ([],b) else if lnM (byN b 0)=0 then none else if b.size<lnM (byN b 0) then some ([],b) else
     if dcB (b.extract 0 (lnM (byN b 0)))=true then (wtK k (b.extract (lnM (byN b 0)) b.size)).map (fun p=>(dcV (b.extract 0 (lnM (byN b 0))) :: p.1,p.2)) else none
def wtM (b:ByteArray):Option (List Mg×ByteArray):=wtK b.size b
theorem wk_more:∀(k:Nat) (b:ByteArray),b.size≤k→wtK k b=wtK b.size b:=by
 intro k
 induction k using Nat.strongRecOn with
 | _ k ih =>
   intro b hk
   match k,hk with
   | 0,hk=>rw[Nat.le_zero.1 hk]
   | k+1,hk =>
     by_cases h0:b.size=0
     ·rw[h0,wtK,wtK,if_pos h0]
     obtain⟨n,hn⟩:∃n,b.size=n+1:=⟨b.size-1,by omega⟩;by_cases h1:lnM (byN b 0)=0
     ·rw[hn,wtK,wtK,if_neg h0,if_neg h0,if_pos h1,if_pos h1]
     have h5:=ln_5 h1;have hsz:(b.extract (lnM (byN b 0)) b.size).size=b.size-lnM (byN b 0):=by rw[ByteArray.size_extract];omega
     have e1:=ih k (by omega) (b.extract (lnM (byN b 0)) b.size) (by omega);have e2:wtK n (b.extract (lnM (byN b 0)) b.size)=wtK (b.extract (lnM (byN b 0)) b.size).size (b.extract (lnM (byN b 0)) b.size):=ih n (by omega) (b.extract (lnM (byN b 0)) b.size) (by omega);rw[wtK,e1,←e2]
     conv=>rhs;rw[hn,wtK]
theorem wt_0 {b:ByteArray}(h:b.size=0):wtM b=some ([],b):=by unfold wtM;rw[h,wtK]
theorem wt_step {b:ByteArray}(h:b.size≠0):wtM b=if lnM (byN b 0)=0 then none else if b.size<lnM (byN b 0) then some ([],b) else
 if dcB (b.extract 0 (lnM (byN b 0)))=true then (wtM (b.extract (lnM (byN b 0)) b.size)).map (fun p=>(dcV (b.extract 0 (lnM (byN b 0))) :: p.1,p.2)) else none:=by
 obtain⟨n,hn⟩:∃n,b.size=n+1:=⟨b.size-1,by omega⟩;unfold wtM
 conv=>lhs;rw[hn,wtK,if_neg h]
 by_cases h1:lnM (byN b 0)=0
 ·rw[if_pos h1,if_pos h1]
 have h5:=ln_5 h1;have hsz:(b.extract (lnM (byN b 0)) b.size).size=b.size-lnM (byN b 0):=by rw[ByteArray.size_extract];omega
 rw[wk_more n _ (by omega)]
def wtG (L:List Mg)(b:ByteArray):Option (List Mg×ByteArray):=(wtM b).map (fun p=>(L++p.1,p.2))
theorem wg_0 {L:List Mg}{b:ByteArray}(h:b.size=0):wtG L b=some (L,b):=by unfold wtG;rw[wt_0 h];simp
theorem wg_no {L:List Mg}{b:ByteArray}(h:b.size≠0)(h1:lnM (byN b 0)=0):wtG L b=none:=by unfold wtG;rw[wt_step h,if_pos h1];rfl
theorem wg_end {L:List Mg}{b:ByteArray}(h:b.size≠0)(h1:lnM (byN b 0)≠0)(h2:b.size<lnM (byN b 0)):wtG L b=some (L,b):=by unfold wtG;rw[wt_step h,if_neg h1,if_pos h2];simp
theorem wg_bad {L:List Mg}{b:ByteArray}(h:b.size≠0)(h1:lnM (byN b 0)≠0)(h2:¬b.size<lnM (byN b 0))(h3:dcB (b.extract 0 (lnM (byN b 0)))=false):wtG L b=none:=by
 unfold wtG;rw[wt_step h,if_neg h1,if_neg h2,h3];rfl
theorem wg_on {L:List Mg}{b:ByteArray}(h:b.size≠0)(h1:lnM (byN b 0)≠0)(h2:¬b.size<lnM (byN b 0))(h3:dcB (b.extract 0 (lnM (byN b 0)))=true):wtG L b=wtG (L++[dcV (b.extract 0 (lnM (byN b 0)))]) (b.extract (lnM (byN b 0)) b.size):=by
 unfold wtG;rw[wt_step h,if_neg h1,if_neg h2,if_pos h3];cases wtM (b.extract (lnM (byN b 0)) b.size) with
 | none=>rfl
 | some p=>simp
theorem wg_nil (b:ByteArray):wtG [] b=wtM b:=by
 unfold wtG;cases wtM b with
 | none=>rfl
 | some p=>simp
def wtN (b:ByteArray):Int:=if (wtM b).isSome then 0 else 2
def wtL (b:ByteArray):List Mg:=match wtM b with | some p=>p.1 | none=>[]
def wtR (b:ByteArray):ByteArray:=match wtM b with | some p=>p.2 | none=>ByteArray.empty
theorem wt_some {b:ByteArray}{L:List Mg}{r:ByteArray}(h:wtM b=some (L,r)):wtN b=0∧wtL b=L∧wtR b=r:=by
 unfold wtN wtL wtR;rw[h];exact⟨rfl,rfl,rfl⟩
theorem wt_none {b:ByteArray}(h:wtM b=none):wtN b=2∧wtL b=[]∧wtR b=ByteArray.empty:=by
 unfold wtN wtL wtR;rw[h];exact⟨rfl,rfl,rfl⟩
structure Kp where
 r:Int
 i:Int
 o:Op8
structure AgT where
 t:List Ru
 l:List Kp
 m:List Int
 d:List Int
def kpB (r i:Int)(k:Kp):Bool:=k.r==r&&k.i==i
def hasK (l:List Kp)(r i:Int):Bool:=l.any (kpB r i)
def opK (l:List Kp)(r i:Int):Op8:=((l.find? (kpB r i)).map Kp.o).getD zeP
def hdN (l:List Kp)(r:Int):Nat:=l.countP (fun k=>k.r==r)
def manyK (a:AgT)(r:Int):Int:=a.m.getD r.toNat (-1)
def doneK (a:AgT)(r:Int):Bool:=a.d.any (fun x=>x==r)
def hrN (n:Int)(m:Mg):Int:=if mgN m=0 then (if m.s=n then (if m.k=3 then 6 else 0) else 5) else mgN m
def hrS (n:Int)(a:AgT)(m:Mg):AgT:=
 if hrN n m=0∧doneK a m.r=false then
  (if m.k=2 then (if manyK a m.r<0 then { a with m:=a.m.set m.r.toNat m.i } else a)
  else (if hasK a.l m.r m.i=true then a else { a with l:=a.l++[⟨m.r,m.i,m.o⟩] }))
 else a
def yesM (n r:Int):Mg:=⟨3,n,r,0,zeP⟩
def hrA (n:Int)(a:AgT)(m:Mg):List Mg:=if hrN n m=0∧m.k=2∧doneK a m.r=true then [yesM n m.r] else []
def allK (l:List Kp)(r:Int)(n:Nat):Bool:=(List.range n).all fun (k:Nat)=>hasK l r (k:Int)
def rdyB (a:AgT)(r:Int):Bool := !doneK a r&&decide (0≤manyK a r)&&allK a.l r (manyK a r).toNat
def rdyTo (a:AgT)(r:Nat):Nat→Int
 | 0 => -1
 | k+1=>if rdyB a (r:Int)=true then (r:Int) else rdyTo a (r+1) k
def rdyN (a:AgT):Int:=rdyTo a 0 20
def opsK (a:AgT)(r:Int):List Op8:=(List.range (manyK a r).toNat).map fun (k:Nat)=>opK a.l r (k:Int)
def wkTab (t:List Ru)(l:List Op8):List Ru:=if alN t l=0 then alL t l else t
def wkS (a:AgT):AgT:=if rdyN a<0 then a else { a with t:=wkTab a.t (opsK a (rdyN a)),d:=a.d++[rdyN a] }
def wkN (a:AgT):Int:=if rdyN a<0 then 6 else 0
def wkA (n:Int)(a:AgT):List Mg:=if rdyN a<0 then [] else [yesM n (rdyN a)]
def ag0 (t:List Ru):AgT:=⟨t,[],List.replicate 20 (-1),[]⟩
theorem hr_zero {n:Int}{m:Mg}:hrN n m=0↔mgN m=0∧m.s=n∧m.k≠3:=by
 unfold hrN;have:=mg_bd m;constructor
 ·intro h;by_cases h1:mgN m=0
  ·rw[if_pos h1] at h;by_cases h2:m.s=n
   ·rw[if_pos h2] at h;by_cases h3:m.k=3
    ·rw[if_pos h3] at h;omega
    exact⟨h1,h2,h3⟩
   rw[if_neg h2] at h;omega
  rw[if_neg h1] at h;exact absurd h h1
 rintro⟨h1,h2,h3⟩;rw[if_pos h1,if_pos h2,if_neg h3]
theorem hasK_iff {l:List Kp}{r i:Int}:hasK l r i=true↔∃k∈l,k.r=r∧k.i=i:=by
 simp[hasK,kpB,List.any_eq_true]
theorem hr_else {n:Int}{a:AgT}{m:Mg}(h:hrN n m≠0):hrS n a m=a∧hrA n a m=[]:=by
 constructor
 ·rw[hrS,if_neg (fun e=>h e.1)]
 rw[hrA,if_neg (fun e=>h e.1)]
theorem many_set {a:AgT}{r i:Int}(h0:0≤r)(h1:r<a.m.length):(a.m.set r.toNat i).getD r.toNat (-1)=i:=by
 rw[List.getD_eq_getElem?_getD,List.getElem?_set_self (by omega)];rfl
structure DrT where
 L:List (List Op8)
 W:Int
 s:Nat
 l:List Int
 k:Nat
def opF (o:Op8):Int:=if 1≤o.w∧o.w≤6 then o.r.n else 1
def osF:List Op8→Int
 | []=>0
 | o :: t=>if opF o=0 then osF t else opF o
def rdF:List (List Op8)→Int
 | []=>0
 | r :: t=>if osF r=0 then rdF t else osF r
def fewB (L:List (List Op8)):Bool:=L.all fun r=>decide (r.length≤200)
def rsF (L:List (List Op8))(W:Int):Int:=if 1≤W∧W≤100 then (if L.length≤20∧fewB L=true then rdF L else 4) else 1
def sdM (i s:Int):Nat→List Op8→List Mg
 | _,[]=>[]
 | n,o :: t=>if o.w=s then ⟨1,s,i,(n:Int),o⟩ :: sdM i s (n+1) t else sdM i s n t
def cntW (r:List Op8)(s:Int):Nat:=r.countP fun o=>o.w==s
def saM (i s:Int)(n:Nat):Mg:=⟨2,s,i,(n:Int),zeP⟩
def sayS (r:List Op8)(i s:Int):List Mg:=sdM i s 0 r++[saM i s (cntW r s)]
def sayL (r:List Op8)(i:Int)(l:List Int):List Mg:=l.flatMap (sayS r i)
def saD (D:DrT):List Mg:=sayL (D.L.getD (D.s-1) []) ((D.s:Int)-1) D.l
def mayD (D:DrT):Bool:=D.l.isEmpty&&decide (D.s<D.L.length)
def nxN (D:DrT):Int:=if mayD D then 0 else 6
def nxS (D:DrT):DrT:=if mayD D then { D with s:=D.s+1,l:=tcL (D.L.getD D.s []),k:=0 } else D
def nxA (D:DrT):List Mg:=if mayD D then saD (nxS D) else []
def inD (D:DrT)(x:Int):Bool:=D.l.any fun y=>y==x
def dhN (D:DrT)(m:Mg):Int:=if mgN m=0∧m.k=3 then (if m.r=(D.s:Int)-1∧inD D m.s=true then 0 else 6) else 3
def dhS (D:DrT)(m:Mg):DrT:=if dhN D m=0 then { D with l:=wtI D.l [m.s] } else D
def tkS (D:DrT):DrT:=if D.l.isEmpty then D else { D with k:=D.k+1 }
def tkA (D:DrT):List Mg:=if D.l.isEmpty then [] else if ((D.k+1:Nat):Int) % D.W=0 then saD D else []
def doneD (D:DrT):Bool:=D.l.isEmpty&&(D.s==D.L.length)
def dr0 (L:List (List Op8))(W:Int):DrT:=⟨L,W,0,[],0⟩
theorem do_snoc (i s:Int):∀(r:List Op8) (n:Nat) (o:Op8),sdM i s n (r++[o])=sdM i s n r++(if o.w=s then [⟨1,s,i,((n+cntW r s:Nat):Int),o⟩] else [])
 | [],n,o=>by simp only[List.nil_append,sdM,cntW,List.countP_nil,Nat.add_zero]
 | x :: r,n,o=>by
   simp only[List.cons_append,sdM];by_cases hx:x.w=s
   ·rw[if_pos hx,if_pos hx,do_snoc i s r];have e:cntW (x :: r) s=cntW r s+1:=by simp[cntW,hx]
    rw[e,show n+1+cntW r s=n+(cntW r s+1) by omega];rfl
   rw[if_neg hx,if_neg hx,do_snoc i s r];have e:cntW (x :: r) s=cntW r s:=by simp[cntW,hx]
   rw[e]
theorem do_next {r:List Op8}{k:Nat}(i s:Int)(hk:k<r.length):sdM i s 0 (r.take (k+1))=sdM i s 0 (r.take k)++(if r[k].w=s then [⟨1,s,i,(cntW (r.take k) s:Int),r[k]⟩] else []):=by
 rw[List.take_succ_eq_append_getElem hk,do_snoc,Nat.zero_add]
theorem cw_le (r:List Op8)(s:Int):cntW r s≤r.length:=List.countP_le_length
theorem do_len (i s:Int):∀(r:List Op8) (n:Nat),(sdM i s n r).length=cntW r s
 | [],n=>rfl
 | x :: r,n=>by
   unfold sdM;by_cases hx:x.w=s
   ·rw[if_pos hx,List.length_cons,do_len i s r];simp[cntW,hx]
   rw[if_neg hx,do_len i s r];simp[cntW,hx]
theorem say_next {l:List Int}{k:Nat}(r:List Op8)(i:Int)(hk:k<l.length):sayL r i (l.take (k+1))=sayL r i (l.take k)++sayS r i l[k]:=by
 rw[List.take_succ_eq_append_getElem hk,sayL,sayL,List.flatMap_append];simp
theorem say_cons (r:List Op8)(i x:Int)(l:List Int):sayL r i (x :: l)=sayS r i x++sayL r i l:=by simp[sayL]
theorem say_len (r:List Op8)(i:Int):∀l:List Int,(sayL r i l).length≤l.length*(r.length+1)
 | []=>by simp[sayL]
 | x :: l=>by
   have h:=say_len r i l;have h2:=cw_le r x;rw[say_cons,List.length_append,sayS,List.length_append,do_len,List.length_singleton,List.length_cons,Nat.succ_mul];omega
theorem do_kind (i s:Int):∀(r:List Op8) (n:Nat),∀m∈sdM i s n r,m.k=1∧m.r=i∧m.s=s
 | [],n,m,h=>by simp[sdM] at h
 | x :: r,n,m,h=>by
   unfold sdM at h
   split at h
   ·rcases List.mem_cons.1 h with rfl | h
    ·exact⟨rfl,rfl,rfl⟩
    exact do_kind i s r _ m h
   exact do_kind i s r _ m h
theorem say_kind (r:List Op8)(i:Int)(l:List Int):∀m∈sayL r i l,(m.k=1∨m.k=2)∧m.r=i:=by
 intro m h;obtain⟨s,_,h⟩:=List.mem_flatMap.1 h
 rcases List.mem_append.1 h with h | h
 ·have:=do_kind i s r 0 m h;exact⟨.inl this.1,this.2.1⟩
 rw[List.mem_singleton] at h;subst h;exact⟨.inr rfl,rfl⟩
theorem ris_nodup {l:List Int}(h:Ris ltI l):l.Nodup:=by
 refine List.Pairwise.imp ?_ h;intro a b hab;have:a<b:=by simpa[ltI] using hab
 omega
theorem tc_rise (r:List Op8):Ris ltI (tcL r):=tc_ris r [] List.Pairwise.nil
theorem tc_in {r:List Op8}{s:Int}:s∈tcL r↔∃o∈r,o.w=s:=by rw[tcL,tc_mem];simp
theorem ris_few:∀(l:List Int) (a:Int),Ris ltI l→(∀x∈l,a≤x∧x≤6)→(l.length:Int)≤max 0 (7-a)
 | [],a,_,_=>by simp;omega
 | x :: l,a,h,hx=>by
   obtain⟨h1,h2⟩:=List.pairwise_cons.1 h;have h3:=hx x (by simp);have:=ris_few l (x+1) h2 (fun y hy=>by
    have h4:=h1 y hy;have:x<y:=by simpa[ltI] using h4
    have:=hx y (by simp[hy]);omega)
   simp only[List.length_cons];omega
structure DrOK (D:DrT)(n:Nat):Prop where
 w:1≤D.W∧D.W≤100
 L:D.L.length≤20
 r:∀r∈D.L,r.length≤200
 o:∀r∈D.L,∀o∈r,(1≤o.w∧o.w≤6)∧o.r.n=0
 s:D.s≤D.L.length
 p:D.s=0→D.l=[]
 l:Ris ltI D.l
 x:∀x∈D.l,1≤x∧x≤6
 k:D.k≤n
theorem os_zero:∀{r:List Op8},osF r=0→∀o∈r,(1≤o.w∧o.w≤6)∧o.r.n=0
 | [],_,o,h=>by simp at h
 | x :: r,h,o,ho=>by
   unfold osF at h
   split at h
   ·next h1 =>
    rcases List.mem_cons.1 ho with rfl | ho
    ·unfold opF at h1
     split at h1
     ·next h2=>exact⟨h2,h1⟩
     omega
    exact os_zero h o ho
   next h1=>exact absurd h h1
theorem rd_zero:∀{L:List (List Op8)},rdF L=0→∀r∈L,osF r=0
 | [],_,r,h=>by simp at h
 | x :: L,h,r,hr=>by
   unfold rdF at h
   split at h
   ·next h1 =>
    rcases List.mem_cons.1 hr with rfl | hr
    ·exact h1
    exact rd_zero h r hr
   next h1=>exact absurd h h1
theorem dk_new {L:List (List Op8)}{W:Int}(h:rsF L W=0):DrOK (dr0 L W) 0:=by
 unfold rsF at h
 split at h
 ·next h1 =>
  split at h
  ·next h2 =>
   refine⟨h1,h2.1,fun r hr=>?_,fun r hr=>os_zero (rd_zero h r hr),Nat.zero_le _,fun _=>rfl,List.Pairwise.nil,fun x hx=>by simp[dr0] at hx,nLQ _⟩;have:=List.all_eq_true.1 h2.2 r hr;simpa using this
  cases h
 cases h
theorem DrOK.mono {D:DrT}{n m:Nat}(h:DrOK D n)(hn:n≤m):DrOK D m:=⟨h.w,h.L,h.r,h.o,h.s,h.p,h.l,h.x,Nat.le_trans h.k hn⟩
theorem DrOK.six {D:DrT}{n:Nat}(h:DrOK D n):D.l.length≤6:=by
 have:=ris_few D.l 1 h.l h.x;omega
theorem may_iff {D:DrT}:mayD D=true↔D.l=[]∧D.s<D.L.length:=by
 simp[mayD]
theorem getd_at {D:DrT}(h:D.s<D.L.length):D.L.getD D.s []=D.L[D.s]:=by simp[List.getD,h]
theorem getd_mem {L:List (List Op8)}{i:Nat}:L.getD i []=[]∨L.getD i []∈L:=by
 by_cases h:i<L.length
 ·exact .inr (by simp[List.getD,h])
 exact .inl (by simp[List.getD,h])
theorem dk_nx {D:DrT}{n:Nat}(h:DrOK D n):DrOK (nxS D) (n+1):=by
 unfold nxS
 split
 ·next hm =>
  have hm:=may_iff.1 hm;refine⟨h.w,h.L,h.r,h.o,hm.2,fun e=>by simp at e,tc_rise _,fun x hx=>?_,Nat.zero_le _⟩;have hx2:x∈tcL (D.L.getD D.s []):=hx;rw[getd_at hm.2] at hx2;obtain⟨o,ho,rfl⟩:=tc_in.1 hx2;exact (h.o _ (List.getElem_mem _) o ho).1
 exact h.mono (Nat.le_succ n)
theorem dk_tk {D:DrT}{n:Nat}(h:DrOK D n):DrOK (tkS D) (n+1):=by
 unfold tkS
 split
 ·exact h.mono (Nat.le_succ n)
 exact⟨h.w,h.L,h.r,h.o,h.s,h.p,h.l,h.x,Nat.succ_le_succ h.k⟩
theorem hr_first {D:DrT}{n:Nat}{x:Int}{l:List Int}(h:DrOK D n)(hs:0<D.s)(hl:D.l=x :: l):
 dhN D (yesM x ((D.s:Int)-1))=0∧dhS D (yesM x ((D.s:Int)-1))={ D with l:=l }∧dhN { D with l:=l } (yesM x ((D.s:Int)-1))=6∧nxN D=6:=by
 have hx:=h.x x (by rw[hl];simp);have hr:(D.s:Int)-1≤19:=by
  have:=h.s;have:=h.L;omega
 have hm:mgN (yesM x ((D.s:Int)-1))=0:=by
  have h1:mgR (yesM x ((D.s:Int)-1))=true:=mg_rng.2 ⟨⟨by show (1:Int)≤3;omega,by show (3:Int)≤3;omega⟩,hx,⟨by show 0≤(D.s:Int)-1;omega,hr⟩,⟨by show (0:Int)≤0;omega,by show (0:Int)≤200;omega⟩⟩;rw[mgN,if_pos h1];rfl
 have hin:inD D x=true:=by simp[inD,hl]
 have hno:x ∉ l:=by
  have h1:=ris_nodup h.l;rw[hl] at h1;exact (List.nodup_cons.1 h1).1
 have e0:dhN D (yesM x ((D.s:Int)-1))=0:=by rw[dhN,if_pos ⟨hm,rfl⟩,if_pos ⟨rfl,hin⟩]
 refine⟨e0,?_,?_,?_⟩
 ·rw[dhS,if_pos e0];have:wtI D.l [x]=l:=by
   rw[hl,wtI,List.filter_cons];have h1:(!([x]:List Int).any fun y=>y==x)=false:=by simp
   rw[h1];simp only[Bool.false_eq_true,if_false];refine List.filter_eq_self.2 fun y hy=>?_
   have:x≠y:=fun e=>hno (by rw[e];exact hy)
   simp[this]
  show ({ D with l:=wtI D.l [x] }:DrT)=_;rw[this]
 ·rw[dhN,if_pos ⟨hm,rfl⟩,if_neg];rintro⟨_,h2⟩;obtain⟨y,hy,e⟩:=List.any_eq_true.1 h2;have:y=x:=by simpa[yesM] using e
  exact hno (by rw[←this];exact hy)
 rw[nxN,if_neg];intro hm;have:=(may_iff.1 hm).1;rw[hl] at this;cases this
def HC (w:World)(B:Nat)(S S':Int)(a1 a2 b1 b2:Value)(g o:Nat)(x0:ByteArray)(x1 x2:Int)(g' o':Nat)(y0:ByteArray)(y1 y2:Int)(w':World):Prop:=
 Below w.heap.size w w'∧TBox w' B S a1 a2∧TBox w' (B+1) S' b1 b2∧(w'.cell? ⟨g,o,none⟩=some (.string x0)∧w'.cell? ⟨g,o+1,none⟩=some (.int i64 x1)∧w'.cell? ⟨g,o+2,none⟩=some (.int i64 x2)) ∧
  w'.cell? ⟨g',o',none⟩=some (.string y0)∧w'.cell? ⟨g',o'+1,none⟩=some (.int i64 y1)∧w'.cell? ⟨g',o'+2,none⟩=some (.int i64 y2)
theorem HC.later {w W W':World}{B:Nat}{S S':Int}{a1 a2 b1 b2:Value}{g o:Nat}{x0:ByteArray}{x1 x2:Int}{g' o':Nat}{y0:ByteArray}{y1 y2:Int}(hb:Below W.heap.size W W')(h:HC w B S S' a1 a2 b1 b2 g o x0 x1 x2 g' o' y0 y1 y2 W):HC w B S S' a1 a2 b1 b2 g o x0 x1 x2 g' o' y0 y1 y2 W':=by
 obtain⟨h0,t1,t2,⟨h1,h2,h3⟩,k1,k2,k3⟩:=h;exact⟨h0.trans (hb.mono h0.size),t1.later hb,t2.later hb,⟨cell_later hb h1,cell_later hb h2,cell_later hb h3⟩,cell_later hb k1,cell_later hb k2,cell_later hb k3⟩
end
end Go.Proofs.YtpgjkmefomldfaaGreat
