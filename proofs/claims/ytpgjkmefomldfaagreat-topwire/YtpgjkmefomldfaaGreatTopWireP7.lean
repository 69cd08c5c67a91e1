/- Contracts and facts on the way to TopWire, joined into one text: TableDo2, TableBey, TableOps, TableDiff2, RuleTwo, TableSame, SmNet, ClassMem, ChangeMem, ChangeBox, AgentWorkMath, TopWireMath, WireMath2, TopWireMath2, TopWireMath3, ChangeOps, PlanMem, StMsg, AgentKb, DrivePgI, AgentPgI. -/
import Derived.Test.YtpgjkmefomldfaaGreatTopWireP6
namespace Go.Proofs.YtpgjkmefomldfaaGreat
set_option linter.unusedSimpArgs false
set_option linter.unusedVariables false
set_option maxHeartbeats 16000000
set_option maxRecDepth 100000
open Go.Proofs.Tryz
open IntKind (i64)
section
open Go.RowKit
theorem do_tb {L:List Ru}{a:Bool}{r:Ru}(h:tbN L≠0):doN L a r=tbN L∧doL L a r=[]:=by
 have e:doN L a r=tbN L:=by simp[doN,h]
 exact⟨e,by rw[doL,e,if_neg h]⟩
theorem do_ru {L:List Ru}{a:Bool}{r:Ru}(h:tbN L=0)(h2:r.n≠0):doN L a r=r.n∧doL L a r=[]:=by
 have e:doN L a r=r.n:=by simp[doN,h,h2]
 exact⟨e,by rw[doL,e,if_neg h2]⟩
theorem do_ch {L:List Ru}{a:Bool}{r:Ru}(h:tbN L=0)(h2:r.n=0):doN L a r=chN L a r∧doL L a r=chL L a r:=by
 have e:doN L a r=chN L a r:=by simp[doN,h,h2]
 refine⟨e,?_⟩;by_cases h3:chN L a r=0
 ·rw[doL,e,if_pos h3]
 rw[doL,e,if_neg h3,chL_ne h3]
theorem do_own (ao:AdQ)(n cap:Nat)(a:Bool)(p m b o s v:Int)(L:List Ru)(w:World)(hs:SR w (.slice ao n cap) L):
 Calls prog 22 #[.slice ao n cap,.bool a,.agg #[.int i64 p,.int i64 m,.int i64 b,.int i64 o,.int i64 s,.int i64 v]] w fun e w'=>∃u,e=.returned (.tuple #[u,noV (doN L a ⟨p,m,b,o,s,v⟩)])∧NR w' w.heap.size u (doL L a ⟨p,m,b,o,s,v⟩)∧Below w.heap.size w w':=by
 have hB0:Below w.heap.size w (w.alloc (.cells #[.int i64 p,.int i64 m,.int i64 b,.int i64 o,.int i64 s,.int i64 v] 47)):=(bRQ _ _).alloc (nLQ _) _;have HC0:=C6.new w p m b o s v 47;have HS0:Hid (SR (w.alloc (.cells #[.int i64 p,.int i64 m,.int i64 b,.int i64 o,.int i64 s,.int i64 v] 47)) (.slice ao n cap) L):=hs.later hB0;have HB0:Hid (Below w.heap.size w (w.alloc (.cells #[.int i64 p,.int i64 m,.int i64 b,.int i64 o,.int i64 s,.int i64 v] 47))):=hB0;have HLN:Hid (L.length=n):=hs.len;clear hs hB0;by_cases h1:tbN L=0
 ·have HT:Hid (tbN L=0):=h1;by_cases h2:(⟨p,m,b,o,s,v⟩:Ru).n=0
  ·have HR:Hid (ruN p m b o s v=0):=h2;have HN1:Hid (n≤1000):=by
    have:=(tb_iff.1 h1).1;have:=HLN.out;show n≤1000;omega
   rw[(do_ch h1 h2).1,(do_ch h1 h2).2];clear h1 h2;cases a
   ·go_enter func22,ntmps22
    go_wp2_with fail
    refine (table_any _ L _ HS0.out).mono ?_;rintro e w1 ⟨rfl,hb1⟩;rw[no_ok HT.out];have HB1:Hid (Below w.heap.size w w1):=HB0.out.trans (hb1.mono HB0.out.size);have HS1:Hid (SR w1 (.slice ao n cap) L):=HS0.out.later hb1;have HC1:Hid (C6 w1 w.heap.size 0 ⟨p,m,b,o,s,v⟩):=HC0.later hb1;obtain⟨c0,c1,c2,c3,c4,c5⟩:=HC0.later hb1;simp only[Nat.zero_add] at c0 c1 c2 c3 c4 c5;have hlt:w.heap.size<w1.heap.size:=bLQ _ _ c0;clear hb1
    go_wp2_with fail
    refine (ruCheck_any _ _ _ _ _ _ _).mono ?_;rintro e w2 ⟨rfl,hb2⟩;rw[no_ok HR.out];have HB2:Hid (Below w.heap.size w w2):=HB1.out.trans (hb2.mono HB1.out.size);have HS2:Hid (SR w2 (.slice ao n cap) L):=HS1.out.later hb2;obtain⟨d0,d1,d2,d3,d4,d5⟩:=HC1.out.later hb2;simp only[Nat.zero_add] at d0 d1 d2 d3 d4 d5;have hlt2:w.heap.size<w2.heap.size:=bLQ _ _ d0;clear hb2 c0 c1 c2 c3 c4 c5
    go_wp2_with fail
    refine (without_any ao n cap p m b o s v L _ HS2.out HN1.out).mono ?_;rintro e w3 ⟨u,rfl,hsr,hb3⟩;have HB3:Hid (Below w.heap.size w w3):=HB2.out.trans (hb3.mono HB2.out.size);have HO:Hid (NR w3 w.heap.size u (chL L false ⟨p,m,b,o,s,v⟩)):=hsr.mono HB2.out.size;clear hb3 hsr d0 d1 d2 d3 d4 d5
    generalize hE:noV (chN L false ⟨p,m,b,o,s,v⟩)=E
    have HE:Hid (noV (chN L false ⟨p,m,b,o,s,v⟩)=E):=hE;clear hE;go_wp2;refine bodyPost_ret (v:=.tuple #[u,E]) (by simp[results,results22,go_sem]) rfl ⟨_,by rw[HE.out],HO.out,HB3.out⟩
   go_enter func22,ntmps22
   go_wp2_with fail
   refine (table_any _ L _ HS0.out).mono ?_;rintro e w1 ⟨rfl,hb1⟩;rw[no_ok HT.out];have HB1:Hid (Below w.heap.size w w1):=HB0.out.trans (hb1.mono HB0.out.size);have HS1:Hid (SR w1 (.slice ao n cap) L):=HS0.out.later hb1;have HC1:Hid (C6 w1 w.heap.size 0 ⟨p,m,b,o,s,v⟩):=HC0.later hb1;obtain⟨c0,c1,c2,c3,c4,c5⟩:=HC0.later hb1;simp only[Nat.zero_add] at c0 c1 c2 c3 c4 c5;have hlt:w.heap.size<w1.heap.size:=bLQ _ _ c0;clear hb1
   go_wp2_with fail
   refine (ruCheck_any _ _ _ _ _ _ _).mono ?_;rintro e w2 ⟨rfl,hb2⟩;rw[no_ok HR.out];have HB2:Hid (Below w.heap.size w w2):=HB1.out.trans (hb2.mono HB1.out.size);have HS2:Hid (SR w2 (.slice ao n cap) L):=HS1.out.later hb2;obtain⟨d0,d1,d2,d3,d4,d5⟩:=HC1.out.later hb2;simp only[Nat.zero_add] at d0 d1 d2 d3 d4 d5;have hlt2:w.heap.size<w2.heap.size:=bLQ _ _ d0;clear hb2 c0 c1 c2 c3 c4 c5
   go_wp2_with fail
   refine (with_any ao n cap p m b o s v L _ HS2.out).mono ?_;rintro e w3 ⟨u,rfl,hsr,hb3⟩;have HB3:Hid (Below w.heap.size w w3):=HB2.out.trans (hb3.mono HB2.out.size);have HO:Hid (NR w3 w.heap.size u (chL L true ⟨p,m,b,o,s,v⟩)):=hsr.mono HB2.out.size;clear hb3 hsr d0 d1 d2 d3 d4 d5
   generalize hE:noV (chN L true ⟨p,m,b,o,s,v⟩)=E
   have HE:Hid (noV (chN L true ⟨p,m,b,o,s,v⟩)=E):=hE;clear hE;go_wp2;refine bodyPost_ret (v:=.tuple #[u,E]) (by simp[results,results22,go_sem]) rfl ⟨_,by rw[HE.out],HO.out,HB3.out⟩
  have HR:Hid (ruN p m b o s v≠0):=h2;rw[(do_ru h1 h2).1,(do_ru h1 h2).2];have HRV:Hid (noV (Ru.n ⟨p,m,b,o,s,v⟩)=.iface 81 (.int i64 (ruN p m b o s v))):=no_ne h2;clear h1 h2;go_enter func22,ntmps22
  go_wp2_with fail
  refine (table_any _ L _ HS0.out).mono ?_;rintro e w1 ⟨rfl,hb1⟩;rw[no_ok HT.out];have HB1:Hid (Below w.heap.size w w1):=HB0.out.trans (hb1.mono HB0.out.size);obtain⟨c0,c1,c2,c3,c4,c5⟩:=HC0.later hb1;simp only[Nat.zero_add] at c0 c1 c2 c3 c4 c5;have hlt:w.heap.size<w1.heap.size:=bLQ _ _ c0;clear hb1
  go_wp2_with fail
  refine (ruCheck_any _ _ _ _ _ _ _).mono ?_;rintro e w2 ⟨rfl,hb2⟩;rw[no_ne HR.out];have HB2:Hid (Below w.heap.size w w2):=HB1.out.trans (hb2.mono HB1.out.size);clear hb2 c0 c1 c2 c3 c4 c5;go_wp2;refine bodyPost_ret (v:=.tuple #[.slice none 0 0,.iface 81 (.int i64 (ruN p m b o s v))]) (by simp[results,results22,go_sem]) rfl ⟨_,by rw[HRV.out],NR.nil _ _,HB2.out⟩
 have HT:Hid (tbN L≠0):=h1;rw[(do_tb h1).1,(do_tb h1).2,no_ne h1];clear h1;go_enter func22,ntmps22
 go_wp2_with fail
 refine (table_any _ L _ HS0.out).mono ?_;rintro e w1 ⟨rfl,hb1⟩;rw[no_ne HT.out];have HB1:Hid (Below w.heap.size w w1):=HB0.out.trans (hb1.mono HB0.out.size);clear hb1;go_wp2;refine bodyPost_ret (v:=.tuple #[.slice none 0 0,.iface 81 (.int i64 (tbN L))]) (by simp[results,results22,go_sem]) rfl ⟨_,rfl,NR.nil _ _,HB1.out⟩
theorem run_clear_of (w w':World)(t e ty:TypeId)(ht:Tryz.prog.underlying t=some (.slice e))(b o n c:Nat)(hn:0<n)(z:Value)(hv:∀w,(zeroValue e).run prog w=.ok z w)(Z:List Value)
 (hZ:(Builtin.zeroCells z.cells n).toList=Z) (hst:(storeCells ⟨b,o,none⟩ Z 0).run prog w=.ok () w'):(Builtin.clear_ #[t] ty #[.slice (some ⟨b,o,none⟩) n c]).run prog w=.ok (.tuple #[]) w':=by
 obtain⟨m,rfl⟩:∃m,n=m+1:=⟨n-1,by omega⟩;simp[Builtin.clear_,run_underlying ht,hv,hZ,hst]
theorem own_apart {w:World}{b1 e1 s1 n1 b2 e2 s2 n2:Nat}{v1 v2:Value}{x1 x2:List Value}(h1:w.ownsRow b1 e1 s1 v1 n1 x1)(h2:w.ownsRow b2 e2 s2 v2 n2 x2)(he:e1≠e2):v1.ownBlock=none∨v1.ownBlock≠v2.ownBlock:=by
 rcases h1.2 with ⟨rfl,_⟩ | ⟨g,cap,cur,rfl,_,hg,_⟩
 ·exact .inl rfl
 refine .inr ?_
 rcases h2.2 with ⟨rfl,_⟩ | ⟨g2,cap2,cur2,rfl,_,hg2,_⟩
 ·exact fun h=>by cases h
 intro h;simp only[Value.ownBlock,Option.some.injEq] at h;subst h;rw[hg] at hg2;simp only[Option.some.injEq,Obj.cells.injEq] at hg2;exact he hg2.2.1
theorem pat1 {W:World}{a1:AdQ}{n1 c1:Nat}{L1:List Ru}(t:TypeId)(h1:SR W (.slice a1 n1 c1) L1):
 PAt (W.alloc (.cells #[.slice a1 n1 c1] t)) W.heap.size 0 [L1]:=by
 have hb:Below W.heap.size W (W.alloc (.cells #[.slice a1 n1 c1] t)):=(bRQ _ _).alloc (nLQ _) _;intro i hi
 match i,hi with
 | 0,_=>exact⟨a1,n1,c1,by simp,h1.later hb⟩
structure C8 (w:World)(g o:Nat)(x:Op8):Prop where
 c0:w.cell? ⟨g,o,none⟩=some (.int i64 x.w)
 c1:w.cell? ⟨g,o+1,none⟩=some (.bool x.a)
 c2:w.cell? ⟨g,o+2,none⟩=some (.int i64 x.r.p)
 c3:w.cell? ⟨g,o+3,none⟩=some (.int i64 x.r.m)
 c4:w.cell? ⟨g,o+4,none⟩=some (.int i64 x.r.b)
 c5:w.cell? ⟨g,o+5,none⟩=some (.int i64 x.r.o)
 c6:w.cell? ⟨g,o+6,none⟩=some (.int i64 x.r.s)
 c7:w.cell? ⟨g,o+7,none⟩=some (.int i64 x.r.v)
theorem C8.later {w w':World}{g o:Nat}{x:Op8}(h:C8 w g o x)(hb:Below w.heap.size w w'):C8 w' g o x:=
 ⟨cell_later hb h.c0,cell_later hb h.c1,cell_later hb h.c2,cell_later hb h.c3,cell_later hb h.c4,cell_later hb h.c5,cell_later hb h.c6,cell_later hb h.c7⟩
theorem C8.new (w:World)(y:Int)(a:Bool)(p m b o s v:Int)(t:TypeId):C8 (w.alloc (.cells #[.int i64 y,Value.bool a,.int i64 p,.int i64 m,.int i64 b,.int i64 o,.int i64 s,.int i64 v] t)) w.heap.size 0 ⟨y,a,⟨p,m,b,o,s,v⟩⟩:=by
 refine⟨?_,?_,?_,?_,?_,?_,?_,?_⟩ <;> simp
def OAt (w:World)(g o:Nat)(L:List Op8):Prop:=∀i (h:i<L.length),C8 w g (o+i*8) L[i]
theorem OAt.later {w w':World}{g o:Nat}{L:List Op8}(h:OAt w g o L)(hb:Below w.heap.size w w'):OAt w' g o L:=fun i hi=>(h i hi).later hb
def SO (w:World)(v:Value)(L:List Op8):Prop:=
 (∃ao cap,v=.slice ao 0 cap∧L=[])∨∃g o cap,v=.slice (some ⟨g,o,none⟩) L.length cap∧L.length≤cap∧cap≤maxLen∧OAt w g o L
theorem SO.later {w w':World}{v:Value}{L:List Op8}(h:SO w v L)(hb:Below w.heap.size w w'):SO w' v L:=by
 rcases h with h | ⟨g,o,cap,h1,h2,h3,h4⟩
 ·exact .inl h
 exact .inr ⟨g,o,cap,h1,h2,h3,h4.later hb⟩
theorem SO.form {w:World}{v:Value}{L:List Op8}(h:SO w v L):∃ao n cap,v=.slice ao n cap∧L.length=n∧n≤maxLen∧n≤cap∧(0<n→∃g o,ao=some ⟨g,o,none⟩∧OAt w g o L∧cap≤maxLen):=by
 rcases h with ⟨ao,cap,rfl,rfl⟩ | ⟨g,o,cap,rfl,h1,h2,h3⟩
 ·exact⟨ao,0,cap,rfl,rfl,Nat.zero_le _,Nat.zero_le _,fun h=>absurd h (by omega)⟩
 exact⟨_,_,cap,rfl,rfl,Nat.le_trans h1 h2,h1,fun _=>⟨g,o,rfl,h3,h2⟩⟩
theorem SO.nil (w:World):SO w (.slice none 0 0) []:=.inl ⟨none,0,rfl,rfl⟩
theorem OAt.at {w:World}{g o:Nat}{L:List Op8}(h:OAt w g o L){n k:Nat}(hn:L.length=n)(hk:k<n):
 ∃ (y:Int) (a:Bool) (p m b q s v:Int) (hl:k<L.length),L[k]=⟨y,a,⟨p,m,b,q,s,v⟩⟩∧(w.cell? ⟨g,o+k*8,none⟩=some (.int i64 y)∧w.cell? ⟨g,o+k*8+1,none⟩=some (.bool a)∧w.cell? ⟨g,o+k*8+2,none⟩=some (.int i64 p)∧w.cell? ⟨g,o+k*8+3,none⟩=some (.int i64 m)∧w.cell? ⟨g,o+k*8+4,none⟩=some (.int i64 b) ∧
   w.cell? ⟨g,o+k*8+5,none⟩=some (.int i64 q)∧w.cell? ⟨g,o+k*8+6,none⟩=some (.int i64 s)∧w.cell? ⟨g,o+k*8+7,none⟩=some (.int i64 v)):=
 have hl:k<L.length:=by omega
 have c:=h k hl
 ⟨_,_,_,_,_,_,_,_,hl,rfl,c.c0,c.c1,c.c2,c.c3,c.c4,c.c5,c.c6,c.c7⟩
def cellsO (L:List Op8):List Value:=L.flatMap fun x=>[.int i64 x.w,.bool x.a,.int i64 x.r.p,.int i64 x.r.m,.int i64 x.r.b,.int i64 x.r.o,.int i64 x.r.s,.int i64 x.r.v]
theorem cellsO_app (L M:List Op8):cellsO (L++M)=cellsO L++cellsO M:=by simp[cellsO]
theorem cellsO_at (L:List Op8)(i:Nat)(h:i<L.length):(cellsO L)[i*8]?=some (.int i64 (L[i]).w)∧(cellsO L)[i*8+1]?=some (.bool (L[i]).a)∧(cellsO L)[i*8+2]?=some (.int i64 (L[i]).r.p)∧(cellsO L)[i*8+3]?=some (.int i64 (L[i]).r.m) ∧
 (cellsO L)[i*8+4]?=some (.int i64 (L[i]).r.b)∧(cellsO L)[i*8+5]?=some (.int i64 (L[i]).r.o)∧(cellsO L)[i*8+6]?=some (.int i64 (L[i]).r.s)∧(cellsO L)[i*8+7]?=some (.int i64 (L[i]).r.v):=by
 induction L generalizing i with
 | nil=>simp at h
 | cons p r ih =>
   cases i with
   | zero=>simp[cellsO]
   | succ i =>
     have:=ih i (by simpa using h);have e1:(i+1)*8=i*8+1+1+1+1+1+1+1+1:=by omega
     simpa[cellsO,e1] using this
theorem own_SO {w:World}{B e:Nat}{v:Value}{L:List Op8}(h:w.ownsRow B e 8 v L.length (cellsO L)):SO w v L:=by
 rcases h.2 with ⟨rfl,h0⟩ | ⟨g,cap,cur,rfl,_,_,h1,h2,_⟩
 ·exact .inl ⟨none,0,rfl,List.length_eq_zero_iff.1 h0⟩
 refine .inr ⟨g,0,cap,rfl,h1,h2,fun i hi=>?_⟩;obtain⟨a0,a1,a2,a3,a4,a5,a6,a7⟩:=cellsO_at L i hi;rw[Nat.zero_add];refine⟨?_,?_,?_,?_,?_,?_,?_,?_⟩
 ·rw[h.cellAt _ (by omega)];exact a0
 ·rw[h.cellAt _ (by omega)];exact a1
 ·rw[h.cellAt _ (by omega)];exact a2
 ·rw[h.cellAt _ (by omega)];exact a3
 ·rw[h.cellAt _ (by omega)];exact a4
 ·rw[h.cellAt _ (by omega)];exact a5
 ·rw[h.cellAt _ (by omega)];exact a6
 rw[h.cellAt _ (by omega)];exact a7
theorem infoOp:(Tryz.prog.info? 49).map (fun i=>(i.zero,i.size,i.bytes))=some (some (.agg #[.int i64 0,.bool false,.int i64 0,.int i64 0,.int i64 0,.int i64 0,.int i64 0,.int i64 0]),8,64):=by kernel_rfl
theorem eightCells:(Value.agg #[.int i64 0,.bool false,.int i64 0,.int i64 0,.int i64 0,.int i64 0,.int i64 0,.int i64 0]).cells.size=8:=by simp[Value.cells]
theorem wpList_append_op (w:World){ops:Array Oper}{rest:List Oper}{o:Oper}{a:Act}{Q:Exit→Act→World→Prop}(hgd:o.guard=none)(s x:Operand)(t:TypeId)
 (ho:o.op=.call { callee:=.builtin .append,args:=#[s,x],argTypes:=#[t,t] }) (ht:Tryz.prog.underlying t=some (.slice 49)) (base:Nat)
 (v:Value) (hs:a.eval s=v) (L:List Op8) (hown:w.ownsRow base 49 8 v L.length (cellsO L)) (B:Nat) (hx:a.eval x=.slice (some ⟨B,0,none⟩) 1 1) (y:Op8) (hM:C8 w B 0 y)
 (h100:L.length≤1000) (hbase:base≤w.heap.size)
 (h:∀v' w',w'.ownsRow base 49 8 v' (L++[y]).length (cellsO (L++[y]))→w.grownBy w' v.ownBlock→wpList prog ops Q rest (a.put o.dst v') w'):wpList prog ops Q (o :: rest) a w:=by
 obtain⟨i0,hi,hz0,hz1,hz2⟩:=info_parts infoOp;refine wpList_append_own w hgd s x t ho base 49 i0 (.agg #[.int i64 0,.bool false,.int i64 0,.int i64 0,.int i64 0,.int i64 0,.int i64 0,.int i64 0]) 8 64 ht hi hz0 hz1 hz2 eightCells (by decide) v _ _ hs hown ⟨B,0,none⟩ 1 1 (cellsO [y]) hx rfl ?_ ?_ (by unfold maxLen;omega) (by omega) hbase ?_
 ·intro j u hj;rw[addr_add,Nat.zero_add];obtain⟨c0,c1,c2,c3,c4,c5,c6,c7⟩:=hM
  match j,hj with
  | 0,hj=>simp[cellsO] at hj;subst hj;exact c0
  | 1,hj=>simp[cellsO] at hj;subst hj;exact c1
  | 2,hj=>simp[cellsO] at hj;subst hj;exact c2
  | 3,hj=>simp[cellsO] at hj;subst hj;exact c3
  | 4,hj=>simp[cellsO] at hj;subst hj;exact c4
  | 5,hj=>simp[cellsO] at hj;subst hj;exact c5
  | 6,hj=>simp[cellsO] at hj;subst hj;exact c6
  | 7,hj=>simp[cellsO] at hj;subst hj;exact c7
 ·intro u hu;simp[cellsO] at hu
  rcases hu with rfl | rfl | rfl | rfl | rfl | rfl | rfl | rfl <;> rfl
 intro v' w' h1 h2 _;refine h v' w' ?_ h2;rw[List.length_append,cellsO_app];exact h1
theorem al_step {L:List Ru}{O:List Op8}{k:Nat}(hk:k<O.length):alN L (O.drop k)=(if doN L (O[k]).a (O[k]).r=0 then alN (doL L (O[k]).a (O[k]).r) (O.drop (k+1)) else doN L (O[k]).a (O[k]).r)∧alL L (O.drop k)=(if doN L (O[k]).a (O[k]).r=0 then alL (doL L (O[k]).a (O[k]).r) (O.drop (k+1)) else []):=by
 rw[List.drop_eq_getElem_cons hk,alN,alL];exact⟨rfl,rfl⟩
theorem all_own (ao:AdQ)(n cap:Nat)(ao2:AdQ)(n2 cap2:Nat)(L:List Ru)(O:List Op8)(w:World)(hs:SR w (.slice ao n cap) L)(ht:SO w (.slice ao2 n2 cap2) O)(h1000:L.length≤1000):
 Calls prog 39 #[.slice ao n cap,.slice ao2 n2 cap2] w fun e w'=>∃u,e=.returned (.tuple #[u,noV (alN L O)])∧NR w' w.heap.size u (alL L O)∧Below w.heap.size w w':=by
 have hp:=pat1 58 hs;have hB0:Below w.heap.size w (w.alloc (.cells #[.slice ao n cap] 58)):=(bRQ _ _).alloc (nLQ _) _;have HP:Hid (PAt (w.alloc (.cells #[.slice ao n cap] 58)) w.heap.size 0 [L]):=hp;have HB0:Hid (Below w.heap.size w (w.alloc (.cells #[.slice ao n cap] 58))):=hB0;have HL2:Hid ([L].flatten.length≤1000):=by show _≤1000;simpa using h1000
 obtain⟨ao',n',cap',e,hn,hn2,hn3,ha⟩:=ht.form;cases e;have HN:Hid (O.length=n2):=hn;have HA:Hid (0<n2→∃g o,ao2=some ⟨g,o,none⟩∧OAt w g o O∧cap2≤maxLen):=ha;have hn63:n2≤9223372036854775807:=by unfold maxLen at hn2;omega
 clear hs ht hp hB0 h1000 hn ha hn2;obtain⟨N,hN⟩:∃N,N=alN L O:=⟨_,rfl⟩;obtain⟨R,hR⟩:∃R,R=alL L O:=⟨_,rfl⟩;rw[←hN,←hR];have HNN:Hid (N=alN L O):=hN;have HRR:Hid (R=alL L O):=hR;clear hN hR;go_enter func39,ntmps39
 go_wp2_with fail
 refine (concat_any _ 0 1 1 [L] _ rfl (by omega) HP.out HL2.out).mono ?_;rintro e w1 ⟨u,rfl,hown,hb1⟩;have hsr:=own_SR hown;obtain⟨ao3,n3,cap3,rfl,_⟩:=hsr.form;have HS1:Hid (NR w1 w.heap.size (.slice ao3 n3 cap3) L):=by
  have e1:[L].flatten=L:=by simp
  rw[e1] at hown;exact NR.mono hown HB0.out.size
 have HB1:Hid (Below w.heap.size w w1):=HB0.out.trans (hb1.mono HB0.out.size);clear hown hb1 hsr HP HL2;go_wp2
 go_loopw [6,16] (fun u i wr=>∃k:Nat,k≤n2∧i=.int i64 k∧(∃a4 n4 c4 K,u=.slice a4 n4 c4∧NR wr w.heap.size (.slice a4 n4 c4) K∧N=alN K (O.drop k)∧R=alL K (O.drop k))∧Below w.heap.size w wr) (fun _ i _=>n2-(intOf i).toNat)
 case atStart=>exact⟨0,by omega,rfl,⟨_,_,_,L,rfl,HS1.out,by rw[HNN.out];rfl,by rw[HRR.out];rfl⟩,HB1.out⟩
 case round =>
  obtain⟨k,hk,rfl,⟨a4,n4,c4,K,rfl,hsr,hN,hR⟩,hB⟩:=hrel;have HS:Hid (NR wr w.heap.size (.slice a4 n4 c4) K):=hsr;have HB:Hid (Below w.heap.size w wr):=hB;have HN4:Hid (N=alN K (O.drop k)):=hN;have HR4:Hid (R=alL K (O.drop k)):=hR;clear HS1 HB1 hsr hN hR;by_cases hlt:k<n2
  ·obtain⟨g,og,hao,hOA,_⟩:=HA.out (by omega);subst hao;obtain⟨y,a,p,m,b,q,s,v,hkl,hOk,q0,q1,q2,q3,q4,q5,q6,q7⟩:=(hOA.later hB).at HN.out hlt;have hBA:Below wr.heap.size wr (wr.alloc (.cells #[.int i64 y,Value.bool a,.int i64 p,.int i64 m,.int i64 b,.int i64 q,.int i64 s,.int i64 v] 49)):=(bRQ _ _).alloc (nLQ _) _;have HSA:Hid (SR (wr.alloc (.cells #[.int i64 y,Value.bool a,.int i64 p,.int i64 m,.int i64 b,.int i64 q,.int i64 s,.int i64 v] 49)) (.slice a4 n4 c4) K):=HS.out.sr.later hBA;have HBA:Hid (Below w.heap.size w (wr.alloc (.cells #[.int i64 y,Value.bool a,.int i64 p,.int i64 m,.int i64 b,.int i64 q,.int i64 s,.int i64 v] 49))):=hB.trans (hBA.mono hB.size);have hst:=al_step (L:=K) hkl;rw[hOk] at hst;simp only at hst;have HA2:Hid (0<n2→∃g' o',some (⟨g,og,none⟩:Addr)=some ⟨g',o',none⟩∧OAt w g' o' O∧cap2≤maxLen):=HA.out;clear hOA hOk hB hBA HA HS;by_cases hd:doN K a ⟨p,m,b,q,s,v⟩=0
   ·have HD:Hid (doN K a ⟨p,m,b,q,s,v⟩=0):=hd;rw[if_pos hd,if_pos hd] at hst;have HN5:Hid (N=alN (doL K a ⟨p,m,b,q,s,v⟩) (O.drop (k+1))):=HN4.out.trans hst.1;have HR5:Hid (R=alL (doL K a ⟨p,m,b,q,s,v⟩) (O.drop (k+1))):=HR4.out.trans hst.2;clear hd hst
    go_wp2_with fail
    refine (do_own a4 n4 c4 a p m b q s v K _ HSA.out).mono ?_;rintro e w2 ⟨x,rfl,hx,hb2⟩;rw[no_ok HD.out];obtain⟨a5,n5,c5,rfl,_⟩:=hx.sr.form;have HX:Hid (NR w2 w.heap.size (.slice a5 n5 c5) (doL K a ⟨p,m,b,q,s,v⟩)):=hx.mono HBA.out.size;have HB2:Hid (Below w.heap.size w w2):=HBA.out.trans (hb2.mono HBA.out.size);clear hb2 hx q0 q1 q2 q3 q4 q5 q6 q7;go_wp2;go_roundw
    case rel=>exact⟨k+1,by omega,by go_num,⟨_,_,_,_,rfl,HX.out,HN5.out,HR5.out⟩,HB2.out⟩
    case measure=>simp[intOf];omega
   have HD:Hid (doN K a ⟨p,m,b,q,s,v⟩≠0):=hd;rw[if_neg hd,if_neg hd] at hst;have HN5:Hid (N=doN K a ⟨p,m,b,q,s,v⟩):=HN4.out.trans hst.1;have HR5:Hid (R=[]):=HR4.out.trans hst.2;clear hd hst
   go_wp2_with fail
   refine (do_own a4 n4 c4 a p m b q s v K _ HSA.out).mono ?_;rintro e w2 ⟨x,rfl,hx,hb2⟩;rw[no_ne HD.out];have HB2:Hid (Below w.heap.size w w2):=HBA.out.trans (hb2.mono HBA.out.size);clear hb2 hx q0 q1 q2 q3 q4 q5 q6 q7;go_wp2;refine bodyPost_ret (v:=.tuple #[.slice none 0 0,.iface 81 (.int i64 (doN K a ⟨p,m,b,q,s,v⟩))]) (by simp[results,results39,go_sem]) rfl ⟨_,by rw[HN5.out,no_ne HD.out],by rw[HR5.out];exact NR.nil _ _,HB2.out⟩
  obtain rfl:k=n2:=by omega
  have HE:Hid (N=0∧R=K):=by
   have e1:O.drop k=[]:=List.drop_eq_nil_of_le (by rw[HN.out];exact nLQ _);have h1:=HN4.out;have h2:=HR4.out;rw[e1] at h1 h2;exact⟨h1,h2⟩
  clear hB;go_wp2;refine bodyPost_ret (v:=.tuple #[.slice a4 n4 c4,.nilIface]) (by simp[results,results39,go_sem]) rfl ⟨_,by rw[HE.out.1];rfl,by rw[HE.out.2];exact HS.out,HB.out⟩
def CD (w:World)(g o:Nat)(p m b q s v:Int)(g' o':Nat)(p' m' b' q' s' v':Int)(w':World):Prop:=
 Below w.heap.size w w'∧(w'.cell? ⟨g,o,none⟩=some (.int i64 p)∧w'.cell? ⟨g,o+1,none⟩=some (.int i64 m)∧w'.cell? ⟨g,o+2,none⟩=some (.int i64 b) ∧
  w'.cell? ⟨g,o+3,none⟩=some (.int i64 q)∧w'.cell? ⟨g,o+4,none⟩=some (.int i64 s)∧w'.cell? ⟨g,o+5,none⟩=some (.int i64 v)) ∧
 w'.cell? ⟨g',o',none⟩=some (.int i64 p')∧w'.cell? ⟨g',o'+1,none⟩=some (.int i64 m')∧w'.cell? ⟨g',o'+2,none⟩=some (.int i64 b') ∧
  w'.cell? ⟨g',o'+3,none⟩=some (.int i64 q')∧w'.cell? ⟨g',o'+4,none⟩=some (.int i64 s')∧w'.cell? ⟨g',o'+5,none⟩=some (.int i64 v')
theorem CD.later {w W W':World}{g o:Nat}{p m b q s v:Int}{g' o':Nat}{p' m' b' q' s' v':Int}(hb:Below W.heap.size W W')(h:CD w g o p m b q s v g' o' p' m' b' q' s' v' W):CD w g o p m b q s v g' o' p' m' b' q' s' v' W':=by
 obtain⟨h0,⟨h1,h2,h3,h4,h5,h6⟩,k1,k2,k3,k4,k5,k6⟩:=h;exact⟨h0.trans (hb.mono h0.size),⟨cell_later hb h1,cell_later hb h2,cell_later hb h3,cell_later hb h4,cell_later hb h5,cell_later hb h6⟩,cell_later hb k1,cell_later hb k2,cell_later hb k3,cell_later hb k4,cell_later hb k5,cell_later hb k6⟩
theorem tabs_any (ao:AdQ)(n cap:Nat)(ao2:AdQ)(n2 cap2:Nat)(L:List Ru)(w:World)(hs:SR w (.slice ao n cap) L)(ht:SR w (.slice ao2 n2 cap2) L):
 Calls prog 14 #[.slice ao n cap,.slice ao2 n2 cap2] w fun e w'=>e=.returned (.bool true)∧Below w.heap.size w w':=by
 obtain⟨ao',n',cap',e,hn,hn2,hn3,ha⟩:=hs.form;cases e;obtain⟨ao',n',cap',e,hm,hm2,hm3,hb⟩:=ht.form;cases e;obtain rfl:n=n2:=by omega
 have HN:Hid (L.length=n):=hn;have HA:Hid (0<n→∃g o,ao=some ⟨g,o,none⟩∧RAt w g o L∧cap≤maxLen):=ha;have HA2:Hid (0<n→∃g o,ao2=some ⟨g,o,none⟩∧RAt w g o L∧cap2≤maxLen):=hb;have hn63:n≤9223372036854775807:=by unfold maxLen at hn2;omega
 clear hs ht hn ha hm hb hn2 hm2;go_enter func14,ntmps14;go_wp2
 go_loopw [5] (fun i wr=>∃k:Nat,k≤n∧i=.int i64 k∧Below w.heap.size w wr) (fun i _=>n-(intOf i).toNat)
 case atStart=>exact⟨0,by omega,rfl,bRQ _ _⟩
 case round =>
  obtain⟨k,hk,rfl,hB⟩:=hrel;have HB:Hid (Below w.heap.size w wr):=hB;by_cases hlt:k<n
  ·obtain⟨g,og,hao,hc,_⟩:=HA.out (by omega);obtain⟨g2,og2,hao2,hc2,_⟩:=HA2.out (by omega);subst hao hao2;obtain⟨p,m,b,q,s,v,hkl,hLk,q0,q1,q2,q3,q4,q5⟩:=(hc.later hB).at HN.out hlt;obtain⟨p',m',b',q',s',v',_,hLk2,r0,r1,r2,r3,r4,r5⟩:=(hc2.later hB).at HN.out hlt;rw[hLk] at hLk2;simp only[Ru.mk.injEq] at hLk2;obtain⟨rfl,rfl,rfl,rfl,rfl,rfl⟩:=hLk2;have HCE:Hid (CD w g (og+k*6) p m b q s v g2 (og2+k*6) p m b q s v wr):=⟨hB,⟨q0,q1,q2,q3,q4,q5⟩,r0,r1,r2,r3,r4,r5⟩;clear q0 q1 q2 q3 q4 q5 r0 r1 r2 r3 r4 r5 hB hc hc2 hLk HA HA2;go_upto_region 6 with fail;have kb0:(0:Int)≤(k:Int):=by omega
   have kb1:(k:Int)<(n:Int):=by omega
   go_cut [25] from 11 to 25 (fun c w'=>c=.bool false∧Below w.heap.size w w')
   case first =>
    as_aux_lemma =>
     refine wp_region_quiet (C:=CD w g (og+k*6) p m b q s v g2 (og2+k*6) p m b q s v) (by kernel_rfl) (by kernel_rfl) (CD.later (W:=wr) (Below.drew (bRQ _ _)) HCE.out) ?_;simp only[List.toList_toArray];go_big_quiet_want;refine qv (.slice (some ⟨g,og,none⟩) n cap) ?_ ?_
     ·rintro w' ⟨z0,⟨z1,z2,z3,z4,z5,z6⟩,y1,y2,y3,y4,y5,y6⟩;go_simp
     simp only[Act.put,AP];go_big_quiet_on;go_big_quiet_want;refine qv (.int i64 (k:Int)) ?_ ?_
     ·rintro w' ⟨z0,⟨z1,z2,z3,z4,z5,z6⟩,y1,y2,y3,y4,y5,y6⟩;go_simp
     simp only[Act.put,AP];go_big_quiet_on;go_big_quiet_want;refine qv (.pointer (some ⟨g,og+k*6,none⟩)) ?_ ?_
     ·rintro w' ⟨z0,⟨z1,z2,z3,z4,z5,z6⟩,y1,y2,y3,y4,y5,y6⟩;go_simp
     simp only[Act.put,AP];go_big_quiet_on;go_big_quiet_want;refine qv (.agg #[.int i64 p,.int i64 m,.int i64 b,.int i64 q,.int i64 s,.int i64 v]) ?_ ?_
     ·rintro w' ⟨z0,⟨z1,z2,z3,z4,z5,z6⟩,y1,y2,y3,y4,y5,y6⟩;go_simp
     simp only[Act.put,AP];go_big_quiet_on;go_big_quiet_want;refine qv (.slice (some ⟨g2,og2,none⟩) n cap2) ?_ ?_
     ·rintro w' ⟨z0,⟨z1,z2,z3,z4,z5,z6⟩,y1,y2,y3,y4,y5,y6⟩;go_simp
     simp only[Act.put,AP];go_big_quiet_on;go_big_quiet_want;refine qv (.int i64 (k:Int)) ?_ ?_
     ·rintro w' ⟨z0,⟨z1,z2,z3,z4,z5,z6⟩,y1,y2,y3,y4,y5,y6⟩;go_simp
     simp only[Act.put,AP];go_big_quiet_on;go_big_quiet_want;refine qv (.pointer (some ⟨g2,og2+k*6,none⟩)) ?_ ?_
     ·rintro w' ⟨z0,⟨z1,z2,z3,z4,z5,z6⟩,y1,y2,y3,y4,y5,y6⟩;go_simp
     simp only[Act.put,AP];go_big_quiet_on;go_big_quiet_want;refine qv (.agg #[.int i64 p,.int i64 m,.int i64 b,.int i64 q,.int i64 s,.int i64 v]) ?_ ?_
     ·rintro w' ⟨z0,⟨z1,z2,z3,z4,z5,z6⟩,y1,y2,y3,y4,y5,y6⟩;go_simp
     simp only[Act.put,AP];go_big_quiet_on;go_big_quiet_want;refine qv (.bool false) ?_ ?_
     ·rintro w' ⟨z0,⟨z1,z2,z3,z4,z5,z6⟩,y1,y2,y3,y4,y5,y6⟩;go_simp
     simp only[Act.put,AP];go_big_quiet_on;refine wpQuiet_nil ?_;intro w' hC
     go_wp2_with fail
     go_meet
     case rel=>exact⟨rfl,hC.1⟩
   case rest =>
    obtain⟨rfl,hB2⟩:=hcut;clear HCE;go_wp2;go_roundw
    case rel=>exact⟨k+1,by omega,by go_num,hB2⟩
    case measure=>simp[intOf];omega
  obtain rfl:k=n:=by omega
  go_wp2;go_ret;exact⟨rfl,HB.out⟩
def NN (W:World)(B:Nat)(S:Int)(a1 a2 a3:Value)(S':Int)(b1 b2 b3:Value):Prop:=NeBox W B S a1 a2 a3∧NeBox W (B+1) S' b1 b2 b3
theorem nn_new (w:World)(S:Int)(a1 a2 a3:Value)(S':Int)(b1 b2 b3:Value)(t:TypeId):NN ((w.alloc (.cells #[.int i64 S,a1,a2,a3] t)).alloc (.cells #[.int i64 S',b1,b2,b3] t)) w.heap.size S a1 a2 a3 S' b1 b2 b3:=by
 refine⟨(nebox_new w S a1 a2 a3 t).later ((bRQ _ _).alloc (nLQ _) _),?_⟩;have:=nebox_new (w.alloc (.cells #[.int i64 S,a1,a2,a3] t)) S' b1 b2 b3 t;simpa using this
theorem NN.later {W W':World}{B:Nat}{S:Int}{a1 a2 a3:Value}{S':Int}{b1 b2 b3:Value}(h:NN W B S a1 a2 a3 S' b1 b2 b3)(hb:Below W.heap.size W W'):NN W' B S a1 a2 a3 S' b1 b2 b3:=⟨h.1.later hb,h.2.later hb⟩
theorem NeBox.grown {W W':World}{g:Nat}{S:Int}{v1 v2 v3:Value}{row:Option Nat}(h:NeBox W g S v1 v2 v3)(hg:W.grownBy W' row)(hne:some g≠row):NeBox W' g S v1 v2 v3:=
 ⟨hg.cell h.1 hne,hg.cell h.2.1 hne,hg.cell h.2.2.1 hne,hg.cell h.2.2.2 hne⟩
theorem NN.grown {W W':World}{B:Nat}{S:Int}{a1 a2 a3:Value}{S':Int}{b1 b2 b3:Value}{row:Option Nat}(h:NN W B S a1 a2 a3 S' b1 b2 b3)(hg:W.grownBy W' row)(hr:∀g,row=some g→B+2≤g):NN W' B S a1 a2 a3 S' b1 b2 b3:=
 ⟨h.1.grown hg (fun e=>by have:=hr _ e.symm;omega),h.2.grown hg (fun e=>by have:=hr _ e.symm;omega)⟩
def inE:Enc Int where
 c:=fun x=>[.int i64 x]
 n:=1
 len:=fun _=>rfl
 pos:=by decide
 one:=by
  intro x u hu;simp at hu;subst hu;rfl
theorem in_cells (L:List Int):cellsG inE L=L.map (Value.int i64):=by
 induction L with
 | nil=>rfl
 | cons x r ih =>
   simp only[cellsG,List.flatMap_cons,List.map_cons] at *;rw[ih];rfl
theorem in_at {w:World}{g o:Nat}{L:List Int}(h:GAt inE w g o L){n k:Nat}(hn:L.length=n)(hk:k<n):∃(x:Int) (hl:k<L.length),L[k]=x∧w.cell? ⟨g,o+k,none⟩=some (.int i64 x):=by
 have hl:k<L.length:=by omega
 have:=h k hl 0 _ rfl;refine⟨_,hl,rfl,?_⟩;have e:o+k*inE.n+0=o+k:=by show o+k*1+0=o+k;omega
 rw[e] at this;exact this
abbrev SlT:Type:=AdQ×Nat×Nat
def slV (x:SlT):Value:=.slice x.1 x.2.1 x.2.2
def slE:Enc SlT where
 c:=fun x=>[slV x]
 n:=1
 len:=fun _=>rfl
 pos:=by decide
 one:=by
  intro x u hu;simp at hu;subst hu;rfl
theorem sl_cells (L:List SlT):cellsG slE L=L.map slV:=by
 induction L with
 | nil=>rfl
 | cons x r ih =>
   simp only[cellsG,List.flatMap_cons,List.map_cons] at *;rw[ih];rfl
theorem own_rows2 {w:World}{b1 e1 s1 n1 b2 e2 s2 n2:Nat}{v1 v2:Value}{x1 x2:List Value}(h1:w.ownsRow b1 e1 s1 v1 n1 x1)(h2:w.ownsRow b2 e2 s2 v2 n2 x2)(he:e1≠e2):v1.ownBlock=none∨v1.ownBlock≠v2.ownBlock:=by
 rcases h1.2 with ⟨rfl,_⟩ | ⟨g,cap,cur,rfl,_,hg,_⟩
 ·exact .inl rfl
 refine .inr ?_
 rcases h2.2 with ⟨rfl,_⟩ | ⟨g2,cap2,cur2,rfl,_,hg2,_⟩
 ·exact fun h=>by cases h
 intro h;simp only[Value.ownBlock,Option.some.injEq] at h;subst h;rw[hg] at hg2;simp only[Option.some.injEq,Obj.cells.injEq] at hg2;exact he hg2.2.1
theorem grown_below {w w':World}(hb:Below w.heap.size w w'):w.grownBy w' none:=⟨hb.os,hb.tape,hb.output,hb.size,fun k hk _=>hb.block k hk⟩
theorem grown_set (w:World)(b i:Nat)(v:Value):w.grownBy (w.setCell ⟨b,i,none⟩ v) (some b):=
 ⟨rfl,rfl,rfl,by simp[World.setCell],fun k _ hk=>Below.heap_setCell _ _ _ _ (fun e=>hk (by simp[e]))⟩
theorem none_or (o:Option Nat):o=none∨o≠none:=by cases o <;> simp
theorem run_append_blk {P:Program}{w:World}{base:Nat}(t ty e:TypeId)(i:TypeInfo)(z:Value)(ht:P.underlying t=some (.slice e))(hi:P.info? e=some i)(hz:i.zero=some z)
 (v:Value) (n:Nat) (xs:List Value) (hown:w.ownsRow base e i.size v n xs)
 (a:Addr) (c:Nat) (news:List Value) (hl:news.length=1*i.size) (hnews:∀j u,news[j]?=some u→w.cell? (a.add j)=some u) (h1:∀u∈news,u.oneCell'=true)
 (h63:n+1≤maxLen) (hbytes:(n+1)*i.bytes≤140737488355328) {v':Value} {w':World} (hr:(Builtin.append_ #[t,t] ty #[v,.slice (some a) 1 c]).run P w=.ok v' w'):v'.ownBlock=v.ownBlock∨v'.ownBlock=some w.heap.size:=by
 have hm:n+1≤9223372036854775807:=by simp only[maxLen] at h63;omega
 rcases hown.2 with ⟨rfl,rfl⟩ | ⟨g,cap,cur,rfl,hbg,hg,hnc,hcm,hcs,htake⟩
 ·rw[run_append_nil (P:=P) w t ty e i z ht hi hz a 1 c news hl hnews (by omega) (by omega) (by have hb:=hbytes;simp only[Nat.zero_add] at hb;omega)] at hr;cases hr;exact .inr rfl
 by_cases hroom:n+1≤cap
 ·have hfit:n*i.size+news.length≤cur.size:=by rw[hl,hcs,←Nat.add_mul];exact Nat.mul_le_mul_right _ hroom
  rw[run_append_room (P:=P) w t ty e i ht hi g n cap cur hg a 1 c news hl hnews h1 hroom hfit] at hr;cases hr;exact .inl rfl
 rw[run_append_grow (P:=P) w t ty e i z ht hi hz ⟨g,0,none⟩ n cap xs hown.1 (hown.cells (g:=g) rfl) a 1 c news hl hnews (by omega) (by omega) (growslice_fits (by omega) hbytes)] at hr;cases hr;exact .inr rfl
theorem wpList_append_blk {P:Program}{α:Type}{E:Enc α}(w:World){ops:Array Oper}{rest:List Oper}{o:Oper}{a:Act}{Q:Exit→Act→World→Prop}(hgd:o.guard=none)(s x:Operand)(t e:TypeId)
 (ho:o.op=.call { callee:=.builtin .append,args:=#[s,x],argTypes:=#[t,t] }) (ht:P.underlying t=some (.slice e)) (i:TypeInfo) (z:Value) (bytes:Nat) (hi:P.info? e=some i) (hz:i.zero=some z)
 (hsize:i.size=E.n) (hby:i.bytes=bytes) (hzs:z.cells.size=E.n) (base:Nat)
 (v:Value) (hs:a.eval s=v) (L:List α) (hown:w.ownsRow base e E.n v L.length (cellsG E L)) (g q c:Nat) (hx:a.eval x=.slice (some ⟨g,q,none⟩) 1 c) (y:α) (hM:VAt w g q (E.c y))
 (h63:L.length+1≤maxLen) (hbytes:(L.length+1)*bytes≤140737488355328) (hbase:base≤w.heap.size)
 (h:∀v' w',w'.ownsRow base e E.n v' (L++[y]).length (cellsG E (L++[y]))→w.grownBy w' v.ownBlock→v'.ownBlock=v.ownBlock∨v'.ownBlock=some w.heap.size→wpList P ops Q rest (a.put o.dst v') w'):wpList P ops Q (o :: rest) a w:=by
 have hG:GAt E w g q [y]:=by
  intro k hk;obtain rfl:k=0:=by simp at hk;omega
  simpa using hM
 have hc:=hG.cells;rw[cellsG_one] at hc;have hl:(E.c y).length=1*E.n:=by rw[E.len];omega
 obtain⟨v',w',hr,h2,h3,_⟩:=run_append_own (P:=P) w base t o.type e i z E.n bytes ht hi hz hsize hby hzs E.pos v _ _ hown ⟨g,q,none⟩ 1 c (E.c y) hl hc (E.one y) h63 hbytes hbase;have hb:=run_append_blk (P:=P) t o.type e i z ht hi hz v _ _ (by rw[hsize];exact hown) ⟨g,q,none⟩ c (E.c y) (by rw[hsize];exact hl) hc (E.one y) h63 (by rw[hby];exact hbytes) hr;refine wpList_plain hgd fun K hK=>?_
 unfold Oper.wp execOp;simp only[ho,resolve,invoke,builtin,Sem.run_bind,Sem.run_pure,Result.andThen_ok,List.map_toArray,List.map_cons,List.map_nil,hs,hx,hr];exact hK _ _ (h v' w' (by rw[List.length_append,cellsG_app,cellsG_one];exact h2) h3 hb)
section
variable {e1 e2:TypeId}{w w':World}{B:Nat}{v u:Value}{vs us:List SlT}{Cs Ps:List (List Int)}
end
def offB (x:SlT)(b:Nat):Prop:=x.2.1=0∨∀a,x.1=some a→a.block≠b
theorem RAt.lt {w:World}{g o:Nat}{L:List Ru}(h:RAt w g o L)(h0:0<L.length):g<w.heap.size:=bLQ _ _ (h 0 h0).c0
theorem SR.off {w:World}{x:SlT}{L:List Ru}(h:SR w (slV x) L){b:Nat}(hb:w.heap.size≤b):offB x b:=by
 obtain⟨ao,n,cap⟩:=x
 rcases h with ⟨ao',cap',e,rfl⟩ | ⟨g,o,cap',e,h1,h2,h3⟩
 ·simp only[slV,Value.slice.injEq] at e;exact .inl e.2.1
 simp only[slV,Value.slice.injEq] at e;obtain⟨rfl,rfl,rfl⟩:=e;by_cases h0:L.length=0
 ·exact .inl h0
 refine .inr fun a ha=>?_
 cases ha;have:=h3.lt (by omega);show g≠b;omega
theorem SR.grown {w w':World}{x:SlT}{L:List Ru}{row:Option Nat}(h:SR w (slV x) L)(hg:w.grownBy w' row)(ho:∀b,row=some b→offB x b):SR w' (slV x) L:=by
 obtain⟨ao,n,cap⟩:=x
 rcases h with ⟨ao',cap',e,rfl⟩ | ⟨g,o,cap',e,h1,h2,h3⟩
 ·exact .inl ⟨ao',cap',e,rfl⟩
 simp only[slV,Value.slice.injEq] at e;obtain⟨rfl,rfl,rfl⟩:=e;by_cases h0:L.length=0
 ·exact .inl ⟨_,_,by rw[slV,h0],List.length_eq_zero_iff.1 h0⟩
 have hne:some g≠row:=by
  intro e
  rcases ho g e.symm with h4 | h4
  ·exact h0 h4
  exact h4 _ rfl rfl
 refine .inr ⟨g,o,cap,rfl,h1,h2,fun i hi=>?_⟩;obtain⟨c0,c1,c2,c3,c4,c5⟩:=h3 i hi;exact⟨hg.cell c0 hne,hg.cell c1 hne,hg.cell c2 hne,hg.cell c3 hne,hg.cell c4 hne,hg.cell c5 hne⟩
structure TR (e:TypeId)(w:World)(A B:Nat)(v:Value)(vs:List SlT)(Ts:TsQ):Prop where
 ov:w.ownsRow B e slE.n v vs.length (cellsG slE vs)
 lv:vs.length=Ts.length
 rv:∀(i:Nat) (x:SlT) (L:List Ru),vs[i]?=some x→Ts[i]?=some L→SR w (slV x) L∧∀b,v.ownBlock=some b→offB x b
 rz:∀(i:Nat) (x:SlT),vs[i]?=some x→∀b,A≤b→b<B→offB x b
section
variable {e:TypeId}{w w':World}{A B:Nat}{v:Value}{vs:List SlT}{Ts:TsQ}
theorem tr_nil (e:TypeId)(w:World)(A B:Nat):TR e w A B (.slice none 0 0) [] []:=
 ⟨World.ownsRow_nil w B e slE.n,rfl,fun i x L h=>by simp at h,fun i x h=>by simp at h⟩
theorem TR.later (h:TR e w A B v vs Ts)(hb:Below w.heap.size w w'):TR e w' A B v vs Ts:=
 ⟨h.ov.kept (grown_below hb) (none_or _),h.lv,fun i x L h1 h2=>⟨(h.rv i x L h1 h2).1.later hb,(h.rv i x L h1 h2).2⟩,h.rz⟩
theorem TR.grown (h:TR e w A B v vs Ts){b:Nat}(hg:w.grownBy w' (some b))(h1:A≤b)(h2:b<B):TR e w' A B v vs Ts:=by
 refine⟨h.ov.kept hg (.inr fun e=>?_),h.lv,fun i x L a1 a2=>⟨(h.rv i x L a1 a2).1.grown hg (fun c hc=>?_),(h.rv i x L a1 a2).2⟩,h.rz⟩
 ·have:=(h.ov.lt b e).1;omega
 cases hc;exact h.rz i x a1 b h1 h2
theorem TR.push (h:TR e w A B v vs Ts){x:SlT}{L:List Ru}(hx:SR w (slV x) L){v':Value}(hox:∀b,v.ownBlock=some b→offB x b)(hoz:∀b,A≤b→b<B→offB x b)
 (hg:w.grownBy w' v.ownBlock) (ho:w'.ownsRow B e slE.n v' (vs++[x]).length (cellsG slE (vs++[x]))) (hb:v'.ownBlock=v.ownBlock∨v'.ownBlock=some w.heap.size):TR e w' A B v' (vs++[x]) (Ts++[L]):=by
 have one:∀{y:SlT} {M:List Ru},SR w (slV y) M→(∀b,v.ownBlock=some b→offB y b)→SR w' (slV y) M∧∀b,v'.ownBlock=some b→offB y b:=by
  intro y M h1 h2;refine⟨h1.grown hg h2,fun b hv=>?_⟩
  rcases hb with hb | hb
  ·exact h2 b (by rw[←hb];exact hv)
  rw[hb] at hv;cases hv;exact h1.off (nLQ _)
 refine⟨ho,by simp[h.lv],fun i y M h1 h2=>?_,fun i y h1=>?_⟩
 ·by_cases hi:i<vs.length
  ·rw[List.getElem?_append_left hi] at h1;rw[List.getElem?_append_left (by rw[←h.lv];exact hi)] at h2;obtain⟨a1,a2⟩:=h.rv i y M h1 h2;exact one a1 a2
  have hi2:i=vs.length:=by
   have:=(List.getElem?_eq_some_iff.1 h1).1;simp at this;omega
  subst hi2;simp at h1;rw[h.lv] at h2;simp at h2;subst h1 h2;exact one hx hox
 by_cases hi:i<vs.length
 ·rw[List.getElem?_append_left hi] at h1;exact h.rz i y h1
 have hi2:i=vs.length:=by
  have:=(List.getElem?_eq_some_iff.1 h1).1;simp at this;omega
 subst hi2;simp at h1;subst h1;exact hoz
theorem TR.put {g n cap i:Nat}(h:TR e w A B (.slice (some ⟨g,0,none⟩) n cap) vs Ts){x:SlT}{L:List Ru}(hx:SR w (slV x) L)(hox:offB x g)(hoz:∀b,A≤b→b<B→offB x b):TR e (w.setCell ⟨g,i,none⟩ (slV x)) A B (.slice (some ⟨g,0,none⟩) n cap) (vs.set i x) (Ts.set i L):=by
 have hgw:w.grownBy (w.setCell ⟨g,i,none⟩ (slV x)) (some g):=grown_set w g i (slV x);refine⟨?_,by simp[h.lv],fun j y M a1 a2=>?_,fun j y a1=>?_⟩
 ·have h1:=h.ov;have hn:n=vs.length:=by
   rcases h1.2 with ⟨h3,_⟩ | ⟨_,_,_,h3,_⟩
   ·cases h3
   simp only[Value.slice.injEq] at h3;exact h3.2.1
  rw[List.length_set,sl_cells,List.map_set];rw[sl_cells,←hn] at h1;rw[←hn];exact (h1.stored _ _).1
 ·have hj:j<(vs.set i x).length:=(List.getElem?_eq_some_iff.1 a1).1;rw[List.length_set] at hj;by_cases hij:i=j
  ·subst hij;rw[List.getElem?_set_self hj] at a1;rw[List.getElem?_set_self (by rw[←h.lv];exact hj)] at a2;cases a1;cases a2;refine⟨hx.grown hgw (fun b hb=>by cases hb;exact hox),fun b hb=>?_⟩;cases hb;exact hox
  rw[List.getElem?_set_ne hij] at a1 a2;obtain⟨b1,b2⟩:=h.rv j y M a1 a2;exact⟨b1.grown hgw (fun b hb=>by cases hb;exact b2 g rfl),b2⟩
 have hj:j<(vs.set i x).length:=(List.getElem?_eq_some_iff.1 a1).1;rw[List.length_set] at hj;by_cases hij:i=j
 ·subst hij;rw[List.getElem?_set_self hj] at a1;cases a1;exact hoz
 rw[List.getElem?_set_ne hij] at a1;exact h.rz j y a1
theorem TR.ts (h:TR e w A B v vs Ts):TS w v Ts:=by
 rcases own_GS h.ov with ⟨ao,cap,rfl,h0⟩ | ⟨g,o,cap,rfl,h1,h2,h3⟩
 ·refine .inl ⟨ao,cap,rfl,?_⟩;have:=h.lv;rw[h0] at this;exact List.length_eq_zero_iff.1 this.symm
 refine .inr ⟨g,o,cap,by rw[h.lv],by rw[←h.lv];exact h1,h2,fun i hi=>?_⟩;have hi2:i<vs.length:=by rw[h.lv];exact hi
 have:=h3 i hi2 0 _ rfl;have e:o+i*slE.n+0=o+i:=by show o+i*1+0=o+i;omega
 rw[e] at this;exact⟨_,_,_,this,(h.rv i _ _ (List.getElem?_eq_getElem hi2) (List.getElem?_eq_getElem hi)).1⟩
theorem TR.at {g n cap i:Nat}(h:TR e w A B (.slice (some ⟨g,0,none⟩) n cap) vs Ts)(hi:i<Ts.length):∃x:SlT,w.cell? ⟨g,i,none⟩=some (slV x)∧SR w (slV x) (Ts.getD i [])∧w.frozen? ⟨g,i,none⟩=false∧n=Ts.length∧B≤g∧g<w.heap.size:=by
 have h1:=h.ov;have hn:n=vs.length:=by
  rcases h1.2 with ⟨h3,_⟩ | ⟨_,_,_,h3,_⟩
  ·cases h3
  simp only[Value.slice.injEq] at h3;exact h3.2.1
 have hi2:i<vs.length:=by rw[h.lv];exact hi
 rw[sl_cells,←hn] at h1;refine⟨vs[i],?_,?_,h1.frozenAt i,by rw[hn,h.lv],(h1.lt g rfl).1,(h1.lt g rfl).2⟩
 ·rw[h1.cellAt i (by show i<n*1;omega)];simp[hi2]
 rw[getT hi];exact (h.rv i _ _ (List.getElem?_eq_getElem hi2) (List.getElem?_eq_getElem hi)).1
end
theorem ca_split {S:Int}{Ts:TsQ}{l:List Op8}{k:Nat}(hk:k<l.length)(h:caN S Ts (l.take k)=0):caN S Ts l=caN S (caT Ts (l.take k)) (l[k] :: l.drop (k+1)):=by
 have e:l=l.take k++(l[k] :: l.drop (k+1)):=by simp
 conv=>lhs;rw[e]
 rw[ca_app,if_pos h]
theorem cs_take {S:Int}{Ts:TsQ}{l:List Op8}{k:Nat}(hk:k<l.length)(h:caN S Ts (l.take k)=0):caN S Ts (l.take (k+1))=caN S (caT Ts (l.take k)) [l[k]]∧caT Ts (l.take (k+1))=caT (caT Ts (l.take k)) [l[k]]:=by
 rw[List.take_succ_eq_append_getElem hk,ca_app,if_pos h,cj_app];exact⟨rfl,rfl⟩
def nvS (X S:Int):Int:=if X=0 then S else 0
def nvL {α:Type}(X:Int)(L:List α):List α:=if X=0 then L else []
structure AB (W:World)(B:Nat)(S:Int)(v1 v2 v3:Value):Prop where
 n:NeBox W B S v1 v2 v3
 r:NeBox W (B+1) 0 (.slice none 0 0) (.slice none 0 0) (.slice none 0 0)
 f:∀c,W.frozen? ⟨B+1,c,none⟩=false
theorem ab_new (w:World)(S:Int)(v1 v2 v3:Value)(t:TypeId):AB ((w.alloc (.cells #[.int i64 S,v1,v2,v3] t)).alloc (.cells #[.int i64 0,.slice none 0 0,.slice none 0 0,.slice none 0 0] t)) w.heap.size S v1 v2 v3:=by
 obtain⟨h1,h2⟩:=nn_new w S v1 v2 v3 0 (.slice none 0 0) (.slice none 0 0) (.slice none 0 0) t;refine⟨h1,h2,fun c=>?_⟩;have h:=heap_alloc_new (w.alloc (.cells #[.int i64 S,v1,v2,v3] t)) (Obj.cells #[.int i64 0,.slice none 0 0,.slice none 0 0,.slice none 0 0] t);rw[World.size_alloc] at h;simp only[World.frozen?,h];simp
theorem AB.lt {W:World}{B:Nat}{S:Int}{v1 v2 v3:Value}(h:AB W B S v1 v2 v3):B+1<W.heap.size:=bLQ W ⟨B+1,0,none⟩ h.r.1
theorem AB.grown {W W':World}{B:Nat}{S:Int}{v1 v2 v3:Value}{row:Option Nat}(h:AB W B S v1 v2 v3)(hg:W.grownBy W' row)(hr:∀g,row=some g→B+2≤g):AB W' B S v1 v2 v3:=
 ⟨h.n.grown hg (fun e=>by have:=hr _ e.symm;omega),h.r.grown hg (fun e=>by have:=hr _ e.symm;omega),fun c=>(World.frozen?_of_block (hg.block (B+1) h.lt (fun e=>by have:=hr _ e.symm;omega))).trans (h.f c)⟩
theorem AB.later {W W':World}{B:Nat}{S:Int}{v1 v2 v3:Value}(h:AB W B S v1 v2 v3)(hb:Below W.heap.size W W'):AB W' B S v1 v2 v3:=h.grown (grown_below hb) (fun g hg=>by cases hg)
def put4 (W:World)(b:Nat)(x y z u:Value):World:=(((W.setCell ⟨b,0,none⟩ x).setCell ⟨b,1,none⟩ y).setCell ⟨b,2,none⟩ z).setCell ⟨b,3,none⟩ u
theorem below_pn4 {B:Nat}{a W:World}(h:Below B a W)(b:Nat)(hb:B≤b)(x y z u:Value):Below B a (put4 W b x y z u):=(((h.setCell hb _).setCell hb _).setCell hb _).setCell hb _
theorem grown_put4 (W:World)(b:Nat)(x y z u:Value):W.grownBy (put4 W b x y z u) (some b):=by
 have h1:=grown_set W b 0 x;have h2:=grown_set (W.setCell ⟨b,0,none⟩ x) b 1 y;have h3:=grown_set ((W.setCell ⟨b,0,none⟩ x).setCell ⟨b,1,none⟩ y) b 2 z;have h4:=grown_set (((W.setCell ⟨b,0,none⟩ x).setCell ⟨b,1,none⟩ y).setCell ⟨b,2,none⟩ z) b 3 u;exact⟨rfl,rfl,rfl,Nat.le_trans (Nat.le_trans (Nat.le_trans h1.size h2.size) h3.size) h4.size,fun k hk hne=>(((h4.block k (Nat.lt_of_lt_of_le hk (Nat.le_trans (Nat.le_trans h1.size h2.size) h3.size)) hne).trans (h3.block k (Nat.lt_of_lt_of_le hk (Nat.le_trans h1.size h2.size)) hne)).trans (h2.block k (Nat.lt_of_lt_of_le hk h1.size) hne)).trans (h1.block k hk hne)⟩
theorem TR.mono {e:TypeId}{w:World}{A B B':Nat}{v:Value}{vs:List SlT}{Ts:TsQ}(h:TR e w A B v vs Ts)(hB:B'≤B):TR e w A B' v vs Ts:=
 ⟨own_mono h.ov hB,h.lv,h.rv,fun i x h1 b h2 h3=>h.rz i x h1 b h2 (by omega)⟩
theorem rdy_step (a:AgT)(r k:Nat):rdyTo a r (k+1)=if rdyB a (r:Int)=true then (r:Int) else rdyTo a (r+1) k:=rfl
theorem al_right:∀(l:List Op8) (t:List Ru),tbN t=0→alN t l=0→tbN (alL t l)=0
 | [],t,h,_=>h
 | o :: l,t,h,h2=>by
   have e1:alN t (o :: l)=if doN t o.a o.r=0 then alN (doL t o.a o.r) l else doN t o.a o.r:=rfl
   have e2:alL t (o :: l)=if doN t o.a o.r=0 then alL (doL t o.a o.r) l else []:=rfl
   by_cases h3:doN t o.a o.r=0
   ·rw[e1,if_pos h3] at h2;rw[e2,if_pos h3];exact al_right l _ (do_right h3) h2
   rw[e1,if_neg h3] at h2;exact absurd h2 h3
theorem rdyTo_yes {a:AgT}:∀(k:Nat) {r:Nat},¬rdyTo a r k<0→∃i:Nat,rdyTo a r k=(i:Int)∧i<r+k∧rdyB a (i:Int)=true
 | 0,r,h=>by
   have:rdyTo a r 0 = -1:=rfl;rw[this] at h;exact absurd (by decide) h
 | k+1,r,h=>by
   rw[rdy_step] at h ⊢;by_cases h1:rdyB a (r:Int)=true
   ·rw[if_pos h1];exact⟨r,rfl,by omega,h1⟩
   rw[if_neg h1] at h ⊢;obtain⟨i,h2,h3,h4⟩:=rdyTo_yes k h;exact⟨i,h2,by omega,h4⟩
def forS (r:List Op8)(s:Int):List Op8:=r.filter fun o=>o.w==s
theorem for_cnt (r:List Op8)(s:Int):(forS r s).length=cntW r s:=by rw[forS,cntW,List.countP_eq_length_filter]
theorem sd_for (i s:Int):∀(r:List Op8) (n:Nat),sdM i s n r=sdM i s n (forS r s)
 | [],n=>rfl
 | o :: r,n=>by
   by_cases h:o.w=s
   ·have e:forS (o :: r) s=o :: forS r s:=by simp[forS,h]
    rw[e,sdM,sdM,if_pos h,if_pos h,sd_for i s r]
   have e:forS (o :: r) s=forS r s:=by simp[forS,h]
   rw[e,sdM,if_neg h,sd_for i s r]
theorem zeP_eq:oqB zeP zeP=true:=(oqB_iff _ _).2 rfl
theorem sd_right {i s:Int}(hi:0≤i∧i≤19)(hs:1≤s∧s≤6):∀(r:List Op8) (n:Nat),(∀o∈r,o.r.n=0)→n+r.length≤201→∀m∈sdM i s n r,mgN m=0
 | [],n,_,_,m,h=>by simp[sdM] at h
 | o :: r,n,ho,hn,m,h=>by
   have hr:∀o∈r,o.r.n=0:=fun x hx=>ho x (List.mem_cons_of_mem _ hx)
   rw[List.length_cons] at hn;unfold sdM at h
   split at h
   ·next hw =>
    rcases List.mem_cons.1 h with rfl | h
    ·have hR:mgR ⟨1,s,i,(n:Int),o⟩=true:=mg_rng.2 ⟨⟨by show (1:Int)≤1;omega,by show (1:Int)≤3;omega⟩,hs,hi,⟨by show (0:Int)≤(n:Int);omega,by show (n:Int)≤200;omega⟩⟩;rw[mgN,if_pos hR,if_pos rfl];show moN o s=0;rw[moN,if_pos (ho o (by simp)),if_pos hw]
    exact sd_right hi hs r (n+1) hr (by omega) m h
   exact sd_right hi hs r n hr (by omega) m h
theorem sa_right {i s:Int}{n:Nat}(hi:0≤i∧i≤19)(hs:1≤s∧s≤6)(hn:n≤200):mgN (saM i s n)=0:=by
 have hR:mgR (saM i s n)=true:=mg_rng.2 ⟨⟨by show (1:Int)≤2;omega,by show (2:Int)≤3;omega⟩,hs,hi,⟨by show (0:Int)≤(n:Int);omega,by show (n:Int)≤200;omega⟩⟩;rw[mgN,if_pos hR,if_neg (by show ¬(2:Int)=1;omega)];show (if (oqB zeP zeP && !(decide ((2:Int)=3) && !(decide ((n:Int)=0))))=true then (0:Int) else 3)=0;rw[zeP_eq];rfl
theorem say_right {r:List Op8}{i:Int}(hi:0≤i∧i≤19)(ho:∀o∈r,o.r.n=0)(hn:r.length≤200):∀l:List Int,(∀s∈l,1≤s∧s≤6)→∀m∈sayL r i l,mgN m=0:=by
 intro l hl m hm;obtain⟨s,hs,h⟩:=List.mem_flatMap.1 hm
 rcases List.mem_append.1 h with h | h
 ·exact sd_right hi (hl s hs) r 0 ho (by omega) m h
 rw[List.mem_singleton] at h;subst h;exact sa_right hi (hl s hs) (Nat.le_trans (cw_le r s) hn)
def toS (L:List Mg)(s:Int):List Mg:=L.filter fun m=>m.s==s
theorem to_app (L M:List Mg)(s:Int):toS (L++M) s=toS L s++toS M s:=List.filter_append ..
theorem to_says (r:List Op8)(i s x:Int):toS (sayS r i x) s=if x=s then sayS r i x else []:=by
 have hk:∀m∈sayS r i x,m.s=x:=fun m hm=>by
  rcases List.mem_append.1 hm with h | h
  ·exact (do_kind i x r 0 m h).2.2
  rw[List.mem_singleton] at h;subst h;rfl
 by_cases h:x=s
 ·rw[if_pos h];exact List.filter_eq_self.2 fun m hm=>by simp[hk m hm,h]
 rw[if_neg h];exact List.filter_eq_nil_iff.2 fun m hm=>by simp[hk m hm,h]
theorem to_say (r:List Op8)(i s:Int):∀l:List Int,l.Nodup→toS (sayL r i l) s=if s∈l then sayS r i s else []
 | [],_=>by simp[sayL,toS]
 | x :: l,h=>by
   obtain⟨h1,h2⟩:=List.nodup_cons.1 h;rw[say_cons,to_app,to_says,to_say r i s l h2];by_cases e:x=s
   ·subst e;rw[if_pos rfl,if_neg h1,if_pos (by simp),List.append_nil]
   rw[if_neg e,List.nil_append];by_cases h3:s∈l
   ·rw[if_pos h3,if_pos (by simp[h3])]
   rw[if_neg h3,if_neg (by simp[h3,Ne.symm e])]
theorem to_tc (r:List Op8)(i s:Int):toS (sayL r i (tcL r)) s=if s∈tcL r then sayS r i s else []:=to_say r i s _ (ris_nodup (tc_rise r))
def zoK (l:List Op8)(n:Nat):List Kp:=(List.range n).map fun (x:Nat)=>⟨0,(x:Int),l.getD x zeP⟩
def zoS (t:List Ru)(l:List Op8)(n:Nat):AgT:=⟨t,zoK l n,List.replicate 20 (-1),[]⟩
def zaS (t:List Ru)(l:List Op8):AgT:=⟨t,zoK l l.length,(List.replicate 20 (-1)).set 0 l.length,[]⟩
def zdS (t:List Ru)(l:List Op8):AgT:=⟨wkTab t l,zoK l l.length,(List.replicate 20 (-1)).set 0 l.length,[0]⟩
theorem zo_has {l:List Op8}{n x:Nat}:hasK (zoK l n) 0 (x:Int)=true↔x<n:=by
 rw[hasK_iff];constructor
 ·rintro⟨k,hk,_,h2⟩;obtain⟨y,hy,rfl⟩:=List.mem_map.1 hk;have h3:(y:Int)=(x:Int):=h2;have:=List.mem_range.1 hy;omega
 intro h;exact⟨_,List.mem_map.2 ⟨x,List.mem_range.2 h,rfl⟩,rfl,rfl⟩
theorem zo_do {t:List Ru}{l:List Op8}{s:Int}{n:Nat}(hn:n<l.length)(hm:mgN ⟨1,s,0,(n:Int),l[n]⟩=0):
 hrN s ⟨1,s,0,(n:Int),l[n]⟩=0∧hrS s (zoS t l n) ⟨1,s,0,(n:Int),l[n]⟩=zoS t l (n+1)∧hrA s (zoS t l n) ⟨1,s,0,(n:Int),l[n]⟩=[]:=by
 have h0:hrN s ⟨1,s,0,(n:Int),l[n]⟩=0:=hr_zero.2 ⟨hm,rfl,by show ¬(1:Int)=3;omega⟩;have hd:doneK (zoS t l n) 0=false:=rfl;have hh:hasK (zoS t l n).l 0 (n:Int)=false:=by
  cases h:hasK (zoS t l n).l 0 (n:Int)
  ·rfl
  have:=zo_has.1 h;omega
 refine⟨h0,?_,?_⟩
 ·rw[hrS,if_pos ⟨h0,hd⟩,if_neg (by show ¬(1:Int)=2;omega)];show (if hasK (zoS t l n).l 0 (n:Int)=true then zoS t l n else ({ zoS t l n with l:=(zoS t l n).l++[⟨0,(n:Int),l[n]⟩] }:AgT))=_;rw[hh];show (⟨t,zoK l n++[⟨0,(n:Int),l[n]⟩],List.replicate 20 (-1),[]⟩:AgT)=zoS t l (n+1);have:zoK l (n+1)=zoK l n++[⟨0,(n:Int),l[n]⟩]:=by
   rw[zoK,zoK,List.range_succ,List.map_append];simp[List.getD,hn]
  rw[zoS,this]
 rw[hrA,if_neg];rintro⟨_,h2,_⟩;have:(1:Int)=2:=h2;omega
theorem zo_ask {t:List Ru}{l:List Op8}{s:Int}(hm:mgN (saM 0 s l.length)=0):
 hrN s (saM 0 s l.length)=0∧hrS s (zoS t l l.length) (saM 0 s l.length)=zaS t l∧hrA s (zoS t l l.length) (saM 0 s l.length)=[]:=by
 have h0:hrN s (saM 0 s l.length)=0:=hr_zero.2 ⟨hm,rfl,by show ¬(2:Int)=3;omega⟩;refine⟨h0,?_,?_⟩
 ·rw[hrS,if_pos ⟨h0,rfl⟩,if_pos (show (saM 0 s l.length).k=2 from rfl)];rfl
 rw[hrA,if_neg];rintro⟨_,_,h2⟩;cases h2
theorem za_ready {t:List Ru}{l:List Op8}:rdyN (zaS t l)=0:=by
 have h:rdyB (zaS t l) 0=true:=by
  have h1:manyK (zaS t l) 0=(l.length:Int):=rfl;rw[rdyB,h1];have h2:allK (zaS t l).l 0 ((l.length:Int)).toNat=true:=by
   rw[allK,List.all_eq_true];intro x hx;have:=List.mem_range.1 hx;exact zo_has.2 (by simpa using this)
  rw[h2];have h3:doneK (zaS t l) 0=false:=rfl;rw[h3];simp
 rw[rdyN,rdyTo];exact if_pos h
theorem zo_op {l:List Op8}{n x:Nat}(h:x<n):opK (zoK l n) 0 (x:Int)=l.getD x zeP:=by
 have h1:∀k∈zoK l n,kpB 0 (x:Int) k=true→k.o=l.getD x zeP:=by
  intro k hk hb;obtain⟨y,_,rfl⟩:=List.mem_map.1 hk;simp only[kpB,Bool.and_eq_true,beq_iff_eq] at hb;have:y=x:=by omega
  subst this;rfl
 rw[opK];cases hf:(zoK l n).find? (kpB 0 (x:Int)) with
 | none =>
   have:=List.find?_eq_none.1 hf ⟨0,(x:Int),l.getD x zeP⟩ (List.mem_map.2 ⟨x,List.mem_range.2 h,rfl⟩);simp[kpB] at this
 | some k=>exact h1 k (List.mem_of_find?_eq_some hf) (List.find?_some hf)
theorem za_ops {t:List Ru}{l:List Op8}:opsK (zaS t l) 0=l:=by
 have h1:manyK (zaS t l) 0=(l.length:Int):=rfl;rw[opsK,h1]
 apply List.ext_getElem
 ·simp
 intro n h1 h2;simp only[List.getElem_map,List.getElem_range];show opK (zoK l l.length) 0 (n:Int)=_;rw[zo_op h2];simp[List.getD,h2]
theorem za_work {t:List Ru}{l:List Op8}{s:Int}:wkN (zaS t l)=0∧wkS (zaS t l)=zdS t l∧wkA s (zaS t l)=[yesM s 0]:=by
 have h:=za_ready (t:=t) (l:=l);refine⟨by rw[wkN,h,if_neg (by omega)],?_,by rw[wkA,h,if_neg (by omega)]⟩;rw[wkS,h,if_neg (by omega),za_ops];rfl
theorem ca_for {S:Int}:∀{l:List Op8} {Ts:TsQ},(Ts.length:Int)=S→caN S Ts l=0→∀s:Int,1≤s→s≤S→alN (taT Ts s) (forS l s)=0∧taT (caT Ts l) s=alL (taT Ts s) (forS l s)
 | [],Ts,_,_,s,_,_=>⟨rfl,rfl⟩
 | o :: l,Ts,hS,h,s,h1,h2=>by
   obtain⟨hw,hd,hr⟩:=ca_cons h;have hws:1≤o.w∧o.w≤S:=by simpa[swB] using hw
   have ih:=ca_for (S:=S) (l:=l) (Ts:=Ts.set (o.w-1).toNat (doL (taT Ts o.w) o.a o.r)) (by rw[List.length_set];exact hS) hr s h1 h2;by_cases e:o.w=s
   ·subst e;have h3:forS (o :: l) o.w=o :: forS l o.w:=by simp[forS]
    rw[ta_set h1 (by omega)] at ih;rw[h3,caT,alN,alL,if_pos hd,if_pos hd];exact ih
   have h3:forS (o :: l) s=forS l s:=by simp[forS,e]
   have h4:taT (Ts.set (o.w-1).toNat (doL (taT Ts o.w) o.a o.r)) s=taT Ts s:=by
    have h5:¬((s-1).toNat=(o.w-1).toNat∧(o.w-1).toNat<Ts.length):=by
     rintro⟨h5,_⟩;omega
    rw[taT,getD_set,if_neg h5];rfl
   rw[h4] at ih;rw[h3,caT];exact ih
theorem do_rule1 {L:List Ru}{a:Bool}{r:Ru}(h:doN L a r=0):r.n=0:=by
 unfold doN at h;by_cases h1:tbN L=0
 ·rw[if_pos h1] at h;by_cases h2:r.n=0
  ·exact h2
  rw[if_neg h2] at h;exact absurd h h2
 rw[if_neg h1] at h;exact absurd h h1
theorem ca_ops {S:Int}:∀{l:List Op8} {Ts:TsQ},caN S Ts l=0→∀o∈l,(1≤o.w∧o.w≤S)∧o.r.n=0
 | [],Ts,_,o,h=>by simp at h
 | x :: l,Ts,h,o,ho=>by
   obtain⟨hw,hd,hr⟩:=ca_cons h
   rcases List.mem_cons.1 ho with rfl | ho
   ·exact⟨by simpa[swB] using hw,do_rule1 hd⟩
   exact ca_ops hr o ho
theorem rs_right {S:Int}{Ts:TsQ}{l:List Op8}(hS:S≤6)(hl:l.length≤200)(h:caN S Ts l=0):rsF [l] 5=0:=by
 have ho:=ca_ops h;have h1:∀r:List Op8,(∀o∈r,(1≤o.w∧o.w≤S)∧o.r.n=0)→osF r=0:=by
  intro r
  induction r with
  | nil=>intro _;rfl
  | cons o t ih =>
    intro h;have h2:=h o (by simp);have:opF o=0:=by rw[opF,if_pos ⟨h2.1.1,by omega⟩];exact h2.2
    rw[osF,if_pos this];exact ih fun x hx=>h x (by simp[hx])
 rw[rsF,if_pos (by omega),if_pos ⟨by simp,by simp[fewB,hl]⟩];show (if osF l=0 then (0:Int) else osF l)=0;rw[h1 l ho];rfl
theorem ba_ext {a b:ByteArray}(h:a.data.toList=b.data.toList):a=b:=by
 cases a;cases b;simp at h;cases h;rfl
theorem ba_app (a b:ByteArray):(a++b).data.toList=a.data.toList++b.data.toList:=by
 rw[ByteArray.data_append,Array.toList_append]
theorem ba_ex (a:ByteArray)(i j:Nat):(a.extract i j).data.toList=(a.data.toList.take j).drop i:=by
 rw[ByteArray.data_extract,Array.toList_extract];simp[List.extract_eq_take_drop,List.drop_take]
theorem byN_app {a b:ByteArray}{j:Nat}(h:j<a.size):byN (a++b) j=byN a j:=by
 have h2:j<a.data.toList.length:=by rw[←Lib.size_eq];exact h
 unfold byN;rw[ba_app,List.getD_eq_getElem?_getD,List.getD_eq_getElem?_getD,List.getElem?_append_left h2]
def mjT:List Mg→ByteArray
 | []=>ByteArray.empty
 | m :: r=>mgT m++mjT r
theorem mj_app (a b:List Mg):mjT (a++b)=mjT a++mjT b:=by
 induction a with
 | nil=>apply ba_ext;rw[ba_app];rfl
 | cons x r ih =>
   apply ba_ext
   show (mgT x++mjT (r++b)).data.toList=_;rw[ba_app,ih,ba_app,ba_app,mjT,ba_app,List.append_assoc]
theorem mj_one (m:Mg):mjT [m]=mgT m:=by
 apply ba_ext
 rw[mjT,ba_app];show _++[]=_;rw[List.append_nil]
theorem mj_snoc (a:List Mg)(m:Mg):mjT (a++[m])=mjT a++mgT m:=by rw[mj_app,mj_one]
theorem app_empty (a:ByteArray):a++ByteArray.empty=a:=by
 apply ba_ext
 rw[ba_app];show _++[]=_;rw[List.append_nil]
def okM (L:List Mg):Prop:=∀m∈L,mgN m=0
theorem mj_size {L:List Mg}(h:okM L):5*L.length≤(mjT L).size∧(mjT L).size≤12*L.length:=by
 induction L with
 | nil=>exact⟨nLQ _,nLQ _⟩
 | cons m r ih =>
   have h1:=(mg_len (h m List.mem_cons_self)).2;have h2:=ih (fun x hx=>h x (List.mem_cons_of_mem _ hx));rw[mjT,ByteArray.size_append,h1,List.length_cons]
   split <;> omega
theorem wt_join:∀(n:Nat) (b:ByteArray) (L:List Mg) (r:ByteArray),b.size≤n→wtM b=some (L,r)→b=mjT L++r∧okM L:=by
 intro n
 induction n with
 | zero =>
   intro b L r hn h;rw[wt_0 (Nat.le_zero.1 hn)] at h;cases h;exact⟨by apply ba_ext;rw[ba_app];rfl,fun m hm=>by cases hm⟩
 | succ n ih =>
   intro b L r hn h;by_cases h0:b.size=0
   ·rw[wt_0 h0] at h;cases h;exact⟨by apply ba_ext;rw[ba_app];rfl,fun m hm=>by cases hm⟩
   rw[wt_step h0] at h
   split at h
   ·cases h
   next h1 =>
   split at h
   ·cases h;exact⟨by apply ba_ext;rw[ba_app];rfl,fun m hm=>by cases hm⟩
   next h2 =>
   split at h
   ·next h3 =>
    have h5:=ln_5 h1;cases hw:wtM (b.extract (lnM (byN b 0)) b.size) with
    | none=>rw[hw] at h;cases h
    | some p =>
      rw[hw] at h;cases h;obtain⟨e1,e2⟩:=ih (b.extract (lnM (byN b 0)) b.size) p.1 p.2 (by rw[ByteArray.size_extract];omega) hw;obtain⟨d1,d2,_⟩:=dc_text h3;refine⟨?_,?_⟩
      ·apply ba_ext
       show _=((mgT _++mjT p.1)++p.2).data.toList;rw[ba_app,ba_app,List.append_assoc,←ba_app (mjT p.1),←e1,d1,ba_ex,ba_ex,List.drop_zero];have hl:b.data.toList.length=b.size:=(Lib.size_eq b).symm;rw[List.take_of_length_le (l:=b.data.toList) (i:=b.size) (by omega)];exact (List.take_append_drop _ _).symm
      intro m hm
      rcases List.mem_cons.1 hm with rfl | hm
      ·exact d2
      exact e2 m hm
   cases h
def preM (r:ByteArray):Prop:=r.size=0∨(lnM (byN r 0)≠0∧r.size<lnM (byN r 0))
theorem wt_pre {r:ByteArray}(h:preM r):wtM r=some ([],r):=by
 by_cases h0:r.size=0
 ·exact wt_0 h0
 rcases h with h | ⟨h1,h2⟩
 ·exact absurd h h0
 rw[wt_step h0,if_neg h1,if_pos h2]
theorem wt_back {L:List Mg}{r:ByteArray}(h:okM L)(hr:preM r):wtM (mjT L++r)=some (L,r):=by
 induction L with
 | nil =>
   have e:mjT []++r=r:=by apply ba_ext;rw[ba_app];rfl
   rw[e];exact wt_pre hr
 | cons m l ih =>
   have hm:=h m List.mem_cons_self;have ih:=ih (fun x hx=>h x (List.mem_cons_of_mem _ hx));obtain⟨s1,s2⟩:=mg_len hm;have s3:5≤(mgT m).size:=by rw[s2];split <;> omega
   have e:mjT (m :: l)++r=mgT m++(mjT l++r):=by
    apply ba_ext
    rw[mjT,ba_app,ba_app,ba_app,ba_app,List.append_assoc]
   rw[e];have hsz:(mgT m++(mjT l++r)).size=(mgT m).size+(mjT l++r).size:=ByteArray.size_append;have hb:byN (mgT m++(mjT l++r)) 0=byN (mgT m) 0:=byN_app (by omega);rw[wt_step (by omega),hb,←s1,if_neg (by omega),if_neg (by omega)];have hl:(mgT m).data.toList.length=(mgT m).size:=(Lib.size_eq _).symm;have x1:(mgT m++(mjT l++r)).extract 0 (mgT m).size=mgT m:=by
    apply ba_ext
    rw[ba_ex,ba_app,List.drop_zero,←hl,List.take_left]
   have x2:(mgT m++(mjT l++r)).extract (mgT m).size (mgT m++(mjT l++r)).size=mjT l++r:=by
    apply ba_ext
    rw[ba_ex,List.take_of_length_le (by rw[←Lib.size_eq];omega),ba_app (mgT m),←hl,List.drop_left]
   rw[x1,x2,ih,if_pos (dc_back hm).1,(dc_back hm).2];rfl
def mjE (L:List Mg)(k:Nat):Nat:=(mjT (L.take k)).size
theorem mje_0 (L:List Mg):mjE L 0=0:=rfl
theorem mje_all (L:List Mg){k:Nat}(h:L.length≤k):mjE L k=(mjT L).size:=by unfold mjE;rw[List.take_of_length_le h]
theorem mje_up (L:List Mg){k:Nat}(h:k<L.length):mjE L (k+1)=mjE L k+(mgT L[k]).size:=by
 unfold mjE;rw[List.take_succ_eq_append_getElem h,mj_snoc,ByteArray.size_append]
theorem mj_parts (L:List Mg)(k:Nat):(mjT L).data.toList=(mjT (L.take k)).data.toList++(mjT (L.drop k)).data.toList:=by
 rw[←ba_app,←mj_app,List.take_append_drop]
theorem wt_cut {L:List Mg}(h:okM L){k c:Nat}(hk:k≤L.length)(h1:mjE L k≤c)(h2:c≤(mjT L).size)(h3:k=L.length∨c<mjE L (k+1)):
 wtM ((mjT L).extract 0 c)=some (L.take k,(mjT L).extract (mjE L k) c):=by
 have hl:(mjT (L.take k)).data.toList.length=mjE L k:=(Lib.size_eq _).symm;have e:(mjT L).extract 0 c=mjT (L.take k)++(mjT L).extract (mjE L k) c:=by
  apply ba_ext
  rw[ba_app,ba_ex,ba_ex,List.drop_zero,mj_parts L k];have:List.take c ((mjT (L.take k)).data.toList++(mjT (L.drop k)).data.toList)=(mjT (L.take k)).data.toList++(mjT (L.drop k)).data.toList.take (c-mjE L k):=by
   rw[List.take_append,hl,List.take_of_length_le (by omega)]
  rw[this,←hl,List.drop_left]
 rw[e];refine wt_back (fun m hm=>h m (List.mem_of_mem_take hm)) ?_;by_cases hc:c=mjE L k
 ·left;rw[ByteArray.size_extract];omega
 right
 rcases h3 with h3 | h3
 ·exfalso
  rw[h3,mje_all L (nLQ _)] at hc h1;omega
 have hk2:k<L.length:=by
  rcases Nat.lt_or_ge k L.length with h4 | h4
  ·exact h4
  exfalso
  have:k=L.length:=by omega
  rw[this,mje_all L (nLQ _)] at hc h1;omega
 have hm:=h L[k] (List.getElem_mem hk2);obtain⟨s1,s2⟩:=mg_len hm;have hs:5≤(mgT L[k]).size:=by rw[s2];split <;> omega
 have hb:byN ((mjT L).extract (mjE L k) c) 0=byN (mgT L[k]) 0:=by
  have hd:((mjT L).extract (mjE L k) c).data.toList=(mjT (L.drop k)).data.toList.take (c-mjE L k):=by
   rw[ba_ex,List.drop_take,mj_parts L k,←hl,List.drop_left]
  have hg:(mgT L[k]).data.toList.length=(mgT L[k]).size:=(Lib.size_eq _).symm;unfold byN;rw[hd,List.getD_eq_getElem?_getD,List.getD_eq_getElem?_getD,List.getElem?_take,if_pos (by omega),List.drop_eq_getElem_cons hk2,mjT,ba_app,List.getElem?_append_left (by omega)]
 rw[hb,←s1,ByteArray.size_extract];have:=mje_up L hk2;omega
theorem cut_at (L:List Mg)(c:Nat):∀n,n≤L.length→∃k,k≤n∧mjE L k≤c∧(k=n∨c<mjE L (k+1))
 | 0,_=>⟨0,nLQ _,by rw[mje_0];omega,.inl rfl⟩
 | n+1,hn=>by
   obtain⟨k,h1,h2,h3⟩:=cut_at L c n (by omega)
   rcases h3 with rfl | h3
   ·by_cases h:mjE L (k+1)≤c
    ·exact⟨k+1,nLQ _,h,.inl rfl⟩
    exact⟨k,by omega,h2,.inr (by omega)⟩
   exact⟨k,by omega,h2,.inr h3⟩
theorem cut_both {L:List Mg}(h:okM L){c:Nat}(hc:c≤(mjT L).size):
 ∃k r,k≤L.length∧wtM ((mjT L).extract 0 c)=some (L.take k,r)∧wtM (r++(mjT L).extract c (mjT L).size)=some (L.drop k,ByteArray.empty):=by
 obtain⟨k,h1,h2,h3⟩:=cut_at L c L.length (nLQ _);refine⟨k,(mjT L).extract (mjE L k) c,h1,wt_cut h h1 h2 hc h3,?_⟩;have hl:(mjT (L.take k)).data.toList.length=mjE L k:=(Lib.size_eq _).symm;have hs:(mjT L).data.toList.length=(mjT L).size:=(Lib.size_eq _).symm;have e:(mjT L).extract (mjE L k) c++(mjT L).extract c (mjT L).size=mjT (L.drop k)++ByteArray.empty:=by
  rw[app_empty]
  apply ba_ext
  rw[ba_app,ba_ex,ba_ex];have h4:(mjT L).data.toList.take (mjT L).size=(mjT L).data.toList:=by rw[←hs,List.take_length]
  rw[h4];have h5:((mjT L).data.toList.take c).drop (mjE L k)++(mjT L).data.toList.drop c=(mjT L).data.toList.drop (mjE L k):=by
   have h6:(mjT L).data.toList.drop (mjE L k)=((mjT L).data.toList.take c++(mjT L).data.toList.drop c).drop (mjE L k):=by rw[List.take_append_drop]
   rw[h6,List.drop_append,List.length_take,Nat.min_eq_left (by omega)];have h7:mjE L k-c=0:=by omega
   rw[h7,List.drop_zero]
  rw[h5,mj_parts L k,List.drop_append,hl,Nat.sub_self,List.drop_zero];have h8:(mjT (L.take k)).data.toList.drop (mjE L k)=[]:=List.drop_eq_nil_iff.2 (by omega);rw[h8,List.nil_append]
 rw[e];exact wt_back (fun m hm=>h m (List.mem_of_mem_drop hm)) (.inl rfl)
def agH (s:Int)(a:AgT)(L:List Mg):AgT:=L.foldl (hrS s) a
theorem ah_app (s:Int)(a:AgT)(L M:List Mg):agH s a (L++M)=agH s (agH s a L) M:=List.foldl_append ..
theorem tos_next {M:List Mg}{k:Nat}(hk:k<M.length)(s:Int):toS (M.take (k+1)) s=toS (M.take k) s++(if M[k].s=s then [M[k]] else []):=by
 rw[List.take_succ_eq_append_getElem hk,to_app]
 congr 1
 by_cases h:M[k].s=s
 ·rw[if_pos h];simp[toS,h]
 rw[if_neg h];simp[toS,h]
theorem ah_do {t:List Ru}{s:Int}(hs:1≤s∧s≤6):∀(l:List Op8) (L:List Op8) (n:Nat),L.length≤200→n+l.length=L.length→(∀i (h:i<l.length) (h2:n+i<L.length),L[n+i]=l[i])→(∀o∈l,o.w=s∧o.r.n=0) →
 agH s (zoS t L n) (sdM 0 s n l)=zoS t L (n+l.length)
 | [],L,n,_,_,_,_=>rfl
 | o :: l,L,n,h200,hl,he,ho=>by
   rw[List.length_cons] at hl ⊢;have ho1:=ho o (by simp);have hn:n<L.length:=by omega
   have h0:L[n]=o:=by
    have:=he 0 (by simp) (by omega);simpa using this
   have hm:mgN ⟨1,s,0,(n:Int),L[n]⟩=0:=by
    have hR:mgR ⟨1,s,0,(n:Int),L[n]⟩=true:=mg_rng.2 ⟨⟨by show (1:Int)≤1;omega,by show (1:Int)≤3;omega⟩,hs,⟨by show (0:Int)≤0;omega,by show (0:Int)≤19;omega⟩,⟨by show (0:Int)≤(n:Int);omega,by show (n:Int)≤200;omega⟩⟩;rw[mgN,if_pos hR,if_pos rfl];show moN L[n] s=0;rw[moN,h0,if_pos ho1.2,if_pos ho1.1]
   have h1:=(zo_do (t:=t) hn hm).2.1;rw[h0] at h1;rw[sdM,if_pos ho1.1];show agH s (hrS s (zoS t L n) ⟨1,s,0,(n:Int),o⟩) (sdM 0 s (n+1) l)=_;rw[h1,ah_do hs l L (n+1) h200 (by omega) (fun i h h2=>by
    have:=he (i+1) (by simp;omega) (by omega);simpa[Nat.add_assoc,Nat.add_comm 1 i] using this) (fun x hx=>ho x (by simp[hx]))]
   congr 1
   omega
theorem ah_say {t:List Ru}{s:Int}{r:List Op8}(hs:1≤s∧s≤6)(hr:r.length≤200)(ho:∀o∈r,o.r.n=0):agH s (ag0 t) (sayS r 0 s)=zaS t (forS r s):=by
 have hf:∀o∈forS r s,o.w=s∧o.r.n=0:=fun o h=>by
  obtain⟨h1,h2⟩:=List.mem_filter.1 h;exact⟨by simpa using h2,ho o h1⟩
 have hl:(forS r s).length≤200:=Nat.le_trans (List.length_filter_le _ _) hr;have h1:=ah_do (t:=t) hs (forS r s) (forS r s) 0 hl (by omega) (fun i h h2=>by simp) hf;rw[Nat.zero_add] at h1;rw[sayS,ah_app,sd_for,←for_cnt];show agH s (agH s (zoS t (forS r s) 0) (sdM 0 s 0 (forS r s))) _=_;rw[h1];exact (zo_ask (sa_right ⟨by omega,by omega⟩ hs hl)).2.1
def geS (l:List Int)(s:Int):List Int:=l.filter fun x=>decide (s≤x)
theorem ge_no {l:List Int}{s x:Int}(h:x<s):geS (x :: l) s=geS l s:=by
 have hn:¬s≤x:=by omega
 simp[geS,hn]
theorem ge_in {l:List Int}{s:Int}(h:Ris ltI l)(hs:s∈l):geS l s=s :: geS l (s+1):=by
 induction l with
 | nil=>cases hs
 | cons x l ih =>
   obtain⟨h1,h2⟩:=List.pairwise_cons.1 h;have hlt:∀y∈l,x<y:=fun y hy=>by simpa[ltI] using h1 y hy
   rcases List.mem_cons.1 hs with rfl | hs
   ·have e1:geS (s :: l) s=s :: geS l s:=by simp[geS]
    have e2:geS (s :: l) (s+1)=geS l (s+1):=ge_no (by omega);have e3:geS l s=geS l (s+1):=List.filter_congr fun y hy=>by
     have:=hlt y hy;rw[decide_eq_decide];omega
    rw[e1,e2,e3]
   have hx:=hlt s hs;have e1:geS (x :: l) s=geS l s:=ge_no (by omega);have e2:geS (x :: l) (s+1)=geS l (s+1):=ge_no (by omega);rw[e1,e2];exact ih h2 hs
theorem ge_out {l:List Int}{s:Int}(hs:s ∉ l):geS l s=geS l (s+1):=List.filter_congr fun y hy=>by
 have:y≠s:=fun e=>hs (e ▸ hy)
 rw[decide_eq_decide];omega
theorem ge_all {l:List Int}(h:∀x∈l,1≤x):geS l 1=l:=List.filter_eq_self.2 fun x hx=>by simpa using h x hx
theorem ge_none {l:List Int}{s:Int}(h:∀x∈l,x<s):geS l s=[]:=List.filter_eq_nil_iff.2 fun x hx=>by have:=h x hx;simp;omega
def NO (w:World)(B:Nat)(v:Value)(L:List Op8):Prop:=w.ownsRow B 49 8 v L.length (cellsG opE L)
theorem NO.gs {w:World}{B:Nat}{v:Value}{L:List Op8}(h:NO w B v L):GS opE w v L:=own_GS (E:=opE) h
theorem NO.nil (w:World)(B:Nat):NO w B (.slice none 0 0) []:=World.ownsRow_nil w B _ 8
theorem NO.mono {w:World}{B B':Nat}{v:Value}{L:List Op8}(h:NO w B v L)(hB:B'≤B):NO w B' v L:=by
 obtain⟨h1,h2 | ⟨g,cap,cur,hv,hb,h3⟩⟩:=h
 ·exact⟨h1,.inl h2⟩
 exact⟨h1,.inr ⟨g,cap,cur,hv,Nat.le_trans hB hb,h3⟩⟩
theorem NO.later {w w':World}{B:Nat}{v:Value}{L:List Op8}(h:NO w B v L)(hb:Below w.heap.size w w'):NO w' B v L:=h.kept (grown_below hb) (none_or _)
theorem NO.ofn {w:World}{B n:Nat}{v:Value}{M L:List Op8}(h:w.ownsRow B 49 8 v n (cellsG opE M))(hL:M=L)(hn:n=L.length):NO w B v L:=by subst hL hn;exact h
theorem NR.ofn {w:World}{B n:Nat}{v:Value}{M:List Ru}(h:w.ownsRow B 47 6 v n (cellsR M))(hn:n=M.length):NR w B v M:=by subst hn;exact h
theorem ta_info:(Tryz.prog.info? 58).map (fun i=>(i.zero,i.size,i.bytes))=some (some (.slice none 0 0),1,24):=by kernel_rfl
theorem NR.sl {w:World}{B:Nat}{v:Value}{L:List Ru}(h:NR w B v L):∃x:SlT,v=slV x∧∀b,b<B→offB x b:=by
 rcases h.2 with ⟨rfl,h0⟩ | ⟨g,cap,cur,rfl,hg,_⟩
 ·exact⟨(none,0,0),rfl,fun b _=>.inl rfl⟩
 refine⟨(some ⟨g,0,none⟩,L.length,cap),rfl,fun b hb=>.inr fun a ha=>?_⟩;cases ha;show g≠b;omega
theorem GS.off {α:Type}{E:Enc α}{w:World}{x:SlT}{L:List α}(h:GS E w (slV x) L){b:Nat}(hb:w.heap.size≤b):offB x b:=by
 obtain⟨ao,n,cap⟩:=x
 rcases h with ⟨ao',cap',e,rfl⟩ | ⟨g,o,cap',e,h1,h2,h3⟩
 ·simp only[slV,Value.slice.injEq] at e;exact .inl e.2.1
 simp only[slV,Value.slice.injEq] at e;obtain⟨rfl,rfl,rfl⟩:=e;by_cases h0:L.length=0
 ·exact .inl h0
 refine .inr fun a ha=>?_
 cases ha;have hp:=E.pos;have hl:=E.len L[0];have hc:=h3 0 (by omega) 0 _ (List.getElem?_eq_getElem (by rw[hl];exact hp));have:=bLQ _ _ hc;show g≠b;have:g<w.heap.size:=this;omega
theorem GS.grown {α:Type}{E:Enc α}{w w':World}{x:SlT}{L:List α}{row:Option Nat}(h:GS E w (slV x) L)(hg:w.grownBy w' row)(ho:∀b,row=some b→offB x b):GS E w' (slV x) L:=by
 obtain⟨ao,n,cap⟩:=x
 rcases h with ⟨ao',cap',e,rfl⟩ | ⟨g,o,cap',e,h1,h2,h3⟩
 ·exact .inl ⟨ao',cap',e,rfl⟩
 simp only[slV,Value.slice.injEq] at e;obtain⟨rfl,rfl,rfl⟩:=e;by_cases h0:L.length=0
 ·exact .inl ⟨_,_,by rw[slV,h0],List.length_eq_zero_iff.1 h0⟩
 have hne:some g≠row:=by
  intro e
  rcases ho g e.symm with h4 | h4
  ·exact h0 h4
  exact h4 _ rfl rfl
 exact .inr ⟨g,o,cap,rfl,h1,h2,fun i hi j u hu=>hg.cell (h3 i hi j u hu) hne⟩
def RS (w:World)(v:Value)(Rs:List (List Op8)):Prop:=∃vs:List SlT,GS slE w v vs∧vs.length=Rs.length∧∀(i:Nat) (x:SlT) (L:List Op8),vs[i]?=some x→Rs[i]?=some L→GS opE w (slV x) L
theorem RS.later {w w':World}{v:Value}{Rs:List (List Op8)}(h:RS w v Rs)(hb:Below w.heap.size w w'):RS w' v Rs:=by
 obtain⟨vs,h1,h2,h3⟩:=h;exact⟨vs,h1.later hb,h2,fun i x L a b=>(h3 i x L a b).later hb⟩
theorem RS.nil (w:World):RS w (.slice none 0 0) []:=⟨[],GS.nil _,rfl,fun i x L h=>by simp at h⟩
theorem RS.at {w:World}{ao:AdQ}{n cap:Nat}{Rs:List (List Op8)}(h:RS w (.slice ao n cap) Rs){i:Nat}(hi:i<n):∃(g o:Nat) (L:List Op8) (a1:AdQ) (n1 c1:Nat),ao=some ⟨g,o,none⟩∧Rs[i]?=some L∧w.cell? ⟨g,o+i,none⟩=some (.slice a1 n1 c1)∧GS opE w (.slice a1 n1 c1) L:=by
 obtain⟨vs,h1,h2,h3⟩:=h;obtain⟨_,_,_,e,hn,_,_,ha⟩:=h1.form;cases e;obtain⟨g,o,rfl,hat,_⟩:=ha (by omega);have hv:i<vs.length:=by omega
 have hr:i<Rs.length:=by omega
 have hc:=hat i hv 0 _ rfl;have e2:o+i*slE.n+0=o+i:=by show o+i*1+0=o+i;omega
 rw[e2] at hc;exact⟨g,o,Rs[i],vs[i].1,vs[i].2.1,vs[i].2.2,rfl,List.getElem?_eq_getElem hr,hc,h3 i vs[i] Rs[i] (List.getElem?_eq_getElem hv) (List.getElem?_eq_getElem hr)⟩
theorem RS.len {w:World}{ao:AdQ}{n cap:Nat}{Rs:List (List Op8)}(h:RS w (.slice ao n cap) Rs):Rs.length=n:=by
 obtain⟨vs,h1,h2,_⟩:=h;obtain⟨_,_,_,e,hn,_⟩:=h1.form;cases e;omega
theorem RS.form {w:World}{v:Value}{Rs:List (List Op8)}(h:RS w v Rs):∃ao n cap,v=.slice ao n cap∧Rs.length=n∧n≤maxLen∧n≤cap:=by
 obtain⟨vs,h1,h2,_⟩:=h;obtain⟨ao,n,cap,e,hn,h3,h4,_⟩:=h1.form;exact⟨ao,n,cap,e,by omega,h3,h4⟩
structure OR (w:World)(B:Nat)(v:Value)(vs:List SlT)(Rs:List (List Op8)):Prop where
 ov:w.ownsRow B 90 slE.n v vs.length (cellsG slE vs)
 lv:vs.length=Rs.length
 rv:∀(i:Nat) (x:SlT) (L:List Op8),vs[i]?=some x→Rs[i]?=some L→GS opE w (slV x) L∧∀b,v.ownBlock=some b→offB x b
section
variable {w w':World}{B:Nat}{v:Value}{vs:List SlT}{Rs:List (List Op8)}
theorem or_nil (w:World)(B:Nat):OR w B (.slice none 0 0) [] []:=⟨World.ownsRow_nil w B _ slE.n,rfl,fun i x L h=>by simp at h⟩
theorem OR.later (h:OR w B v vs Rs)(hb:Below w.heap.size w w'):OR w' B v vs Rs:=
 ⟨h.ov.kept (grown_below hb) (none_or _),h.lv,fun i x L h1 h2=>⟨(h.rv i x L h1 h2).1.later hb,(h.rv i x L h1 h2).2⟩⟩
theorem OR.push (h:OR w B v vs Rs){x:SlT}{L:List Op8}(hx:GS opE w (slV x) L){v':Value}(hox:∀b,v.ownBlock=some b→offB x b)
 (hg:w.grownBy w' v.ownBlock) (ho:w'.ownsRow B 90 slE.n v' (vs++[x]).length (cellsG slE (vs++[x]))) (hb:v'.ownBlock=v.ownBlock∨v'.ownBlock=some w.heap.size):OR w' B v' (vs++[x]) (Rs++[L]):=by
 have one:∀{y:SlT} {M:List Op8},GS opE w (slV y) M→(∀b,v.ownBlock=some b→offB y b)→GS opE w' (slV y) M∧∀b,v'.ownBlock=some b→offB y b:=by
  intro y M h1 h2;refine⟨h1.grown hg h2,fun b hv=>?_⟩
  rcases hb with hb | hb
  ·exact h2 b (by rw[←hb];exact hv)
  rw[hb] at hv;cases hv;exact h1.off (nLQ _)
 refine⟨ho,by simp[h.lv],fun i y M h1 h2=>?_⟩;by_cases hi:i<vs.length
 ·rw[List.getElem?_append_left hi] at h1;rw[List.getElem?_append_left (by rw[←h.lv];exact hi)] at h2;obtain⟨a1,a2⟩:=h.rv i y M h1 h2;exact one a1 a2
 have hi2:i=vs.length:=by
  have:=(List.getElem?_eq_some_iff.1 h1).1;simp at this;omega
 subst hi2;simp at h1;rw[h.lv] at h2;simp at h2;subst h1 h2;exact one hx hox
theorem NO.sl2 {w:World}{B:Nat}{v:Value}{L:List Op8}(h:NO w B v L):∃x:SlT,v=slV x∧∀b,b<B→offB x b:=by
 rcases h.2 with ⟨h3,_⟩ | ⟨g,cap,cur,h3,hb,_⟩
 ·exact⟨(none,0,0),h3,fun b _=>.inl rfl⟩
 refine⟨(some ⟨g,0,none⟩,L.length,cap),h3,fun b hlt=>.inr fun a ha=>?_⟩;cases ha;show g≠b;omega
end
theorem rd_info:(Tryz.prog.info? 90).map (fun i=>(i.zero,i.size,i.bytes))=some (some (.slice none 0 0),1,24):=by kernel_rfl
end
section
open Go.ChangeShapes Go.WideShapes Go.ChangeAt Go.RowKit Go.Joins
def msgE:Enc (Mg) where
 c:=fun x=>[.int i64 x.k,.int i64 x.s,.int i64 x.r,.int i64 x.i,.int i64 x.o.w,.bool x.o.a,.int i64 x.o.r.p,.int i64 x.o.r.m,.int i64 x.o.r.b,.int i64 x.o.r.o,.int i64 x.o.r.s,.int i64 x.o.r.v]
 n:=12
 len:=fun _=>rfl
 pos:=by decide
 one:=by
  intro x u hu;simp at hu
  rcases hu with rfl | rfl | rfl | rfl | rfl | rfl | rfl | rfl | rfl | rfl | rfl | rfl <;> rfl
theorem msg_cells {w:World}{g o:Nat}{x0 x1 x2 x3 x4:Int}{x5:Bool}{x6 x7 x8 x9 x10 x11:Int}(h:VAt w g o (msgE.c ⟨x0,x1,x2,x3,⟨x4,x5,⟨x6,x7,x8,x9,x10,x11⟩⟩⟩)):w.cell? ⟨g,o,none⟩=some (.int i64 x0)∧w.cell? ⟨g,o+1,none⟩=some (.int i64 x1)∧w.cell? ⟨g,o+2,none⟩=some (.int i64 x2)∧w.cell? ⟨g,o+3,none⟩=some (.int i64 x3)∧w.cell? ⟨g,o+4,none⟩=some (.int i64 x4)∧w.cell? ⟨g,o+5,none⟩=some (.bool x5)∧w.cell? ⟨g,o+6,none⟩=some (.int i64 x6)∧w.cell? ⟨g,o+7,none⟩=some (.int i64 x7)∧w.cell? ⟨g,o+8,none⟩=some (.int i64 x8)∧w.cell? ⟨g,o+9,none⟩=some (.int i64 x9)∧w.cell? ⟨g,o+10,none⟩=some (.int i64 x10)∧w.cell? ⟨g,o+11,none⟩=some (.int i64 x11):=
 ⟨h 0 _ rfl,h 1 _ rfl,h 2 _ rfl,h 3 _ rfl,h 4 _ rfl,h 5 _ rfl,h 6 _ rfl,h 7 _ rfl,h 8 _ rfl,h 9 _ rfl,h 10 _ rfl,h 11 _ rfl⟩
theorem msg_at {w:World}{g o:Nat}{L:List (Mg)}(h:GAt msgE w g o L){n k:Nat}(hn:L.length=n)(hk:k<n):
 ∃(x0:Int) (x1:Int) (x2:Int) (x3:Int) (x4:Int) (x5:Bool) (x6:Int) (x7:Int) (x8:Int) (x9:Int) (x10:Int) (x11:Int) (hl:k<L.length),L[k]=⟨x0,x1,x2,x3,⟨x4,x5,⟨x6,x7,x8,x9,x10,x11⟩⟩⟩∧w.cell? ⟨g,o+k*12,none⟩=some (.int i64 x0)∧w.cell? ⟨g,o+k*12+1,none⟩=some (.int i64 x1)∧w.cell? ⟨g,o+k*12+2,none⟩=some (.int i64 x2)∧w.cell? ⟨g,o+k*12+3,none⟩=some (.int i64 x3)∧w.cell? ⟨g,o+k*12+4,none⟩=some (.int i64 x4)∧w.cell? ⟨g,o+k*12+5,none⟩=some (.bool x5)∧w.cell? ⟨g,o+k*12+6,none⟩=some (.int i64 x6)∧w.cell? ⟨g,o+k*12+7,none⟩=some (.int i64 x7)∧w.cell? ⟨g,o+k*12+8,none⟩=some (.int i64 x8)∧w.cell? ⟨g,o+k*12+9,none⟩=some (.int i64 x9)∧w.cell? ⟨g,o+k*12+10,none⟩=some (.int i64 x10)∧w.cell? ⟨g,o+k*12+11,none⟩=some (.int i64 x11):=
 have hl:k<L.length:=by omega
 ⟨_,_,_,_,_,_,_,_,_,_,_,_,hl,rfl,msg_cells (h k hl)⟩
theorem msg_new (w:World)(x0 x1 x2 x3 x4:Int)(x5:Bool)(x6 x7 x8 x9 x10 x11:Int)(t:TypeId):VAt (w.alloc (.cells #[.int i64 x0,.int i64 x1,.int i64 x2,.int i64 x3,.int i64 x4,.bool x5,.int i64 x6,.int i64 x7,.int i64 x8,.int i64 x9,.int i64 x10,.int i64 x11] t)) w.heap.size 0 (msgE.c ⟨x0,x1,x2,x3,⟨x4,x5,⟨x6,x7,x8,x9,x10,x11⟩⟩⟩):=vat_new w [.int i64 x0,.int i64 x1,.int i64 x2,.int i64 x3,.int i64 x4,.bool x5,.int i64 x6,.int i64 x7,.int i64 x8,.int i64 x9,.int i64 x10,.int i64 x11] t
theorem msg_row (w:World)(x0 x1 x2 x3 x4:Int)(x5:Bool)(x6 x7 x8 x9 x10 x11:Int)(t:TypeId):GS msgE (w.alloc (.cells #[.int i64 x0,.int i64 x1,.int i64 x2,.int i64 x3,.int i64 x4,.bool x5,.int i64 x6,.int i64 x7,.int i64 x8,.int i64 x9,.int i64 x10,.int i64 x11] t)) (.slice (some ⟨w.heap.size,0,none⟩) 1 1) [⟨x0,x1,x2,x3,⟨x4,x5,⟨x6,x7,x8,x9,x10,x11⟩⟩⟩]:=gs_one (E:=msgE) w ⟨x0,x1,x2,x3,⟨x4,x5,⟨x6,x7,x8,x9,x10,x11⟩⟩⟩ t (vs:=[.int i64 x0,.int i64 x1,.int i64 x2,.int i64 x3,.int i64 x4,.bool x5,.int i64 x6,.int i64 x7,.int i64 x8,.int i64 x9,.int i64 x10,.int i64 x11]) rfl
theorem msg_info:(Tryz.prog.info? 51).map (fun i=>(i.zero,i.size,i.bytes))=some (some (.agg #[.int i64 0,.int i64 0,.int i64 0,.int i64 0,.int i64 0,.bool false,.int i64 0,.int i64 0,.int i64 0,.int i64 0,.int i64 0,.int i64 0]),12,96):=by kernel_rfl
theorem msg_zero:(Value.agg #[.int i64 0,.int i64 0,.int i64 0,.int i64 0,.int i64 0,.bool false,.int i64 0,.int i64 0,.int i64 0,.int i64 0,.int i64 0,.int i64 0]).cells.size=12:=by simp[Value.cells]
end
section
open Go.RowKit
theorem own_kb {w w':World}{base e size n:Nat}{v:Value}{xs:List Value}{p:Nat→Prop}(h:w.ownsRow base e size v n xs)(hk:Kb p w w')(hp:∀b,v.ownBlock=some b→p b):w'.ownsRow base e size v n xs:=by
 refine⟨h.1,?_⟩;have hl:=h.lt
 rcases h.2 with hn | ⟨g,cap,cur,rfl,hb,hg,rest⟩
 ·exact .inl hn
 exact .inr ⟨g,cap,cur,rfl,hb,(hk.block g (hl g rfl).2 (hp g rfl)).trans hg,rest⟩
theorem SR.kb {w w':World}{x:SlT}{L:List Ru}{p:Nat→Prop}(h:SR w (slV x) L)(hk:Kb p w w')(hp:x.2.1=0∨∀ad,x.1=some ad→p ad.block):SR w' (slV x) L:=by
 obtain⟨ao,n,cap⟩:=x
 rcases h with ⟨ao',cap',e,rfl⟩ | ⟨g,o,cap',e,h1,h2,h3⟩
 ·exact .inl ⟨ao',cap',e,rfl⟩
 simp only[slV,Value.slice.injEq] at e;obtain⟨rfl,rfl,rfl⟩:=e;by_cases h0:L.length=0
 ·exact .inl ⟨_,_,by rw[slV,h0],List.length_eq_zero_iff.1 h0⟩
 have hq:p g:=by
  rcases hp with h4 | h4
  ·exact absurd h4 h0
  exact h4 _ rfl
 refine .inr ⟨g,o,cap,rfl,h1,h2,fun i hi=>?_⟩;obtain⟨c0,c1,c2,c3,c4,c5⟩:=h3 i hi;exact⟨hk.at c0 hq,hk.at c1 hq,hk.at c2 hq,hk.at c3 hq,hk.at c4 hq,hk.at c5 hq⟩
abbrev DrP:Type:=World→Nat→Nat→(Nat→Prop)→DrT→Prop
theorem gs_kept {α:Type}{E:Enc α}{W W':World}{ao:AdQ}{n c:Nat}{L:List α}{p:Nat→Prop}(h:GS E W (.slice ao n c) L)(hk:Kb p W W')(hp:L=[]∨∀ad,ao=some ad→p ad.block):GS E W' (.slice ao n c) L:=by
 rcases h with ⟨ao',cap',e,rfl⟩ | ⟨g,o,cap',e,h1,h2,h3⟩
 ·exact .inl ⟨ao',cap',e,rfl⟩
 rcases hp with rfl | hp
 ·cases e;exact .inl ⟨_,_,rfl,rfl⟩
 cases e;have hq:p g:=hp ⟨g,o,none⟩ rfl;exact .inr ⟨g,o,c,rfl,h1,h2,fun i hi j u hu=>hk.at (h3 i hi j u hu) hq⟩
def DvA (Pd:DrP)(w:World)(p B0:Nat)(O:Nat→Prop)(D':DrT)(a1:AdQ)(n1 c1:Nat)(l:List Mg)(w':World):Prop:=
 GS msgE w' (.slice a1 n1 c1) l∧(∀ad,a1=some ad→w.heap.size≤ad.block) ∧
  ∃O',Pd w' p B0 O' D'∧(∀b,O' b→O b∨w.heap.size≤b)∧(∀ad,a1=some ad→¬O' ad.block)∧Kb (fun b=>¬O b) w w'
def DvN (Pd:DrP)(vE:Int→Value)(w:World)(p B0:Nat)(O:Nat→Prop)(D':DrT)(E:Int)(l:List Mg)(e:Ending)(w':World):Prop:=
 ∃a1 n1 c1,e=.returned (.tuple #[.slice a1 n1 c1,vE E])∧DvA Pd w p B0 O D' a1 n1 c1 l w'
def DvT (Pd:DrP)(w:World)(p B0:Nat)(O:Nat→Prop)(D':DrT)(l:List Mg)(e:Ending)(w':World):Prop:=
 ∃a1 n1 c1,e=.returned (.slice a1 n1 c1)∧DvA Pd w p B0 O D' a1 n1 c1 l w'
def DvH (Pd:DrP)(vE:Int→Value)(w:World)(p B0:Nat)(O:Nat→Prop)(D':DrT)(E:Int)(e:Ending)(w':World):Prop:=
 e=.returned (vE E)∧∃O',Pd w' p B0 O' D'∧(∀b,O' b→O b∨w.heap.size≤b)∧Kb (fun b=>¬O b) w w'
structure PdI (Pd:DrP):Prop where
 kb:∀{W W':World} {p B0:Nat} {O:Nat→Prop} {D:DrT},Pd W p B0 O D→Kb (fun b=>b<B0∨O b) W W'→Pd W' p B0 O D
 lt:∀{W:World} {p B0:Nat} {O:Nat→Prop} {D:DrT},Pd W p B0 O D→∀b,O b→B0≤b∧b<W.heap.size
 new:∀(ao:AdQ) (n c:Nat) (L:List (List Op8)) (T:Int) (B0:Nat) (w:World),(∀V,Below B0 w V→RS V (.slice ao n c) L)→B0≤w.heap.size →
  Calls prog 6 #[.slice ao n c,.int i64 T] w fun e w'=>∃v,e=.returned (.tuple #[v,noV (rsF L T)])∧Below w.heap.size w w'∧(rsF L T=0→∃p O,v=.pointer (some ⟨p,0,none⟩)∧Pd w' p B0 O (dr0 L T)∧∀b,O b→w.heap.size≤b)
 next:∀{p B0:Nat} {O:Nat→Prop} {D:DrT} {k:Nat} (w:World),Pd w p B0 O D→DrOK D k→k≤100000 →
  Calls prog 7 #[.pointer (some ⟨p,0,none⟩)] w fun e w'=>DvN Pd noV w p B0 O (nxS D) (nxN D) (nxA D) e w'
 hear:∀{p B0:Nat} {O:Nat→Prop} {D:DrT} {k:Nat} (x0 x1 x2 x3 x4:Int) (x5:Bool) (x6 x7 x8 x9 x10 x11:Int) (w:World),Pd w p B0 O D→DrOK D k→k≤100000 →
  Calls prog 13 #[.pointer (some ⟨p,0,none⟩),.agg #[.int i64 x0,.int i64 x1,.int i64 x2,.int i64 x3,.int i64 x4,.bool x5,.int i64 x6,.int i64 x7,.int i64 x8,.int i64 x9,.int i64 x10,.int i64 x11]] w fun e w' =>
   DvH Pd noV w p B0 O (dhS D ⟨x0,x1,x2,x3,⟨x4,x5,⟨x6,x7,x8,x9,x10,x11⟩⟩⟩) (dhN D ⟨x0,x1,x2,x3,⟨x4,x5,⟨x6,x7,x8,x9,x10,x11⟩⟩⟩) e w'
 done:∀{p B0:Nat} {O:Nat→Prop} {D:DrT} {k:Nat} (w:World),Pd w p B0 O D→DrOK D k→k≤100000 →
  Calls prog 16 #[.pointer (some ⟨p,0,none⟩)] w fun e w'=>e=.returned (.bool (doneD D))∧Below w.heap.size w w'
structure AgOK (a:AgT)(k:Nat):Prop where
 m:a.m.length=20
 y:∀y∈a.m,y≤1000
 l:a.l.length≤k
 d:a.d.length≤k
 t:tbN a.t=0
 r:∀q∈a.l,q.o.r.n=0
theorem ok_new {t:List Ru}(h:tbN t=0):AgOK (ag0 t) 0:=by
 refine⟨by simp[ag0],fun y hy=>?_,by simp[ag0],by simp[ag0],h,fun q hq=>by simp[ag0] at hq⟩;have:y = -1:=by
  have h1:y∈List.replicate 20 (-1:Int):=hy;exact (List.mem_replicate.1 h1).2
 omega
theorem AgOK.mono {a:AgT}{k k':Nat}(h:AgOK a k)(hk:k≤k'):AgOK a k':=⟨h.m,h.y,Nat.le_trans h.l hk,Nat.le_trans h.d hk,h.t,h.r⟩
theorem ok_hr {a:AgT}{k:Nat}{n:Int}{m:Mg}(h:AgOK a k):AgOK (hrS n a m) (k+1):=by
 unfold hrS
 split
 ·next hc =>
  have hz:=hr_zero.1 hc.1;have hR:=mg_rng.1 (mg_1 hz.1).1
  split
  ·split
   ·refine⟨by rw[List.length_set];exact h.m,fun y hy=>?_,Nat.le_succ_of_le h.l,Nat.le_succ_of_le h.d,h.t,h.r⟩
    rcases List.mem_or_eq_of_mem_set hy with h1 | rfl
    ·exact h.y y h1
    omega
   exact h.mono (Nat.le_succ k)
  next h2 =>
  split
  ·exact h.mono (Nat.le_succ k)
  refine⟨h.m,h.y,by have:=h.l;simp;omega,Nat.le_succ_of_le h.d,h.t,fun q hq=>?_⟩
  rcases List.mem_append.1 hq with h1 | h1
  ·exact h.r q h1
  rw[List.mem_singleton] at h1;subst h1;exact ((mg_1 hz.1).2.1 (by omega)).1
 exact h.mono (Nat.le_succ k)
theorem ok_wk {a:AgT}{k:Nat}(h:AgOK a k):AgOK (wkS a) (k+1):=by
 unfold wkS
 split
 ·exact h.mono (Nat.le_succ k)
 refine⟨h.m,h.y,Nat.le_succ_of_le h.l,by have:=h.d;simp;omega,?_,h.r⟩;show tbN (wkTab a.t _)=0;unfold wkTab
 split
 ·next h1=>exact al_right _ _ h.t h1
 exact h.t
def HrG (Pg:World→Nat→Nat→(Nat→Prop)→Int→AgT→Prop)(vE:Int→Value)(w:World)(p B0:Nat)(O:Nat→Prop)(N:Int)(a':AgT)(E:Int)(l:List Mg)(e:Ending)(w':World):Prop:=
 ∃ a1 n1 c1,e=.returned (.tuple #[.slice a1 n1 c1,vE E])∧GS msgE w' (.slice a1 n1 c1) l∧(∀ad,a1=some ad→w.heap.size≤ad.block) ∧
   ∃O',Pg w' p B0 O' N a'∧(∀b,O' b→O b∨w.heap.size≤b)∧(∀ad,a1=some ad→¬O' ad.block)∧Kb (fun b=>¬O b) w w'
def nwN (n:Int)(t:List Ru):Int:=if 1≤n∧n≤6 then tbN t else 1
structure PgI (Pg:World→Nat→Nat→(Nat→Prop)→Int→AgT→Prop):Prop where
 kb:∀{W W':World} {p B0:Nat} {O:Nat→Prop} {n:Int} {a:AgT},Pg W p B0 O n a→Kb (fun b=>b<B0∨O b) W W'→Pg W' p B0 O n a
 lt:∀{W:World} {p B0:Nat} {O:Nat→Prop} {n:Int} {a:AgT},Pg W p B0 O n a→∀b,O b→B0≤b∧b<W.heap.size
 hear:∀{p B0:Nat} {O:Nat→Prop} {N:Int} {a:AgT} {k:Nat} (x0 x1 x2 x3 x4:Int) (x5:Bool) (x6 x7 x8 x9 x10 x11:Int) (w:World),Pg w p B0 O N a→AgOK a k→k≤1000 →
  Calls prog 11 #[.pointer (some ⟨p,0,none⟩),.agg #[.int i64 x0,.int i64 x1,.int i64 x2,.int i64 x3,.int i64 x4,.bool x5,.int i64 x6,.int i64 x7,.int i64 x8,.int i64 x9,.int i64 x10,.int i64 x11]] w fun e w' =>
   HrG Pg noV w p B0 O N (hrS N a ⟨x0,x1,x2,x3,⟨x4,x5,⟨x6,x7,x8,x9,x10,x11⟩⟩⟩) (hrN N ⟨x0,x1,x2,x3,⟨x4,x5,⟨x6,x7,x8,x9,x10,x11⟩⟩⟩) (hrA N a ⟨x0,x1,x2,x3,⟨x4,x5,⟨x6,x7,x8,x9,x10,x11⟩⟩⟩) e w'
 work:∀{p B0:Nat} {O:Nat→Prop} {N:Int} {a:AgT} {k:Nat} (w:World),Pg w p B0 O N a→AgOK a k→k≤1000 →
  Calls prog 12 #[.pointer (some ⟨p,0,none⟩)] w fun e w'=>HrG Pg noV w p B0 O N (wkS a) (wkN a) (wkA N a) e w'
 new:∀(n:Int) (ao:AdQ) (k c:Nat) (t:List Ru) (B0:Nat) (w:World),SR w (.slice ao k c) t→B0≤w.heap.size→(k=0∨∀ad,ao=some ad→ad.block<B0) →
  Calls prog 10 #[.int i64 n,.slice ao k c] w fun e w'=>∃v,e=.returned (.tuple #[v,noV (nwN n t)])∧Below w.heap.size w w'∧(nwN n t=0→∃p O,v=.pointer (some ⟨p,0,none⟩)∧Pg w' p B0 O n (ag0 t)∧∀b,O b→w.heap.size≤b)
 table:∀{p B0:Nat} {O:Nat→Prop} {N:Int} {a:AgT} {k:Nat} (w:World),Pg w p B0 O N a→AgOK a k→k≤1000 →
  Calls prog 15 #[.pointer (some ⟨p,0,none⟩)] w fun e w'=>∃a1 n1 c1,e=.returned (.slice a1 n1 c1)∧SR w' (.slice a1 n1 c1) a.t∧Below w.heap.size w w'
 ready:∀{p B0:Nat} {O:Nat→Prop} {N:Int} {a:AgT} {k:Nat} (w:World),Pg w p B0 O N a→AgOK a k→k≤1000 →
  Calls prog 38 #[.pointer (some ⟨p,0,none⟩)] w fun e w'=>e=.returned (.int i64 (rdyN a))∧Below w.heap.size w w'
end
end Go.Proofs.YtpgjkmefomldfaaGreat
