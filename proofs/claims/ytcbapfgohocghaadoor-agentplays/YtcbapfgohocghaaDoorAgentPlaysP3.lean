/- Contracts and facts on the way to AgentPlays, joined into one text: TableDo2, TableBey, TableOps, TableDiff2, RuleTwo, TableSame, ChangeBox, AgentWorkMath, RefAgReady, StMsg, RefAgHrp, WireCon, RefCube, RefRule, RefMsg. -/
import Derived.Test.YtcbapfgohocghaaDoorAgentPlaysP2
namespace Go.Proofs.YtcbapfgohocghaaDoor
set_option linter.unusedSimpArgs false
set_option linter.unusedVariables false
set_option maxHeartbeats 16000000
set_option maxRecDepth 100000
open Go.Proofs.Tryd
open IntKind (i64)
section
open Go.RowKit
theorem do_tb {L:List Ru}{a:Bool}{r:Ru}(h:tbN L≠0):doN L a r=tbN L∧doL L a r=[]:=by
 have e:doN L a r=tbN L:=by simp[doN,h]
 exact⟨e,by rw[doL,e,if_neg h]⟩
theorem do_ru {L:List Ru}{a:Bool}{r:Ru}(h:tbN L=0)(h2:r.n≠0):doN L a r=r.n∧doL L a r=[]:=by
 have e:doN L a r=r.n:=by simp[doN,h,h2]
 exact⟨e,by rw[doL,e,if_neg h2]⟩
theorem do_ch {L:List Ru}{a:Bool}{r:Ru}(h:tbN L=0)(h2:r.n=0):doN L a r=chN L a r∧doL L a r=chL L a r:=by
 have e:doN L a r=chN L a r:=by simp[doN,h,h2]
 refine⟨e,?_⟩;by_cases h3:chN L a r=0
 ·rw[doL,e,if_pos h3]
 rw[doL,e,if_neg h3,chL_ne h3]
theorem do_own (ao:AdQ)(n cap:Nat)(a:Bool)(p m b o s v:Int)(L:List Ru)(w:World)(hs:SR w (.slice ao n cap) L):
 Calls prog 29 #[.slice ao n cap,.bool a,.agg #[.int i64 p,.int i64 m,.int i64 b,.int i64 o,.int i64 s,.int i64 v]] w fun e w'=>∃u,e=.returned (.tuple #[u,noV (doN L a ⟨p,m,b,o,s,v⟩)])∧NR w' w.heap.size u (doL L a ⟨p,m,b,o,s,v⟩)∧Below w.heap.size w w':=by
 have hB0:Below w.heap.size w (w.alloc (.cells #[.int i64 p,.int i64 m,.int i64 b,.int i64 o,.int i64 s,.int i64 v] 41)):=(bRQ _ _).alloc (nLQ _) _;have HC0:=C6.new w p m b o s v 41;have HS0:Hid (SR (w.alloc (.cells #[.int i64 p,.int i64 m,.int i64 b,.int i64 o,.int i64 s,.int i64 v] 41)) (.slice ao n cap) L):=hs.later hB0;have HB0:Hid (Below w.heap.size w (w.alloc (.cells #[.int i64 p,.int i64 m,.int i64 b,.int i64 o,.int i64 s,.int i64 v] 41))):=hB0;have HLN:Hid (L.length=n):=hs.len;clear hs hB0;by_cases h1:tbN L=0
 ·have HT:Hid (tbN L=0):=h1;by_cases h2:(⟨p,m,b,o,s,v⟩:Ru).n=0
  ·have HR:Hid (ruN p m b o s v=0):=h2;have HN1:Hid (n≤1000):=by
    have:=(tb_iff.1 h1).1;have:=HLN.out;show n≤1000;omega
   rw[(do_ch h1 h2).1,(do_ch h1 h2).2];clear h1 h2;cases a
   ·go_enter func29,ntmps29
    go_wp2_with fail
    refine (table_any _ L _ HS0.out).mono ?_;rintro e w1 ⟨rfl,hb1⟩;rw[no_ok HT.out];have HB1:Hid (Below w.heap.size w w1):=HB0.out.trans (hb1.mono HB0.out.size);have HS1:Hid (SR w1 (.slice ao n cap) L):=HS0.out.later hb1;have HC1:Hid (C6 w1 w.heap.size 0 ⟨p,m,b,o,s,v⟩):=HC0.later hb1;obtain⟨c0,c1,c2,c3,c4,c5⟩:=HC0.later hb1;simp only[Nat.zero_add] at c0 c1 c2 c3 c4 c5;have hlt:w.heap.size<w1.heap.size:=bLQ _ _ c0;clear hb1
    go_wp2_with fail
    refine (ruCheck_any _ _ _ _ _ _ _).mono ?_;rintro e w2 ⟨rfl,hb2⟩;rw[no_ok HR.out];have HB2:Hid (Below w.heap.size w w2):=HB1.out.trans (hb2.mono HB1.out.size);have HS2:Hid (SR w2 (.slice ao n cap) L):=HS1.out.later hb2;obtain⟨d0,d1,d2,d3,d4,d5⟩:=HC1.out.later hb2;simp only[Nat.zero_add] at d0 d1 d2 d3 d4 d5;have hlt2:w.heap.size<w2.heap.size:=bLQ _ _ d0;clear hb2 c0 c1 c2 c3 c4 c5
    go_wp2_with fail
    refine (without_any ao n cap p m b o s v L _ HS2.out HN1.out).mono ?_;rintro e w3 ⟨u,rfl,hsr,hb3⟩;have HB3:Hid (Below w.heap.size w w3):=HB2.out.trans (hb3.mono HB2.out.size);have HO:Hid (NR w3 w.heap.size u (chL L false ⟨p,m,b,o,s,v⟩)):=hsr.mono HB2.out.size;clear hb3 hsr d0 d1 d2 d3 d4 d5
    generalize hE:noV (chN L false ⟨p,m,b,o,s,v⟩)=E
    have HE:Hid (noV (chN L false ⟨p,m,b,o,s,v⟩)=E):=hE;clear hE;go_wp2;refine bodyPost_ret (v:=.tuple #[u,E]) (by simp[results,results29,go_sem]) rfl ⟨_,by rw[HE.out],HO.out,HB3.out⟩
   go_enter func29,ntmps29
   go_wp2_with fail
   refine (table_any _ L _ HS0.out).mono ?_;rintro e w1 ⟨rfl,hb1⟩;rw[no_ok HT.out];have HB1:Hid (Below w.heap.size w w1):=HB0.out.trans (hb1.mono HB0.out.size);have HS1:Hid (SR w1 (.slice ao n cap) L):=HS0.out.later hb1;have HC1:Hid (C6 w1 w.heap.size 0 ⟨p,m,b,o,s,v⟩):=HC0.later hb1;obtain⟨c0,c1,c2,c3,c4,c5⟩:=HC0.later hb1;simp only[Nat.zero_add] at c0 c1 c2 c3 c4 c5;have hlt:w.heap.size<w1.heap.size:=bLQ _ _ c0;clear hb1
   go_wp2_with fail
   refine (ruCheck_any _ _ _ _ _ _ _).mono ?_;rintro e w2 ⟨rfl,hb2⟩;rw[no_ok HR.out];have HB2:Hid (Below w.heap.size w w2):=HB1.out.trans (hb2.mono HB1.out.size);have HS2:Hid (SR w2 (.slice ao n cap) L):=HS1.out.later hb2;obtain⟨d0,d1,d2,d3,d4,d5⟩:=HC1.out.later hb2;simp only[Nat.zero_add] at d0 d1 d2 d3 d4 d5;have hlt2:w.heap.size<w2.heap.size:=bLQ _ _ d0;clear hb2 c0 c1 c2 c3 c4 c5
   go_wp2_with fail
   refine (with_any ao n cap p m b o s v L _ HS2.out).mono ?_;rintro e w3 ⟨u,rfl,hsr,hb3⟩;have HB3:Hid (Below w.heap.size w w3):=HB2.out.trans (hb3.mono HB2.out.size);have HO:Hid (NR w3 w.heap.size u (chL L true ⟨p,m,b,o,s,v⟩)):=hsr.mono HB2.out.size;clear hb3 hsr d0 d1 d2 d3 d4 d5
   generalize hE:noV (chN L true ⟨p,m,b,o,s,v⟩)=E
   have HE:Hid (noV (chN L true ⟨p,m,b,o,s,v⟩)=E):=hE;clear hE;go_wp2;refine bodyPost_ret (v:=.tuple #[u,E]) (by simp[results,results29,go_sem]) rfl ⟨_,by rw[HE.out],HO.out,HB3.out⟩
  have HR:Hid (ruN p m b o s v≠0):=h2;rw[(do_ru h1 h2).1,(do_ru h1 h2).2];have HRV:Hid (noV (Ru.n ⟨p,m,b,o,s,v⟩)=.iface 73 (.int i64 (ruN p m b o s v))):=no_ne h2;clear h1 h2;go_enter func29,ntmps29
  go_wp2_with fail
  refine (table_any _ L _ HS0.out).mono ?_;rintro e w1 ⟨rfl,hb1⟩;rw[no_ok HT.out];have HB1:Hid (Below w.heap.size w w1):=HB0.out.trans (hb1.mono HB0.out.size);obtain⟨c0,c1,c2,c3,c4,c5⟩:=HC0.later hb1;simp only[Nat.zero_add] at c0 c1 c2 c3 c4 c5;have hlt:w.heap.size<w1.heap.size:=bLQ _ _ c0;clear hb1
  go_wp2_with fail
  refine (ruCheck_any _ _ _ _ _ _ _).mono ?_;rintro e w2 ⟨rfl,hb2⟩;rw[no_ne HR.out];have HB2:Hid (Below w.heap.size w w2):=HB1.out.trans (hb2.mono HB1.out.size);clear hb2 c0 c1 c2 c3 c4 c5;go_wp2;refine bodyPost_ret (v:=.tuple #[.slice none 0 0,.iface 73 (.int i64 (ruN p m b o s v))]) (by simp[results,results29,go_sem]) rfl ⟨_,by rw[HRV.out],NR.nil _ _,HB2.out⟩
 have HT:Hid (tbN L≠0):=h1;rw[(do_tb h1).1,(do_tb h1).2,no_ne h1];clear h1;go_enter func29,ntmps29
 go_wp2_with fail
 refine (table_any _ L _ HS0.out).mono ?_;rintro e w1 ⟨rfl,hb1⟩;rw[no_ne HT.out];have HB1:Hid (Below w.heap.size w w1):=HB0.out.trans (hb1.mono HB0.out.size);clear hb1;go_wp2;refine bodyPost_ret (v:=.tuple #[.slice none 0 0,.iface 73 (.int i64 (tbN L))]) (by simp[results,results29,go_sem]) rfl ⟨_,rfl,NR.nil _ _,HB1.out⟩
theorem pat1 {W:World}{a1:AdQ}{n1 c1:Nat}{L1:List Ru}(t:TypeId)(h1:SR W (.slice a1 n1 c1) L1):
 PAt (W.alloc (.cells #[.slice a1 n1 c1] t)) W.heap.size 0 [L1]:=by
 have hb:Below W.heap.size W (W.alloc (.cells #[.slice a1 n1 c1] t)):=(bRQ _ _).alloc (nLQ _) _;intro i hi
 match i,hi with
 | 0,_=>exact⟨a1,n1,c1,by simp,h1.later hb⟩
structure C8 (w:World)(g o:Nat)(x:Op8):Prop where
 c0:w.cell? ⟨g,o,none⟩=some (.int i64 x.w)
 c1:w.cell? ⟨g,o+1,none⟩=some (.bool x.a)
 c2:w.cell? ⟨g,o+2,none⟩=some (.int i64 x.r.p)
 c3:w.cell? ⟨g,o+3,none⟩=some (.int i64 x.r.m)
 c4:w.cell? ⟨g,o+4,none⟩=some (.int i64 x.r.b)
 c5:w.cell? ⟨g,o+5,none⟩=some (.int i64 x.r.o)
 c6:w.cell? ⟨g,o+6,none⟩=some (.int i64 x.r.s)
 c7:w.cell? ⟨g,o+7,none⟩=some (.int i64 x.r.v)
theorem C8.later {w w':World}{g o:Nat}{x:Op8}(h:C8 w g o x)(hb:Below w.heap.size w w'):C8 w' g o x:=
 ⟨cell_later hb h.c0,cell_later hb h.c1,cell_later hb h.c2,cell_later hb h.c3,cell_later hb h.c4,cell_later hb h.c5,cell_later hb h.c6,cell_later hb h.c7⟩
theorem C8.new (w:World)(y:Int)(a:Bool)(p m b o s v:Int)(t:TypeId):C8 (w.alloc (.cells #[.int i64 y,Value.bool a,.int i64 p,.int i64 m,.int i64 b,.int i64 o,.int i64 s,.int i64 v] t)) w.heap.size 0 ⟨y,a,⟨p,m,b,o,s,v⟩⟩:=by
 refine⟨?_,?_,?_,?_,?_,?_,?_,?_⟩ <;> simp
def OAt (w:World)(g o:Nat)(L:List Op8):Prop:=∀i (h:i<L.length),C8 w g (o+i*8) L[i]
theorem OAt.later {w w':World}{g o:Nat}{L:List Op8}(h:OAt w g o L)(hb:Below w.heap.size w w'):OAt w' g o L:=fun i hi=>(h i hi).later hb
def SO (w:World)(v:Value)(L:List Op8):Prop:=
 (∃ao cap,v=.slice ao 0 cap∧L=[])∨∃g o cap,v=.slice (some ⟨g,o,none⟩) L.length cap∧L.length≤cap∧cap≤maxLen∧OAt w g o L
theorem SO.later {w w':World}{v:Value}{L:List Op8}(h:SO w v L)(hb:Below w.heap.size w w'):SO w' v L:=by
 rcases h with h | ⟨g,o,cap,h1,h2,h3,h4⟩
 ·exact .inl h
 exact .inr ⟨g,o,cap,h1,h2,h3,h4.later hb⟩
theorem SO.form {w:World}{v:Value}{L:List Op8}(h:SO w v L):∃ao n cap,v=.slice ao n cap∧L.length=n∧n≤maxLen∧n≤cap∧(0<n→∃g o,ao=some ⟨g,o,none⟩∧OAt w g o L∧cap≤maxLen):=by
 rcases h with ⟨ao,cap,rfl,rfl⟩ | ⟨g,o,cap,rfl,h1,h2,h3⟩
 ·exact⟨ao,0,cap,rfl,rfl,Nat.zero_le _,Nat.zero_le _,fun h=>absurd h (by omega)⟩
 exact⟨_,_,cap,rfl,rfl,Nat.le_trans h1 h2,h1,fun _=>⟨g,o,rfl,h3,h2⟩⟩
theorem SO.nil (w:World):SO w (.slice none 0 0) []:=.inl ⟨none,0,rfl,rfl⟩
theorem OAt.at {w:World}{g o:Nat}{L:List Op8}(h:OAt w g o L){n k:Nat}(hn:L.length=n)(hk:k<n):
 ∃ (y:Int) (a:Bool) (p m b q s v:Int) (hl:k<L.length),L[k]=⟨y,a,⟨p,m,b,q,s,v⟩⟩∧(w.cell? ⟨g,o+k*8,none⟩=some (.int i64 y)∧w.cell? ⟨g,o+k*8+1,none⟩=some (.bool a)∧w.cell? ⟨g,o+k*8+2,none⟩=some (.int i64 p)∧w.cell? ⟨g,o+k*8+3,none⟩=some (.int i64 m)∧w.cell? ⟨g,o+k*8+4,none⟩=some (.int i64 b) ∧
   w.cell? ⟨g,o+k*8+5,none⟩=some (.int i64 q)∧w.cell? ⟨g,o+k*8+6,none⟩=some (.int i64 s)∧w.cell? ⟨g,o+k*8+7,none⟩=some (.int i64 v)):=
 have hl:k<L.length:=by omega
 have c:=h k hl
 ⟨_,_,_,_,_,_,_,_,hl,rfl,c.c0,c.c1,c.c2,c.c3,c.c4,c.c5,c.c6,c.c7⟩
def cellsO (L:List Op8):List Value:=L.flatMap fun x=>[.int i64 x.w,.bool x.a,.int i64 x.r.p,.int i64 x.r.m,.int i64 x.r.b,.int i64 x.r.o,.int i64 x.r.s,.int i64 x.r.v]
theorem cellsO_app (L M:List Op8):cellsO (L++M)=cellsO L++cellsO M:=by simp[cellsO]
theorem cellsO_at (L:List Op8)(i:Nat)(h:i<L.length):(cellsO L)[i*8]?=some (.int i64 (L[i]).w)∧(cellsO L)[i*8+1]?=some (.bool (L[i]).a)∧(cellsO L)[i*8+2]?=some (.int i64 (L[i]).r.p)∧(cellsO L)[i*8+3]?=some (.int i64 (L[i]).r.m) ∧
 (cellsO L)[i*8+4]?=some (.int i64 (L[i]).r.b)∧(cellsO L)[i*8+5]?=some (.int i64 (L[i]).r.o)∧(cellsO L)[i*8+6]?=some (.int i64 (L[i]).r.s)∧(cellsO L)[i*8+7]?=some (.int i64 (L[i]).r.v):=by
 induction L generalizing i with
 | nil=>simp at h
 | cons p r ih =>
   cases i with
   | zero=>simp[cellsO]
   | succ i =>
     have:=ih i (by simpa using h);have e1:(i+1)*8=i*8+1+1+1+1+1+1+1+1:=by omega
     simpa[cellsO,e1] using this
theorem own_SO {w:World}{B e:Nat}{v:Value}{L:List Op8}(h:w.ownsRow B e 8 v L.length (cellsO L)):SO w v L:=by
 rcases h.2 with ⟨rfl,h0⟩ | ⟨g,cap,cur,rfl,_,_,h1,h2,_⟩
 ·exact .inl ⟨none,0,rfl,List.length_eq_zero_iff.1 h0⟩
 refine .inr ⟨g,0,cap,rfl,h1,h2,fun i hi=>?_⟩;obtain⟨a0,a1,a2,a3,a4,a5,a6,a7⟩:=cellsO_at L i hi;rw[Nat.zero_add];refine⟨?_,?_,?_,?_,?_,?_,?_,?_⟩
 ·rw[h.cellAt _ (by omega)];exact a0
 ·rw[h.cellAt _ (by omega)];exact a1
 ·rw[h.cellAt _ (by omega)];exact a2
 ·rw[h.cellAt _ (by omega)];exact a3
 ·rw[h.cellAt _ (by omega)];exact a4
 ·rw[h.cellAt _ (by omega)];exact a5
 ·rw[h.cellAt _ (by omega)];exact a6
 rw[h.cellAt _ (by omega)];exact a7
theorem infoOp:(Tryd.prog.info? 43).map (fun i=>(i.zero,i.size,i.bytes))=some (some (.agg #[.int i64 0,.bool false,.int i64 0,.int i64 0,.int i64 0,.int i64 0,.int i64 0,.int i64 0]),8,64):=by kernel_rfl
theorem eightCells:(Value.agg #[.int i64 0,.bool false,.int i64 0,.int i64 0,.int i64 0,.int i64 0,.int i64 0,.int i64 0]).cells.size=8:=by simp[Value.cells]
theorem wpList_append_op (w:World){ops:Array Oper}{rest:List Oper}{o:Oper}{a:Act}{Q:Exit→Act→World→Prop}(hgd:o.guard=none)(s x:Operand)(t:TypeId)
 (ho:o.op=.call { callee:=.builtin .append,args:=#[s,x],argTypes:=#[t,t] }) (ht:Tryd.prog.underlying t=some (.slice 43)) (base:Nat)
 (v:Value) (hs:a.eval s=v) (L:List Op8) (hown:w.ownsRow base 43 8 v L.length (cellsO L)) (B:Nat) (hx:a.eval x=.slice (some ⟨B,0,none⟩) 1 1) (y:Op8) (hM:C8 w B 0 y)
 (h100:L.length≤1000) (hbase:base≤w.heap.size)
 (h:∀v' w',w'.ownsRow base 43 8 v' (L++[y]).length (cellsO (L++[y]))→w.grownBy w' v.ownBlock→wpList prog ops Q rest (a.put o.dst v') w'):wpList prog ops Q (o :: rest) a w:=by
 obtain⟨i0,hi,hz0,hz1,hz2⟩:=info_parts infoOp;refine wpList_append_own w hgd s x t ho base 43 i0 (.agg #[.int i64 0,.bool false,.int i64 0,.int i64 0,.int i64 0,.int i64 0,.int i64 0,.int i64 0]) 8 64 ht hi hz0 hz1 hz2 eightCells (by decide) v _ _ hs hown ⟨B,0,none⟩ 1 1 (cellsO [y]) hx rfl ?_ ?_ (by unfold maxLen;omega) (by omega) hbase ?_
 ·intro j u hj;rw[addr_add,Nat.zero_add];obtain⟨c0,c1,c2,c3,c4,c5,c6,c7⟩:=hM
  match j,hj with
  | 0,hj=>simp[cellsO] at hj;subst hj;exact c0
  | 1,hj=>simp[cellsO] at hj;subst hj;exact c1
  | 2,hj=>simp[cellsO] at hj;subst hj;exact c2
  | 3,hj=>simp[cellsO] at hj;subst hj;exact c3
  | 4,hj=>simp[cellsO] at hj;subst hj;exact c4
  | 5,hj=>simp[cellsO] at hj;subst hj;exact c5
  | 6,hj=>simp[cellsO] at hj;subst hj;exact c6
  | 7,hj=>simp[cellsO] at hj;subst hj;exact c7
 ·intro u hu;simp[cellsO] at hu
  rcases hu with rfl | rfl | rfl | rfl | rfl | rfl | rfl | rfl <;> rfl
 intro v' w' h1 h2 _;refine h v' w' ?_ h2;rw[List.length_append,cellsO_app];exact h1
theorem al_step {L:List Ru}{O:List Op8}{k:Nat}(hk:k<O.length):alN L (O.drop k)=(if doN L (O[k]).a (O[k]).r=0 then alN (doL L (O[k]).a (O[k]).r) (O.drop (k+1)) else doN L (O[k]).a (O[k]).r)∧alL L (O.drop k)=(if doN L (O[k]).a (O[k]).r=0 then alL (doL L (O[k]).a (O[k]).r) (O.drop (k+1)) else []):=by
 rw[List.drop_eq_getElem_cons hk,alN,alL];exact⟨rfl,rfl⟩
theorem all_own (ao:AdQ)(n cap:Nat)(ao2:AdQ)(n2 cap2:Nat)(L:List Ru)(O:List Op8)(w:World)(hs:SR w (.slice ao n cap) L)(ht:SO w (.slice ao2 n2 cap2) O)(h1000:L.length≤1000):
 Calls prog 37 #[.slice ao n cap,.slice ao2 n2 cap2] w fun e w'=>∃u,e=.returned (.tuple #[u,noV (alN L O)])∧NR w' w.heap.size u (alL L O)∧Below w.heap.size w w':=by
 have hp:=pat1 23 hs;have hB0:Below w.heap.size w (w.alloc (.cells #[.slice ao n cap] 23)):=(bRQ _ _).alloc (nLQ _) _;have HP:Hid (PAt (w.alloc (.cells #[.slice ao n cap] 23)) w.heap.size 0 [L]):=hp;have HB0:Hid (Below w.heap.size w (w.alloc (.cells #[.slice ao n cap] 23))):=hB0;have HL2:Hid ([L].flatten.length≤1000):=by show _≤1000;simpa using h1000
 obtain⟨ao',n',cap',e,hn,hn2,hn3,ha⟩:=ht.form;cases e;have HN:Hid (O.length=n2):=hn;have HA:Hid (0<n2→∃g o,ao2=some ⟨g,o,none⟩∧OAt w g o O∧cap2≤maxLen):=ha;have hn63:n2≤9223372036854775807:=by unfold maxLen at hn2;omega
 clear hs ht hp hB0 h1000 hn ha hn2;obtain⟨N,hN⟩:∃N,N=alN L O:=⟨_,rfl⟩;obtain⟨R,hR⟩:∃R,R=alL L O:=⟨_,rfl⟩;rw[←hN,←hR];have HNN:Hid (N=alN L O):=hN;have HRR:Hid (R=alL L O):=hR;clear hN hR;go_enter func37,ntmps37
 go_wp2_with fail
 refine (concat_any _ 0 1 1 [L] _ rfl (by omega) HP.out HL2.out).mono ?_;rintro e w1 ⟨u,rfl,hown,hb1⟩;have hsr:=own_SR hown;obtain⟨ao3,n3,cap3,rfl,_⟩:=hsr.form;have HS1:Hid (NR w1 w.heap.size (.slice ao3 n3 cap3) L):=by
  have e1:[L].flatten=L:=by simp
  rw[e1] at hown;exact NR.mono hown HB0.out.size
 have HB1:Hid (Below w.heap.size w w1):=HB0.out.trans (hb1.mono HB0.out.size);clear hown hb1 hsr HP HL2;go_wp2
 go_loopw [6,16] (fun u i wr=>∃k:Nat,k≤n2∧i=.int i64 k∧(∃a4 n4 c4 K,u=.slice a4 n4 c4∧NR wr w.heap.size (.slice a4 n4 c4) K∧N=alN K (O.drop k)∧R=alL K (O.drop k))∧Below w.heap.size w wr) (fun _ i _=>n2-(intOf i).toNat)
 case atStart=>exact⟨0,by omega,rfl,⟨_,_,_,L,rfl,HS1.out,by rw[HNN.out];rfl,by rw[HRR.out];rfl⟩,HB1.out⟩
 case round =>
  obtain⟨k,hk,rfl,⟨a4,n4,c4,K,rfl,hsr,hN,hR⟩,hB⟩:=hrel;have HS:Hid (NR wr w.heap.size (.slice a4 n4 c4) K):=hsr;have HB:Hid (Below w.heap.size w wr):=hB;have HN4:Hid (N=alN K (O.drop k)):=hN;have HR4:Hid (R=alL K (O.drop k)):=hR;clear HS1 HB1 hsr hN hR;by_cases hlt:k<n2
  ·obtain⟨g,og,hao,hOA,_⟩:=HA.out (by omega);subst hao;obtain⟨y,a,p,m,b,q,s,v,hkl,hOk,q0,q1,q2,q3,q4,q5,q6,q7⟩:=(hOA.later hB).at HN.out hlt;have hBA:Below wr.heap.size wr (wr.alloc (.cells #[.int i64 y,Value.bool a,.int i64 p,.int i64 m,.int i64 b,.int i64 q,.int i64 s,.int i64 v] 43)):=(bRQ _ _).alloc (nLQ _) _;have HSA:Hid (SR (wr.alloc (.cells #[.int i64 y,Value.bool a,.int i64 p,.int i64 m,.int i64 b,.int i64 q,.int i64 s,.int i64 v] 43)) (.slice a4 n4 c4) K):=HS.out.sr.later hBA;have HBA:Hid (Below w.heap.size w (wr.alloc (.cells #[.int i64 y,Value.bool a,.int i64 p,.int i64 m,.int i64 b,.int i64 q,.int i64 s,.int i64 v] 43))):=hB.trans (hBA.mono hB.size);have hst:=al_step (L:=K) hkl;rw[hOk] at hst;simp only at hst;have HA2:Hid (0<n2→∃g' o',some (⟨g,og,none⟩:Addr)=some ⟨g',o',none⟩∧OAt w g' o' O∧cap2≤maxLen):=HA.out;clear hOA hOk hB hBA HA HS;by_cases hd:doN K a ⟨p,m,b,q,s,v⟩=0
   ·have HD:Hid (doN K a ⟨p,m,b,q,s,v⟩=0):=hd;rw[if_pos hd,if_pos hd] at hst;have HN5:Hid (N=alN (doL K a ⟨p,m,b,q,s,v⟩) (O.drop (k+1))):=HN4.out.trans hst.1;have HR5:Hid (R=alL (doL K a ⟨p,m,b,q,s,v⟩) (O.drop (k+1))):=HR4.out.trans hst.2;clear hd hst
    go_wp2_with fail
    refine (do_own a4 n4 c4 a p m b q s v K _ HSA.out).mono ?_;rintro e w2 ⟨x,rfl,hx,hb2⟩;rw[no_ok HD.out];obtain⟨a5,n5,c5,rfl,_⟩:=hx.sr.form;have HX:Hid (NR w2 w.heap.size (.slice a5 n5 c5) (doL K a ⟨p,m,b,q,s,v⟩)):=hx.mono HBA.out.size;have HB2:Hid (Below w.heap.size w w2):=HBA.out.trans (hb2.mono HBA.out.size);clear hb2 hx q0 q1 q2 q3 q4 q5 q6 q7;go_wp2;go_roundw
    case rel=>exact⟨k+1,by omega,by go_num,⟨_,_,_,_,rfl,HX.out,HN5.out,HR5.out⟩,HB2.out⟩
    case measure=>simp[intOf];omega
   have HD:Hid (doN K a ⟨p,m,b,q,s,v⟩≠0):=hd;rw[if_neg hd,if_neg hd] at hst;have HN5:Hid (N=doN K a ⟨p,m,b,q,s,v⟩):=HN4.out.trans hst.1;have HR5:Hid (R=[]):=HR4.out.trans hst.2;clear hd hst
   go_wp2_with fail
   refine (do_own a4 n4 c4 a p m b q s v K _ HSA.out).mono ?_;rintro e w2 ⟨x,rfl,hx,hb2⟩;rw[no_ne HD.out];have HB2:Hid (Below w.heap.size w w2):=HBA.out.trans (hb2.mono HBA.out.size);clear hb2 hx q0 q1 q2 q3 q4 q5 q6 q7;go_wp2;refine bodyPost_ret (v:=.tuple #[.slice none 0 0,.iface 73 (.int i64 (doN K a ⟨p,m,b,q,s,v⟩))]) (by simp[results,results37,go_sem]) rfl ⟨_,by rw[HN5.out,no_ne HD.out],by rw[HR5.out];exact NR.nil _ _,HB2.out⟩
  obtain rfl:k=n2:=by omega
  have HE:Hid (N=0∧R=K):=by
   have e1:O.drop k=[]:=List.drop_eq_nil_of_le (by rw[HN.out];exact nLQ _);have h1:=HN4.out;have h2:=HR4.out;rw[e1] at h1 h2;exact⟨h1,h2⟩
  clear hB;go_wp2;refine bodyPost_ret (v:=.tuple #[.slice a4 n4 c4,.nilIface]) (by simp[results,results37,go_sem]) rfl ⟨_,by rw[HE.out.1];rfl,by rw[HE.out.2];exact HS.out,HB.out⟩
def CD (w:World)(g o:Nat)(p m b q s v:Int)(g' o':Nat)(p' m' b' q' s' v':Int)(w':World):Prop:=
 Below w.heap.size w w'∧(w'.cell? ⟨g,o,none⟩=some (.int i64 p)∧w'.cell? ⟨g,o+1,none⟩=some (.int i64 m)∧w'.cell? ⟨g,o+2,none⟩=some (.int i64 b) ∧
  w'.cell? ⟨g,o+3,none⟩=some (.int i64 q)∧w'.cell? ⟨g,o+4,none⟩=some (.int i64 s)∧w'.cell? ⟨g,o+5,none⟩=some (.int i64 v)) ∧
 w'.cell? ⟨g',o',none⟩=some (.int i64 p')∧w'.cell? ⟨g',o'+1,none⟩=some (.int i64 m')∧w'.cell? ⟨g',o'+2,none⟩=some (.int i64 b') ∧
  w'.cell? ⟨g',o'+3,none⟩=some (.int i64 q')∧w'.cell? ⟨g',o'+4,none⟩=some (.int i64 s')∧w'.cell? ⟨g',o'+5,none⟩=some (.int i64 v')
theorem CD.later {w W W':World}{g o:Nat}{p m b q s v:Int}{g' o':Nat}{p' m' b' q' s' v':Int}(hb:Below W.heap.size W W')(h:CD w g o p m b q s v g' o' p' m' b' q' s' v' W):CD w g o p m b q s v g' o' p' m' b' q' s' v' W':=by
 obtain⟨h0,⟨h1,h2,h3,h4,h5,h6⟩,k1,k2,k3,k4,k5,k6⟩:=h;exact⟨h0.trans (hb.mono h0.size),⟨cell_later hb h1,cell_later hb h2,cell_later hb h3,cell_later hb h4,cell_later hb h5,cell_later hb h6⟩,cell_later hb k1,cell_later hb k2,cell_later hb k3,cell_later hb k4,cell_later hb k5,cell_later hb k6⟩
theorem tabs_any (ao:AdQ)(n cap:Nat)(ao2:AdQ)(n2 cap2:Nat)(L:List Ru)(w:World)(hs:SR w (.slice ao n cap) L)(ht:SR w (.slice ao2 n2 cap2) L):
 Calls prog 10 #[.slice ao n cap,.slice ao2 n2 cap2] w fun e w'=>e=.returned (.bool true)∧Below w.heap.size w w':=by
 obtain⟨ao',n',cap',e,hn,hn2,hn3,ha⟩:=hs.form;cases e;obtain⟨ao',n',cap',e,hm,hm2,hm3,hb⟩:=ht.form;cases e;obtain rfl:n=n2:=by omega
 have HN:Hid (L.length=n):=hn;have HA:Hid (0<n→∃g o,ao=some ⟨g,o,none⟩∧RAt w g o L∧cap≤maxLen):=ha;have HA2:Hid (0<n→∃g o,ao2=some ⟨g,o,none⟩∧RAt w g o L∧cap2≤maxLen):=hb;have hn63:n≤9223372036854775807:=by unfold maxLen at hn2;omega
 clear hs ht hn ha hm hb hn2 hm2;go_enter func10,ntmps10;go_wp2
 go_loopw [5] (fun i wr=>∃k:Nat,k≤n∧i=.int i64 k∧Below w.heap.size w wr) (fun i _=>n-(intOf i).toNat)
 case atStart=>exact⟨0,by omega,rfl,bRQ _ _⟩
 case round =>
  obtain⟨k,hk,rfl,hB⟩:=hrel;have HB:Hid (Below w.heap.size w wr):=hB;by_cases hlt:k<n
  ·obtain⟨g,og,hao,hc,_⟩:=HA.out (by omega);obtain⟨g2,og2,hao2,hc2,_⟩:=HA2.out (by omega);subst hao hao2;obtain⟨p,m,b,q,s,v,hkl,hLk,q0,q1,q2,q3,q4,q5⟩:=(hc.later hB).at HN.out hlt;obtain⟨p',m',b',q',s',v',_,hLk2,r0,r1,r2,r3,r4,r5⟩:=(hc2.later hB).at HN.out hlt;rw[hLk] at hLk2;simp only[Ru.mk.injEq] at hLk2;obtain⟨rfl,rfl,rfl,rfl,rfl,rfl⟩:=hLk2;have HCE:Hid (CD w g (og+k*6) p m b q s v g2 (og2+k*6) p m b q s v wr):=⟨hB,⟨q0,q1,q2,q3,q4,q5⟩,r0,r1,r2,r3,r4,r5⟩;clear q0 q1 q2 q3 q4 q5 r0 r1 r2 r3 r4 r5 hB hc hc2 hLk HA HA2;go_upto_region 6 with fail;have kb0:(0:Int)≤(k:Int):=by omega
   have kb1:(k:Int)<(n:Int):=by omega
   go_cut [25] from 11 to 25 (fun c w'=>c=.bool false∧Below w.heap.size w w')
   case first =>
    as_aux_lemma =>
     refine wp_region_quiet (C:=CD w g (og+k*6) p m b q s v g2 (og2+k*6) p m b q s v) (by kernel_rfl) (by kernel_rfl) (CD.later (W:=wr) (Below.drew (bRQ _ _)) HCE.out) ?_;simp only[List.toList_toArray];go_big_quiet_want;refine qv (.slice (some ⟨g,og,none⟩) n cap) ?_ ?_
     ·rintro w' ⟨z0,⟨z1,z2,z3,z4,z5,z6⟩,y1,y2,y3,y4,y5,y6⟩;go_simp
     simp only[Act.put,AP];go_big_quiet_on;go_big_quiet_want;refine qv (.int i64 (k:Int)) ?_ ?_
     ·rintro w' ⟨z0,⟨z1,z2,z3,z4,z5,z6⟩,y1,y2,y3,y4,y5,y6⟩;go_simp
     simp only[Act.put,AP];go_big_quiet_on;go_big_quiet_want;refine qv (.pointer (some ⟨g,og+k*6,none⟩)) ?_ ?_
     ·rintro w' ⟨z0,⟨z1,z2,z3,z4,z5,z6⟩,y1,y2,y3,y4,y5,y6⟩;go_simp
     simp only[Act.put,AP];go_big_quiet_on;go_big_quiet_want;refine qv (.agg #[.int i64 p,.int i64 m,.int i64 b,.int i64 q,.int i64 s,.int i64 v]) ?_ ?_
     ·rintro w' ⟨z0,⟨z1,z2,z3,z4,z5,z6⟩,y1,y2,y3,y4,y5,y6⟩;go_simp
     simp only[Act.put,AP];go_big_quiet_on;go_big_quiet_want;refine qv (.slice (some ⟨g2,og2,none⟩) n cap2) ?_ ?_
     ·rintro w' ⟨z0,⟨z1,z2,z3,z4,z5,z6⟩,y1,y2,y3,y4,y5,y6⟩;go_simp
     simp only[Act.put,AP];go_big_quiet_on;go_big_quiet_want;refine qv (.int i64 (k:Int)) ?_ ?_
     ·rintro w' ⟨z0,⟨z1,z2,z3,z4,z5,z6⟩,y1,y2,y3,y4,y5,y6⟩;go_simp
     simp only[Act.put,AP];go_big_quiet_on;go_big_quiet_want;refine qv (.pointer (some ⟨g2,og2+k*6,none⟩)) ?_ ?_
     ·rintro w' ⟨z0,⟨z1,z2,z3,z4,z5,z6⟩,y1,y2,y3,y4,y5,y6⟩;go_simp
     simp only[Act.put,AP];go_big_quiet_on;go_big_quiet_want;refine qv (.agg #[.int i64 p,.int i64 m,.int i64 b,.int i64 q,.int i64 s,.int i64 v]) ?_ ?_
     ·rintro w' ⟨z0,⟨z1,z2,z3,z4,z5,z6⟩,y1,y2,y3,y4,y5,y6⟩;go_simp
     simp only[Act.put,AP];go_big_quiet_on;go_big_quiet_want;refine qv (.bool false) ?_ ?_
     ·rintro w' ⟨z0,⟨z1,z2,z3,z4,z5,z6⟩,y1,y2,y3,y4,y5,y6⟩;go_simp
     simp only[Act.put,AP];go_big_quiet_on;refine wpQuiet_nil ?_;intro w' hC
     go_wp2_with fail
     go_meet
     case rel=>exact⟨rfl,hC.1⟩
   case rest =>
    obtain⟨rfl,hB2⟩:=hcut;clear HCE;go_wp2;go_roundw
    case rel=>exact⟨k+1,by omega,by go_num,hB2⟩
    case measure=>simp[intOf];omega
  obtain rfl:k=n:=by omega
  go_wp2;go_ret;exact⟨rfl,HB.out⟩
theorem do_ch2 {L:List Ru}{a:Bool}{r:Ru}(h:tbN L=0)(h2:r.n=0):doN L a r=chN L a r∧doL L a r=chL L a r:=by
 have e:doN L a r=chN L a r:=by simp[doN,h,h2]
 refine⟨e,?_⟩;by_cases h3:chN L a r=0
 ·rw[doL,e,if_pos h3]
 rw[doL,e,if_neg h3,chL_ne h3]
theorem all_next (l:List Kp)(r:Int)(k:Nat):allK l r (k+1)=(allK l r k&&hasK l r (k:Int)):=by
 rw[allK,allK,List.range_succ,List.all_append];simp
theorem all_less {l:List Kp}{r:Int}{k n:Nat}(h:allK l r k=false)(hk:k≤n):allK l r n=false:=by
 cases e:allK l r n with
 | false=>rfl
 | true =>
   rw[allK,List.all_eq_true] at e;have:allK l r k=true:=by
    rw[allK,List.all_eq_true];intro x hx;exact e x (List.mem_range.2 (by have:=List.mem_range.1 hx;omega))
   rw[h] at this;cases this
theorem ix_has (l:List Kp)(r q:Int):decide (ixG (kpB r q) l ≥ 0)=hasK l r q:=by
 unfold ixG hasK;cases l.any (kpB r q) <;> simp
theorem rdy_step (a:AgT)(r k:Nat):rdyTo a r (k+1)=if rdyB a (r:Int)=true then (r:Int) else rdyTo a (r+1) k:=rfl
theorem al_snoc:∀(l:List Op8) (t:List Ru) (o:Op8),alN t (l++[o])=(if alN t l=0 then doN (alL t l) o.a o.r else alN t l)∧alL t (l++[o])=(if alN t l=0 then doL (alL t l) o.a o.r else [])
 | [],t,o=>by
   refine⟨?_,?_⟩
   ·show (if doN t o.a o.r=0 then 0 else doN t o.a o.r)=if (0:Int)=0 then doN t o.a o.r else 0
    by_cases h:doN t o.a o.r=0
    ·rw[if_pos h,if_pos rfl,h]
    rw[if_neg h,if_pos rfl]
   show (if doN t o.a o.r=0 then doL t o.a o.r else [])=if (0:Int)=0 then doL t o.a o.r else []
   rw[if_pos rfl];by_cases h:doN t o.a o.r=0
   ·rw[if_pos h]
   rw[if_neg h,doL,if_neg h]
 | x :: l,t,o=>by
   have ih:=al_snoc l (doL t x.a x.r) o;show (if doN t x.a x.r=0 then alN (doL t x.a x.r) (l++[o]) else doN t x.a x.r)=_∧(if doN t x.a x.r=0 then alL (doL t x.a x.r) (l++[o]) else [])=_;have e1:alN t (x :: l)=if doN t x.a x.r=0 then alN (doL t x.a x.r) l else doN t x.a x.r:=rfl
   have e2:alL t (x :: l)=if doN t x.a x.r=0 then alL (doL t x.a x.r) l else []:=rfl
   by_cases h:doN t x.a x.r=0
   ·rw[e1,e2,if_pos h,if_pos h,if_pos h,if_pos h];exact ih
   rw[e1,e2,if_neg h,if_neg h,if_neg h,if_neg h,if_neg h];exact⟨rfl,rfl⟩
theorem al_right:∀(l:List Op8) (t:List Ru),tbN t=0→alN t l=0→tbN (alL t l)=0
 | [],t,h,_=>h
 | o :: l,t,h,h2=>by
   have e1:alN t (o :: l)=if doN t o.a o.r=0 then alN (doL t o.a o.r) l else doN t o.a o.r:=rfl
   have e2:alL t (o :: l)=if doN t o.a o.r=0 then alL (doL t o.a o.r) l else []:=rfl
   by_cases h3:doN t o.a o.r=0
   ·rw[e1,if_pos h3] at h2;rw[e2,if_pos h3];exact al_right l _ (do_right h3) h2
   rw[e1,if_neg h3] at h2;exact absurd h2 h3
theorem al_stays {t:List Ru}:∀(m l:List Op8),alN t l≠0→alN t (l++m)=alN t l
 | [],l,_=>by rw[List.append_nil]
 | o :: m,l,h=>by
   have h1:=(al_snoc l t o).1;rw[if_neg h] at h1;have h2:=al_stays m (l++[o]) (by rw[h1];exact h);rw[List.append_assoc] at h2;rw[←h1,←h2];rfl
theorem ix_op {r q:Int}:∀{l:List Kp},hasK l r q=true→∃(j:Nat) (hj:j<l.length),ixG (kpB r q) l=(j:Int)∧l[j].o=opK l r q
 | [],h=>by cases h
 | x :: l,h=>by
   have e1:ixG (kpB r q) (x :: l)=if (x :: l).any (kpB r q)=true then (((x :: l).findIdx (kpB r q):Nat):Int) else -1:=rfl
   have e2:opK (x :: l) r q=(((x :: l).find? (kpB r q)).map Kp.o).getD zeP:=rfl;cases hx:kpB r q x with
   | true =>
     refine⟨0,by simp,?_,?_⟩
     ·rw[e1,if_pos (show (x :: l).any (kpB r q)=true from h),List.findIdx_cons,hx];rfl
     rw[e2,List.find?_cons,hx];rfl
   | false =>
     have h2:hasK l r q=true:=by
      have:(kpB r q x || l.any (kpB r q))=true:=h;rw[hx,Bool.false_or] at this;exact this
     obtain⟨j,hj,h3,h4⟩:=ix_op h2;have e3:ixG (kpB r q) l=((l.findIdx (kpB r q):Nat):Int):=by
      rw[ixG,if_pos (show l.any (kpB r q)=true from h2)]
     rw[e3] at h3;have h5:l.findIdx (kpB r q)=j:=Int.ofNat.inj h3;refine⟨j+1,by simp;omega,?_,?_⟩
     ·rw[e1,if_pos (show (x :: l).any (kpB r q)=true from h),List.findIdx_cons,hx,cond_false,h5]
     have e4:opK (x :: l) r q=opK l r q:=by
      rw[e2,List.find?_cons,hx];rfl
     rw[e4,←h4];rfl
theorem rdyTo_yes {a:AgT}:∀(k:Nat) {r:Nat},¬rdyTo a r k<0→∃i:Nat,rdyTo a r k=(i:Int)∧i<r+k∧rdyB a (i:Int)=true
 | 0,r,h=>by
   have:rdyTo a r 0 = -1:=rfl;rw[this] at h;exact absurd (by decide) h
 | k+1,r,h=>by
   rw[rdy_step] at h ⊢;by_cases h1:rdyB a (r:Int)=true
   ·rw[if_pos h1];exact⟨r,rfl,by omega,h1⟩
   rw[if_neg h1] at h ⊢;obtain⟨i,h2,h3,h4⟩:=rdyTo_yes k h;exact⟨i,h2,by omega,h4⟩
theorem rdy_yes {a:AgT}(h:¬rdyN a<0):∃(i n:Nat),rdyN a=(i:Int)∧i<20∧manyK a (i:Int)=(n:Int)∧∀k,k<n→hasK a.l (i:Int) (k:Int)=true:=by
 obtain⟨i,h1,h2,h3⟩:=rdyTo_yes 20 h;have e:rdyB a (i:Int)=(!doneK a (i:Int)&&decide (0≤manyK a (i:Int))&&allK a.l (i:Int) (manyK a (i:Int)).toNat):=rfl;rw[e,Bool.and_eq_true,Bool.and_eq_true] at h3;have h4:0≤manyK a (i:Int):=by simpa using h3.1.2
 refine⟨i,(manyK a (i:Int)).toNat,h1,by omega,by omega,fun k hk=>?_⟩;have h5:=h3.2;rw[allK,List.all_eq_true] at h5;exact h5 k (List.mem_range.2 hk)
theorem ops_len {a:AgT}{r:Int}{n:Nat}(h:manyK a r=(n:Int)):(opsK a r).length=n:=by
 rw[opsK,List.length_map,List.length_range,h];rfl
theorem ops_at {a:AgT}{r:Int}{n k:Nat}(h:manyK a r=(n:Int))(hk:k<n):(opsK a r).take (k+1)=(opsK a r).take k++[opK a.l r (k:Int)]:=by
 have hl:k<(opsK a r).length:=by rw[ops_len h];exact hk
 rw[List.take_succ_eq_append_getElem hl]
 congr 1
 simp only[opsK,List.getElem_map,List.getElem_range]
theorem rready_any {p B0:Nat}{O:Nat→Prop}{N:Int}{a:AgT}{x:SlT}{vl vm vd:Value}(w:World)(h:RfA w p B0 O N a x vl vm vd)(hm:a.m.length=20)(hy:∀y∈a.m,y≤1000):
 Calls prog 22 #[.pointer (some ⟨p,0,none⟩)] w fun e w'=>e=.returned (.int i64 (rdyN a))∧w'=w:=by
 have HF:Hid (∀q s,Calls prog 44 #[.pointer (some ⟨p,0,none⟩),.int i64 q,.int i64 s] w fun e w'=>e=.returned (.int i64 (ixG (kpB q s) a.l))∧w'=w):=fun q s=>rfind_any q s w h
 obtain⟨ad,cd,e1⟩:=own_form h.d;obtain⟨am,cm,e2⟩:=own_form h.m;have hD:GS inE w vd a.d:=own_GS h.d;have hM:GS inE w vm a.m:=own_GS h.m;have h3:=h.c3;have h4:=h.c4;rw[e1] at hD h4;rw[e2,hm] at hM h3;have HD:Hid (GS inE w (.slice ad a.d.length cd) a.d):=hD;obtain⟨nd,hnd⟩:∃nd,nd=a.d.length:=⟨_,rfl⟩;rw[←hnd] at HD h4;obtain⟨_,_,_,e3,_,_,_,ha⟩:=hM.form;cases e3;obtain⟨g,o,rfl,hGA,_⟩:=ha (by omega);have HGA:Hid (GAt inE w g o a.m):=hGA;have HML:Hid (a.m.length=20):=hm;have HMY:Hid (∀y∈a.m,y≤1000):=hy;obtain⟨R,hR⟩:∃R,R=rdyN a:=⟨_,rfl⟩;have HR:Hid (R=rdyTo a 0 20):=hR;rw[←hR];clear h hm hy hD hM e1 e2 hnd ha hGA hR;go_enter func22,ntmps22;go_wp2
 go_loopw [3] (fun i wr=>∃k:Nat,k≤20∧i=.int i64 k∧R=rdyTo a k (20-k)∧wr=w) (fun i _=>20-(intOf i).toNat)
 case atStart=>exact⟨0,by omega,rfl,HR.out,rfl⟩
 case round =>
  obtain⟨i,hi,rfl,hr,hwz⟩:=hrel;have hwy:=hwz.symm;subst hwy;have HRI:Hid (R=rdyTo a i (20-i)):=hr;clear hr hwz HR;by_cases hlt:i<20
  ·have hil:i<a.m.length:=by rw[HML.out];exact hlt
   have hci:=HGA.out i hil 0 _ rfl;have e0:o+i*inE.n+0=o+i:=by show o+i*1+0=o+i;omega
   rw[e0] at hci;obtain⟨y,hyy⟩:∃y,y=a.m[i]:=⟨_,rfl⟩;rw[←hyy] at hci;have HY:Hid (manyK a (i:Int)=y):=by
    show _=_;rw[hyy,manyK,Int.toNat_natCast,List.getD_eq_getElem?_getD,List.getElem?_eq_getElem hil];rfl
   have hy1:y≤1000:=by rw[hyy];exact HMY.out _ (List.getElem_mem hil)
   have ib0:(0:Int)≤(i:Int):=by omega
   have ib1:(i:Int)<20:=by omega
   obtain⟨dn,hdn⟩:∃dn,dn=doneK a (i:Int):=⟨_,rfl⟩;have HDN:Hid (dn=doneK a (i:Int)):=hdn;have HRS:Hid (R=if rdyB a (i:Int)=true then (i:Int) else rdyTo a (i+1) (20-(i+1))):=by
    show _=_;rw[HRI.out,show 20-i=(20-(i+1))+1 by omega,rdy_step]
   have HRB:Hid (rdyB a (i:Int)=(!dn&&decide (0≤y)&&allK a.l (i:Int) y.toNat)):=by
    show _=_;rw[rdyB,HDN.out,HY.out]
   clear hyy hdn e0 HRI
   go_wp2_with fail
   refine (in_any ad nd cd a.d (i:Int) _ HD.out).mono ?_;rintro e w1 ⟨rfl,rfl⟩;rw[show (a.d.any fun y=>y==(i:Int))=dn from HDN.out.symm];obtain⟨ok,hok⟩:∃b:Bool,b=(!dn&&decide (0≤y)):=⟨_,rfl⟩;have HOK:Hid (ok=(!dn&&decide (0≤y))):=hok;have HRB2:Hid (rdyB a (i:Int)=(ok&&allK a.l (i:Int) y.toNat)):=by
    show _=_;rw[HRB.out,hok]
   have hmov:(i:Int)=(i:Int):=rfl;clear hok HRB;go_upto_region 5 with fail
   go_cut [5] from 17 to 28 (fun q w'=>q=.bool ok∧w'=w1)
   case first =>
    cases dn with
    | true =>
      have hok:ok=false:=by rw[HOK.out];rfl
      subst hok;go_wp2
      go_meet
      case rel=>exact⟨rfl,rfl⟩
    | false =>
      have hok:ok=decide (y ≥ 0):=by rw[HOK.out];simp
      subst hok;go_wp2
      go_meet
      case rel=>exact⟨rfl,rfl⟩
   case rest =>
    obtain⟨rfl,rfl⟩:=hcut;go_upto_region 6 with fail;go_wp2
    go_loopw [5,6] (fun b k wr=>∃(j:Nat) (c:Bool),k=.int i64 j∧b=.bool c∧c=(ok&&allK a.l (i:Int) j)∧(j≤y.toNat)∧wr=wc) (fun _ k _=>y.toNat-(intOf k).toNat)
    case atStart=>exact⟨0,ok,rfl,rfl,by simp[allK],by omega,rfl⟩
    case round =>
     obtain⟨j,c,rfl,rfl,hc,hj,hwz⟩:=hrel;have hwy:=hwz.symm;subst hwy;have HC:Hid (c=(ok&&allK a.l (i:Int) j)):=hc;clear hc hwz;by_cases hjy:(j:Int)<y
     ·cases c with
      | true =>
        have hok:ok=true:=by
         have:=HC.out;cases ok
         ·cases this
         rfl
        have hal:allK a.l (i:Int) j=true:=by
         have:=HC.out;rw[hok] at this;simpa using this.symm
        have HN:Hid (hasK a.l (i:Int) (j:Int)=(ok&&allK a.l (i:Int) (j+1))):=by
         show _=_;rw[hok,all_next,hal];simp
        go_wp2_with fail
        refine (HF.out (i:Int) (j:Int)).mono ?_;rintro e w2 ⟨rfl,rfl⟩;obtain⟨z,hz⟩:∃z,z=ixG (kpB (i:Int) (j:Int)) a.l:=⟨_,rfl⟩;rw[←hz];have HZ:Hid (decide (z ≥ 0)=(ok&&allK a.l (i:Int) (j+1))):=by
         show _=_;rw[hz,ix_has,HN.out]
        clear hz;go_wp2;go_roundw
        case rel=>exact⟨j+1,_,by go_num,rfl,HZ.out,by omega,by first | rfl | trivial⟩
        case measure=>simp[intOf];omega
      | false =>
        have HRF:Hid (rdyB a (i:Int)=false):=by
         show _=_;rw[HRB2.out];have:=HC.out;cases ok with
         | false=>rfl
         | true =>
           rw[all_less (k:=j) (by simpa using this.symm) hj];rfl
        have HRN:Hid (R=rdyTo a (i+1) (20-(i+1))):=by
         show _=_;rw[HRS.out,HRF.out];rfl
        go_wp2;go_roundw
        case rel=>exact⟨i+1,by omega,by go_num,HRN.out,by first | rfl | trivial⟩
        case measure=>simp[intOf];omega
     have HRF:Hid (rdyB a (i:Int)=c):=by
      show _=_;rw[HRB2.out,HC.out];by_cases h0:0≤y
      ·rw[show j=y.toNat by omega]
      have:ok=false:=by rw[HOK.out];simp[h0]
      rw[this];rfl
     cases c with
     | true =>
       have HRN:Hid (R=(i:Int)):=by
        show _=_;rw[HRS.out,HRF.out];rfl
       go_wp2;go_ret;exact⟨by rw[HRN.out];rfl,rfl⟩
     | false =>
       have HRN:Hid (R=rdyTo a (i+1) (20-(i+1))):=by
        show _=_;rw[HRS.out,HRF.out];rfl
       go_wp2;go_roundw
       case rel=>exact⟨i+1,by omega,by go_num,HRN.out,by first | rfl | trivial⟩
       case measure=>simp[intOf];omega
  obtain rfl:i=20:=by omega
  have HRN:Hid (R = -1):=by
   show _=_;rw[HRI.out];rfl
  go_wp2;go_ret;exact⟨by rw[HRN.out];rfl,rfl⟩
end
section
open Go.ChangeShapes Go.WideShapes Go.ChangeAt Go.RowKit Go.Joins
def msgE:Enc (Mg) where
 c:=fun x=>[.int i64 x.k,.int i64 x.s,.int i64 x.r,.int i64 x.i,.int i64 x.o.w,.bool x.o.a,.int i64 x.o.r.p,.int i64 x.o.r.m,.int i64 x.o.r.b,.int i64 x.o.r.o,.int i64 x.o.r.s,.int i64 x.o.r.v]
 n:=12
 len:=fun _=>rfl
 pos:=by decide
 one:=by
  intro x u hu;simp at hu
  rcases hu with rfl | rfl | rfl | rfl | rfl | rfl | rfl | rfl | rfl | rfl | rfl | rfl <;> rfl
theorem msg_cells {w:World}{g o:Nat}{x0 x1 x2 x3 x4:Int}{x5:Bool}{x6 x7 x8 x9 x10 x11:Int}(h:VAt w g o (msgE.c ⟨x0,x1,x2,x3,⟨x4,x5,⟨x6,x7,x8,x9,x10,x11⟩⟩⟩)):w.cell? ⟨g,o,none⟩=some (.int i64 x0)∧w.cell? ⟨g,o+1,none⟩=some (.int i64 x1)∧w.cell? ⟨g,o+2,none⟩=some (.int i64 x2)∧w.cell? ⟨g,o+3,none⟩=some (.int i64 x3)∧w.cell? ⟨g,o+4,none⟩=some (.int i64 x4)∧w.cell? ⟨g,o+5,none⟩=some (.bool x5)∧w.cell? ⟨g,o+6,none⟩=some (.int i64 x6)∧w.cell? ⟨g,o+7,none⟩=some (.int i64 x7)∧w.cell? ⟨g,o+8,none⟩=some (.int i64 x8)∧w.cell? ⟨g,o+9,none⟩=some (.int i64 x9)∧w.cell? ⟨g,o+10,none⟩=some (.int i64 x10)∧w.cell? ⟨g,o+11,none⟩=some (.int i64 x11):=
 ⟨h 0 _ rfl,h 1 _ rfl,h 2 _ rfl,h 3 _ rfl,h 4 _ rfl,h 5 _ rfl,h 6 _ rfl,h 7 _ rfl,h 8 _ rfl,h 9 _ rfl,h 10 _ rfl,h 11 _ rfl⟩
theorem msg_at {w:World}{g o:Nat}{L:List (Mg)}(h:GAt msgE w g o L){n k:Nat}(hn:L.length=n)(hk:k<n):
 ∃(x0:Int) (x1:Int) (x2:Int) (x3:Int) (x4:Int) (x5:Bool) (x6:Int) (x7:Int) (x8:Int) (x9:Int) (x10:Int) (x11:Int) (hl:k<L.length),L[k]=⟨x0,x1,x2,x3,⟨x4,x5,⟨x6,x7,x8,x9,x10,x11⟩⟩⟩∧w.cell? ⟨g,o+k*12,none⟩=some (.int i64 x0)∧w.cell? ⟨g,o+k*12+1,none⟩=some (.int i64 x1)∧w.cell? ⟨g,o+k*12+2,none⟩=some (.int i64 x2)∧w.cell? ⟨g,o+k*12+3,none⟩=some (.int i64 x3)∧w.cell? ⟨g,o+k*12+4,none⟩=some (.int i64 x4)∧w.cell? ⟨g,o+k*12+5,none⟩=some (.bool x5)∧w.cell? ⟨g,o+k*12+6,none⟩=some (.int i64 x6)∧w.cell? ⟨g,o+k*12+7,none⟩=some (.int i64 x7)∧w.cell? ⟨g,o+k*12+8,none⟩=some (.int i64 x8)∧w.cell? ⟨g,o+k*12+9,none⟩=some (.int i64 x9)∧w.cell? ⟨g,o+k*12+10,none⟩=some (.int i64 x10)∧w.cell? ⟨g,o+k*12+11,none⟩=some (.int i64 x11):=
 have hl:k<L.length:=by omega
 ⟨_,_,_,_,_,_,_,_,_,_,_,_,hl,rfl,msg_cells (h k hl)⟩
theorem msg_row (w:World)(x0 x1 x2 x3 x4:Int)(x5:Bool)(x6 x7 x8 x9 x10 x11:Int)(t:TypeId):GS msgE (w.alloc (.cells #[.int i64 x0,.int i64 x1,.int i64 x2,.int i64 x3,.int i64 x4,.bool x5,.int i64 x6,.int i64 x7,.int i64 x8,.int i64 x9,.int i64 x10,.int i64 x11] t)) (.slice (some ⟨w.heap.size,0,none⟩) 1 1) [⟨x0,x1,x2,x3,⟨x4,x5,⟨x6,x7,x8,x9,x10,x11⟩⟩⟩]:=gs_one (E:=msgE) w ⟨x0,x1,x2,x3,⟨x4,x5,⟨x6,x7,x8,x9,x10,x11⟩⟩⟩ t (vs:=[.int i64 x0,.int i64 x1,.int i64 x2,.int i64 x3,.int i64 x4,.bool x5,.int i64 x6,.int i64 x7,.int i64 x8,.int i64 x9,.int i64 x10,.int i64 x11]) rfl
def msgB (a b:Mg):Bool:=(a.k==b.k)&&((a.s==b.s)&&((a.r==b.r)&&((a.i==b.i)&&((a.o.w==b.o.w)&&((a.o.a==b.o.a)&&((a.o.r.p==b.o.r.p)&&((a.o.r.m==b.o.r.m)&&((a.o.r.b==b.o.r.b)&&((a.o.r.o==b.o.r.o)&&((a.o.r.s==b.o.r.s)&&((a.o.r.v==b.o.r.v))))))))))))
theorem msgB_iff (a b:Mg):msgB a b=true↔a=b:=by
 have e:msgB a b=((a.k==b.k)&&((a.s==b.s)&&((a.r==b.r)&&((a.i==b.i)&&((a.o.w==b.o.w)&&((a.o.a==b.o.a)&&((a.o.r.p==b.o.r.p)&&((a.o.r.m==b.o.r.m)&&((a.o.r.b==b.o.r.b)&&((a.o.r.o==b.o.r.o)&&((a.o.r.s==b.o.r.s)&&((a.o.r.v==b.o.r.v))))))))))))):=rfl;rw[e];simp only[Bool.and_eq_true,beq_iff_eq];constructor
 ·intro h;obtain⟨a0,a1,a2,a3,⟨a4,a5,⟨a6,a7,a8,a9,a10,a11⟩⟩⟩:=a;obtain⟨b0,b1,b2,b3,⟨b4,b5,⟨b6,b7,b8,b9,b10,b11⟩⟩⟩:=b;simp at h ⊢;simp[h]
 intro h;subst h;simp
theorem msg_ways (x0 x1 x2 x3 x4:Int)(x5:Bool)(x6 x7 x8 x9 x10 x11 y0 y1 y2 y3 y4:Int)(y5:Bool)(y6 y7 y8 y9 y10 y11:Int):
 ((x0==y0)=false∧msgB ⟨x0,x1,x2,x3,⟨x4,x5,⟨x6,x7,x8,x9,x10,x11⟩⟩⟩ ⟨y0,y1,y2,y3,⟨y4,y5,⟨y6,y7,y8,y9,y10,y11⟩⟩⟩=false) ∨
 ((x0==y0)=true∧(x1==y1)=false∧msgB ⟨x0,x1,x2,x3,⟨x4,x5,⟨x6,x7,x8,x9,x10,x11⟩⟩⟩ ⟨y0,y1,y2,y3,⟨y4,y5,⟨y6,y7,y8,y9,y10,y11⟩⟩⟩=false) ∨
 ((x0==y0)=true∧(x1==y1)=true∧(x2==y2)=false∧msgB ⟨x0,x1,x2,x3,⟨x4,x5,⟨x6,x7,x8,x9,x10,x11⟩⟩⟩ ⟨y0,y1,y2,y3,⟨y4,y5,⟨y6,y7,y8,y9,y10,y11⟩⟩⟩=false) ∨
 ((x0==y0)=true∧(x1==y1)=true∧(x2==y2)=true∧(x3==y3)=false∧msgB ⟨x0,x1,x2,x3,⟨x4,x5,⟨x6,x7,x8,x9,x10,x11⟩⟩⟩ ⟨y0,y1,y2,y3,⟨y4,y5,⟨y6,y7,y8,y9,y10,y11⟩⟩⟩=false) ∨
 ((x0==y0)=true∧(x1==y1)=true∧(x2==y2)=true∧(x3==y3)=true∧(x4==y4)=false∧msgB ⟨x0,x1,x2,x3,⟨x4,x5,⟨x6,x7,x8,x9,x10,x11⟩⟩⟩ ⟨y0,y1,y2,y3,⟨y4,y5,⟨y6,y7,y8,y9,y10,y11⟩⟩⟩=false) ∨
 ((x0==y0)=true∧(x1==y1)=true∧(x2==y2)=true∧(x3==y3)=true∧(x4==y4)=true∧(x5==y5)=false∧msgB ⟨x0,x1,x2,x3,⟨x4,x5,⟨x6,x7,x8,x9,x10,x11⟩⟩⟩ ⟨y0,y1,y2,y3,⟨y4,y5,⟨y6,y7,y8,y9,y10,y11⟩⟩⟩=false) ∨
 ((x0==y0)=true∧(x1==y1)=true∧(x2==y2)=true∧(x3==y3)=true∧(x4==y4)=true∧(x5==y5)=true∧(x6==y6)=false∧msgB ⟨x0,x1,x2,x3,⟨x4,x5,⟨x6,x7,x8,x9,x10,x11⟩⟩⟩ ⟨y0,y1,y2,y3,⟨y4,y5,⟨y6,y7,y8,y9,y10,y11⟩⟩⟩=false) ∨
 ((x0==y0)=true∧(x1==y1)=true∧(x2==y2)=true∧(x3==y3)=true∧(x4==y4)=true∧(x5==y5)=true∧(x6==y6)=true∧(x7==y7)=false∧msgB ⟨x0,x1,x2,x3,⟨x4,x5,⟨x6,x7,x8,x9,x10,x11⟩⟩⟩ ⟨y0,y1,y2,y3,⟨y4,y5,⟨y6,y7,y8,y9,y10,y11⟩⟩⟩=false) ∨
 ((x0==y0)=true∧(x1==y1)=true∧(x2==y2)=true∧(x3==y3)=true∧(x4==y4)=true∧(x5==y5)=true∧(x6==y6)=true∧(x7==y7)=true∧(x8==y8)=false∧msgB ⟨x0,x1,x2,x3,⟨x4,x5,⟨x6,x7,x8,x9,x10,x11⟩⟩⟩ ⟨y0,y1,y2,y3,⟨y4,y5,⟨y6,y7,y8,y9,y10,y11⟩⟩⟩=false) ∨
 ((x0==y0)=true∧(x1==y1)=true∧(x2==y2)=true∧(x3==y3)=true∧(x4==y4)=true∧(x5==y5)=true∧(x6==y6)=true∧(x7==y7)=true∧(x8==y8)=true∧(x9==y9)=false∧msgB ⟨x0,x1,x2,x3,⟨x4,x5,⟨x6,x7,x8,x9,x10,x11⟩⟩⟩ ⟨y0,y1,y2,y3,⟨y4,y5,⟨y6,y7,y8,y9,y10,y11⟩⟩⟩=false) ∨
 ((x0==y0)=true∧(x1==y1)=true∧(x2==y2)=true∧(x3==y3)=true∧(x4==y4)=true∧(x5==y5)=true∧(x6==y6)=true∧(x7==y7)=true∧(x8==y8)=true∧(x9==y9)=true∧(x10==y10)=false∧msgB ⟨x0,x1,x2,x3,⟨x4,x5,⟨x6,x7,x8,x9,x10,x11⟩⟩⟩ ⟨y0,y1,y2,y3,⟨y4,y5,⟨y6,y7,y8,y9,y10,y11⟩⟩⟩=false) ∨
 ((x0==y0)=true∧(x1==y1)=true∧(x2==y2)=true∧(x3==y3)=true∧(x4==y4)=true∧(x5==y5)=true∧(x6==y6)=true∧(x7==y7)=true∧(x8==y8)=true∧(x9==y9)=true∧(x10==y10)=true∧(x11==y11)=false∧msgB ⟨x0,x1,x2,x3,⟨x4,x5,⟨x6,x7,x8,x9,x10,x11⟩⟩⟩ ⟨y0,y1,y2,y3,⟨y4,y5,⟨y6,y7,y8,y9,y10,y11⟩⟩⟩=false) ∨
 ((x0==y0)=true∧(x1==y1)=true∧(x2==y2)=true∧(x3==y3)=true∧(x4==y4)=true∧(x5==y5)=true∧(x6==y6)=true∧(x7==y7)=true∧(x8==y8)=true∧(x9==y9)=true∧(x10==y10)=true∧(x11==y11)=true∧msgB ⟨x0,x1,x2,x3,⟨x4,x5,⟨x6,x7,x8,x9,x10,x11⟩⟩⟩ ⟨y0,y1,y2,y3,⟨y4,y5,⟨y6,y7,y8,y9,y10,y11⟩⟩⟩=true):=by
 have e:msgB ⟨x0,x1,x2,x3,⟨x4,x5,⟨x6,x7,x8,x9,x10,x11⟩⟩⟩ ⟨y0,y1,y2,y3,⟨y4,y5,⟨y6,y7,y8,y9,y10,y11⟩⟩⟩=((x0==y0)&&((x1==y1)&&((x2==y2)&&((x3==y3)&&((x4==y4)&&((x5==y5)&&((x6==y6)&&((x7==y7)&&((x8==y8)&&((x9==y9)&&((x10==y10)&&((x11==y11))))))))))))):=rfl;rw[e];cases h0:(x0==y0)
 ·simp
 skip;cases h1:(x1==y1)
 ·simp
 skip;cases h2:(x2==y2)
 ·simp
 skip;cases h3:(x3==y3)
 ·simp
 skip;cases h4:(x4==y4)
 ·simp
 skip;cases h5:(x5==y5)
 ·simp
 skip;cases h6:(x6==y6)
 ·simp
 skip;cases h7:(x7==y7)
 ·simp
 skip;cases h8:(x8==y8)
 ·simp
 skip;cases h9:(x9==y9)
 ·simp
 skip;cases h10:(x10==y10)
 ·simp
 skip;cases h11:(x11==y11)
 ·simp
 skip;simp
theorem msg_eq (x0 x1 x2 x3 x4:Int)(x5:Bool)(x6 x7 x8 x9 x10 x11 y0 y1 y2 y3 y4:Int)(y5:Bool)(y6 y7 y8 y9 y10 y11:Int)(w:World):(Op.equal 50 (.agg #[.int i64 x0,.int i64 x1,.int i64 x2,.int i64 x3,.int i64 x4,.bool x5,.int i64 x6,.int i64 x7,.int i64 x8,.int i64 x9,.int i64 x10,.int i64 x11]) (.agg #[.int i64 y0,.int i64 y1,.int i64 y2,.int i64 y3,.int i64 y4,.bool y5,.int i64 y6,.int i64 y7,.int i64 y8,.int i64 y9,.int i64 y10,.int i64 y11])).run prog w=.ok (msgB ⟨x0,x1,x2,x3,⟨x4,x5,⟨x6,x7,x8,x9,x10,x11⟩⟩⟩ ⟨y0,y1,y2,y3,⟨y4,y5,⟨y6,y7,y8,y9,y10,y11⟩⟩⟩) w:=by
 unfold Op.equal Op.maxDepth;rw[run_equalIn_struct w 9999 _ _ _ (by kernel_rfl) (by kernel_rfl)]
 rcases msg_ways x0 x1 x2 x3 x4 x5 x6 x7 x8 x9 x10 x11 y0 y1 y2 y3 y4 y5 y6 y7 y8 y9 y10 y11 with ⟨e0,e⟩ | ⟨e0,e1,e⟩ | ⟨e0,e1,e2,e⟩ | ⟨e0,e1,e2,e3,e⟩ | ⟨e0,e1,e2,e3,e4,e⟩ | ⟨e0,e1,e2,e3,e4,e5,e⟩ | ⟨e0,e1,e2,e3,e4,e5,e6,e⟩ | ⟨e0,e1,e2,e3,e4,e5,e6,e7,e⟩ | ⟨e0,e1,e2,e3,e4,e5,e6,e7,e8,e⟩ | ⟨e0,e1,e2,e3,e4,e5,e6,e7,e8,e9,e⟩ | ⟨e0,e1,e2,e3,e4,e5,e6,e7,e8,e9,e10,e⟩ | ⟨e0,e1,e2,e3,e4,e5,e6,e7,e8,e9,e10,e11,e⟩ | ⟨e0,e1,e2,e3,e4,e5,e6,e7,e8,e9,e10,e11,e⟩
 all_goals
  rw[e];go_simp
theorem msg_open {H:Type}{enc:TypeId×Value→H}{W:World}{n:Nat}{cs:List Value}{x:DataW H×List MemPlace}
 (h:DataW.trod enc prog W 0 (fun _=>true) true n 50 cs=some x):∃y,cs=msgE.c y:=by
 obtain⟨xs,k,_,_,hl,hlen,hf⟩:=DataW.trod_struct underlying50 h;have hC:Tryd.prog.cellsOf 50=12:=by kernel_rfl
 have hT0:Tryd.prog.cellsOf 3=1:=by kernel_rfl
 have hT1:Tryd.prog.cellsOf 43=8:=by kernel_rfl
 rw[hC] at hl
 match cs,hl with
 | [c0,c1,c2,c3,c4,c5,c6,c7,c8,c9,c10,c11],_ =>
   match xs,hlen with
   | [z0,z1,z2,z3,z4],_ =>
     have g0:=hf 0 _ rfl;have g1:=hf 1 _ rfl;have g2:=hf 2 _ rfl;have g3:=hf 3 _ rfl;have g4:=hf 4 _ rfl;simp[hT0,hT1] at g0 g1 g2 g3 g4;obtain⟨v0,e0,_,_⟩:=DataW.trod_int underlying3 g0;obtain⟨v1,e1,_,_⟩:=DataW.trod_int underlying3 g1;obtain⟨v2,e2,_,_⟩:=DataW.trod_int underlying3 g2;obtain⟨v3,e3,_,_⟩:=DataW.trod_int underlying3 g3;obtain⟨s4,e4⟩:=op_open g4;simp[opE] at e0 e1 e2 e3 e4;refine⟨⟨v0,v1,v2,v3,⟨s4.w,s4.a,⟨s4.r.p,s4.r.m,s4.r.b,s4.r.o,s4.r.s,s4.r.v⟩⟩⟩,?_⟩;simp[msgE,e0,e1,e2,e3,e4]
theorem msgs_of {H:Type}{enc:TypeId×Value→H}{W:World}{base:Nat}{v:Value}{d:DataW H}{p:List MemPlace}
 (hv:Value.okWide prog W .any base 46 v) (h:DataW.Trod enc prog W 0 (fun _=>true) true 46 v d p):∃L,GS msgE W v L:=
 gs_of (E:=msgE) 46 50 underlying46 (by kernel_rfl) ⟨0,0,0,0,⟨0,false,⟨0,0,0,0,0,0⟩⟩⟩ (fun _ _ _ h=>msg_open h) hv h
end
section
open Go.RowKit
def HrP (w:World)(p B0:Nat)(O:Nat→Prop)(N:Int)(a':AgT)(E:Int)(l:List Mg)(e:Ending)(w':World):Prop:=
 ∃ a1 n1 c1,e=.returned (.tuple #[.slice a1 n1 c1,.int i64 E])∧GS msgE w' (.slice a1 n1 c1) l∧(∀ad,a1=some ad→w.heap.size≤ad.block) ∧
   ∃O',AgR w' p B0 O' N a'∧(∀b,O' b→O b∨w.heap.size≤b)∧(∀ad,a1=some ad→¬O' ad.block)∧Kb (fun b=>¬O b) w w'
theorem hrp_none {w w':World}{p B0:Nat}{O:Nat→Prop}{N:Int}{a:AgT}{x:SlT}{vl vm vd:Value}{E:Int}(h:RfA w p B0 O N a x vl vm vd)(hb:Below w.heap.size w w'):
 HrP w p B0 O N a E [] (.returned (.tuple #[.slice none 0 0,.int i64 E])) w':=
 ⟨none,0,0,rfl,GS.nil _,(fun _ h=>by cases h),O,⟨x,vl,vm,vd,h.later hb⟩,fun b h=>.inl h,(fun _ h=>by cases h),Kb.of_below hb fun b hl _=>hl⟩
theorem hrp_some {w w':World}{p B0:Nat}{O O':Nat→Prop}{N:Int}{a':AgT}{x:SlT}{vl vm vd:Value}{E:Int}(h:RfA w' p B0 O' N a' x vl vm vd)(hO:∀b,O' b→O b∨w.heap.size≤b)(hk:Kb (fun b=>¬O b) w w'):
 HrP w p B0 O N a' E [] (.returned (.tuple #[.slice none 0 0,.int i64 E])) w':=
 ⟨none,0,0,rfl,GS.nil _,(fun _ h=>by cases h),O',⟨x,vl,vm,vd,h⟩,hO,(fun _ h=>by cases h),hk⟩
theorem hrp_yes {w wd:World}{p B0:Nat}{O:Nat→Prop}{N:Int}{a:AgT}{x:SlT}{vl vm vd:Value}{E:Int}(h:RfA w p B0 O N a x vl vm vd)(hb:Below w.heap.size w wd)(r:Int)(t:TypeId):
 HrP w p B0 O N a E [yesM N r] (.returned (.tuple #[.slice (some ⟨wd.heap.size,0,none⟩) 1 1,.int i64 E])) (wd.alloc (.cells #[.int i64 3,.int i64 N,.int i64 r,.int i64 0,.int i64 0,.bool false,.int i64 0,.int i64 0,.int i64 0,.int i64 0,.int i64 0,.int i64 0] t)):=by
 have hb2:Below w.heap.size w (wd.alloc (.cells #[.int i64 3,.int i64 N,.int i64 r,.int i64 0,.int i64 0,.bool false,.int i64 0,.int i64 0,.int i64 0,.int i64 0,.int i64 0,.int i64 0] t)):=hb.alloc hb.size _;refine⟨_,_,_,rfl,msg_row wd 3 N r 0 0 false 0 0 0 0 0 0 t,?_,O,⟨x,vl,vm,vd,h.later hb2⟩,fun b h=>.inl h,?_,Kb.of_below hb2 fun b hl _=>hl⟩
 ·intro ad ha;cases ha;exact hb.size
 intro ad ha ho;cases ha;have h1:=(h.lt _ ho).2;have h2:=hb.size;simp only at h1;omega
def MgC (W:World)(g:Nat)(x0 x1 x2 x3 x4:Int)(x5:Bool)(x6 x7 x8 x9 x10 x11:Int):Prop:=
 W.cell? ⟨g,0,none⟩=some (.int i64 x0)∧W.cell? ⟨g,1,none⟩=some (.int i64 x1)∧W.cell? ⟨g,2,none⟩=some (.int i64 x2)∧W.cell? ⟨g,3,none⟩=some (.int i64 x3)∧W.cell? ⟨g,4,none⟩=some (.int i64 x4)∧W.cell? ⟨g,5,none⟩=some (.bool x5)∧W.cell? ⟨g,6,none⟩=some (.int i64 x6)∧W.cell? ⟨g,7,none⟩=some (.int i64 x7)∧W.cell? ⟨g,8,none⟩=some (.int i64 x8)∧W.cell? ⟨g,9,none⟩=some (.int i64 x9)∧W.cell? ⟨g,10,none⟩=some (.int i64 x10)∧W.cell? ⟨g,11,none⟩=some (.int i64 x11)
theorem MgC.later {W W':World}{g:Nat}{x0 x1 x2 x3 x4:Int}{x5:Bool}{x6 x7 x8 x9 x10 x11:Int}(h:MgC W g x0 x1 x2 x3 x4 x5 x6 x7 x8 x9 x10 x11)(hb:Below W.heap.size W W'):MgC W' g x0 x1 x2 x3 x4 x5 x6 x7 x8 x9 x10 x11:=by
 obtain⟨c0,c1,c2,c3,c4,c5,c6,c7,c8,c9,c10,c11⟩:=h;exact⟨cell_later hb c0,cell_later hb c1,cell_later hb c2,cell_later hb c3,cell_later hb c4,cell_later hb c5,cell_later hb c6,cell_later hb c7,cell_later hb c8,cell_later hb c9,cell_later hb c10,cell_later hb c11⟩
theorem MgC.lt {W:World}{g:Nat}{x0 x1 x2 x3 x4:Int}{x5:Bool}{x6 x7 x8 x9 x10 x11:Int}(h:MgC W g x0 x1 x2 x3 x4 x5 x6 x7 x8 x9 x10 x11):g<W.heap.size:=bLQ _ _ h.1
theorem mgc_new (w:World)(x0 x1 x2 x3 x4:Int)(x5:Bool)(x6 x7 x8 x9 x10 x11:Int)(T:TypeId):MgC (w.alloc (.cells #[.int i64 x0,.int i64 x1,.int i64 x2,.int i64 x3,.int i64 x4,.bool x5,.int i64 x6,.int i64 x7,.int i64 x8,.int i64 x9,.int i64 x10,.int i64 x11] T)) w.heap.size x0 x1 x2 x3 x4 x5 x6 x7 x8 x9 x10 x11:=by
 refine⟨?_,?_,?_,?_,?_,?_,?_,?_,?_,?_,?_,?_⟩ <;> simp
theorem checkOp_any (x4:Int)(x5:Bool)(x6 x7 x8 x9 x10 x11 t:Int)(w:World):
 Calls prog 78 #[.agg #[.int i64 x4,.bool x5,.int i64 x6,.int i64 x7,.int i64 x8,.int i64 x9,.int i64 x10,.int i64 x11],.int i64 t] w fun e w'=>e=.returned (noV (moN ⟨x4,x5,⟨x6,x7,x8,x9,x10,x11⟩⟩ t))∧Below w.heap.size w w':=by
 have HB0:Hid (Below w.heap.size w (w.alloc (.cells #[.int i64 x4,.bool x5,.int i64 x6,.int i64 x7,.int i64 x8,.int i64 x9,.int i64 x10,.int i64 x11] 43))):=(bRQ _ _).alloc (nLQ _) _;have HC0:Hid ((w.alloc (.cells #[.int i64 x4,.bool x5,.int i64 x6,.int i64 x7,.int i64 x8,.int i64 x9,.int i64 x10,.int i64 x11] 43)).cell? ⟨w.heap.size,0,none⟩=some (.int i64 x4)):=by show _=_;simp
 obtain⟨N,hN⟩:∃N,N=ruN x6 x7 x8 x9 x10 x11:=⟨_,rfl⟩;have e:moN ⟨x4,x5,⟨x6,x7,x8,x9,x10,x11⟩⟩ t=if N=0 then (if x4=t then 0 else 3) else N:=by rw[hN];rfl
 rw[e];have HN:Hid (ruN x6 x7 x8 x9 x10 x11=N):=hN.symm;clear e hN;by_cases h0:N=0
 ·subst h0;by_cases h1:x4=t
  ·subst h1;have ht:(x4==x4)=true:=by simp
   go_enter func78,ntmps78
   go_wp2_with fail
   refine (ruCheck_any x6 x7 x8 x9 x10 x11 _).mono ?_;rintro e w1 ⟨rfl,hb1⟩;have c1:=cell_later hb1 HC0.out;have HB1:Hid (Below w.heap.size w w1):=HB0.out.trans (hb1.mono HB0.out.size);rw[HN.out,no_ok rfl];clear hb1;go_wp2;go_ret;exact⟨by simp[noV],HB1.out⟩
  have ht:(x4==t)=false:=by simpa using h1
  rw[if_pos rfl,if_neg h1];go_enter func78,ntmps78
  go_wp2_with fail
  refine (ruCheck_any x6 x7 x8 x9 x10 x11 _).mono ?_;rintro e w1 ⟨rfl,hb1⟩;have c1:=cell_later hb1 HC0.out;have HB1:Hid (Below w.heap.size w w1):=HB0.out.trans (hb1.mono HB0.out.size);rw[HN.out,no_ok rfl];clear hb1;go_wp2;go_ret;exact⟨rfl,HB1.out⟩
 rw[if_neg h0];go_enter func78,ntmps78
 go_wp2_with fail
 refine (ruCheck_any x6 x7 x8 x9 x10 x11 _).mono ?_;rintro e w1 ⟨rfl,hb1⟩;have HB1:Hid (Below w.heap.size w w1):=HB0.out.trans (hb1.mono HB0.out.size);rw[HN.out,no_ne h0];clear hb1;go_wp2;go_ret;exact⟨by rw[no_ne h0];rfl,HB1.out⟩
theorem mg_no {m:Mg}(h:mgR m=false):mgN m=1:=by unfold mgN;rw[h];rfl
theorem mg_k {m:Mg}(h:¬(1≤m.k∧m.k≤3)):mgR m=false:=by
 cases e:mgR m
 ·rfl
 exact absurd (mg_rng.1 e).1 h
theorem mg_s {m:Mg}(h:¬(1≤m.s∧m.s≤6)):mgR m=false:=by
 cases e:mgR m
 ·rfl
 exact absurd (mg_rng.1 e).2.1 h
theorem mg_r {m:Mg}(h:¬(0≤m.r∧m.r≤19)):mgR m=false:=by
 cases e:mgR m
 ·rfl
 exact absurd (mg_rng.1 e).2.2.1 h
theorem mg_i {m:Mg}(h:¬(0≤m.i∧m.i≤200)):mgR m=false:=by
 cases e:mgR m
 ·rfl
 exact absurd (mg_rng.1 e).2.2.2 h
theorem mg_do {m:Mg}(h:mgR m=true)(h1:m.k=1):mgN m=moN m.o m.s:=by unfold mgN;rw[if_pos h,if_pos h1]
def elN (c:Bool)(k i:Int):Int:=if c && !(decide (k=3) && !(decide (i=0))) then 0 else 3
theorem mg_els {m:Mg}(h:mgR m=true)(h1:m.k≠1):mgN m=elN (oqB m.o zeP) m.k m.i:=by unfold mgN elN;rw[if_pos h,if_neg h1]
theorem k_no {x:Int}(h:¬(1≤x∧x≤3)):(x==1)=false∧(x==2)=false∧(x==3)=false:=by
 refine⟨?_,?_,?_⟩ <;> simp <;> omega
theorem wcheck_kind (x0 x1 x2 x3 x4:Int)(x5:Bool)(x6 x7 x8 x9 x10 x11:Int)(w:World)(hk:¬(1≤x0∧x0≤3)):
 Calls prog 70 #[.agg #[.int i64 x0,.int i64 x1,.int i64 x2,.int i64 x3,.int i64 x4,.bool x5,.int i64 x6,.int i64 x7,.int i64 x8,.int i64 x9,.int i64 x10,.int i64 x11]] w fun e w'=>e=.returned (.iface 73 (.int i64 1))∧Below w.heap.size w w':=by
 have HB0:Hid (Below w.heap.size w (w.alloc (.cells #[.int i64 x0,.int i64 x1,.int i64 x2,.int i64 x3,.int i64 x4,.bool x5,.int i64 x6,.int i64 x7,.int i64 x8,.int i64 x9,.int i64 x10,.int i64 x11] 50))):=(bRQ _ _).alloc (nLQ _) _;obtain⟨k1,k2,k3⟩:=k_no hk;have n1:(x0 != 1)=true:=by simp[bne,k1]
 have n2:(x0 != 2)=true:=by simp[bne,k2]
 have n3:(x0 != 3)=true:=by simp[bne,k3]
 have l1:¬x0=1:=by omega
 have l2:¬x0=2:=by omega
 have l3:¬x0=3:=by omega
 clear hk;go_enter func70,ntmps70;go_wp2;go_ret;exact⟨rfl,HB0.out⟩
theorem wcheck_switch (x0 x1 x2 x3 x4:Int)(x5:Bool)(x6 x7 x8 x9 x10 x11:Int)(w:World)(hk:1≤x0∧x0≤3)(hs:swB 6 x1=false):
 Calls prog 70 #[.agg #[.int i64 x0,.int i64 x1,.int i64 x2,.int i64 x3,.int i64 x4,.bool x5,.int i64 x6,.int i64 x7,.int i64 x8,.int i64 x9,.int i64 x10,.int i64 x11]] w fun e w'=>e=.returned (.iface 73 (.int i64 1))∧Below w.heap.size w w':=by
 have HB0:Hid (Below w.heap.size w (w.alloc (.cells #[.int i64 x0,.int i64 x1,.int i64 x2,.int i64 x3,.int i64 x4,.bool x5,.int i64 x6,.int i64 x7,.int i64 x8,.int i64 x9,.int i64 x10,.int i64 x11] 50))):=(bRQ _ _).alloc (nLQ _) _;have HC0:Hid (MgC (w.alloc (.cells #[.int i64 x0,.int i64 x1,.int i64 x2,.int i64 x3,.int i64 x4,.bool x5,.int i64 x6,.int i64 x7,.int i64 x8,.int i64 x9,.int i64 x10,.int i64 x11] 50)) w.heap.size x0 x1 x2 x3 x4 x5 x6 x7 x8 x9 x10 x11):=mgc_new w x0 x1 x2 x3 x4 x5 x6 x7 x8 x9 x10 x11 _;have HSW:Hid (swB 6 x1=false):=hs;clear hs
 rcases (by omega:x0=1∨x0=2∨x0=3) with rfl | rfl | rfl
 all_goals
  go_enter func70,ntmps70
  go_wp2_with fail
  refine (isSwitch_any 6 x1 _).mono ?_;rintro e w1 ⟨rfl,hb1⟩;have HB1:Hid (Below w.heap.size w w1):=HB0.out.trans (hb1.mono HB0.out.size);have HC1:Hid (MgC w1 w.heap.size _ x1 x2 x3 x4 x5 x6 x7 x8 x9 x10 x11):=HC0.out.later hb1;obtain⟨c0,c1,c2,c3,c4,c5,c6,c7,c8,c9,c10,c11⟩:=HC1.out;rw[HSW.out];clear hb1;go_wp2;go_ret;exact⟨rfl,HB1.out⟩
theorem wcheck_round (x0 x1 x2 x3 x4:Int)(x5:Bool)(x6 x7 x8 x9 x10 x11:Int)(w:World)(hk:1≤x0∧x0≤3)(hs:swB 6 x1=true)(hr:¬(0≤x2∧x2≤19)):
 Calls prog 70 #[.agg #[.int i64 x0,.int i64 x1,.int i64 x2,.int i64 x3,.int i64 x4,.bool x5,.int i64 x6,.int i64 x7,.int i64 x8,.int i64 x9,.int i64 x10,.int i64 x11]] w fun e w'=>e=.returned (.iface 73 (.int i64 1))∧Below w.heap.size w w':=by
 have HB0:Hid (Below w.heap.size w (w.alloc (.cells #[.int i64 x0,.int i64 x1,.int i64 x2,.int i64 x3,.int i64 x4,.bool x5,.int i64 x6,.int i64 x7,.int i64 x8,.int i64 x9,.int i64 x10,.int i64 x11] 50))):=(bRQ _ _).alloc (nLQ _) _;have HC0:Hid (MgC (w.alloc (.cells #[.int i64 x0,.int i64 x1,.int i64 x2,.int i64 x3,.int i64 x4,.bool x5,.int i64 x6,.int i64 x7,.int i64 x8,.int i64 x9,.int i64 x10,.int i64 x11] 50)) w.heap.size x0 x1 x2 x3 x4 x5 x6 x7 x8 x9 x10 x11):=mgc_new w x0 x1 x2 x3 x4 x5 x6 x7 x8 x9 x10 x11 _;have HSW:Hid (swB 6 x1=true):=hs;clear hs
 rcases (by omega:x2<0∨(¬x2<0∧20≤x2)) with h1 | ⟨h1,h2⟩
 all_goals
  clear hr
  rcases (by omega:x0=1∨x0=2∨x0=3) with rfl | rfl | rfl
  all_goals
   go_enter func70,ntmps70
   go_wp2_with fail
   refine (isSwitch_any 6 x1 _).mono ?_;rintro e w1 ⟨rfl,hb1⟩;have HB1:Hid (Below w.heap.size w w1):=HB0.out.trans (hb1.mono HB0.out.size);have HC1:Hid (MgC w1 w.heap.size _ x1 x2 x3 x4 x5 x6 x7 x8 x9 x10 x11):=HC0.out.later hb1;obtain⟨c0,c1,c2,c3,c4,c5,c6,c7,c8,c9,c10,c11⟩:=HC1.out;rw[HSW.out];clear hb1;go_wp2;go_ret;exact⟨rfl,HB1.out⟩
theorem wcheck_index (x0 x1 x2 x3 x4:Int)(x5:Bool)(x6 x7 x8 x9 x10 x11:Int)(w:World)(hk:1≤x0∧x0≤3)(hs:swB 6 x1=true)(hr:0≤x2∧x2≤19)(hi:¬(0≤x3∧x3≤200)):
 Calls prog 70 #[.agg #[.int i64 x0,.int i64 x1,.int i64 x2,.int i64 x3,.int i64 x4,.bool x5,.int i64 x6,.int i64 x7,.int i64 x8,.int i64 x9,.int i64 x10,.int i64 x11]] w fun e w'=>e=.returned (.iface 73 (.int i64 1))∧Below w.heap.size w w':=by
 have HB0:Hid (Below w.heap.size w (w.alloc (.cells #[.int i64 x0,.int i64 x1,.int i64 x2,.int i64 x3,.int i64 x4,.bool x5,.int i64 x6,.int i64 x7,.int i64 x8,.int i64 x9,.int i64 x10,.int i64 x11] 50))):=(bRQ _ _).alloc (nLQ _) _;have HC0:Hid (MgC (w.alloc (.cells #[.int i64 x0,.int i64 x1,.int i64 x2,.int i64 x3,.int i64 x4,.bool x5,.int i64 x6,.int i64 x7,.int i64 x8,.int i64 x9,.int i64 x10,.int i64 x11] 50)) w.heap.size x0 x1 x2 x3 x4 x5 x6 x7 x8 x9 x10 x11):=mgc_new w x0 x1 x2 x3 x4 x5 x6 x7 x8 x9 x10 x11 _;have HSW:Hid (swB 6 x1=true):=hs;clear hs;have hr1:¬x2<0:=by omega
 have hr2:¬20≤x2:=by omega
 rcases (by omega:x3<0∨(¬x3<0∧200<x3)) with h1 | ⟨h1,h2⟩
 all_goals
  clear hi hr
  rcases (by omega:x0=1∨x0=2∨x0=3) with rfl | rfl | rfl
  all_goals
   go_enter func70,ntmps70
   go_wp2_with fail
   refine (isSwitch_any 6 x1 _).mono ?_;rintro e w1 ⟨rfl,hb1⟩;have HB1:Hid (Below w.heap.size w w1):=HB0.out.trans (hb1.mono HB0.out.size);have HC1:Hid (MgC w1 w.heap.size _ x1 x2 x3 x4 x5 x6 x7 x8 x9 x10 x11):=HC0.out.later hb1;obtain⟨c0,c1,c2,c3,c4,c5,c6,c7,c8,c9,c10,c11⟩:=HC1.out;rw[HSW.out];clear hb1;go_wp2;go_ret;exact⟨rfl,HB1.out⟩
theorem wcheck_do (x1 x2 x3 x4:Int)(x5:Bool)(x6 x7 x8 x9 x10 x11:Int)(w:World)(hs:swB 6 x1=true)(hr:0≤x2∧x2≤19)(hi:0≤x3∧x3≤200):
 Calls prog 70 #[.agg #[.int i64 1,.int i64 x1,.int i64 x2,.int i64 x3,.int i64 x4,.bool x5,.int i64 x6,.int i64 x7,.int i64 x8,.int i64 x9,.int i64 x10,.int i64 x11]] w fun e w'=>e=.returned (noV (moN ⟨x4,x5,⟨x6,x7,x8,x9,x10,x11⟩⟩ x1))∧Below w.heap.size w w':=by
 have HB0:Hid (Below w.heap.size w (w.alloc (.cells #[.int i64 1,.int i64 x1,.int i64 x2,.int i64 x3,.int i64 x4,.bool x5,.int i64 x6,.int i64 x7,.int i64 x8,.int i64 x9,.int i64 x10,.int i64 x11] 50))):=(bRQ _ _).alloc (nLQ _) _;have HC0:Hid (MgC (w.alloc (.cells #[.int i64 1,.int i64 x1,.int i64 x2,.int i64 x3,.int i64 x4,.bool x5,.int i64 x6,.int i64 x7,.int i64 x8,.int i64 x9,.int i64 x10,.int i64 x11] 50)) w.heap.size 1 x1 x2 x3 x4 x5 x6 x7 x8 x9 x10 x11):=mgc_new w 1 x1 x2 x3 x4 x5 x6 x7 x8 x9 x10 x11 _;have HSW:Hid (swB 6 x1=true):=hs;have hr1:¬x2<0:=by omega
 have hr2:¬20≤x2:=by omega
 have hi1:¬x3<0:=by omega
 have hi2:¬200<x3:=by omega
 clear hs hr hi;go_enter func70,ntmps70
 go_wp2_with fail
 refine (isSwitch_any 6 x1 _).mono ?_;rintro e w1 ⟨rfl,hb1⟩;have HB1:Hid (Below w.heap.size w w1):=HB0.out.trans (hb1.mono HB0.out.size);have HC1:Hid (MgC w1 w.heap.size 1 x1 x2 x3 x4 x5 x6 x7 x8 x9 x10 x11):=HC0.out.later hb1;obtain⟨c0,c1,c2,c3,c4,c5,c6,c7,c8,c9,c10,c11⟩:=HC1.out;rw[HSW.out];clear hb1
 go_wp2_with fail
 refine (checkOp_any x4 x5 x6 x7 x8 x9 x10 x11 x1 _).mono ?_;rintro e w2 ⟨rfl,hb2⟩;have HB2:Hid (Below w.heap.size w w2):=HB1.out.trans (hb2.mono HB1.out.size);clear hb2;go_wp2;go_ret;exact⟨rfl,HB2.out⟩
theorem wcheck_else (x0 x1 x2 x3 x4:Int)(x5:Bool)(x6 x7 x8 x9 x10 x11:Int)(w:World)(hk:x0=2∨x0=3)(hs:swB 6 x1=true)(hr:0≤x2∧x2≤19)(hi:0≤x3∧x3≤200):
 Calls prog 70 #[.agg #[.int i64 x0,.int i64 x1,.int i64 x2,.int i64 x3,.int i64 x4,.bool x5,.int i64 x6,.int i64 x7,.int i64 x8,.int i64 x9,.int i64 x10,.int i64 x11]] w fun e w'=>e=.returned (noV (elN (oqB ⟨x4,x5,⟨x6,x7,x8,x9,x10,x11⟩⟩ zeP) x0 x3))∧Below w.heap.size w w':=by
 have HB0:Hid (Below w.heap.size w (w.alloc (.cells #[.int i64 x0,.int i64 x1,.int i64 x2,.int i64 x3,.int i64 x4,.bool x5,.int i64 x6,.int i64 x7,.int i64 x8,.int i64 x9,.int i64 x10,.int i64 x11] 50))):=(bRQ _ _).alloc (nLQ _) _;have HC0:Hid (MgC (w.alloc (.cells #[.int i64 x0,.int i64 x1,.int i64 x2,.int i64 x3,.int i64 x4,.bool x5,.int i64 x6,.int i64 x7,.int i64 x8,.int i64 x9,.int i64 x10,.int i64 x11] 50)) w.heap.size x0 x1 x2 x3 x4 x5 x6 x7 x8 x9 x10 x11):=mgc_new w x0 x1 x2 x3 x4 x5 x6 x7 x8 x9 x10 x11 _;have HSW:Hid (swB 6 x1=true):=hs;have hr1:¬x2<0:=by omega
 have hr2:¬20≤x2:=by omega
 have hi1:¬x3<0:=by omega
 have hi2:¬200<x3:=by omega
 clear hs hr hi;obtain⟨c,hc⟩:∃c,c=opB ⟨x4,x5,⟨x6,x7,x8,x9,x10,x11⟩⟩ ⟨0,false,⟨0,0,0,0,0,0⟩⟩:=⟨_,rfl⟩;have HC:Hid (opB ⟨x4,x5,⟨x6,x7,x8,x9,x10,x11⟩⟩ ⟨0,false,⟨0,0,0,0,0,0⟩⟩=c):=hc.symm;rw[show oqB ⟨x4,x5,⟨x6,x7,x8,x9,x10,x11⟩⟩ zeP=c from hc.symm];clear hc
 rcases hk with rfl | rfl
 all_goals
  go_enter func70,ntmps70
  go_wp2_with fail
  refine (isSwitch_any 6 x1 _).mono ?_;rintro e w1 ⟨rfl,hb1⟩;have HB1:Hid (Below w.heap.size w w1):=HB0.out.trans (hb1.mono HB0.out.size);have HC1:Hid (MgC w1 w.heap.size _ x1 x2 x3 x4 x5 x6 x7 x8 x9 x10 x11):=HC0.out.later hb1;obtain⟨c0,c1,c2,c3,c4,c5,c6,c7,c8,c9,c10,c11⟩:=HC1.out;rw[HSW.out];clear hb1;go_upto_region 8 with fail
  go_cut [47] from 48 (fun v w'=>v=.bool (!c)∧w'=w1)
  case first =>
   rcases op_ways x4 x5 x6 x7 x8 x9 x10 x11 0 false 0 0 0 0 0 0 with ⟨e0,e⟩ | ⟨e0,e1,e⟩ | ⟨e0,e1,e2,e⟩ | ⟨e0,e1,e2,e3,e⟩ | ⟨e0,e1,e2,e3,e4,e⟩ | ⟨e0,e1,e2,e3,e4,e5,e⟩ | ⟨e0,e1,e2,e3,e4,e5,e6,e⟩ | ⟨e0,e1,e2,e3,e4,e5,e6,e7,e⟩ | ⟨e0,e1,e2,e3,e4,e5,e6,e7,e⟩
   all_goals
    rw[HC.out] at e;have HE:Hid (c=_):=e;clear e
    go_wp2_with fail
    go_meet
    exact⟨by rw[HE.out];rfl,rfl⟩
  case rest =>
   obtain⟨rfl,hwc⟩:=hcut;have hwc2:=hwc.symm;clear hwc;subst hwc2;cases c with
   | false =>
     go_wp2;go_ret;exact⟨by simp[elN,noV],HB1.out⟩
   | true =>
     by_cases h0:x3=0
     ·subst h0;go_wp2;go_ret;exact⟨by simp[elN,noV],HB1.out⟩
     have h0':(x3==0)=false:=by simpa using h0
     have h0n:(x3 != 0)=true:=by simpa using h0
     go_wp2;go_ret;exact⟨by simp[elN,noV,h0],HB1.out⟩
theorem wcheck_any (x0 x1 x2 x3 x4:Int)(x5:Bool)(x6 x7 x8 x9 x10 x11:Int)(w:World):
 Calls prog 70 #[.agg #[.int i64 x0,.int i64 x1,.int i64 x2,.int i64 x3,.int i64 x4,.bool x5,.int i64 x6,.int i64 x7,.int i64 x8,.int i64 x9,.int i64 x10,.int i64 x11]] w fun e w'=>e=.returned (noV (mgN ⟨x0,x1,x2,x3,⟨x4,x5,⟨x6,x7,x8,x9,x10,x11⟩⟩⟩))∧Below w.heap.size w w':=by
 by_cases hk:1≤x0∧x0≤3
 ·cases hs:swB 6 x1
  ·rw[mg_no (mg_s (fun h=>by have:=sw_of.2 h;rw[hs] at this;cases this)),no_ne (by decide)];exact wcheck_switch x0 x1 x2 x3 x4 x5 x6 x7 x8 x9 x10 x11 w hk hs
  by_cases hr:0≤x2∧x2≤19
  ·by_cases hi:0≤x3∧x3≤200
   ·have hR:mgR ⟨x0,x1,x2,x3,⟨x4,x5,⟨x6,x7,x8,x9,x10,x11⟩⟩⟩=true:=mg_rng.2 ⟨hk,sw_of.1 hs,hr,hi⟩;by_cases h1:x0=1
    ·subst h1;rw[mg_do hR rfl];exact wcheck_do x1 x2 x3 x4 x5 x6 x7 x8 x9 x10 x11 w hs hr hi
    rw[mg_els hR h1];exact wcheck_else x0 x1 x2 x3 x4 x5 x6 x7 x8 x9 x10 x11 w (by omega) hs hr hi
   rw[mg_no (mg_i hi),no_ne (by decide)];exact wcheck_index x0 x1 x2 x3 x4 x5 x6 x7 x8 x9 x10 x11 w hk hs hr hi
  rw[mg_no (mg_r hr),no_ne (by decide)];exact wcheck_round x0 x1 x2 x3 x4 x5 x6 x7 x8 x9 x10 x11 w hk hs hr
 rw[mg_no (mg_k hk),no_ne (by decide)];exact wcheck_kind x0 x1 x2 x3 x4 x5 x6 x7 x8 x9 x10 x11 w hk
theorem header_yes (n:Int)(w:World)(h:hdrB n=true):
 Calls prog 59 #[.int i64 n] w fun e w'=>e=.returned (.bool true)∧w'=w:=by
 obtain⟨h1,h2⟩:=hdr_of h;clear h;go_enter func59,ntmps59;go_wp2;go_ret;exact⟨rfl,rfl⟩
theorem header_no (n:Int)(w:World)(h:hdrB n=false):
 Calls prog 59 #[.int i64 n] w fun e w'=>e=.returned (.bool false)∧w'=w:=by
 rcases hdr_no h with h1 | h1
 ·clear h;go_enter func59,ntmps59;go_wp2;go_ret;exact⟨rfl,rfl⟩
 have h2:0≤n:=by omega
 have h3:decide (n<16)=false:=by simp;omega
 clear h;go_enter func59,ntmps59;go_wp2;go_ret;exact⟨rfl,rfl⟩
theorem header_any (n:Int)(w:World):
 Calls prog 59 #[.int i64 n] w fun e w'=>e=.returned (.bool (hdrB n))∧w'=w:=by
 cases h:hdrB n
 ·exact header_no n w h
 exact header_yes n w h
theorem refCube_any (m b:Int)(w:World):
 Calls prog 60 #[.agg #[.int i64 m,.int i64 b]] w fun e w'=>e=.returned (.int i64 (refN m b))∧Below w.heap.size w w':=by
 cases hr:rngB m b
 ·rw[refN_range hr];have HH:hdrB m=false∨(hdrB m=true∧hdrB b=false):=by
   cases h1:hdrB m
   ·exact .inl rfl
   exact .inr ⟨rfl,by simpa[rngB,h1] using hr⟩
  rcases HH with hm | ⟨hm,hb⟩
  all_goals
   clear hr;go_enter func60,ntmps60
   go_wp2_with fail
   refine (header_any _ _).mono ?_;rintro e w' ⟨rfl,rfl⟩
   go_wp2_with fail
   refine (header_any _ _).mono ?_;rintro e w' ⟨rfl,rfl⟩;go_wp2;go_ret;exact⟨rfl,(bRQ _ _).alloc (nLQ _) _⟩
 have hm:hdrB m=true:=hdr_mk (rng_of hr).1;have hb:hdrB b=true:=hdr_mk (rng_of hr).2;cases ho:okB m b
 ·rw[refN_shape ho hr];have hz:(bits .and .i64 b m==b)=false:=by rw[andEq hr,ho]
  clear hr ho;go_enter func60,ntmps60
  go_wp2_with fail
  refine (header_any _ _).mono ?_;rintro e w' ⟨rfl,rfl⟩
  go_wp2_with fail
  refine (header_any _ _).mono ?_;rintro e w' ⟨rfl,rfl⟩;go_wp2;go_ret;exact⟨rfl,(bRQ _ _).alloc (nLQ _) _⟩
 rw[refN_ok ho];have hz:(bits .and .i64 b m==b)=true:=by rw[andEq hr,ho]
 clear hr ho;go_enter func60,ntmps60
 go_wp2_with fail
 refine (header_any _ _).mono ?_;rintro e w' ⟨rfl,rfl⟩
 go_wp2_with fail
 refine (header_any _ _).mono ?_;rintro e w' ⟨rfl,rfl⟩;go_wp2;go_ret;exact⟨rfl,(bRQ _ _).alloc (nLQ _) _⟩
theorem set_okB {s v:Int}(h:rngB s v=true):okB s v=(bits .andNot .i64 v s==0):=by simp[okB,h]
theorem refRule_prio (p m b o s v:Int)(w:World)(h:ruP p o=false):
 Calls prog 41 #[.agg #[.int i64 p,.int i64 m,.int i64 b,.int i64 o,.int i64 s,.int i64 v]] w fun e w'=>e=.returned (.int i64 1)∧Below w.heap.size w w':=by
 have hc:p<0∨(0≤p∧99<p)∨((0≤p∧p≤99)∧o<0)∨((0≤p∧p≤99)∧(0≤o∧4<o)):=by
  simp[ruP] at h;omega
 clear h
 rcases hc with h1 | ⟨h1,h2⟩ | ⟨⟨h1,h2⟩,h3⟩ | ⟨⟨h1,h2⟩,h3,h4⟩
 ·have e1:decide (p<0)=true:=by simp;omega
  go_enter func41,ntmps41
  go_wp2_with fail
  refine (header_any _ _).mono ?_;rintro e w' ⟨rfl,rfl⟩
  go_wp2_with fail
  refine (header_any _ _).mono ?_;rintro e w' ⟨rfl,rfl⟩;go_wp2;go_ret;exact⟨rfl,(bRQ _ _).alloc (nLQ _) _⟩
 ·have e1:decide (p<0)=false:=by simp;omega
  have e2:decide (99<p)=true:=by simp;omega
  go_enter func41,ntmps41
  go_wp2_with fail
  refine (header_any _ _).mono ?_;rintro e w' ⟨rfl,rfl⟩
  go_wp2_with fail
  refine (header_any _ _).mono ?_;rintro e w' ⟨rfl,rfl⟩;go_wp2;go_ret;exact⟨rfl,(bRQ _ _).alloc (nLQ _) _⟩
 ·have e1:decide (p<0)=false:=by simp;omega
  have e2:decide (99<p)=false:=by simp;omega
  have e3:decide (o<0)=true:=by simp;omega
  go_enter func41,ntmps41
  go_wp2_with fail
  refine (header_any _ _).mono ?_;rintro e w' ⟨rfl,rfl⟩
  go_wp2_with fail
  refine (header_any _ _).mono ?_;rintro e w' ⟨rfl,rfl⟩;go_wp2;go_ret;exact⟨rfl,(bRQ _ _).alloc (nLQ _) _⟩
 have e1:decide (p<0)=false:=by simp;omega
 have e2:decide (99<p)=false:=by simp;omega
 have e3:decide (o<0)=false:=by simp;omega
 have e4:decide (4<o)=true:=by simp;omega
 go_enter func41,ntmps41
 go_wp2_with fail
 refine (header_any _ _).mono ?_;rintro e w' ⟨rfl,rfl⟩
 go_wp2_with fail
 refine (header_any _ _).mono ?_;rintro e w' ⟨rfl,rfl⟩;go_wp2;go_ret;exact⟨rfl,(bRQ _ _).alloc (nLQ _) _⟩
theorem refRule_set (p m b o s v:Int)(w:World)(h:ruP p o=true)(h2:rngB s v=false):
 Calls prog 41 #[.agg #[.int i64 p,.int i64 m,.int i64 b,.int i64 o,.int i64 s,.int i64 v]] w fun e w'=>e=.returned (.int i64 1)∧Below w.heap.size w w':=by
 obtain⟨e1,e2,e3,e4⟩:=ruP_of h;clear h;cases hs:hdrB s
 ·clear h2;go_enter func41,ntmps41
  go_wp2_with fail
  refine (header_any _ _).mono ?_;rintro e w' ⟨rfl,rfl⟩;rw[hs]
  go_wp2_with fail
  refine (header_any _ _).mono ?_;rintro e w' ⟨rfl,rfl⟩;go_wp2;go_ret;exact⟨rfl,(bRQ _ _).alloc (nLQ _) _⟩
 have hv:hdrB v=false:=by simpa[rngB,hs] using h2
 clear h2;go_enter func41,ntmps41
 go_wp2_with fail
 refine (header_any _ _).mono ?_;rintro e w' ⟨rfl,rfl⟩;rw[hs]
 go_wp2_with fail
 refine (header_any _ _).mono ?_;rintro e w' ⟨rfl,rfl⟩;rw[hv];go_wp2;go_ret;exact⟨rfl,(bRQ _ _).alloc (nLQ _) _⟩
theorem refRule_cube (p m b o s v:Int)(w:World)(h:ruP p o=true)(h2:rngB s v=true)(h3:okB m b=false):
 Calls prog 41 #[.agg #[.int i64 p,.int i64 m,.int i64 b,.int i64 o,.int i64 s,.int i64 v]] w fun e w'=>e=.returned (.int i64 (refN m b))∧Below w.heap.size w w':=by
 obtain⟨e1,e2,e3,e4⟩:=ruP_of h;have hs:hdrB s=true:=by simp only[rngB,Bool.and_eq_true] at h2;exact h2.1
 have hv:hdrB v=true:=by simp only[rngB,Bool.and_eq_true] at h2;exact h2.2
 have hn:(refN m b != 0)=true:=by have:=ok_refN m b;rw[h3] at this;simpa using this
 clear h h2 h3;go_enter func41,ntmps41
 go_wp2_with fail
 refine (header_any _ _).mono ?_;rintro e w' ⟨rfl,rfl⟩;rw[hs]
 go_wp2_with fail
 refine (header_any _ _).mono ?_;rintro e w' ⟨rfl,rfl⟩;rw[hv]
 go_wp2_with fail
 refine (refCube_any _ _ _).mono ?_;rintro e w1 ⟨rfl,hb1⟩;go_wp2;go_ret;exact⟨rfl,((bRQ _ _).alloc (nLQ _) _).trans (hb1.mono (by simp))⟩
theorem refRule_end (p m b o s v:Int)(w:World)(h:ruP p o=true)(h2:rngB s v=true)(h3:okB m b=true)(x:Int)(hx:x=if ruSet o s v then 0 else 3):
 Calls prog 41 #[.agg #[.int i64 p,.int i64 m,.int i64 b,.int i64 o,.int i64 s,.int i64 v]] w fun e w'=>e=.returned (.int i64 x)∧Below w.heap.size w w':=by
 obtain⟨e1,e2,e3,e4⟩:=ruP_of h;have hs:hdrB s=true:=by simp only[rngB,Bool.and_eq_true] at h2;exact h2.1
 have hv:hdrB v=true:=by simp only[rngB,Bool.and_eq_true] at h2;exact h2.2
 have hn:refN m b=0:=refN_ok h3;have hlt:w.heap.size<(w.alloc (.cells #[.int i64 p,.int i64 m,.int i64 b,.int i64 o,.int i64 s,.int i64 v] 41)).heap.size:=by simp
 have ha0:=set_okB h2;clear h h2 h3;cases ha:(bits .andNot .i64 v s==0)
 ·have hx3:x=3:=by rw[hx];simp[ruSet,ha]
  subst hx3;have hz:(refN s v != 0)=true:=by have:=ok_refN s v;rw[ha0,ha] at this;simpa using this
  clear hx ha0;go_enter func41,ntmps41
  go_wp2_with fail
  refine (header_any _ _).mono ?_;rintro e w' ⟨rfl,rfl⟩;rw[hs]
  go_wp2_with fail
  refine (header_any _ _).mono ?_;rintro e w' ⟨rfl,rfl⟩;rw[hv]
  go_wp2_with fail
  refine (refCube_any _ _ _).mono ?_;rintro e w1 ⟨rfl,hb1⟩;rw[hn];obtain⟨hc1,hf1⟩:=bcell hb1;have hB:=((Below.refl w.heap.size w).alloc (nLQ _) (Obj.cells #[.int i64 p,.int i64 m,.int i64 b,.int i64 o,.int i64 s,.int i64 v] 41)).trans (hb1.mono (by simp));have hlt2:w.heap.size<w1.heap.size:=by have:=hb1.size;omega
  clear hb1
  go_wp2_with fail
  refine (refCube_any _ _ _).mono ?_;rintro e w2 ⟨rfl,hb2⟩
  generalize refN s v=N at *
  obtain⟨hc2,hf2⟩:=bcell hb2;have hB2:=hB.trans (hb2.mono (by omega));clear hb2 hB;go_wp2;go_ret;exact⟨rfl,hB2⟩
 have hz:refN s v=0:=refN_ok (by rw[ha0,ha]);clear ha0;cases ho:(o==0)
 ·have hx3:x=0:=by rw[hx];simp[ruSet,ha,ho]
  subst hx3;clear hx;go_enter func41,ntmps41
  go_wp2_with fail
  refine (header_any _ _).mono ?_;rintro e w' ⟨rfl,rfl⟩;rw[hs]
  go_wp2_with fail
  refine (header_any _ _).mono ?_;rintro e w' ⟨rfl,rfl⟩;rw[hv]
  go_wp2_with fail
  refine (refCube_any _ _ _).mono ?_;rintro e w1 ⟨rfl,hb1⟩;rw[hn];obtain⟨hc1,hf1⟩:=bcell hb1;have hB:=((Below.refl w.heap.size w).alloc (nLQ _) (Obj.cells #[.int i64 p,.int i64 m,.int i64 b,.int i64 o,.int i64 s,.int i64 v] 41)).trans (hb1.mono (by simp));have hlt2:w.heap.size<w1.heap.size:=by have:=hb1.size;omega
  clear hb1
  go_wp2_with fail
  refine (refCube_any _ _ _).mono ?_;rintro e w2 ⟨rfl,hb2⟩;rw[hz];obtain⟨hc2,hf2⟩:=bcell hb2;have hB2:=hB.trans (hb2.mono (by omega));clear hb2 hB;go_wp2;go_ret;exact⟨rfl,hB2⟩
 have hz2:x=if (s==0) then 0 else 3:=by rw[hx];simp[ruSet,ha,ho]
 clear hx;cases hs0:(s==0)
 ·rw[hs0] at hz2;have hs1:(s != 0)=true:=by simpa using hs0
  simp only[Bool.false_eq_true,if_false] at hz2;subst hz2;go_enter func41,ntmps41
  go_wp2_with fail
  refine (header_any _ _).mono ?_;rintro e w' ⟨rfl,rfl⟩;rw[hs]
  go_wp2_with fail
  refine (header_any _ _).mono ?_;rintro e w' ⟨rfl,rfl⟩;rw[hv]
  go_wp2_with fail
  refine (refCube_any _ _ _).mono ?_;rintro e w1 ⟨rfl,hb1⟩;rw[hn];obtain⟨hc1,hf1⟩:=bcell hb1;have hB:=((Below.refl w.heap.size w).alloc (nLQ _) (Obj.cells #[.int i64 p,.int i64 m,.int i64 b,.int i64 o,.int i64 s,.int i64 v] 41)).trans (hb1.mono (by simp));have hlt2:w.heap.size<w1.heap.size:=by have:=hb1.size;omega
  clear hb1
  go_wp2_with fail
  refine (refCube_any _ _ _).mono ?_;rintro e w2 ⟨rfl,hb2⟩;rw[hz];obtain⟨hc2,hf2⟩:=bcell hb2;have hB2:=hB.trans (hb2.mono (by omega));clear hb2 hB;go_wp2;go_ret;exact⟨rfl,hB2⟩
 rw[hs0] at hz2;have hs1:(s != 0)=false:=by simpa using hs0
 simp only[if_true] at hz2;subst hz2;go_enter func41,ntmps41
 go_wp2_with fail
 refine (header_any _ _).mono ?_;rintro e w' ⟨rfl,rfl⟩;rw[hs]
 go_wp2_with fail
 refine (header_any _ _).mono ?_;rintro e w' ⟨rfl,rfl⟩;rw[hv]
 go_wp2_with fail
 refine (refCube_any _ _ _).mono ?_;rintro e w1 ⟨rfl,hb1⟩;rw[hn];obtain⟨hc1,hf1⟩:=bcell hb1;have hB:=((Below.refl w.heap.size w).alloc (nLQ _) (Obj.cells #[.int i64 p,.int i64 m,.int i64 b,.int i64 o,.int i64 s,.int i64 v] 41)).trans (hb1.mono (by simp));have hlt2:w.heap.size<w1.heap.size:=by have:=hb1.size;omega
 clear hb1
 go_wp2_with fail
 refine (refCube_any _ _ _).mono ?_;rintro e w2 ⟨rfl,hb2⟩;rw[hz];obtain⟨hc2,hf2⟩:=bcell hb2;have hB2:=hB.trans (hb2.mono (by omega));clear hb2 hB;go_wp2;go_ret;exact⟨rfl,hB2⟩
theorem refRule_any (p m b o s v:Int)(w:World):
 Calls prog 41 #[.agg #[.int i64 p,.int i64 m,.int i64 b,.int i64 o,.int i64 s,.int i64 v]] w fun e w'=>e=.returned (.int i64 (ruN p m b o s v))∧Below w.heap.size w w':=by
 cases h1:ruP p o
 ·have e:ruN p m b o s v=1:=by simp[ruN,ruIn,h1]
  rw[e];exact refRule_prio p m b o s v w h1
 cases h2:rngB s v
 ·have e:ruN p m b o s v=1:=by simp[ruN,ruIn,h2]
  rw[e];exact refRule_set p m b o s v w h1 h2
 cases h3:okB m b
 ·have e:ruN p m b o s v=refN m b:=by simp[ruN,ruIn,h1,h2,h3]
  rw[e];exact refRule_cube p m b o s v w h1 h2 h3
 exact refRule_end p m b o s v w h1 h2 h3 _ (by simp[ruN,ruIn,h1,h2,h3])
theorem rmsg_no (x0 x1 x2 x3 x4:Int)(x5:Bool)(x6 x7 x8 x9 x10 x11:Int)(w:World)(h:mgR ⟨x0,x1,x2,x3,⟨x4,x5,⟨x6,x7,x8,x9,x10,x11⟩⟩⟩=false):
 Calls prog 42 #[.agg #[.int i64 x0,.int i64 x1,.int i64 x2,.int i64 x3,.int i64 x4,.bool x5,.int i64 x6,.int i64 x7,.int i64 x8,.int i64 x9,.int i64 x10,.int i64 x11]] w fun e w'=>e=.returned (.int i64 1)∧Below w.heap.size w w':=by
 have HB0:Hid (Below w.heap.size w (w.alloc (.cells #[.int i64 x0,.int i64 x1,.int i64 x2,.int i64 x3,.int i64 x4,.bool x5,.int i64 x6,.int i64 x7,.int i64 x8,.int i64 x9,.int i64 x10,.int i64 x11] 50))):=(bRQ _ _).alloc (nLQ _) _;have h8:x0<1∨(¬x0<1∧3<x0)∨(¬x0<1∧¬3<x0∧x1<1)∨(¬x0<1∧¬3<x0∧¬x1<1∧6<x1)∨(¬x0<1∧¬3<x0∧¬x1<1∧¬6<x1∧x2<0)∨(¬x0<1∧¬3<x0∧¬x1<1∧¬6<x1∧¬x2<0∧19<x2)∨(¬x0<1∧¬3<x0∧¬x1<1∧¬6<x1∧¬x2<0∧¬19<x2∧x3<0)∨(¬x0<1∧¬3<x0∧¬x1<1∧¬6<x1∧¬x2<0∧¬19<x2∧¬x3<0∧200<x3):=by
  by_cases hR:(1≤x0∧x0≤3)∧(1≤x1∧x1≤6)∧(0≤x2∧x2≤19)∧(0≤x3∧x3≤200)
  ·have:=mg_rng (m:=⟨x0,x1,x2,x3,⟨x4,x5,⟨x6,x7,x8,x9,x10,x11⟩⟩⟩).2 hR;rw[h] at this;cases this
  omega
 clear h
 rcases h8 with a1 | ⟨a1,a2⟩ | ⟨a1,a2,a3⟩ | ⟨a1,a2,a3,a4⟩ | ⟨a1,a2,a3,a4,a5⟩ | ⟨a1,a2,a3,a4,a5,a6⟩ | ⟨a1,a2,a3,a4,a5,a6,a7⟩ | ⟨a1,a2,a3,a4,a5,a6,a7,a8⟩
 all_goals
  go_enter func42,ntmps42;go_wp2;go_ret;exact⟨rfl,HB0.out⟩
theorem rmsg_do (x1 x2 x3 x4:Int)(x5:Bool)(x6 x7 x8 x9 x10 x11:Int)(w:World)(h:mgR ⟨1,x1,x2,x3,⟨x4,x5,⟨x6,x7,x8,x9,x10,x11⟩⟩⟩=true):
 Calls prog 42 #[.agg #[.int i64 1,.int i64 x1,.int i64 x2,.int i64 x3,.int i64 x4,.bool x5,.int i64 x6,.int i64 x7,.int i64 x8,.int i64 x9,.int i64 x10,.int i64 x11]] w fun e w'=>e=.returned (.int i64 (moN ⟨x4,x5,⟨x6,x7,x8,x9,x10,x11⟩⟩ x1))∧Below w.heap.size w w':=by
 have HB0:Hid (Below w.heap.size w (w.alloc (.cells #[.int i64 1,.int i64 x1,.int i64 x2,.int i64 x3,.int i64 x4,.bool x5,.int i64 x6,.int i64 x7,.int i64 x8,.int i64 x9,.int i64 x10,.int i64 x11] 50))):=(bRQ _ _).alloc (nLQ _) _;have HC0:Hid (MgC (w.alloc (.cells #[.int i64 1,.int i64 x1,.int i64 x2,.int i64 x3,.int i64 x4,.bool x5,.int i64 x6,.int i64 x7,.int i64 x8,.int i64 x9,.int i64 x10,.int i64 x11] 50)) w.heap.size 1 x1 x2 x3 x4 x5 x6 x7 x8 x9 x10 x11):=mgc_new w 1 x1 x2 x3 x4 x5 x6 x7 x8 x9 x10 x11 _;obtain⟨_,⟨a3,a4⟩,⟨a5,a6⟩,⟨a7,a8⟩⟩:=mg_rng.1 h;simp only at a3 a4 a5 a6 a7 a8;have b3:¬x1<1:=by omega
 have b4:¬6<x1:=by omega
 have b5:¬x2<0:=by omega
 have b6:¬19<x2:=by omega
 have b7:¬x3<0:=by omega
 have b8:¬200<x3:=by omega
 clear h a3 a4 a5 a6 a7 a8;obtain⟨N,hN⟩:∃N,N=ruN x6 x7 x8 x9 x10 x11:=⟨_,rfl⟩;have HN:Hid (ruN x6 x7 x8 x9 x10 x11=N):=hN.symm;obtain⟨M,hM⟩:∃M,M=moN ⟨x4,x5,⟨x6,x7,x8,x9,x10,x11⟩⟩ x1:=⟨_,rfl⟩;have HM:Hid (M=if N=0 then (if x4=x1 then 0 else 3) else N):=by show _=_;rw[hM,hN];rfl
 rw[←hM];clear hN hM;by_cases h0:N=0
 ·subst h0;by_cases h1:x4=x1
  ·have f1:(x4 != x1)=false:=by simp[h1]
   have HM2:Hid (M=0):=by show _=_;rw[HM.out,if_pos rfl,if_pos h1]
   clear h1;go_enter func42,ntmps42
   go_wp2_with fail
   refine (refRule_any x6 x7 x8 x9 x10 x11 _).mono ?_;rintro e w1 ⟨rfl,hb1⟩;have HB1:Hid (Below w.heap.size w w1):=HB0.out.trans (hb1.mono HB0.out.size);obtain⟨c0,c1,c2,c3,c4,c5,c6,c7,c8,c9,c10,c11⟩:=HC0.out.later hb1;rw[HN.out];clear hb1;go_wp2;go_ret;exact⟨by rw[HM2.out];rfl,HB1.out⟩
  have f1:(x4 != x1)=true:=by simpa using h1
  have HM2:Hid (M=3):=by show _=_;rw[HM.out,if_pos rfl,if_neg h1]
  go_enter func42,ntmps42
  go_wp2_with fail
  refine (refRule_any x6 x7 x8 x9 x10 x11 _).mono ?_;rintro e w1 ⟨rfl,hb1⟩;have HB1:Hid (Below w.heap.size w w1):=HB0.out.trans (hb1.mono HB0.out.size);obtain⟨c0,c1,c2,c3,c4,c5,c6,c7,c8,c9,c10,c11⟩:=HC0.out.later hb1;rw[HN.out];clear hb1;go_wp2;go_ret;exact⟨by rw[HM2.out];rfl,HB1.out⟩
 have f0:(N != 0)=true:=by simpa using h0
 have HM2:Hid (M=N):=by show _=_;rw[HM.out,if_neg h0]
 go_enter func42,ntmps42
 go_wp2_with fail
 refine (refRule_any x6 x7 x8 x9 x10 x11 _).mono ?_;rintro e w1 ⟨rfl,hb1⟩;have HB1:Hid (Below w.heap.size w w1):=HB0.out.trans (hb1.mono HB0.out.size);rw[HN.out];clear hb1;go_wp2;go_ret;exact⟨by rw[HM2.out];rfl,HB1.out⟩
theorem rmsg_else (x0 x1 x2 x3 x4:Int)(x5:Bool)(x6 x7 x8 x9 x10 x11:Int)(w:World)(hk:x0=2∨x0=3)(h:mgR ⟨x0,x1,x2,x3,⟨x4,x5,⟨x6,x7,x8,x9,x10,x11⟩⟩⟩=true):
 Calls prog 42 #[.agg #[.int i64 x0,.int i64 x1,.int i64 x2,.int i64 x3,.int i64 x4,.bool x5,.int i64 x6,.int i64 x7,.int i64 x8,.int i64 x9,.int i64 x10,.int i64 x11]] w fun e w'=>e=.returned (.int i64 (elN (oqB ⟨x4,x5,⟨x6,x7,x8,x9,x10,x11⟩⟩ zeP) x0 x3))∧Below w.heap.size w w':=by
 have HB0:Hid (Below w.heap.size w (w.alloc (.cells #[.int i64 x0,.int i64 x1,.int i64 x2,.int i64 x3,.int i64 x4,.bool x5,.int i64 x6,.int i64 x7,.int i64 x8,.int i64 x9,.int i64 x10,.int i64 x11] 50))):=(bRQ _ _).alloc (nLQ _) _;have HC0:Hid (MgC (w.alloc (.cells #[.int i64 x0,.int i64 x1,.int i64 x2,.int i64 x3,.int i64 x4,.bool x5,.int i64 x6,.int i64 x7,.int i64 x8,.int i64 x9,.int i64 x10,.int i64 x11] 50)) w.heap.size x0 x1 x2 x3 x4 x5 x6 x7 x8 x9 x10 x11):=mgc_new w x0 x1 x2 x3 x4 x5 x6 x7 x8 x9 x10 x11 _;obtain⟨_,⟨a3,a4⟩,⟨a5,a6⟩,⟨a7,a8⟩⟩:=mg_rng.1 h;simp only at a3 a4 a5 a6 a7 a8;have b3:¬x1<1:=by omega
 have b4:¬6<x1:=by omega
 have b5:¬x2<0:=by omega
 have b6:¬19<x2:=by omega
 have b7:¬x3<0:=by omega
 have b8:¬200<x3:=by omega
 clear h a3 a4 a5 a6 a7 a8;obtain⟨c,hc⟩:∃c,c=opB ⟨x4,x5,⟨x6,x7,x8,x9,x10,x11⟩⟩ ⟨0,false,⟨0,0,0,0,0,0⟩⟩:=⟨_,rfl⟩;have HC:Hid (opB ⟨x4,x5,⟨x6,x7,x8,x9,x10,x11⟩⟩ ⟨0,false,⟨0,0,0,0,0,0⟩⟩=c):=hc.symm;rw[show oqB ⟨x4,x5,⟨x6,x7,x8,x9,x10,x11⟩⟩ zeP=c from hc.symm];clear hc;obtain⟨q,hq⟩:∃q,q=(!c || (decide (x0=3) && !(decide (x3=0)))):=⟨_,rfl⟩;have HQ:Hid (q=(!c || (decide (x0=3) && !(decide (x3=0))))):=hq;have HE:Hid (elN c x0 x3=if q then 3 else 0):=by
  show _=_;rw[elN,hq];cases c <;> cases decide (x0=3) <;> cases decide (x3=0) <;> rfl
 rw[HE.out];clear hq HE;have h30:x3=0∨(¬x3=0∧(x3 != 0)=true):=by
  by_cases h0:x3=0
  ·exact .inl h0
  exact .inr ⟨h0,by simpa using h0⟩
 obtain⟨N,hN⟩:∃N:Int,N=if q then 3 else 0:=⟨_,rfl⟩
 have HN:Hid (N=if q then 3 else 0):=hN;rw[←hN];clear hN;obtain⟨d,hd⟩:∃d,d=decide (x3=0):=⟨_,rfl⟩;have HD:Hid (decide (x3=0)=d):=hd.symm;have hd2:(x3==0)=d:=by rw[hd];rfl
 have hd3:(x3 != 0) = !d:=by rw[hd];rfl
 clear hd h30;obtain⟨w1,hw1⟩:∃V,V=w.alloc (.cells #[.int i64 x0,.int i64 x1,.int i64 x2,.int i64 x3,.int i64 x4,.bool x5,.int i64 x6,.int i64 x7,.int i64 x8,.int i64 x9,.int i64 x10,.int i64 x11] 50):=⟨_,rfl⟩;rw[←hw1] at HC0 HB0;have HW1:Hid (w.alloc (.cells #[.int i64 x0,.int i64 x1,.int i64 x2,.int i64 x3,.int i64 x4,.bool x5,.int i64 x6,.int i64 x7,.int i64 x8,.int i64 x9,.int i64 x10,.int i64 x11] 50)=w1):=hw1.symm;clear hw1;cases d
 all_goals
  rcases hk with rfl | rfl
  all_goals
   go_enter func42,ntmps42;go_upto_region 4 with fail;rw[HW1.out];obtain⟨c0,c1,c2,c3,c4,c5,c6,c7,c8,c9,c10,c11⟩:=HC0.out
   go_cut [58] from 45 (fun v w'=>v=.bool q∧w'=w1)
   case first =>
    rcases op_ways x4 x5 x6 x7 x8 x9 x10 x11 0 false 0 0 0 0 0 0 with ⟨e0,e⟩ | ⟨e0,e1,e⟩ | ⟨e0,e1,e2,e⟩ | ⟨e0,e1,e2,e3,e⟩ | ⟨e0,e1,e2,e3,e4,e⟩ | ⟨e0,e1,e2,e3,e4,e5,e⟩ | ⟨e0,e1,e2,e3,e4,e5,e6,e⟩ | ⟨e0,e1,e2,e3,e4,e5,e6,e7,e⟩ | ⟨e0,e1,e2,e3,e4,e5,e6,e7,e⟩
    all_goals
     rw[HC.out] at e;have HE:Hid (c=_):=e;clear e
     as_aux_lemma =>
      go_wp2_with fail
      go_meet
      exact⟨by rw[HQ.out,HE.out,HD.out];rfl,rfl⟩
   case rest =>
    obtain⟨rfl,hwc⟩:=hcut;have hwc2:=hwc.symm;clear hwc;subst hwc2;clear c0 c1 c2 c3 c4 c5 c6 c7 c8 c9 c10 c11;cases q with
    | false =>
      go_wp2;go_ret;exact⟨by rw[HN.out];rfl,HB0.out⟩
    | true =>
      go_wp2;go_ret;exact⟨by rw[HN.out];rfl,HB0.out⟩
theorem rmsg_any (x0 x1 x2 x3 x4:Int)(x5:Bool)(x6 x7 x8 x9 x10 x11:Int)(w:World):
 Calls prog 42 #[.agg #[.int i64 x0,.int i64 x1,.int i64 x2,.int i64 x3,.int i64 x4,.bool x5,.int i64 x6,.int i64 x7,.int i64 x8,.int i64 x9,.int i64 x10,.int i64 x11]] w fun e w'=>e=.returned (.int i64 (mgN ⟨x0,x1,x2,x3,⟨x4,x5,⟨x6,x7,x8,x9,x10,x11⟩⟩⟩))∧Below w.heap.size w w':=by
 cases hR:mgR ⟨x0,x1,x2,x3,⟨x4,x5,⟨x6,x7,x8,x9,x10,x11⟩⟩⟩
 ·rw[mg_no hR];exact rmsg_no x0 x1 x2 x3 x4 x5 x6 x7 x8 x9 x10 x11 w hR
 have hk:=(mg_rng.1 hR).1;by_cases h1:x0=1
 ·subst h1;rw[mg_do hR rfl];exact rmsg_do x1 x2 x3 x4 x5 x6 x7 x8 x9 x10 x11 w hR
 rw[mg_els hR h1];exact rmsg_else x0 x1 x2 x3 x4 x5 x6 x7 x8 x9 x10 x11 w (by simp only at hk;omega) hR
end
end Go.Proofs.YtcbapfgohocghaaDoor
