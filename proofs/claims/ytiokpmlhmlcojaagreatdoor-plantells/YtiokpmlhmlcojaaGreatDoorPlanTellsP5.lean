/- Contracts and facts on the way to PlanTells, joined into one text: ChangeMem, ChangeOps, OwnInts, ChangeDiff, CcLink, ClassTwo, StrClone, ChangeBox, ChangeFresh. -/
import Derived.Test.YtiokpmlhmlcojaaGreatDoorPlanTellsP4
namespace Go.Proofs.YtiokpmlhmlcojaaGreatDoor
set_option linter.unusedSimpArgs false
set_option linter.unusedVariables false
set_option maxHeartbeats 16000000
set_option maxRecDepth 100000
section
open Go.RowKit
def offB (x:SlT)(b:Nat):Prop:=x.2.1=0∨∀a,x.1=some a→a.block≠b
theorem RAt.lt {w:World}{g o:Nat}{L:List Ru}(h:RAt w g o L)(h0:0<L.length):g<w.heap.size:=bLQ _ _ (h 0 h0).c0
theorem SR.off {w:World}{x:SlT}{L:List Ru}(h:SR w (slV x) L){b:Nat}(hb:w.heap.size≤b):offB x b:=by
 obtain⟨ao,n,cap⟩:=x
 rcases h with ⟨ao',cap',e,rfl⟩ | ⟨g,o,cap',e,h1,h2,h3⟩
 ·simp only[slV,Value.slice.injEq] at e;exact .inl e.2.1
 simp only[slV,Value.slice.injEq] at e;obtain⟨rfl,rfl,rfl⟩:=e;by_cases h0:L.length=0
 ·exact .inl h0
 refine .inr fun a ha=>?_
 cases ha;have:=h3.lt (by omega);show g≠b;omega
theorem SR.grown {w w':World}{x:SlT}{L:List Ru}{row:Option Nat}(h:SR w (slV x) L)(hg:w.grownBy w' row)(ho:∀b,row=some b→offB x b):SR w' (slV x) L:=by
 obtain⟨ao,n,cap⟩:=x
 rcases h with ⟨ao',cap',e,rfl⟩ | ⟨g,o,cap',e,h1,h2,h3⟩
 ·exact .inl ⟨ao',cap',e,rfl⟩
 simp only[slV,Value.slice.injEq] at e;obtain⟨rfl,rfl,rfl⟩:=e;by_cases h0:L.length=0
 ·exact .inl ⟨_,_,by rw[slV,h0],List.length_eq_zero_iff.1 h0⟩
 have hne:some g≠row:=by
  intro e
  rcases ho g e.symm with h4 | h4
  ·exact h0 h4
  exact h4 _ rfl rfl
 refine .inr ⟨g,o,cap,rfl,h1,h2,fun i hi=>?_⟩;obtain⟨c0,c1,c2,c3,c4,c5⟩:=h3 i hi;exact⟨hg.cell c0 hne,hg.cell c1 hne,hg.cell c2 hne,hg.cell c3 hne,hg.cell c4 hne,hg.cell c5 hne⟩
structure TR (e:TypeId)(w:World)(A B:Nat)(v:Value)(vs:List SlT)(Ts:List (List Ru)):Prop where
 ov:w.ownsRow B e slE.n v vs.length (cellsG slE vs)
 lv:vs.length=Ts.length
 rv:∀(i:Nat) (x:SlT) (L:List Ru),vs[i]?=some x→Ts[i]?=some L→SR w (slV x) L∧∀b,v.ownBlock=some b→offB x b
 rz:∀(i:Nat) (x:SlT),vs[i]?=some x→∀b,A≤b→b<B→offB x b
section
variable {e:TypeId}{w w':World}{A B:Nat}{v:Value}{vs:List SlT}{Ts:List (List Ru)}
theorem tr_nil (e:TypeId)(w:World)(A B:Nat):TR e w A B (.slice none 0 0) [] []:=
 ⟨World.ownsRow_nil w B e slE.n,rfl,fun i x L h=>by simp at h,fun i x h=>by simp at h⟩
theorem TR.later (h:TR e w A B v vs Ts)(hb:Below w.heap.size w w'):TR e w' A B v vs Ts:=
 ⟨h.ov.kept (grown_below hb) (none_or _),h.lv,fun i x L h1 h2=>⟨(h.rv i x L h1 h2).1.later hb,(h.rv i x L h1 h2).2⟩,h.rz⟩
theorem TR.grown (h:TR e w A B v vs Ts){b:Nat}(hg:w.grownBy w' (some b))(h1:A≤b)(h2:b<B):TR e w' A B v vs Ts:=by
 refine⟨h.ov.kept hg (.inr fun e=>?_),h.lv,fun i x L a1 a2=>⟨(h.rv i x L a1 a2).1.grown hg (fun c hc=>?_),(h.rv i x L a1 a2).2⟩,h.rz⟩
 ·have:=(h.ov.lt b e).1;omega
 cases hc;exact h.rz i x a1 b h1 h2
theorem ts_sl {v:Value}(h:TS w v Ts):∃vs:List SlT,GS slE w v vs∧vs.length=Ts.length∧∀(i:Nat) (x:SlT) (L:List Ru),vs[i]?=some x→Ts[i]?=some L→SR w (slV x) L:=by
 rcases h with ⟨ao,cap,rfl,rfl⟩ | ⟨g,o,cap,rfl,h1,h2,h3⟩
 ·exact⟨[],.inl ⟨ao,cap,rfl,rfl⟩,rfl,fun i x L h=>by simp at h⟩
 have each:∀i,i<Ts.length→∃x:SlT,w.cell? ⟨g,o+i,none⟩=some (slV x)∧SR w (slV x) (Ts.getD i []):=by
  intro i hi;obtain⟨ao,n,cap,c1,c2⟩:=h3 i hi;refine⟨(ao,n,cap),c1,?_⟩;rw[getT hi];exact c2
 have iR:Inhabited SlT:=⟨(none,0,0)⟩;obtain⟨R,hR⟩:=Go.Deep.choose_lt each;refine⟨(List.range Ts.length).map R,.inr ⟨g,o,cap,by simp,by simpa using h1,h2,fun i hi j u hu=>?_⟩,by simp,fun i x L a1 a2=>?_⟩
 ·have hi2:i<Ts.length:=by simpa using hi
  have e1:((List.range Ts.length).map R)[i]=R i:=by simp
  rw[e1] at hu;obtain rfl:j=0:=by
   have:=(List.getElem?_eq_some_iff.1 hu).1;rw[slE.len] at this;have e2:slE.n=1:=rfl;omega
  have e3:o+i*slE.n+0=o+i:=by show o+i*1+0=o+i;omega
  have e4:slV (R i)=u:=Option.some.inj hu;rw[e3,←e4];exact (hR i hi2).1
 have hi:i<Ts.length:=(List.getElem?_eq_some_iff.1 a2).1;have e1:R i=x:=by simpa[hi] using a1
 have e2:=(hR i hi).2;rw[getT hi] at e2;rw[List.getElem?_eq_getElem hi] at a2;cases a2;rw[←e1];exact e2
theorem tr_copy {w0:World}{u:Value}(hlen:vs.length=Ts.length)(hsl:∀(i:Nat) (x:SlT) (L:List Ru),vs[i]?=some x→Ts[i]?=some L→SR w0 (slV x) L)(hb:Below w0.heap.size w0 w)(hg:w.grownBy w' none)(hB:w0.heap.size≤B)(ho:w'.ownsRow B e slE.n u vs.length (cellsG slE vs)):TR e w' w0.heap.size B u vs Ts:=by
 have each:∀(i:Nat) (x:SlT),vs[i]?=some x→∃L,Ts[i]?=some L:=fun i x h=>by
  have hi:i<Ts.length:=by rw[←hlen];exact (List.getElem?_eq_some_iff.1 h).1
  exact⟨_,List.getElem?_eq_getElem hi⟩
 refine⟨ho,hlen,fun i x L h1 h2=>⟨((hsl i x L h1 h2).later hb).grown hg (fun b hb=>by cases hb),fun b hb=>(hsl i x L h1 h2).off (Nat.le_trans hB (ho.lt b hb).1)⟩,fun i x h1 b h2 h3=>?_⟩;obtain⟨L,hL⟩:=each i x h1;exact (hsl i x L h1 hL).off h2
theorem TR.push (h:TR e w A B v vs Ts){x:SlT}{L:List Ru}(hx:SR w (slV x) L){v':Value}(hox:∀b,v.ownBlock=some b→offB x b)(hoz:∀b,A≤b→b<B→offB x b)
 (hg:w.grownBy w' v.ownBlock) (ho:w'.ownsRow B e slE.n v' (vs++[x]).length (cellsG slE (vs++[x]))) (hb:v'.ownBlock=v.ownBlock∨v'.ownBlock=some w.heap.size):TR e w' A B v' (vs++[x]) (Ts++[L]):=by
 have one:∀{y:SlT} {M:List Ru},SR w (slV y) M→(∀b,v.ownBlock=some b→offB y b)→SR w' (slV y) M∧∀b,v'.ownBlock=some b→offB y b:=by
  intro y M h1 h2;refine⟨h1.grown hg h2,fun b hv=>?_⟩
  rcases hb with hb | hb
  ·exact h2 b (by rw[←hb];exact hv)
  rw[hb] at hv;cases hv;exact h1.off (Nat.le_refl _)
 refine⟨ho,by simp[h.lv],fun i y M h1 h2=>?_,fun i y h1=>?_⟩
 ·by_cases hi:i<vs.length
  ·rw[List.getElem?_append_left hi] at h1;rw[List.getElem?_append_left (by rw[←h.lv];exact hi)] at h2;obtain⟨a1,a2⟩:=h.rv i y M h1 h2;exact one a1 a2
  have hi2:i=vs.length:=by
   have:=(List.getElem?_eq_some_iff.1 h1).1;simp at this;omega
  subst hi2;simp at h1;rw[h.lv] at h2;simp at h2;subst h1 h2;exact one hx hox
 by_cases hi:i<vs.length
 ·rw[List.getElem?_append_left hi] at h1;exact h.rz i y h1
 have hi2:i=vs.length:=by
  have:=(List.getElem?_eq_some_iff.1 h1).1;simp at this;omega
 subst hi2;simp at h1;subst h1;exact hoz
theorem TR.put {g n cap i:Nat}(h:TR e w A B (.slice (some ⟨g,0,none⟩) n cap) vs Ts){x:SlT}{L:List Ru}(hx:SR w (slV x) L)(hox:offB x g)(hoz:∀b,A≤b→b<B→offB x b):TR e (w.setCell ⟨g,i,none⟩ (slV x)) A B (.slice (some ⟨g,0,none⟩) n cap) (vs.set i x) (Ts.set i L):=by
 have hgw:w.grownBy (w.setCell ⟨g,i,none⟩ (slV x)) (some g):=grown_set w g i (slV x);refine⟨?_,by simp[h.lv],fun j y M a1 a2=>?_,fun j y a1=>?_⟩
 ·have h1:=h.ov;have hn:n=vs.length:=by
   rcases h1.2 with ⟨h3,_⟩ | ⟨_,_,_,h3,_⟩
   ·cases h3
   simp only[Value.slice.injEq] at h3;exact h3.2.1
  rw[List.length_set,sl_cells,List.map_set];rw[sl_cells,←hn] at h1;rw[←hn];exact (h1.stored _ _).1
 ·have hj:j<(vs.set i x).length:=(List.getElem?_eq_some_iff.1 a1).1;rw[List.length_set] at hj;by_cases hij:i=j
  ·subst hij;rw[List.getElem?_set_self hj] at a1;rw[List.getElem?_set_self (by rw[←h.lv];exact hj)] at a2;cases a1;cases a2;refine⟨hx.grown hgw (fun b hb=>by cases hb;exact hox),fun b hb=>?_⟩;cases hb;exact hox
  rw[List.getElem?_set_ne hij] at a1 a2;obtain⟨b1,b2⟩:=h.rv j y M a1 a2;exact⟨b1.grown hgw (fun b hb=>by cases hb;exact b2 g rfl),b2⟩
 have hj:j<(vs.set i x).length:=(List.getElem?_eq_some_iff.1 a1).1;rw[List.length_set] at hj;by_cases hij:i=j
 ·subst hij;rw[List.getElem?_set_self hj] at a1;cases a1;exact hoz
 rw[List.getElem?_set_ne hij] at a1;exact h.rz j y a1
theorem TR.ts (h:TR e w A B v vs Ts):TS w v Ts:=by
 rcases own_GS h.ov with ⟨ao,cap,rfl,h0⟩ | ⟨g,o,cap,rfl,h1,h2,h3⟩
 ·refine .inl ⟨ao,cap,rfl,?_⟩;have:=h.lv;rw[h0] at this;exact List.length_eq_zero_iff.1 this.symm
 refine .inr ⟨g,o,cap,by rw[h.lv],by rw[←h.lv];exact h1,h2,fun i hi=>?_⟩;have hi2:i<vs.length:=by rw[h.lv];exact hi
 have:=h3 i hi2 0 _ rfl;have e:o+i*slE.n+0=o+i:=by show o+i*1+0=o+i;omega
 rw[e] at this;exact⟨_,_,_,this,(h.rv i _ _ (List.getElem?_eq_getElem hi2) (List.getElem?_eq_getElem hi)).1⟩
theorem TR.at {g n cap i:Nat}(h:TR e w A B (.slice (some ⟨g,0,none⟩) n cap) vs Ts)(hi:i<Ts.length):∃x:SlT,w.cell? ⟨g,i,none⟩=some (slV x)∧SR w (slV x) (Ts.getD i [])∧w.frozen? ⟨g,i,none⟩=false∧n=Ts.length∧B≤g∧g<w.heap.size:=by
 have h1:=h.ov;have hn:n=vs.length:=by
  rcases h1.2 with ⟨h3,_⟩ | ⟨_,_,_,h3,_⟩
  ·cases h3
  simp only[Value.slice.injEq] at h3;exact h3.2.1
 have hi2:i<vs.length:=by rw[h.lv];exact hi
 rw[sl_cells,←hn] at h1;refine⟨vs[i],?_,?_,h1.frozenAt i,by rw[hn,h.lv],(h1.lt g rfl).1,(h1.lt g rfl).2⟩
 ·rw[h1.cellAt i (by show i<n*1;omega)];simp[hi2]
 rw[getT hi];exact (h.rv i _ _ (List.getElem?_eq_getElem hi2) (List.getElem?_eq_getElem hi)).1
end
def NO (w:World)(B:Nat)(v:Value)(L:List Op8):Prop:=w.ownsRow B 90 8 v L.length (cellsG opE L)
theorem NO.gs {w:World}{B:Nat}{v:Value}{L:List Op8}(h:NO w B v L):GS opE w v L:=own_GS (E:=opE) h
theorem NO.nil (w:World)(B:Nat):NO w B (.slice none 0 0) []:=World.ownsRow_nil w B _ 8
theorem NO.mono {w:World}{B B':Nat}{v:Value}{L:List Op8}(h:NO w B v L)(hB:B'≤B):NO w B' v L:=by
 obtain⟨h1,h2 | ⟨g,cap,cur,hv,hb,h3⟩⟩:=h
 ·exact⟨h1,.inl h2⟩
 exact⟨h1,.inr ⟨g,cap,cur,hv,Nat.le_trans hB hb,h3⟩⟩
theorem NO.later {w w':World}{B:Nat}{v:Value}{L:List Op8}(h:NO w B v L)(hb:Below w.heap.size w w'):NO w' B v L:=h.kept (grown_below hb) (none_or _)
theorem NO.ofn {w:World}{B n:Nat}{v:Value}{M L:List Op8}(h:w.ownsRow B 90 8 v n (cellsG opE M))(hL:M=L)(hn:n=L.length):NO w B v L:=by subst hL hn;exact h
theorem NR.ofn {w:World}{B n:Nat}{v:Value}{M:List Ru}(h:w.ownsRow B 88 6 v n (cellsR M))(hn:n=M.length):NR w B v M:=by subst hn;exact h
theorem wpList_append_ops (w:World){ops:Array Oper}{rest:List Oper}{o:Oper}{a:Act}{Q:Exit→Act→World→Prop}(hgd:o.guard=none)(s x:Operand)(t:TypeId)
 (ho:o.op=.call { callee:=.builtin .append,args:=#[s,x],argTypes:=#[t,t] }) (ht:Tryz.prog.underlying t=some (.slice 90)) (base:Nat)
 (v:Value) (hs:a.eval s=v) (L:List Op8) (hown:NO w base v L) (u:Value) (hx:a.eval x=u) (M:List Op8) (hM:GS opE w u M)
 (h100:L.length+M.length≤1000000) (hbase:base≤w.heap.size)
 (h:∀v' w',NO w' base v' (L++M)→w.grownBy w' v.ownBlock→wpList Tryz.prog ops Q rest (a.put o.dst v') w'):wpList Tryz.prog ops Q (o :: rest) a w:=by
 obtain⟨i0,hi,hz0,hz1,hz2⟩:=info_parts op_info;exact wpList_append_GS (E:=opE) w hgd s x t 90 ho ht i0 _ 64 hi hz0 hz1 hz2 op_zero base v hs L hown u hx M hM (by unfold maxLen;omega) (by omega) hbase h
theorem ta_info:(Tryz.prog.info? 93).map (fun i=>(i.zero,i.size,i.bytes))=some (some (.slice none 0 0),1,24):=by kernel_rfl
theorem ta_zero:(Value.slice none 0 0).cells.size=1:=by simp[Value.cells]
theorem NR.sl {w:World}{B:Nat}{v:Value}{L:List Ru}(h:NR w B v L):∃x:SlT,v=slV x∧∀b,b<B→offB x b:=by
 rcases h.2 with ⟨rfl,h0⟩ | ⟨g,cap,cur,rfl,hg,_⟩
 ·exact⟨(none,0,0),rfl,fun b _=>.inl rfl⟩
 refine⟨(some ⟨g,0,none⟩,L.length,cap),rfl,fun b hb=>.inr fun a ha=>?_⟩;cases ha;show g≠b;omega
theorem own_form {w:World}{B e size n:Nat}{v:Value}{xs:List Value}(h:w.ownsRow B e size v n xs):∃ao cap,v=.slice ao n cap:=by
 rcases h.2 with ⟨rfl,rfl⟩ | ⟨g,cap,cur,rfl,_⟩
 ·exact⟨none,0,rfl⟩
 exact⟨_,cap,rfl⟩
def diN (S:Int)(Ls:LkQ)(Hs:HoQ)(Ts:List (List Ru))(S':Int)(Ls':LkQ)(Hs':HoQ)(Ts':List (List Ru)):Int:=
 if nwN S Ls Hs Ts S' Ls' Hs' Ts'=0 then (if tpB S S' Ls Ls' Hs Hs'=true then 0 else 3) else nwN S Ls Hs Ts S' Ls' Hs' Ts'
def diL (S:Int)(Ls:LkQ)(Hs:HoQ)(Ts:List (List Ru))(S':Int)(Ls':LkQ)(Hs':HoQ)(Ts':List (List Ru)):List Op8:=
 if diN S Ls Hs Ts S' Ls' Hs' Ts'=0 then cdL Ts Ts' Ts.length else []
theorem of_next {w:Int}{D:List Op8}{k:Nat}(hk:k<D.length)(C:List Op8):C++ofS w (D.take (k+1))=(C++ofS w (D.take k))++[⟨w,D[k].a,D[k].r⟩]:=by
 rw[List.take_succ_eq_append_getElem hk];simp only[ofS,List.map_append,List.map_cons,List.map_nil,List.append_assoc]
theorem chDiff_any (S:Int)(ao:Option Addr)(n cap:Nat)(ao2:Option Addr)(n2 cap2:Nat)(ao3:Option Addr)(n3 cap3:Nat)(S':Int)(bo:Option Addr)(m dap:Nat)(bo2:Option Addr)(m2 dap2:Nat)(bo3:Option Addr)(m3 dap3:Nat)(Ls:LkQ)(Hs:HoQ)(Ts:List (List Ru))(Ls':LkQ)(Hs':HoQ)(Ts':List (List Ru))(w:World)
 (hL:GS lnkE w (.slice ao n cap) Ls) (hH:GS hstE w (.slice ao2 n2 cap2) Hs) (hT:TS w (.slice ao3 n3 cap3) Ts) (hL':GS lnkE w (.slice bo m dap) Ls') (hH':GS hstE w (.slice bo2 m2 dap2) Hs') (hT':TS w (.slice bo3 m3 dap3) Ts'):
 Calls Tryz.prog 56 #[.agg #[.int .i64 S,.slice ao n cap,.slice ao2 n2 cap2,.slice ao3 n3 cap3],.agg #[.int .i64 S',.slice bo m dap,.slice bo2 m2 dap2,.slice bo3 m3 dap3]] w fun e w'=>∃v,e=.returned (.tuple #[v,noV (diN S Ls Hs Ts S' Ls' Hs' Ts')])∧NO w' w.heap.size v (diL S Ls Hs Ts S' Ls' Hs' Ts')∧Below w.heap.size w w':=by
 have hb0:Below w.heap.size w ((w.alloc (Obj.cells #[.int .i64 S,.slice ao n cap,.slice ao2 n2 cap2,.slice ao3 n3 cap3] 28)).alloc (Obj.cells #[.int .i64 S',.slice bo m dap,.slice bo2 m2 dap2,.slice bo3 m3 dap3] 28)):=((Below.refl _ _).alloc (Nat.le_refl _) _).alloc (by simp) _;have HNN:=nn_new w S (.slice ao n cap) (.slice ao2 n2 cap2) (.slice ao3 n3 cap3) S' (.slice bo m dap) (.slice bo2 m2 dap2) (.slice bo3 m3 dap3) 28;have HB0:Hid (Below w.heap.size w ((w.alloc (Obj.cells #[.int .i64 S,.slice ao n cap,.slice ao2 n2 cap2,.slice ao3 n3 cap3] 28)).alloc (Obj.cells #[.int .i64 S',.slice bo m dap,.slice bo2 m2 dap2,.slice bo3 m3 dap3] 28))):=hb0;have HW:Hid (∀W,Below w.heap.size w W→(GS lnkE W (.slice ao n cap) Ls∧GS hstE W (.slice ao2 n2 cap2) Hs∧TS W (.slice ao3 n3 cap3) Ts)∧GS lnkE W (.slice bo m dap) Ls'∧GS hstE W (.slice bo2 m2 dap2) Hs'∧TS W (.slice bo3 m3 dap3) Ts'):=fun W h=>⟨⟨hL.later h,hH.later h,hT.later h⟩,hL'.later h,hH'.later h,hT'.later h⟩
 obtain⟨_,_,_,e,gn,gn2,gn3,ga⟩:=hT.form;cases e;obtain⟨_,_,_,e,gm,gm2,gm3,gb⟩:=hT'.form;cases e;have HN:Hid (Ts.length=n3):=gn;have HM:Hid (Ts'.length=m3):=gm;have HA:Hid (0<n3→∃g o,ao3=some ⟨g,o,none⟩∧TAt w g o Ts∧cap3≤maxLen):=ga;have HA2:Hid (0<m3→∃g o,bo3=some ⟨g,o,none⟩∧TAt w g o Ts'∧dap3≤maxLen):=gb;have n63:n3≤9223372036854775807:=by unfold maxLen at gn2;omega
 obtain⟨C,hC⟩:∃X,X=nwN S Ls Hs Ts S' Ls' Hs' Ts':=⟨_,rfl⟩;have HC:Hid (C=nwN S Ls Hs Ts S' Ls' Hs' Ts'):=hC;obtain⟨X,hX⟩:∃X,X=diN S Ls Hs Ts S' Ls' Hs' Ts':=⟨_,rfl⟩;obtain⟨R,hR⟩:∃X,X=diL S Ls Hs Ts S' Ls' Hs' Ts':=⟨_,rfl⟩;have HX:Hid (X=if C=0 then (if tpB S S' Ls Ls' Hs Hs'=true then 0 else 3) else C):=by
  show _=_;rw[hX,diN,hC]
 have HR:Hid (R=if X=0 then cdL Ts Ts' Ts.length else []):=by
  show _=_;rw[hR,diL,hX]
 rw[←hX,←hR];clear hL hH hT hL' hH' hT' hb0 hX hR hC gn gn2 ga gm gm2 gb;go_enter Tryz.func56,Tryz.ntmps56
 go_wp2_with fail
 refine (chCheck_any S ao n cap ao2 n2 cap2 ao3 n3 cap3 S' bo m dap bo2 m2 dap2 bo3 m3 dap3 Ls Hs Ts Ls' Hs' Ts' _ (HW.out _ HB0.out).1.1 (HW.out _ HB0.out).1.2.1 (HW.out _ HB0.out).1.2.2 (HW.out _ HB0.out).2.1 (HW.out _ HB0.out).2.2.1 (HW.out _ HB0.out).2.2.2).mono ?_;rintro e w1 ⟨rfl,hb1⟩;rw[←HC.out];have HB1:Hid (Below w.heap.size w w1):=HB0.out.trans (hb1.mono HB0.out.size);have HNH:Hid (NN w1 w.heap.size S (.slice ao n cap) (.slice ao2 n2 cap2) (.slice ao3 n3 cap3) S' (.slice bo m dap) (.slice bo2 m2 dap2) (.slice bo3 m3 dap3)):=HNN.later hb1;obtain⟨⟨p0,p1,p2,p3⟩,s0,s1,s2,s3⟩:=HNN.later hb1;have hlt1:w.heap.size<w1.heap.size:=bLQ _ _ p0;have hlt2:w.heap.size+1<w1.heap.size:=bLQ _ _ s0;clear hb1 HNN HB0;by_cases h0:C=0
 ·subst h0;rw[no_ok rfl]
  go_wp2_with fail
  refine (sameTopo_any S ao n cap ao2 n2 cap2 Ls Hs S' bo m dap bo2 m2 dap2 Ls' Hs' _ (HW.out _ HB1.out).1.1 (HW.out _ HB1.out).1.2.1 (HW.out _ HB1.out).2.1 (HW.out _ HB1.out).2.2.1).mono ?_;rintro e w2 ⟨rfl,hb2⟩;have HB2:Hid (Below w.heap.size w w2):=HB1.out.trans (hb2.mono HB1.out.size);have HN2:Hid (NN w2 w.heap.size S (.slice ao n cap) (.slice ao2 n2 cap2) (.slice ao3 n3 cap3) S' (.slice bo m dap) (.slice bo2 m2 dap2) (.slice bo3 m3 dap3)):=HNH.out.later hb2;clear p0 p1 p2 p3 s0 s1 s2 s3 hlt1 hlt2;obtain⟨⟨p0,p1,p2,p3⟩,s0,s1,s2,s3⟩:=HNH.out.later hb2;have hlt1:w.heap.size<w2.heap.size:=bLQ _ _ p0;have hlt2:w.heap.size+1<w2.heap.size:=bLQ _ _ s0;obtain⟨b1,hb⟩:∃b,b=tpB S S' Ls Ls' Hs Hs':=⟨_,rfl⟩;have HBE:Hid (tpB S S' Ls Ls' Hs Hs'=b1):=hb.symm;rw[HBE.out];clear hb hb2 HNH HB1;cases b1 with
  | false =>
    have HX3:Hid (X=3):=by
     show _=_;rw[HX.out,HBE.out];rfl
    have HR3:Hid (R=[]):=by
     show _=_;rw[HR.out,HX3.out];rfl
    go_wp2;refine bodyPost_ret (v:=.tuple #[.slice none 0 0,.iface 68 (.int .i64 3)]) (by simp[results,Tryz.results56,go_sem]) rfl ?_;rw[HX3.out,HR3.out];exact⟨_,rfl,NO.nil _ _,HB2.out⟩
  | true =>
    have HX0:Hid (X=0):=by
     show _=_;rw[HX.out,HBE.out];rfl
    have HR0:Hid (R=cdL Ts Ts' n3):=by
     show _=_;rw[HR.out,HX0.out,HN.out];rfl
    have HTW:Hid (∀j,j<n3→j<m3→twN (Ts.getD j []) (Ts'.getD j [])=0):=fun j h1 h2=>nw_tw HC.out.symm j (by rw[HN.out];exact h1) (by rw[HM.out];exact h2)
    have hnm:n3=m3:=by
     have h1:=(nt_0 (nw_two HC.out.symm).1).2.1;have h2:=(nt_0 (nw_two HC.out.symm).2).2.1;have h3:=(tpB_iff.1 HBE.out).1;rw[HN.out] at h1;rw[HM.out] at h2;omega
    subst hnm;have h36:n3≤6:=by
     have h1:=(nt_0 (nw_two HC.out.symm).1).2.1;have h2:=(tp_0 (nt_0 (nw_two HC.out.symm).1).1).1;rw[HN.out] at h1;omega
    have HFW:Hid (∀k,k≤n3→(cdL Ts Ts' k).length≤24*k):=by
     intro k
     induction k with
     | zero=>intro _;simp[cdL]
     | succ k ih =>
       intro hk;have h1:=ih (by omega);have h2:(dfL (Ts.getD k []) (Ts'.getD k [])).length≤24:=by
        have h:=HTW.out k (by omega) (by omega);have h3:=tw_two h;have a:=(tb_iff.1 h3.1).1;have b:=(tb_iff.1 h3.2).1;have c:=bey_le (Ts.getD k []) (Ts'.getD k []);have d:=bey_le (Ts'.getD k []) (Ts.getD k []);rw[dfL,if_pos h];simp only[taken,added,List.length_append,List.length_map];omega
       rw[cdL,List.length_append,ofS,List.length_map];omega
    go_wp2
    go_loopw [7,30] (fun u i wr=>∃k:Nat,k≤n3∧i=.int .i64 k∧NO wr (w.heap.size+2) u (cdL Ts Ts' k)∧NN wr w.heap.size S (.slice ao n cap) (.slice ao2 n2 cap2) (.slice ao3 n3 cap3) S' (.slice bo m dap) (.slice bo2 m2 dap2) (.slice bo3 n3 dap3)∧Below w.heap.size w wr) (fun _ i _=>n3-(intOf i).toNat)
    case atStart=>exact⟨0,by omega,rfl,NO.nil _ _,HN2.out,HB2.out⟩
    case round =>
     obtain⟨k,hk,rfl,hO,hX,hB⟩:=hrel;clear HN2 HB2 p0 p1 p2 p3 s0 s1 s2 s3 hlt1 hlt2;have HB:Hid (Below w.heap.size w wr):=hB;have HO:Hid (NO wr (w.heap.size+2) u7 (cdL Ts Ts' k)):=hO;have HNX:Hid (NN wr w.heap.size S (.slice ao n cap) (.slice ao2 n2 cap2) (.slice ao3 n3 cap3) S' (.slice bo m dap) (.slice bo2 m2 dap2) (.slice bo3 n3 dap3)):=hX;obtain⟨⟨p0,p1,p2,p3⟩,s0,s1,s2,s3⟩:=hX;have hlt1:w.heap.size<wr.heap.size:=bLQ _ _ p0;have hlt2:w.heap.size+1<wr.heap.size:=bLQ _ _ s0;by_cases hlt:k<n3
     ·obtain⟨g,og,hao,hc,_⟩:=HA.out (by omega);obtain⟨f,of,hbo,hd,_⟩:=HA2.out (by omega);subst hao hbo;have hkA:k<Ts.length:=by rw[HN.out];exact hlt
      have hkB:k<Ts'.length:=by rw[HM.out];exact hlt
      obtain⟨a3,l3,c3,r0,hG3⟩:=(hc.later hB) k hkA;obtain⟨a4,l4,c4,r1,hG4⟩:=(hd.later hB) k hkB;rw[←getT hkA] at hG3;rw[←getT hkB] at hG4;have HG3:Hid (SR wr (.slice a3 l3 c3) (Ts.getD k [])):=hG3;have HG4:Hid (SR wr (.slice a4 l4 c4) (Ts'.getD k [])):=hG4;have HT0:Hid (twN (Ts.getD k []) (Ts'.getD k [])=0):=HTW.out k hlt hlt;have kb0:(0:Int)≤(k:Int):=by omega
      have kb1:(k:Int)<(n3:Int):=by omega
      clear hc hd hB hG3 hG4 hO
      go_wp2_with fail
      refine (diff_own a3 l3 c3 a4 l4 c4 _ _ wr HG3.out HG4.out HT0.out).mono ?_;rintro e w3 ⟨v5,rfl,hown,hb3⟩;obtain⟨D,hD⟩:∃D,D=dfL (Ts.getD k []) (Ts'.getD k []):=⟨_,rfl⟩;have HD:Hid (cdL Ts Ts' (k+1)=cdL Ts Ts' k++ofS ((k:Int)+1) D):=by
       show _=_;rw[cdL,hD]
      have hD2:NO w3 wr.heap.size v5 D:=by
       rw[hD,dfL,if_pos HT0.out];exact hown
      obtain⟨a5,n5,c5,rfl⟩:∃b1 m1 d1,v5=.slice b1 m1 d1:=by
       obtain⟨a,c,h⟩:=own_form hD2;exact⟨a,_,c,h⟩
      have HDL:Hid (D.length=n5):=hD2.gs.len;have HD24:Hid ((cdL Ts Ts' k).length+D.length≤1000):=by
       have h1:=HFW.out (k+1) (by omega);rw[HD.out,List.length_append,ofS,List.length_map] at h1;show _≤_;omega
      have hn5:n5≤1000:=by have:=HD24.out;rw[HDL.out] at this;omega
      have HNO3:Hid (NO w3 wr.heap.size (.slice a5 n5 c5) D):=hD2;have HO3:Hid (NO w3 (w.heap.size+2) u7 (cdL Ts Ts' k)):=HO.out.later hb3;have HOB:Hid (∀b,u7.ownBlock=some b→b<wr.heap.size):=fun b hb=>(HO.out.lt b hb).2
      have HB3:Hid (Below w.heap.size w w3):=HB.out.trans (hb3.mono HB.out.size);have HN3:Hid (NN w3 w.heap.size S (.slice ao n cap) (.slice ao2 n2 cap2) (.slice (some ⟨g,og,none⟩) n3 cap3) S' (.slice bo m dap) (.slice bo2 m2 dap2) (.slice (some ⟨f,of,none⟩) n3 dap3)):=HNX.out.later hb3;have HS3:Hid (w.heap.size+2≤wr.heap.size):=by show _≤_;omega
      have HLE:Hid (wr.heap.size≤w3.heap.size):=hb3.size;clear hown hb3 hD hD2 p0 p1 p2 p3 s0 s1 s2 s3 hlt1 hlt2 r0 r1 HO HNX HB HG3 HG4;have HAP:Hid ((Value.slice a5 n5 c5).ownBlock=none∨(Value.slice a5 n5 c5).ownBlock≠u7.ownBlock):=by
       rcases h5:(Value.slice a5 n5 c5).ownBlock with _ | b5
       ·exact .inl rfl
       refine .inr fun e=>?_
       have h1:=(HNO3.out.lt b5 h5).1;have h2:=HOB.out b5 e.symm;omega
      obtain⟨i0,hi,hz0,hz1,hz2⟩:=info_parts op_info;have HI1:Hid (Tryz.prog.info? 90=some i0):=hi;have HI2:Hid (i0.zero=some (.agg #[.int .i64 0,.bool false,.int .i64 0,.int .i64 0,.int .i64 0,.int .i64 0,.int .i64 0,.int .i64 0])):=hz0;have HI3:Hid (i0.size=8):=hz1;have HI4:Hid (i0.bytes=64):=hz2;have kw:IntKind.i64.wrap ((k:Int)+1)=(k:Int)+1:=by rw[IntKind.wrap_i64];omega
      have kw2:wrap64 ((k:Int)+1)=(k:Int)+1:=by unfold wrap64;omega
      obtain⟨_,_,_,e,h51,h52,h53,h5a⟩:=HNO3.out.gs.form;cases e;clear hi hz0 hz1 hz2 h51 h52 h53 h5a HOB
      generalize hZ:wr.heap.size=Z at HNO3 HS3 HLE
      clear hZ;go_wp2
      go_loopw [7,47] (fun u j W=>∃q:Nat,q≤n5∧j=.int .i64 q∧NO W (w.heap.size+2) u (cdL Ts Ts' k++ofS ((k:Int)+1) (D.take q))∧NN W w.heap.size S (.slice ao n cap) (.slice ao2 n2 cap2) (.slice (some ⟨g,og,none⟩) n3 cap3) S' (.slice bo m dap) (.slice bo2 m2 dap2) (.slice (some ⟨f,of,none⟩) n3 dap3)∧NO W Z (.slice a5 n5 c5) D∧((Value.slice a5 n5 c5).ownBlock=none∨(Value.slice a5 n5 c5).ownBlock≠u.ownBlock)∧Below w.heap.size w W) (fun _ j _=>n5-(intOf j).toNat)
      case atStart=>exact⟨0,by omega,rfl,by simpa[ofS] using HO3.out,HN3.out,HNO3.out,HAP.out,HB3.out⟩
      case round =>
       obtain⟨q,hq,rfl,hO,hX,hNO,hap,hB⟩:=hrel;clear HO3 HN3 HNO3 HAP HB3;have HB:Hid (Below w.heap.size w wr):=hB;have HO:Hid (NO wr (w.heap.size+2) u7 (cdL Ts Ts' k++ofS ((k:Int)+1) (D.take q))):=hO;have HNX:Hid (NN wr w.heap.size S (.slice ao n cap) (.slice ao2 n2 cap2) (.slice (some ⟨g,og,none⟩) n3 cap3) S' (.slice bo m dap) (.slice bo2 m2 dap2) (.slice (some ⟨f,of,none⟩) n3 dap3)):=hX;have HNO:Hid (NO wr Z (.slice a5 n5 c5) D):=hNO;have HAP:Hid ((Value.slice a5 n5 c5).ownBlock=none∨(Value.slice a5 n5 c5).ownBlock≠u7.ownBlock):=hap;have HLW:Hid (w.heap.size+2≤wr.heap.size):=by
        have:=bLQ _ _ hX.2.1;show _≤_;simp at this;omega
       clear hO hX hap;by_cases hlq:q<n5
       ·obtain⟨_,_,_,e,_,_,_,ha⟩:=hNO.gs.form;cases e;obtain⟨g5,o5,rfl,hGA,_⟩:=ha (by omega);obtain⟨y0,ya,p,m',b,o',s',v,hql,hDq,r0,r1,r2,r3,r4,r5,r6,r7⟩:=op_at hGA HDL.out hlq;have qb0:(0:Int)≤(q:Int):=by omega
        have qb1:(q:Int)<(n5:Int):=by omega
        have HNX2:Hid (cdL Ts Ts' k++ofS ((k:Int)+1) (D.take (q+1))=(cdL Ts Ts' k++ofS ((k:Int)+1) (D.take q))++[⟨(k:Int)+1,ya,⟨p,m',b,o',s',v⟩⟩]):=by
         show _=_;rw[of_next hql,hDq]
        have HL1:Hid ((cdL Ts Ts' k++ofS ((k:Int)+1) (D.take q)).length≤1000):=by
         have:=HD24.out;show _≤_;rw[List.length_append,ofS,List.length_map,List.length_take];omega
        have HLV1:Hid ((cdL Ts Ts' k++ofS ((k:Int)+1) (D.take q)).length+1≤maxLen):=by
         have:=HL1.out;show _≤_;unfold maxLen;omega
        have HLV2:Hid (((cdL Ts Ts' k++ofS ((k:Int)+1) (D.take q)).length+1)*64≤140737488355328):=by
         have:=HL1.out;show _≤_;omega
        have hBB:Below wr.heap.size wr ((wr.alloc (Obj.cells #[.int .i64 ((k:Int)+1),.bool ya,.int .i64 p,.int .i64 m',.int .i64 b,.int .i64 o',.int .i64 s',.int .i64 v] 90)).alloc (Obj.cells #[.int .i64 ((k:Int)+1),.bool ya,.int .i64 p,.int .i64 m',.int .i64 b,.int .i64 o',.int .i64 s',.int .i64 v] 90)):=((Below.refl _ _).alloc (Nat.le_refl _) _).alloc (by simp) _;have HBB:Hid (Below wr.heap.size wr ((wr.alloc (Obj.cells #[.int .i64 ((k:Int)+1),.bool ya,.int .i64 p,.int .i64 m',.int .i64 b,.int .i64 o',.int .i64 s',.int .i64 v] 90)).alloc (Obj.cells #[.int .i64 ((k:Int)+1),.bool ya,.int .i64 p,.int .i64 m',.int .i64 b,.int .i64 o',.int .i64 s',.int .i64 v] 90))):=hBB;have HVA:Hid (VAt ((wr.alloc (Obj.cells #[.int .i64 ((k:Int)+1),.bool ya,.int .i64 p,.int .i64 m',.int .i64 b,.int .i64 o',.int .i64 s',.int .i64 v] 90)).alloc (Obj.cells #[.int .i64 ((k:Int)+1),.bool ya,.int .i64 p,.int .i64 m',.int .i64 b,.int .i64 o',.int .i64 s',.int .i64 v] 90)) (wr.heap.size+1) 0 (opE.c ⟨(k:Int)+1,ya,⟨p,m',b,o',s',v⟩⟩)):=by
         have h:=op_new (wr.alloc (Obj.cells #[.int .i64 ((k:Int)+1),.bool ya,.int .i64 p,.int .i64 m',.int .i64 b,.int .i64 o',.int .i64 s',.int .i64 v] 90)) ((k:Int)+1) ya p m' b o' s' v 90;rw[World.size_alloc] at h;exact h
        clear hNO ha hGA hDq hBB hB
        go_wp2_with (at_builtin;refine wpList_append_blk (E:=opE) _ rfl _ _ 39 90 rfl Tryz.underlying39 i0 _ 64 HI1.out HI2.out HI3.out HI4.out op_zero (w.heap.size+2) u7 rfl (cdL Ts Ts' k++ofS ((k:Int)+1) (D.take q)) (HO.out.later HBB.out) (wr.heap.size+1) 0 1 rfl ⟨(k:Int)+1,ya,⟨p,m',b,o',s',v⟩⟩ HVA.out HLV1.out HLV2.out (Nat.le_trans HLW.out HBB.out.size) ?_)
        intro v' w4 hown hgrow hblk;have hNB:=HNO.out.later HBB.out;have HO4:Hid (NO w4 (w.heap.size+2) v' (cdL Ts Ts' k++ofS ((k:Int)+1) (D.take (q+1)))):=by
         show NO _ _ _ _;rw[HNX2.out];refine NO.ofn hown (by simp) ?_;simp only[List.length_append,List.length_cons,List.length_nil];omega
        have HN4:Hid (NO w4 Z (.slice (some ⟨g5,o5,none⟩) n5 c5) D):=hNB.kept hgrow HAP.out;have HB4:Hid (Below w.heap.size w w4):=by
         have h1:=HB.out.trans (HBB.out.mono HB.out.size);exact h1.grown hgrow h1.size (fun b hb=>by have:=(HO.out.lt b hb).1;omega)
        have HX4:Hid (NN w4 w.heap.size S (.slice ao n cap) (.slice ao2 n2 cap2) (.slice (some ⟨g,og,none⟩) n3 cap3) S' (.slice bo m dap) (.slice bo2 m2 dap2) (.slice (some ⟨f,of,none⟩) n3 dap3)):=(HNX.out.later HBB.out).grown hgrow (fun b hb=>(HO.out.lt b hb).1);have HAP4:Hid ((Value.slice (some ⟨g5,o5,none⟩) n5 c5).ownBlock=none∨(Value.slice (some ⟨g5,o5,none⟩) n5 c5).ownBlock≠v'.ownBlock):=by
         rcases hblk with h | h
         ·rw[h];exact HAP.out
         refine .inr fun e=>?_
         rw[h] at e;have h2:=(hNB.lt _ e).2;simp at h2
        clear hown hgrow hblk hNB r0 r1 r2 r3 r4 r5 r6 r7 HVA HBB;go_wp2;go_roundw
        case rel=>exact⟨q+1,by omega,by go_num,HO4.out,HX4.out,HN4.out,HAP4.out,HB4.out⟩
        case measure=>simp[intOf];omega
       obtain rfl:q=n5:=by omega
       have HO4:Hid (NO wr (w.heap.size+2) u7 (cdL Ts Ts' (k+1))):=by
        have h:=HO.out;rw[←HDL.out,List.take_length,←HD.out] at h;exact h
       clear hNO hB;go_wp2;go_roundw
       case rel=>exact⟨k+1,by omega,by go_num,HO4.out,HNX.out,HB.out⟩
       case measure=>simp[intOf];omega
     obtain rfl:k=n3:=by omega
     clear hB hO;go_wp2;refine bodyPost_ret (v:=.tuple #[u7,.nilIface]) (by simp[results,Tryz.results56,go_sem]) rfl ?_;rw[HX0.out,HR0.out];exact⟨_,rfl,HO.out.mono (by omega),HB.out⟩
 have HNZ:Hid (C≠0):=h0;have HXC:Hid (X=C):=by
  show _=_;rw[HX.out,if_neg h0]
 have HR3:Hid (R=[]):=by
  show _=_;rw[HR.out,HXC.out,if_neg h0]
 rw[no_ne h0];clear h0;go_wp2;refine bodyPost_ret (v:=.tuple #[.slice none 0 0,.iface 68 (.int .i64 C)]) (by simp[results,Tryz.results56,go_sem]) rfl ?_;rw[HXC.out,HR3.out,no_ne HNZ.out];exact⟨_,rfl,NO.nil _ _,HB1.out⟩
theorem lnk_grow_nil (n:Nat)(w:World)(hn:n≤1000):
 Calls Tryz.prog 141 #[.slice none 0 0,.int .i64 n] w fun e w'=>∃v,e=.returned v∧w'.ownsRow w.heap.size 124 4 v 0 []∧Below w.heap.size w w':=by
 have h1:¬((n:Int)<0):=by omega
 by_cases h0:n=0
 ·subst h0;go_enter Tryz.func141,Tryz.ntmps141;go_wp2;go_ret;exact⟨_,rfl,World.ownsRow_nil _ _ _ _,Below.refl _ _⟩
 obtain⟨i0,hi,hz0,hz1,hz2⟩:=info_parts lnk_info;have h3:wrap64 ((n:Int)-0)=(n:Int):=by unfold wrap64;omega
 have h4:(n:Int) > 0:=by omega
 have hrz:∀ty,(Builtin.append_ #[22,3] ty #[.slice none 0 0,.int .i64 n]).run Tryz.prog w =
  .ok (.slice (some ⟨w.heap.size,0,none⟩) n (grownCap w n 0 124)) (w.drew.alloc (.cells (Builtin.zeroCells (Value.agg #[.int .i64 0,.int .i64 0,.int .i64 0,.int .i64 0]).cells n++Builtin.zeroCells (Value.agg #[.int .i64 0,.int .i64 0,.int .i64 0,.int .i64 0]).cells (grownCap w n 0 124-n)) 124)):=fun ty =>
  Lib.run_append_nil_zeros w 22 3 ty 124 i0 _ .i64 .i64 Tryz.underlying22 Tryz.underlying3 hi hz0 n (by omega) (by rw[hz1];decide) (by omega) (by rw[hz2];omega)
 have hGn:n≤grownCap w n 0 124:=grownCap_ge w _ _ _;have hGm:grownCap w n 0 124≤maxLen:=grownCap_le_maxLen w n 0 124 (by unfold maxLen;omega)
 generalize grownCap w n 0 124=G at *
 have HM:Hid (G≤maxLen):=hGm;have hG63:G≤9223372036854775807:=by unfold maxLen at hGm;omega
 have HO:Hid ((w.drew.alloc (.cells (Builtin.zeroCells (Value.agg #[.int .i64 0,.int .i64 0,.int .i64 0,.int .i64 0]).cells n++Builtin.zeroCells (Value.agg #[.int .i64 0,.int .i64 0,.int .i64 0,.int .i64 0]).cells (G-n)) 124)).ownsRow w.heap.size 124 4 (.slice (some ⟨w.heap.size,0,none⟩) 0 G) 0 []):=
  World.ownsRow_made w.drew _ G (Nat.le_refl _) HM.out (by
   simp only[Array.size_append,size_zeroCells,lnk_zero,←Nat.add_mul]
   congr 1
   omega)
 clear hGm;go_enter Tryz.func141,Tryz.ntmps141
 go_wp2_with (at_builtin;refine Lib.wpList_append_run _ rfl _ _ _ _ rfl _ _ rfl rfl _ _ (hrz _) ?_)
 all_goals (go_ret;exact⟨_,rfl,HO.out,((Below.refl _ _).drew).alloc (Nat.le_refl _) _⟩)
def lnkPt (w:World)(g o:Nat)(Ls:List (LkQ)):Prop:=∀i (h:i<Ls.length),∃ao n cap,w.cell? ⟨g,o+i,none⟩=some (.slice ao n cap)∧GS lnkE w (.slice ao n cap) Ls[i]
theorem lnkPt.later {w w':World}{g o:Nat}{Ls:List (LkQ)}(h:lnkPt w g o Ls)(hb:Below w.heap.size w w'):lnkPt w' g o Ls:=fun i hi=>by
 obtain⟨ao,n,cap,h1,h2⟩:=h i hi;exact⟨ao,n,cap,cell_later hb h1,h2.later hb⟩
theorem lnk_flat_next {Ls:List (LkQ)}{k:Nat}(hk:k<Ls.length):(Ls.take (k+1)).flatten=(Ls.take k).flatten++Ls[k]:=by
 rw[List.take_succ_eq_append_getElem hk];simp only[List.flatten_append,List.flatten_cons,List.flatten_nil,List.append_nil]
theorem lnk_flat_le {Ls:List (LkQ)}(k:Nat):(Ls.take k).flatten.length≤Ls.flatten.length:=by
 have:Ls.flatten=(Ls.take k).flatten++(Ls.drop k).flatten:=by rw[←List.flatten_append,List.take_append_drop]
 rw[this,List.length_append];omega
theorem lnk_append (w:World){ops:Array Oper}{rest:List Oper}{o:Oper}{a:Act}{Q:Exit→Act→World→Prop}(hgd:o.guard=none)(s x:Operand)(t:TypeId)
 (ho:o.op=.call { callee:=.builtin .append,args:=#[s,x],argTypes:=#[t,t] }) (ht:Tryz.prog.underlying t=some (.slice 124)) (base:Nat)
 (v:Value) (hs:a.eval s=v) (L:LkQ) (hown:w.ownsRow base 124 4 v L.length (cellsG lnkE L)) (u:Value) (hx:a.eval x=u) (M:LkQ) (hM:GS lnkE w u M)
 (h100:L.length+M.length≤1000000) (hbase:base≤w.heap.size)
 (h:∀v' w',w'.ownsRow base 124 4 v' (L++M).length (cellsG lnkE (L++M))→w.grownBy w' v.ownBlock→wpList Tryz.prog ops Q rest (a.put o.dst v') w'):wpList Tryz.prog ops Q (o :: rest) a w:=by
 obtain⟨i0,hi,hz0,hz1,hz2⟩:=info_parts lnk_info;exact wpList_append_GS (E:=lnkE) w hgd s x t 124 ho ht i0 _ 32 hi hz0 hz1 hz2 lnk_zero base v hs L hown u hx M hM (by unfold maxLen;omega) (by omega) hbase h
theorem lnk_concat (g o m cap:Nat)(Ls:List (LkQ))(w:World)(hm:Ls.length=m)(hm2:m≤1000)(hc:lnkPt w g o Ls)(hs:Ls.flatten.length≤1000):
 Calls Tryz.prog 103 #[.slice (some ⟨g,o,none⟩) m cap] w fun e w'=>∃v,e=.returned v∧w'.ownsRow w.heap.size 124 4 v Ls.flatten.length (cellsG lnkE Ls.flatten)∧Below w.heap.size w w':=by
 have HM:Hid (Ls.length=m):=hm;have HC:Hid (lnkPt w g o Ls):=hc;have HS:Hid (Ls.flatten.length≤1000):=hs;obtain⟨N,hN⟩:∃N,N=Ls.flatten.length:=⟨_,rfl⟩;have HN:Hid (N=Ls.flatten.length):=hN;have hN2:N≤1000:=by omega
 clear hm hc hs hN;go_enter Tryz.func103,Tryz.ntmps103
 go_upto_block 0 with fail
 go_cut [3] from 3 (fun z w'=>z=.int .i64 (N:Int)∧w'=w)
 case first =>
  go_wp2
  go_loopw [3,11] (fun z i wr=>∃k:Nat,k≤m∧i=.int .i64 k∧z=.int .i64 ((Ls.take k).flatten.length:Int)∧wr=w) (fun _ i _=>m-(intOf i).toNat)
  case atStart=>exact⟨0,by omega,rfl,rfl,rfl⟩
  case round =>
   obtain⟨k,hk,rfl,rfl,rfl⟩:=hrel;by_cases hlt:k<m
   ·have hkl:k<Ls.length:=by rw[HM.out];exact hlt
    obtain⟨ao,n,cap2,q0,hsr⟩:=HC.out k hkl;have HT:Hid ((Ls.take (k+1)).flatten.length=(Ls.take k).flatten.length+n):=by
     show _=_;rw[lnk_flat_next hkl,List.length_append,hsr.len]
    have hb1:(Ls.take k).flatten.length+n≤1000:=by
     have h1:=lnk_flat_le (Ls:=Ls) (k+1);have h2:=HS.out;have h3:=HT.out;omega
    generalize (Ls.take k).flatten.length=z at *
    clear hsr;go_wp2;go_roundw
    case rel=>exact⟨k+1,by omega,by go_num,by rw[HT.out];go_num,by simp⟩
    case measure=>simp[intOf];omega
   obtain rfl:k=m:=by omega
   go_wp2_with fail
   go_meet
   case rel=>exact⟨by rw[←HM.out,List.take_length,HN.out],rfl⟩
 case rest =>
  obtain⟨rfl,rfl⟩:=hcut
  go_wp2_with fail
  refine (lnk_grow_nil N _ hN2).mono ?_;rintro e w1 ⟨v,rfl,hown,hB⟩;have HO:Hid (w1.ownsRow wc.heap.size 124 4 v 0 []):=hown;have HB:Hid (Below wc.heap.size wc w1):=hB;clear hown hB;go_wp2
  go_loopw [6,27] (fun u i wr=>∃k:Nat,k≤m∧i=.int .i64 k∧wr.ownsRow wc.heap.size 124 4 u (Ls.take k).flatten.length (cellsG lnkE (Ls.take k).flatten)∧Below wc.heap.size wc wr) (fun _ i _=>m-(intOf i).toNat)
  case atStart=>exact⟨0,by omega,rfl,HO.out,HB.out⟩
  case round =>
   obtain⟨k,hk,rfl,hown,hB⟩:=hrel;have HOW:Hid (wr.ownsRow wc.heap.size 124 4 u6 (Ls.take k).flatten.length (cellsG lnkE (Ls.take k).flatten)):=hown;have HBW:Hid (Below wc.heap.size wc wr):=hB;clear hown;by_cases hlt:k<m
   ·have hkl:k<Ls.length:=by rw[HM.out];exact hlt
    obtain⟨ao,n,cap2,q0,hsr⟩:=(HC.out.later hB) k hkl;have HSR:Hid (GS lnkE wr (.slice ao n cap2) Ls[k]):=hsr;have HL1:Hid ((Ls.take k).flatten.length+Ls[k].length≤1000000):=by
     have h1:=lnk_flat_le (Ls:=Ls) (k+1);rw[lnk_flat_next hkl,List.length_append] at h1;have h2:=HS.out;show _≤_;omega
    clear hsr hB
    go_wp2_with (at_builtin;refine lnk_append _ rfl _ _ 22 rfl Tryz.underlying22 wc.heap.size _ rfl _ HOW.out _ rfl _ HSR.out HL1.out HBW.out.size ?_)
    intro v' w3 hown3 hgrow;have HO5:Hid (w3.ownsRow wc.heap.size 124 4 v' (Ls.take (k+1)).flatten.length (cellsG lnkE (Ls.take (k+1)).flatten)):=by
     show w3.ownsRow _ _ _ _ _ _;rw[lnk_flat_next hkl,show ((Ls.take k).flatten++Ls[k]).length=(List.take k (List.map List.length Ls)).sum+Ls[k].length by simp];exact hown3
    have HB5:Hid (Below wc.heap.size wc w3):=HBW.out.grown hgrow HBW.out.size (fun g hg=>(HOW.out.lt g hg).1);clear hown3 hgrow q0;go_wp2;go_roundw
    case rel=>exact⟨k+1,by omega,by go_num,HO5.out,HB5.out⟩
    case measure=>simp[intOf];omega
   obtain rfl:k=m:=by omega
   go_wp2;go_ret;refine⟨_,rfl,?_,HBW.out⟩;have:=HOW.out;rw[←HM.out,List.take_length] at this;exact this
theorem below_grown {B:Nat}{w W:World}{row:Option Nat}(h:w.grownBy W row)(hB:B≤w.heap.size)(hr:∀k,row=some k→B≤k):Below B w W:=
 ⟨h.os,h.tape,h.output,h.size,fun k hk=>h.block k (by omega) (fun e=>by have:=hr k e.symm;omega)⟩
theorem step_append_blk {P:Program}{α:Type}{E:Enc α}(w:World){ops:Array Oper}{o:Oper}{a:Act}{K:Act→World→Prop}{Q:Exit→Act→World→Prop}{X:Prop}(hgd:o.guard=none)(s x:Operand)(t e:TypeId)
 (ho:o.op=.call { callee:=.builtin .append,args:=#[s,x],argTypes:=#[t,t] }) (ht:P.underlying t=some (.slice e)) (i:TypeInfo) (z:Value) (bytes:Nat) (hi:P.info? e=some i) (hz:i.zero=some z)
 (hsize:i.size=E.n) (hby:i.bytes=bytes) (hzs:z.cells.size=E.n) (base:Nat)
 (v:Value) (hs:a.eval s=v) (L:List α) (hown:w.ownsRow base e E.n v L.length (cellsG E L)) (g q c:Nat) (hx:a.eval x=.slice (some ⟨g,q,none⟩) 1 c) (y:α) (hM:VAt w g q (E.c y))
 (h63:L.length+1≤maxLen) (hbytes:(L.length+1)*bytes≤140737488355328) (hbase:base≤w.heap.size)
 (h:∀v' w',w'.ownsRow base e E.n v' (L++[y]).length (cellsG E (L++[y]))→w.grownBy w' v.ownBlock→v'.ownBlock=v.ownBlock∨v'.ownBlock=some w.heap.size→K (a.put o.dst v') w'):
 if Region.wanted o (yielded ops a.tmps)=true then Oper.wp P o a w K Q else X:=by
 have hw:Region.wanted o (yielded ops a.tmps)=true:=by simp[Region.wanted,hgd]
 rw[if_pos hw];have hG:GAt E w g q [y]:=by
  intro k hk;obtain rfl:k=0:=by simp at hk;omega
  simpa using hM
 have hc:=hG.cells;rw[cellsG_one] at hc;have hl:(E.c y).length=1*E.n:=by rw[E.len];omega
 obtain⟨v',w',hr,h2,h3,_⟩:=run_append_own (P:=P) w base t o.type e i z E.n bytes ht hi hz hsize hby hzs E.pos v _ _ hown ⟨g,q,none⟩ 1 c (E.c y) hl hc (E.one y) h63 hbytes hbase;have hb:=run_append_blk (P:=P) t o.type e i z ht hi hz v _ _ (by rw[hsize];exact hown) ⟨g,q,none⟩ c (E.c y) (by rw[hsize];exact hl) hc (E.one y) h63 (by rw[hby];exact hbytes) hr;unfold Oper.wp execOp;simp only[ho,resolve,invoke,builtin,Sem.run_bind,Sem.run_pure,Result.andThen_ok,List.map_toArray,List.map_cons,List.map_nil,hs,hx,hr];exact h v' w' (by rw[List.length_append,cellsG_app,cellsG_one];exact h2) h3 hb
section
variable {e1 e2:TypeId}{w W1 W1' W2 W2' Wf:World}{B:Nat}{v u v' u':Value}{vs us:List SlT}{Cs Ps:List (List Int)}
end
theorem infoByte:(Tryz.prog.info? 5).map (fun i=>(i.zero,i.size,i.bytes))=some (some (.int .u8 0),1,1):=by kernel_rfl
theorem liteClone (s:ByteArray)(w:World)(hlim:s.size≤1000000):
 Calls Tryz.prog 135 #[.string s] w fun e w'=>e=.returned (.string s)∧Below w.heap.size w w':=by
 by_cases h0:s.size=0
 ·have hs:s=⟨#[]⟩:=by
   apply ByteArray.ext
   exact Array.eq_empty_of_size_eq_zero h0
  subst hs;go_enter Tryz.func135,Tryz.ntmps135;go_wp2;go_ret;exact⟨rfl,Below.refl _ _⟩
 obtain⟨i0,hi,hz0,hz1,hz2⟩:=info_parts infoByte;have hinfo:(Tryz.prog.info? 5).map (·.size)=some 1:=by rw[hi];simp[hz1]
 have hco:Tryz.prog.cellsOf 5=1:=by simp[Program.cellsOf,hi,hz1]
 obtain⟨M,hM⟩:∃M,M=madeCells (Value.int .u8 0).cells (((s.size:Nat):Int).toNat*i0.size):=⟨_,rfl⟩;have hMs:M.size=s.size:=by rw[hM,size_madeCells,hz1];simp
 have hmk:(Instr.makeSlice 261 (.int .i64 (s.size:Int)) (.int .i64 (s.size:Int))).run Tryz.prog w=.ok (.slice (some ⟨w.heap.size,0,none⟩) s.size s.size) (w.alloc (.cells M 5)):=by
  have h:=run_make (P:=Tryz.prog) w 261 5 i0 (.int .u8 0) Tryz.underlying261 hi hz0 .i64 .i64 (s.size:Int) (s.size:Int) (by omega) (by omega) (by rw[hz2];omega) (by omega);rw[←hM] at h;simpa using h
 clear hM;have hcp:=Lib.run_copy_row_string (P:=Tryz.prog) (w.alloc (.cells M 5)) 261 9 3 5 w.heap.size 0 s.size s.size s M 5 Tryz.underlying261 hinfo (heap_alloc_new w _) (Nat.le_refl _) (by omega);obtain⟨Y,hY⟩:∃Y,Y=(M.toList.take 0++Lib.byteCells s.data.toList++M.toList.drop (0+s.size)).toArray:=⟨_,rfl⟩;rw[←hY] at hcp;have hYl:Y.toList=Lib.byteCells s.data.toList:=by
  rw[hY,List.toList_toArray,List.take_zero,List.nil_append,List.drop_of_length_le (by rw[Array.length_toList];omega),List.append_nil]
 have hYs:Y.size=s.size:=by rw[←Array.length_toList,hYl,Lib.byteCells_length,←Lib.size_eq]
 have hgY:((w.alloc (.cells M 5)).setRow w.heap.size Y).heap[w.heap.size]?=some (.cells Y 5 (0,0)):=setRow_heap _ _ M _ 5 (0,0) (heap_alloc_new w _);have hne:s.data.toList≠[]:=fun e=>h0 (by rw[Lib.size_eq,e];rfl)
 have hUS:=Lib.run_unsafeString_row (P:=Tryz.prog) ((w.alloc (.cells M 5)).setRow w.heap.size Y) 262 3 9 5 Tryz.underlying262 hco w.heap.size Y.size (by unfold World.shape?;rw[hgY]) s.data.toList hne (by rw[←Lib.size_eq];omega) (by rw[←Lib.size_eq];omega)
  (fun j x hx=>Lib.cells_of_row hgY Y.size j _ (by rw[List.take_of_length_le (by rw[Array.length_toList];exact Nat.le_refl _),hYl];simp[Lib.byteCells,hx]))
 rw[←Lib.size_eq] at hUS;clear hY;go_enter Tryz.func135,Tryz.ntmps135;go_wp2;go_ret;have hb1:Below w.heap.size w (w.alloc (.cells M 5)):=(Below.refl _ w).alloc (Nat.le_refl _) _;have hb2:Below w.heap.size (w.alloc (.cells M 5)) ((w.alloc (.cells M 5)).setRow w.heap.size Y):=⟨rfl,rfl,rfl,by simp,fun k hk=>setRow_other _ _ _ _ (by omega)⟩;exact⟨rfl,Lib.below_freeze (hb1.trans hb2) (p:=⟨w.heap.size,0,none⟩) (Nat.le_refl _) _⟩
theorem clone_any (s:ByteArray)(w:World)(hlim:s.size≤1000000):
 Calls Tryz.prog 95 #[.string s] w fun e w'=>e=.returned (.string s)∧Below w.heap.size w w':=by
 go_enter Tryz.func95,Tryz.ntmps95
 go_wp2_with fail
 refine (liteClone s _ hlim).mono ?_;rintro e w1 ⟨rfl,hb1⟩;go_wp2;go_ret;exact⟨rfl,hb1⟩
theorem ca_split {S:Int}{Ts:List (List Ru)}{l:List Op8}{k:Nat}(hk:k<l.length)(h:caN S Ts (l.take k)=0):caN S Ts l=caN S (caT Ts (l.take k)) (l[k] :: l.drop (k+1)):=by
 have e:l=l.take k++(l[k] :: l.drop (k+1)):=by simp
 conv=>lhs;rw[e]
 rw[ca_app,if_pos h]
theorem cs_take {S:Int}{Ts:List (List Ru)}{l:List Op8}{k:Nat}(hk:k<l.length)(h:caN S Ts (l.take k)=0):caN S Ts (l.take (k+1))=caN S (caT Ts (l.take k)) [l[k]]∧caT Ts (l.take (k+1))=caT (caT Ts (l.take k)) [l[k]]:=by
 rw[List.take_succ_eq_append_getElem hk,ca_app,if_pos h,cj_app];exact⟨rfl,rfl⟩
theorem do_ch2 {L:List Ru}{a:Bool}{r:Ru}(h:tbN L=0)(h2:r.n=0):doN L a r=chN L a r∧doL L a r=chL L a r:=by
 have e:doN L a r=chN L a r:=by simp[doN,h,h2]
 refine⟨e,?_⟩;by_cases h3:chN L a r=0
 ·rw[doL,e,if_pos h3]
 rw[doL,e,if_neg h3,chL_ne h3]
theorem do_ru2 {L:List Ru}{a:Bool}{r:Ru}(h:tbN L=0)(h2:r.n≠0):doN L a r=r.n:=by simp[doN,h,h2]
def nvS (X S:Int):Int:=if X=0 then S else 0
def nvL {α:Type}(X:Int)(L:List α):List α:=if X=0 then L else []
def nvV (X:Int)(v:Value):Value:=if X=0 then v else .slice none 0 0
structure AB (W:World)(B:Nat)(S:Int)(v1 v2 v3:Value):Prop where
 n:NeBox W B S v1 v2 v3
 r:NeBox W (B+1) 0 (.slice none 0 0) (.slice none 0 0) (.slice none 0 0)
 f:∀c,W.frozen? ⟨B+1,c,none⟩=false
theorem ab_new (w:World)(S:Int)(v1 v2 v3:Value)(t:TypeId):AB ((w.alloc (Obj.cells #[.int .i64 S,v1,v2,v3] t)).alloc (Obj.cells #[.int .i64 0,.slice none 0 0,.slice none 0 0,.slice none 0 0] t)) w.heap.size S v1 v2 v3:=by
 obtain⟨h1,h2⟩:=nn_new w S v1 v2 v3 0 (.slice none 0 0) (.slice none 0 0) (.slice none 0 0) t;refine⟨h1,h2,fun c=>?_⟩;have h:=heap_alloc_new (w.alloc (Obj.cells #[.int .i64 S,v1,v2,v3] t)) (Obj.cells #[.int .i64 0,.slice none 0 0,.slice none 0 0,.slice none 0 0] t);rw[World.size_alloc] at h;simp only[World.frozen?,h];simp
theorem AB.lt {W:World}{B:Nat}{S:Int}{v1 v2 v3:Value}(h:AB W B S v1 v2 v3):B+1<W.heap.size:=bLQ W ⟨B+1,0,none⟩ h.r.1
theorem AB.grown {W W':World}{B:Nat}{S:Int}{v1 v2 v3:Value}{row:Option Nat}(h:AB W B S v1 v2 v3)(hg:W.grownBy W' row)(hr:∀g,row=some g→B+2≤g):AB W' B S v1 v2 v3:=
 ⟨h.n.grown hg (fun e=>by have:=hr _ e.symm;omega),h.r.grown hg (fun e=>by have:=hr _ e.symm;omega),fun c=>(World.frozen?_of_block (hg.block (B+1) h.lt (fun e=>by have:=hr _ e.symm;omega))).trans (h.f c)⟩
theorem AB.later {W W':World}{B:Nat}{S:Int}{v1 v2 v3:Value}(h:AB W B S v1 v2 v3)(hb:Below W.heap.size W W'):AB W' B S v1 v2 v3:=h.grown (grown_below hb) (fun g hg=>by cases hg)
def put4 (W:World)(b:Nat)(x y z u:Value):World:=(((W.setCell ⟨b,0,none⟩ x).setCell ⟨b,1,none⟩ y).setCell ⟨b,2,none⟩ z).setCell ⟨b,3,none⟩ u
theorem below_pn4 {B:Nat}{a W:World}(h:Below B a W)(b:Nat)(hb:B≤b)(x y z u:Value):Below B a (put4 W b x y z u):=(((h.setCell hb _).setCell hb _).setCell hb _).setCell hb _
theorem grown_put4 (W:World)(b:Nat)(x y z u:Value):W.grownBy (put4 W b x y z u) (some b):=by
 have h1:=grown_set W b 0 x;have h2:=grown_set (W.setCell ⟨b,0,none⟩ x) b 1 y;have h3:=grown_set ((W.setCell ⟨b,0,none⟩ x).setCell ⟨b,1,none⟩ y) b 2 z;have h4:=grown_set (((W.setCell ⟨b,0,none⟩ x).setCell ⟨b,1,none⟩ y).setCell ⟨b,2,none⟩ z) b 3 u;exact⟨rfl,rfl,rfl,Nat.le_trans (Nat.le_trans (Nat.le_trans h1.size h2.size) h3.size) h4.size,fun k hk hne=>(((h4.block k (Nat.lt_of_lt_of_le hk (Nat.le_trans (Nat.le_trans h1.size h2.size) h3.size)) hne).trans (h3.block k (Nat.lt_of_lt_of_le hk (Nat.le_trans h1.size h2.size)) hne)).trans (h2.block k (Nat.lt_of_lt_of_le hk h1.size) hne)).trans (h1.block k hk hne)⟩
theorem TR.mono {e:TypeId}{w:World}{A B B':Nat}{v:Value}{vs:List SlT}{Ts:List (List Ru)}(h:TR e w A B v vs Ts)(hB:B'≤B):TR e w A B' v vs Ts:=
 ⟨own_mono h.ov hB,h.lv,h.rv,fun i x h1 b h2 h3=>h.rz i x h1 b h2 (by omega)⟩
structure WB (W:World)(g:Nat)(S:Int)(v1 v2 v3:Value):Prop where
 c:NeBox W g S v1 v2 v3
 f:∀c,W.frozen? ⟨g,c,none⟩=false
section
variable {W W':World}{g:Nat}{S:Int}{v1 v2 v3:Value}
theorem WB.lt (h:WB W g S v1 v2 v3):g<W.heap.size:=bLQ W ⟨g,0,none⟩ h.c.1
theorem WB.grown {row:Option Nat}(h:WB W g S v1 v2 v3)(hg:W.grownBy W' row)(hne:some g≠row):WB W' g S v1 v2 v3:=
 ⟨h.c.grown hg hne,fun c=>(World.frozen?_of_block (hg.block g h.lt hne)).trans (h.f c)⟩
theorem WB.later (h:WB W g S v1 v2 v3)(hb:Below W.heap.size W W'):WB W' g S v1 v2 v3:=h.grown (grown_below hb) (by simp)
theorem wb_new (w:World)(S:Int)(v1 v2 v3:Value)(t:TypeId):WB (w.alloc (Obj.cells #[.int .i64 S,v1,v2,v3] t)) w.heap.size S v1 v2 v3:=by
 refine⟨nebox_new w S v1 v2 v3 t,fun c=>?_⟩;have h:=heap_alloc_new w (Obj.cells #[.int .i64 S,v1,v2,v3] t);simp only[World.frozen?,h];simp
theorem WB.set1 (h:WB W g S v1 v2 v3)(x:Value):WB (W.setCell ⟨g,1,none⟩ x) g S x v2 v3:=
 ⟨⟨(World.cell?_setCell_other _ _ _ _ (by simp)).trans h.c.1,World.cell?_setCell_same _ _ _ h.c.2.1,(World.cell?_setCell_other _ _ _ _ (by simp)).trans h.c.2.2.1,(World.cell?_setCell_other _ _ _ _ (by simp)).trans h.c.2.2.2⟩,fun c=>by rw[World.frozen?_setCell];exact h.f c⟩
theorem WB.set2 (h:WB W g S v1 v2 v3)(x:Value):WB (W.setCell ⟨g,2,none⟩ x) g S v1 x v3:=
 ⟨⟨(World.cell?_setCell_other _ _ _ _ (by simp)).trans h.c.1,(World.cell?_setCell_other _ _ _ _ (by simp)).trans h.c.2.1,World.cell?_setCell_same _ _ _ h.c.2.2.1,(World.cell?_setCell_other _ _ _ _ (by simp)).trans h.c.2.2.2⟩,fun c=>by rw[World.frozen?_setCell];exact h.f c⟩
theorem WB.set3 (h:WB W g S v1 v2 v3)(x:Value):WB (W.setCell ⟨g,3,none⟩ x) g S v1 v2 x:=
 ⟨⟨(World.cell?_setCell_other _ _ _ _ (by simp)).trans h.c.1,(World.cell?_setCell_other _ _ _ _ (by simp)).trans h.c.2.1,(World.cell?_setCell_other _ _ _ _ (by simp)).trans h.c.2.2.1,World.cell?_setCell_same _ _ _ h.c.2.2.2⟩,fun c=>by rw[World.frozen?_setCell];exact h.f c⟩
theorem NeBox.off {b i:Nat}{x:Value}(h:NeBox W g S v1 v2 v3)(hne:b≠g):NeBox (W.setCell ⟨b,i,none⟩ x) g S v1 v2 v3:=h.grown (grown_set W b i x) (by simp;omega)
theorem WB.off {b i:Nat}{x:Value}(h:WB W g S v1 v2 v3)(hne:b≠g):WB (W.setCell ⟨b,i,none⟩ x) g S v1 v2 v3:=h.grown (grown_set W b i x) (by simp;omega)
end
structure FB (W:World)(B:Nat)(S:Int)(v1 v2 v3:Value)(s:Int)(u1 u2 u3:Value):Prop where
 n:NeBox W B S v1 v2 v3
 r:WB W (B+1) 0 (.slice none 0 0) (.slice none 0 0) (.slice none 0 0)
 o:WB W (B+1+1) s u1 u2 u3
section
variable {W W':World}{B:Nat}{S:Int}{v1 v2 v3:Value}{s:Int}{u1 u2 u3:Value}
theorem FB.lt (h:FB W B S v1 v2 v3 s u1 u2 u3):B+1+1<W.heap.size:=h.o.lt
theorem FB.grown {row:Option Nat}(h:FB W B S v1 v2 v3 s u1 u2 u3)(hg:W.grownBy W' row)(hr:∀g,row=some g→B+1+1+1≤g):FB W' B S v1 v2 v3 s u1 u2 u3:=
 ⟨h.n.grown hg (fun e=>by have:=hr _ e.symm;omega),h.r.grown hg (fun e=>by have:=hr _ e.symm;omega),h.o.grown hg (fun e=>by have:=hr _ e.symm;omega)⟩
theorem FB.later (h:FB W B S v1 v2 v3 s u1 u2 u3)(hb:Below W.heap.size W W'):FB W' B S v1 v2 v3 s u1 u2 u3:=h.grown (grown_below hb) (fun g hg=>by cases hg)
theorem FB.set1 (h:FB W B S v1 v2 v3 s u1 u2 u3)(x:Value):FB (W.setCell ⟨B+1+1,1,none⟩ x) B S v1 v2 v3 s x u2 u3:=⟨h.n.off (by omega),h.r.off (by omega),h.o.set1 x⟩
theorem FB.set2 (h:FB W B S v1 v2 v3 s u1 u2 u3)(x:Value):FB (W.setCell ⟨B+1+1,2,none⟩ x) B S v1 v2 v3 s u1 x u3:=⟨h.n.off (by omega),h.r.off (by omega),h.o.set2 x⟩
theorem FB.set3 (h:FB W B S v1 v2 v3 s u1 u2 u3)(x:Value):FB (W.setCell ⟨B+1+1,3,none⟩ x) B S v1 v2 v3 s u1 u2 x:=⟨h.n.off (by omega),h.r.off (by omega),h.o.set3 x⟩
theorem fb_new (w:World)(S:Int)(v1 v2 v3:Value)(t:TypeId):FB (((w.alloc (Obj.cells #[.int .i64 S,v1,v2,v3] t)).alloc (Obj.cells #[.int .i64 0,.slice none 0 0,.slice none 0 0,.slice none 0 0] t)).alloc (Obj.cells #[.int .i64 S,.slice none 0 0,.slice none 0 0,.slice none 0 0] t)) w.heap.size S v1 v2 v3 S (.slice none 0 0) (.slice none 0 0) (.slice none 0 0):=by
 obtain⟨h1,h2⟩:=nn_new w S v1 v2 v3 0 (.slice none 0 0) (.slice none 0 0) (.slice none 0 0) t;have r0:=wb_new (w.alloc (Obj.cells #[.int .i64 S,v1,v2,v3] t)) 0 (.slice none 0 0) (.slice none 0 0) (.slice none 0 0) t;rw[World.size_alloc] at r0;have o0:=wb_new ((w.alloc (Obj.cells #[.int .i64 S,v1,v2,v3] t)).alloc (Obj.cells #[.int .i64 0,.slice none 0 0,.slice none 0 0,.slice none 0 0] t)) S (.slice none 0 0) (.slice none 0 0) (.slice none 0 0) t;rw[World.size_alloc,World.size_alloc] at o0;exact⟨h1.later ((Below.refl _ _).alloc (Nat.le_refl _) _),r0.later ((Below.refl _ _).alloc (Nat.le_refl _) _),o0⟩
end
theorem lnkPt1 {W:World}{a1:Option Addr}{n1 c1:Nat}{L1:LkQ}(t:TypeId)(h1:GS lnkE W (.slice a1 n1 c1) L1):lnkPt (W.alloc (.cells #[.slice a1 n1 c1] t)) W.heap.size 0 [L1]:=by
 have hb:Below W.heap.size W (W.alloc (.cells #[.slice a1 n1 c1] t)):=(Below.refl _ _).alloc (Nat.le_refl _) _;intro i hi
 match i,hi with
 | 0,_=>exact⟨a1,n1,c1,by simp,h1.later hb⟩
theorem fdrew {w w':World}(hb:Below w.drew.heap.size w.drew w'):Below w.heap.size w w':=(Below.drew (Below.refl _ _)).trans hb
theorem falloc {w w':World}{o:Obj}(hb:Below (w.drew.alloc o).heap.size (w.drew.alloc o) w'):Below w.heap.size w w':=((Below.drew (Below.refl _ _)).alloc (Nat.le_refl _) o).trans (hb.mono (by simp))
theorem row_kept {w w1 w2:World}{B e s n:Nat}{v:Value}{xs:List Value}(h:w.ownsRow B e s v n xs)(hb:Below w.heap.size w w1){row:Option Nat}(hg:w1.grownBy w2 row)(hr:v.ownBlock=none∨v.ownBlock≠row){b i:Nat}{x:Value}(hB:b<B):(w2.setCell ⟨b,i,none⟩ x).ownsRow B e s v n xs:=
 ((h.kept (grown_below hb) (none_or _)).kept hg hr).kept (grown_set w2 b i x) (.inr fun e=>by have:=(h.lt b e).1;omega)
theorem vat_sl {W:World}{g q:Nat}{y:SlT}(h:W.cell? ⟨g,q,none⟩=some (slV y)):VAt W g q (slE.c y):=by
 intro j u hu;obtain rfl:j=0:=by
  have:=(List.getElem?_eq_some_iff.1 hu).1;have e:(slE.c y).length=1:=rfl;omega
 have e4:slV y=u:=Option.some.inj hu;rw[Nat.add_zero,←e4];exact h
theorem fresh_any (S:Int)(ao:Option Addr)(n cap:Nat)(ao2:Option Addr)(n2 cap2:Nat)(ao3:Option Addr)(n3 cap3:Nat)(Ls:LkQ)(Hs:HoQ)(Ts:List (List Ru))(w:World)
 (hL:GS lnkE w (.slice ao n cap) Ls) (hH:GS hstE w (.slice ao2 n2 cap2) Hs) (hT:TS w (.slice ao3 n3 cap3) Ts) (hN:ntN S Ls Hs Ts=0):
 Calls Tryz.prog 66 #[.agg #[.int .i64 S,.slice ao n cap,.slice ao2 n2 cap2,.slice ao3 n3 cap3]] w fun e w'=>∃b1 k1 d1 b2 k2 d2 b3 k3 d3 vs,e=.returned (.agg #[.int .i64 S,.slice b1 k1 d1,.slice b2 k2 d2,.slice b3 k3 d3])∧w'.ownsRow w.heap.size 124 4 (.slice b1 k1 d1) Ls.length (cellsG lnkE Ls)∧w'.ownsRow w.heap.size 77 3 (.slice b2 k2 d2) Hs.length (cellsG hstE Hs)∧TR 93 w' 0 w.heap.size (.slice b3 k3 d3) vs Ts∧Below w.heap.size w w':=by
 obtain⟨t1,t2,t3⟩:=nt_0 hN;have HTP:Hid (tpN S Ls Hs=0):=t1;obtain⟨htp1,⟨htp2,htp3⟩,_⟩:=tp_0 t1;have HLL:Hid ([Ls].flatten.length≤1000):=by
  show _≤_;simp only[List.flatten_cons,List.flatten_nil,List.append_nil];omega
 have HOK:Hid (∀k,k<Ts.length→(Ts.getD k []).length≤12):=fun k hk=>(tb_iff.1 (t3 k hk)).1
 have HFB:=fb_new w S (.slice ao n cap) (.slice ao2 n2 cap2) (.slice ao3 n3 cap3) 28;have hb3:Below w.heap.size w (((w.alloc (Obj.cells #[.int .i64 S,.slice ao n cap,.slice ao2 n2 cap2,.slice ao3 n3 cap3] 28)).alloc (Obj.cells #[.int .i64 0,.slice none 0 0,.slice none 0 0,.slice none 0 0] 28)).alloc (Obj.cells #[.int .i64 S,.slice none 0 0,.slice none 0 0,.slice none 0 0] 28)):=(((Below.refl _ _).alloc (Nat.le_refl _) _).alloc (by simp) _).alloc (by simp;omega) _;obtain⟨_,_,_,e,gn,gn2,gn3,ga⟩:=hH.form;cases e;obtain⟨_,_,_,e,hn,hn2,hn3,ha⟩:=hT.form;cases e;have HN2:Hid (Hs.length=n2):=gn;have HA2:Hid (0<n2→∃g o,ao2=some ⟨g,o,none⟩∧GAt hstE w g o Hs∧cap2≤maxLen):=ga;have HN3:Hid (Ts.length=n3):=hn;have HA3:Hid (0<n3→∃g o,ao3=some ⟨g,o,none⟩∧TAt w g o Ts∧cap3≤maxLen):=ha;have h28:n2≤8:=by omega
 have h36:n3≤6:=by omega
 have HPT:Hid (lnkPt ((((w.alloc (Obj.cells #[.int .i64 S,.slice ao n cap,.slice ao2 n2 cap2,.slice ao3 n3 cap3] 28)).alloc (Obj.cells #[.int .i64 0,.slice none 0 0,.slice none 0 0,.slice none 0 0] 28)).alloc (Obj.cells #[.int .i64 S,.slice none 0 0,.slice none 0 0,.slice none 0 0] 28)).alloc (Obj.cells #[.slice ao n cap] 22)) (w.heap.size+1+1+1) 0 [Ls]):=by
  have h:=lnkPt1 22 (hL.later hb3);simp only[World.size_alloc] at h;exact h
 have HB3:Hid (Below w.heap.size w (((w.alloc (Obj.cells #[.int .i64 S,.slice ao n cap,.slice ao2 n2 cap2,.slice ao3 n3 cap3] 28)).alloc (Obj.cells #[.int .i64 0,.slice none 0 0,.slice none 0 0,.slice none 0 0] 28)).alloc (Obj.cells #[.int .i64 S,.slice none 0 0,.slice none 0 0,.slice none 0 0] 28))):=hb3;have HFB0:Hid (FB _ w.heap.size S (.slice ao n cap) (.slice ao2 n2 cap2) (.slice ao3 n3 cap3) S (.slice none 0 0) (.slice none 0 0) (.slice none 0 0)):=HFB;clear hL hH hT hN t1 t2 t3 htp1 htp2 htp3 HFB hb3 gn gn2 gn3 ga hn hn2 hn3 ha;go_enter Tryz.func66,Tryz.ntmps66
 go_wp2_with fail
 refine (lnk_concat _ 0 1 1 [Ls] _ rfl (by omega) HPT.out HLL.out).mono ?_;rintro e w5 ⟨v,rfl,hown,hb⟩;have hbB:Below (w.heap.size+1+1+1) (((w.alloc (Obj.cells #[.int .i64 S,.slice ao n cap,.slice ao2 n2 cap2,.slice ao3 n3 cap3] 28)).alloc (Obj.cells #[.int .i64 0,.slice none 0 0,.slice none 0 0,.slice none 0 0] 28)).alloc (Obj.cells #[.int .i64 S,.slice none 0 0,.slice none 0 0,.slice none 0 0] 28)) w5:=((Below.refl _ _).alloc (by simp) _).trans (hb.mono (by simp));have hown2:w5.ownsRow (w.heap.size+1+1+1) 124 4 v Ls.length (cellsG lnkE Ls):=by
  have h:=own_mono hown (B':=w.heap.size+1+1+1) (by simp);simp only[List.flatten_cons,List.flatten_nil,List.append_nil] at h;exact h
 obtain⟨b1,m1,d1,rfl⟩:∃b1 m1 d1,v=.slice b1 m1 d1:=by
  obtain⟨a,c,h⟩:=own_form hown2;exact⟨a,_,c,h⟩
 have HF5:FB w5 w.heap.size S (.slice ao n cap) (.slice ao2 n2 cap2) (.slice ao3 n3 cap3) S (.slice none 0 0) (.slice none 0 0) (.slice none 0 0):=HFB0.out.later (by have h:=hbB;simpa only[World.size_alloc] using h);have HB6:Hid (Below w.heap.size w (w5.setCell ⟨w.heap.size+1+1,1,none⟩ (.slice b1 m1 d1))):=(HB3.out.trans (hbB.mono (by omega))).setCell (p:=⟨w.heap.size+1+1,1,none⟩) (show w.heap.size≤w.heap.size+1+1 by omega) _;have HF6:Hid (FB (w5.setCell ⟨w.heap.size+1+1,1,none⟩ (.slice b1 m1 d1)) w.heap.size S (.slice ao n cap) (.slice ao2 n2 cap2) (.slice ao3 n3 cap3) S (.slice b1 m1 d1) (.slice none 0 0) (.slice none 0 0)):=HF5.set1 _;have HL6:Hid ((w5.setCell ⟨w.heap.size+1+1,1,none⟩ (.slice b1 m1 d1)).ownsRow (w.heap.size+1+1+1) 124 4 (.slice b1 m1 d1) Ls.length (cellsG lnkE Ls)):=hown2.kept (grown_set w5 _ _ _) (.inr fun e=>by have:=(hown2.lt _ e).1;omega);obtain⟨p0,p1,p2,p3⟩:=HF5.n;obtain⟨q0,q1,q2,q3⟩:=HF5.o.c;have hlt5:=HF5.lt;have hlt50:w.heap.size<w5.heap.size:=by omega
 have f1:=HF5.o.f 1;clear HPT HB3 HFB0 hown hb hbB hown2 HF5;go_wp2
 go_loopw [24] (fun i wr=>∃(k:Nat) (u2:Value),k≤n2∧i=.int .i64 k∧FB wr w.heap.size S (.slice ao n cap) (.slice ao2 n2 cap2) (.slice ao3 n3 cap3) S (.slice b1 m1 d1) u2 (.slice none 0 0)∧wr.ownsRow (w.heap.size+1+1+1) 77 3 u2 (Hs.take k).length (cellsG hstE (Hs.take k))∧wr.ownsRow (w.heap.size+1+1+1) 124 4 (.slice b1 m1 d1) Ls.length (cellsG lnkE Ls)∧Below w.heap.size w wr) (fun i _=>n2-(intOf i).toNat)
 case atStart=>exact⟨0,_,by omega,rfl,HF6.out,World.ownsRow_nil _ _ _ _,HL6.out,HB6.out⟩
 case round =>
  obtain⟨k,u2,hk,rfl,hF,hO,hLk,hB⟩:=hrel;clear HF6 HL6 HB6 p0 p1 p2 p3 q0 q1 q2 q3 hlt5 hlt50 f1;obtain⟨a5,m5,c5,rfl⟩:∃b1 m1 d1,u2=.slice b1 m1 d1:=by
   obtain⟨a,c,h⟩:=own_form hO;exact⟨a,_,c,h⟩
  have HB:Hid (Below w.heap.size w wr):=hB;have HF:Hid (FB wr w.heap.size S (.slice ao n cap) (.slice ao2 n2 cap2) (.slice ao3 n3 cap3) S (.slice b1 m1 d1) (.slice a5 m5 c5) (.slice none 0 0)):=hF;have HO:Hid (wr.ownsRow (w.heap.size+1+1+1) 77 3 (.slice a5 m5 c5) (Hs.take k).length (cellsG hstE (Hs.take k))):=hO;have HLK:Hid (wr.ownsRow (w.heap.size+1+1+1) 124 4 (.slice b1 m1 d1) Ls.length (cellsG lnkE Ls)):=hLk;have hltB:=hF.lt;have HLT:Hid (w.heap.size+1+1<wr.heap.size):=hltB;clear hO hLk;by_cases hlt:k<n2
  ·obtain⟨g,og,hao,hc,_⟩:=HA2.out (by omega);subst hao;obtain⟨y0,y1,y2,hkl,hHk,r0,r1,r2⟩:=hst_at (hc.later hB) HN2.out hlt;have HSZ:Hid (y0.size≤1000000):=by
    show _≤_;have h:=(tp_0 HTP.out).2.2.2.2.1 Hs[k] (List.getElem_mem hkl);rw[hHk] at h;have h2:=h.1;simp only[nmB,Bool.and_eq_true,decide_eq_true_eq] at h2;omega
   have kb0:(0:Int)≤(k:Int):=by omega
   have kb1:(k:Int)<(n2:Int):=by omega
   have HTK:Hid (Hs.take (k+1)=Hs.take k++[(y0,(y1,y2))]):=by
    show _=_;rw[List.take_succ_eq_append_getElem hkl,hHk]
   obtain⟨q0,q1,q2,q3⟩:=hF.o.c;have f2:=hF.o.f 2;obtain⟨j1,hj,hy0,hy1,hy2⟩:=info_parts hst_info;have HI1:Hid (Tryz.prog.info? 77=some j1):=hj;have HI2:Hid (j1.zero=some (.agg #[.string ByteArray.empty,.int .i64 0,.int .i64 0])):=hy0;have HI3:Hid (j1.size=3):=hy1;have HI4:Hid (j1.bytes=32):=hy2;obtain⟨wi,hwi⟩:∃W,W=wr.alloc (Obj.cells #[.string y0,.int .i64 y1,.int .i64 y2] 77):=⟨_,rfl⟩;have hbi:Below wr.heap.size wr wi:=by rw[hwi];exact (Below.refl _ _).alloc (Nat.le_refl _) _
   have HWI:Hid (wi.heap.size=wr.heap.size+1):=by
    show _=_;rw[hwi,World.size_alloc]
   have HKH:Hid (∀W,Below wi.heap.size wi W→W.cell? ⟨wr.heap.size,0,none⟩=some (.string y0)∧W.cell? ⟨wr.heap.size,1,none⟩=some (.int .i64 y1)∧W.cell? ⟨wr.heap.size,2,none⟩=some (.int .i64 y2)):=fun W hW=>by
    have h:=hst_new wr y0 y1 y2 77;rw[←hwi] at h;have h2:=hst_cells (h.later hW);simpa only[Nat.zero_add] using h2
   have HKF:Hid (∀W,Below wi.heap.size wi W→FB W w.heap.size S (.slice ao n cap) (.slice (some ⟨g,og,none⟩) n2 cap2) (.slice ao3 n3 cap3) S (.slice b1 m1 d1) (.slice a5 m5 c5) (.slice none 0 0)):=fun W hW=>(HF.out.later hbi).later hW
   have HKO:Hid (∀W,Below wi.heap.size wi W→W.ownsRow (w.heap.size+1+1+1) 77 3 (.slice a5 m5 c5) (Hs.take k).length (cellsG hstE (Hs.take k))):=fun W hW=>own_below (own_below HO.out hbi) hW
   have HOB:Hid (∀b,(Value.slice a5 m5 c5).ownBlock=some b→w.heap.size+1+1+1≤b∧b<wr.heap.size):=fun b hb=>HO.out.lt b hb
   have HLV1:Hid ((Hs.take k).length+1≤maxLen):=by
    show _≤_;rw[List.length_take];unfold maxLen;omega
   have HLV2:Hid (((Hs.take k).length+1)*32≤140737488355328):=by
    show _≤_;rw[List.length_take];omega
   have HFIN:Hid (∀w' w2 v5,Below wi.heap.size wi w'→w'.grownBy w2 (Value.slice a5 m5 c5).ownBlock→w2.ownsRow (w.heap.size+1+1+1) 77 3 v5 (Hs.take (k+1)).length (cellsG hstE (Hs.take (k+1))) →
    FB (w2.setCell ⟨w.heap.size+1+1,2,none⟩ v5) w.heap.size S (.slice ao n cap) (.slice (some ⟨g,og,none⟩) n2 cap2) (.slice ao3 n3 cap3) S (.slice b1 m1 d1) v5 (.slice none 0 0)∧(w2.setCell ⟨w.heap.size+1+1,2,none⟩ v5).ownsRow (w.heap.size+1+1+1) 77 3 v5 (Hs.take (k+1)).length (cellsG hstE (Hs.take (k+1)))∧(w2.setCell ⟨w.heap.size+1+1,2,none⟩ v5).ownsRow (w.heap.size+1+1+1) 124 4 (.slice b1 m1 d1) Ls.length (cellsG lnkE Ls)∧Below w.heap.size w (w2.setCell ⟨w.heap.size+1+1,2,none⟩ v5)):=by
    intro w' w2 v5 h1 h2 h3;have hb1:Below wr.heap.size wr w':=hbi.trans (h1.mono hbi.size);refine⟨((HKF.out w' h1).grown h2 (fun b hb=>(HOB.out b hb).1)).set2 v5,h3.kept (grown_set _ _ _ _) (.inr fun e=>by have:=(h3.lt _ e).1;omega),row_kept HLK.out hb1 h2 (own_apart HLK.out HO.out (by decide)) (by omega),?_⟩;have hb2:Below w.heap.size w w':=HB.out.trans (hb1.mono HB.out.size);exact (hb2.grown h2 hb2.size (fun b hb=>by have:=(HOB.out b hb).1;omega)).setCell (p:=⟨w.heap.size+1+1,2,none⟩) (show w.heap.size≤w.heap.size+1+1 by omega) _
   clear hc hB hHk hF hj hy0 hy1 hy2;go_upto_region 7 with fail;rw[←hwi];have HDR:Hid (Below wi.heap.size wi wi.drew):=Below.drew (Below.refl _ _);have k2:=(HKF.out wi (Below.refl _ _)).o.c.2.2.1;have kf2:=(HKF.out wi (Below.refl _ _)).o.f 2;clear hwi r0 r1 r2 q0 q1 q2 q3 f2;obtain⟨i0,i1,i2⟩:=HKH.out wi (Below.refl _ _)
   go_region_law (first
    | ((refine step_append_blk (E:=hstE) _ (by rfl) _ _ 23 77 (by rfl) Tryz.underlying23 j1 _ 32 HI1.out HI2.out HI3.out HI4.out hst_zero (w.heap.size+1+1+1) (.slice a5 m5 c5) (by rfl) (Hs.take k) (HKO.out _ HBY.out) w'.heap.size 0 1 (by rfl) (y0,(y1,y2)) (hst_new w' y0 y1 y2 77) HLV1.out HLV2.out ?_ ?_;(focus (have:=HBY.out.size;have:=HWI.out;have:=HLT.out;omega));intro v5 w5 ho5 hg5 hb5;rw[←HTK.out] at ho5;obtain⟨a6,m6,c6,rfl⟩:∃b1 m1 d1,v5=Value.slice b1 m1 d1:=(by obtain⟨a,c,h⟩:=own_form ho5;exact⟨a,_,c,h⟩);have HG:Hid _:=HFIN.out _ _ _ HBY.out hg5 ho5;have z2:=((HKF.out _ HBY.out).grown hg5 (fun b hb=>(HOB.out b hb).1)).o.c.2.2.1;have zf2:=((HKF.out _ HBY.out).grown hg5 (fun b hb=>(HOB.out b hb).1)).o.f 2;clear ho5 hg5 hb5))
    | (go_simp;go_at_call 95;refine (clone_any y0 _ HSZ.out).mono ?_;rintro e w' ⟨rfl,hb⟩;have HBX:Hid (Below wi.heap.size wi w'):=fdrew hb;have HBY:Hid (Below wi.heap.size wi (w'.alloc (Obj.cells #[.string y0,.int .i64 y1,.int .i64 y2] 77))):=HBX.out.alloc HBX.out.size _;have x2:=(HKF.out w' HBX.out).o.c.2.2.1;have xlt:=(HKF.out w' HBX.out).o.lt;obtain⟨x4,x5,x6⟩:=HKH.out w' HBX.out;clear hb;dsimp only))
   all_goals (clear k2 kf2 i0 i1 i2;go_wp2)
   all_goals go_roundw
   all_goals first
    | (simp[intOf];omega)
    | exact⟨k+1,_,by omega,by go_num,HG.out⟩
  obtain rfl:k=n2:=by omega
  have HO2:Hid (wr.ownsRow (w.heap.size+1+1+1) 77 3 (.slice a5 m5 c5) Hs.length (cellsG hstE Hs)):=by
   have h:=HO.out;rw[←HN2.out,List.take_length] at h;exact h
  obtain⟨p0,p1,p2,p3⟩:=hF.n;have hlt0:w.heap.size<wr.heap.size:=by omega
  clear hF hB HO HA2 HN2 HTP h28;go_wp2
  go_loopw [45] (fun i wr=>∃(j:Nat) (u3:Value) (vs:List SlT),j≤n3∧i=.int .i64 j∧FB wr w.heap.size S (.slice ao n cap) (.slice ao2 k cap2) (.slice ao3 n3 cap3) S (.slice b1 m1 d1) (.slice a5 m5 c5) u3∧TR 93 wr 0 (w.heap.size+1+1+1) u3 vs (Ts.take j)∧wr.ownsRow (w.heap.size+1+1+1) 77 3 (.slice a5 m5 c5) Hs.length (cellsG hstE Hs)∧wr.ownsRow (w.heap.size+1+1+1) 124 4 (.slice b1 m1 d1) Ls.length (cellsG lnkE Ls)∧Below w.heap.size w wr) (fun i _=>n3-(intOf i).toNat)
  case atStart=>exact⟨0,_,[],by omega,rfl,HF.out,tr_nil _ _ _ _,HO2.out,HLK.out,HB.out⟩
  case round =>
   obtain⟨j,u3,vs,hk,rfl,hF,hTR,hO,hLk,hB⟩:=hrel;clear HF HO2 HLK HB HLT p0 p1 p2 p3 hlt0 hltB;obtain⟨a7,m7,c7,rfl⟩:∃b1 m1 d1,u3=.slice b1 m1 d1:=by
    obtain⟨a,c,h⟩:=own_form hTR.ov;exact⟨a,_,c,h⟩
   have HB:Hid (Below w.heap.size w wr):=hB;have HF:Hid (FB wr w.heap.size S (.slice ao n cap) (.slice ao2 k cap2) (.slice ao3 n3 cap3) S (.slice b1 m1 d1) (.slice a5 m5 c5) (.slice a7 m7 c7)):=hF;have HO:Hid (wr.ownsRow (w.heap.size+1+1+1) 77 3 (.slice a5 m5 c5) Hs.length (cellsG hstE Hs)):=hO;have HLK:Hid (wr.ownsRow (w.heap.size+1+1+1) 124 4 (.slice b1 m1 d1) Ls.length (cellsG lnkE Ls)):=hLk;have HTR:Hid (TR 93 wr 0 (w.heap.size+1+1+1) (.slice a7 m7 c7) vs (Ts.take j)):=hTR;have hltB:=hF.lt;have HLT:Hid (w.heap.size+1+1<wr.heap.size):=hltB;clear hO hLk;by_cases hlt:j<n3
   ·obtain⟨g,og,hao,hc,_⟩:=HA3.out (by omega);subst hao;have hjl:j<Ts.length:=by rw[HN3.out];exact hlt
    obtain⟨a4,n4,c4,r0,hs⟩:=(hc.later hB) j hjl;have HSR:Hid (SR wr (.slice a4 n4 c4) Ts[j]):=hs;have HL12:Hid ([Ts[j]].flatten.length≤1000):=by
     have h:=HOK.out j hjl;rw[getT hjl] at h;show _≤_;simp only[List.flatten_cons,List.flatten_nil,List.append_nil];omega
    have HTK:Hid (Ts.take (j+1)=Ts.take j++[Ts[j]]):=List.take_succ_eq_append_getElem hjl;have kb0:(0:Int)≤(j:Int):=by omega
    have kb1:(j:Int)<(n3:Int):=by omega
    have q3:=hF.o.c.2.2.2;have f3:=hF.o.f 3;obtain⟨j1,hj,hy0,hy1,hy2⟩:=info_parts ta_info;have HI1:Hid (Tryz.prog.info? 93=some j1):=hj;have HI2:Hid (j1.zero=some (.slice none 0 0)):=hy0;have HI3:Hid (j1.size=1):=hy1;have HI4:Hid (j1.bytes=24):=hy2;have HVL:Hid (vs.length≤6):=by
     show _≤_;rw[hTR.lv,List.length_take];omega
    have HLV1:Hid (vs.length+1≤maxLen):=by
     have:=HVL.out;show _≤_;unfold maxLen;omega
    have HLV2:Hid ((vs.length+1)*24≤140737488355328):=by
     have:=HVL.out;show _≤_;omega
    have HKF:Hid (∀W,Below wr.heap.size wr W→FB W w.heap.size S (.slice ao n cap) (.slice ao2 k cap2) (.slice (some ⟨g,og,none⟩) n3 cap3) S (.slice b1 m1 d1) (.slice a5 m5 c5) (.slice a7 m7 c7)):=fun W hW=>HF.out.later hW
    have HKO:Hid (∀W,Below wr.heap.size wr W→W.ownsRow (w.heap.size+1+1+1) 93 1 (.slice a7 m7 c7) vs.length (cellsG slE vs)):=fun W hW=>own_below HTR.out.ov hW
    have HOB:Hid (∀b,(Value.slice a7 m7 c7).ownBlock=some b→w.heap.size+1+1+1≤b∧b<wr.heap.size):=fun b hb=>HTR.out.ov.lt b hb
    have HFIN:Hid (∀w' w2 v5 x,Below wr.heap.size wr w'→SR w' (slV x) Ts[j]→(∀b,b<wr.heap.size→offB x b)→w'.grownBy w2 (Value.slice a7 m7 c7).ownBlock→w2.ownsRow (w.heap.size+1+1+1) 93 1 v5 (vs++[x]).length (cellsG slE (vs++[x]))→(v5.ownBlock=(Value.slice a7 m7 c7).ownBlock∨v5.ownBlock=some w'.heap.size) →
     ∃(u3:Value) (vs:List SlT),FB (w2.setCell ⟨w.heap.size+1+1,3,none⟩ v5) w.heap.size S (.slice ao n cap) (.slice ao2 k cap2) (.slice (some ⟨g,og,none⟩) n3 cap3) S (.slice b1 m1 d1) (.slice a5 m5 c5) u3∧TR 93 (w2.setCell ⟨w.heap.size+1+1,3,none⟩ v5) 0 (w.heap.size+1+1+1) u3 vs (Ts.take (j+1))∧(w2.setCell ⟨w.heap.size+1+1,3,none⟩ v5).ownsRow (w.heap.size+1+1+1) 77 3 (.slice a5 m5 c5) Hs.length (cellsG hstE Hs)∧(w2.setCell ⟨w.heap.size+1+1,3,none⟩ v5).ownsRow (w.heap.size+1+1+1) 124 4 (.slice b1 m1 d1) Ls.length (cellsG lnkE Ls)∧Below w.heap.size w (w2.setCell ⟨w.heap.size+1+1,3,none⟩ v5)):=by
     intro w' w2 v5 x h1 hx hox h2 h3 h4;refine⟨v5,vs++[x],((HKF.out w' h1).grown h2 (fun b hb=>(HOB.out b hb).1)).set3 v5,?_,row_kept HO.out h1 h2 (own_apart HO.out HTR.out.ov (by decide)) (by omega),row_kept HLK.out h1 h2 (own_apart HLK.out HTR.out.ov (by decide)) (by omega),?_⟩
     ·have ht:=(HTR.out.later h1).push hx (fun b hb=>hox b (HOB.out b hb).2) (fun b _ hb=>hox b (by have:=HLT.out;omega)) h2 h3 h4;rw[HTK.out];exact ht.grown (grown_set w2 _ _ _) (Nat.zero_le _) (by omega)
     have hb2:Below w.heap.size w w':=HB.out.trans (h1.mono HB.out.size);exact (hb2.grown h2 hb2.size (fun b hb=>by have:=(HOB.out b hb).1;omega)).setCell (p:=⟨w.heap.size+1+1,3,none⟩) (show w.heap.size≤w.heap.size+1+1 by omega) _
    clear hc hB hF hj hy0 hy1 hy2 hs hTR;go_upto_region 12 with fail;clear r0
    go_region_law (first
     | ((refine step_append_blk (E:=slE) _ (by rfl) _ _ 26 93 (by rfl) Tryz.underlying26 j1 _ 24 HI1.out HI2.out HI3.out HI4.out (by rfl) (w.heap.size+1+1+1) (.slice a7 m7 c7) (by rfl) vs (HKO.out _ HBY.out) w'.heap.size 0 1 (by rfl) (a6,n6,c6) HVA.out HLV1.out HLV2.out ?_ ?_;(focus (have:=HBY.out.size;have:=HLT.out;omega));intro v5 w5 ho5 hg5 hb5;have HG:Hid _:=HFIN.out _ _ _ _ HBY.out HSX.out HOFF.out hg5 ho5 hb5;have z2:=((HKF.out _ HBY.out).grown hg5 (fun b hb=>(HOB.out b hb).1)).o.c.2.2.2;have zf2:=((HKF.out _ HBY.out).grown hg5 (fun b hb=>(HOB.out b hb).1)).o.f 3;obtain⟨a8,m8,c8,rfl⟩:∃b1 m1 d1,v5=Value.slice b1 m1 d1:=(by obtain⟨a,c,h⟩:=own_form ho5;exact⟨a,_,c,h⟩);clear ho5 hg5 hb5))
     | (go_simp;go_at_call 104;refine (concat_any _ 0 1 1 [Ts[j]] _ rfl (by omega) (pat1 93 (HSR.out.later (Below.drew (Below.refl _ _)))) HL12.out).mono ?_;rintro e w' ⟨u,rfl,hown,hb⟩;have HBX:Hid (Below wr.heap.size wr w'):=falloc hb;have hNR:NR w' wr.heap.size u Ts[j]:=(NR.of hown (by simp)).mono (by simp);obtain⟨⟨a6,n6,c6⟩,hx,hoff⟩:=hNR.sl;replace hx:u=Value.slice a6 n6 c6:=hx;subst hx;have HOFF:Hid (∀b,b<wr.heap.size→offB (a6,n6,c6) b):=hoff;have HBY:Hid (Below wr.heap.size wr (w'.alloc (Obj.cells #[.slice a6 n6 c6] 93))):=HBX.out.alloc HBX.out.size _;have HSX:Hid (SR (w'.alloc (Obj.cells #[.slice a6 n6 c6] 93)) (slV (a6,n6,c6)) Ts[j]):=hNR.sr.later ((Below.refl _ _).alloc (Nat.le_refl _) _);have HVA:Hid (VAt (w'.alloc (Obj.cells #[.slice a6 n6 c6] 93)) w'.heap.size 0 (slE.c (a6,n6,c6))):=vat_sl (by simp[slV]);have x2:=(HKF.out w' HBX.out).o.c.2.2.2;have xlt:=(HKF.out w' HBX.out).o.lt;clear hb hown hoff hNR;dsimp only))
    all_goals (clear q3 f3;go_wp2)
    all_goals go_roundw
    all_goals first
     | (simp[intOf];omega)
     | (obtain⟨u3,vs2,hG⟩:=HG.out;exact⟨j+1,u3,vs2,by omega,by go_num,hG⟩)
   obtain rfl:j=n3:=by omega
   have HTE:Hid (TR 93 wr 0 (w.heap.size+1+1+1) (.slice a7 m7 c7) vs Ts):=by
    have h:=HTR.out;rw[←HN3.out,List.take_length] at h;exact h
   obtain⟨q0,q1,q2,q3⟩:=hF.o.c;obtain⟨s0,s1,s2,s3⟩:=hF.r.c;have hlt1:=hF.r.lt;have f0:=hF.r.f 0;have f1:=hF.r.f 1;have f2:=hF.r.f 2;have f3:=hF.r.f 3;clear hF hTR hB;go_wp2;refine bodyPost_ret (v:=.agg #[.int .i64 S,.slice b1 m1 d1,.slice a5 m5 c5,.slice a7 m7 c7]) (by simp[results,Tryz.results66,go_sem, *]) rfl ?_;have hgp:=grown_put4 wr (w.heap.size+1) (.int .i64 S) (.slice b1 m1 d1) (.slice a5 m5 c5) (.slice a7 m7 c7);exact⟨_,_,_,_,_,_,_,_,_,vs,rfl,own_mono (HLK.out.kept hgp (.inr fun e=>by have:=(HLK.out.lt _ e).1;omega)) (by omega),own_mono (HO.out.kept hgp (.inr fun e=>by have:=(HO.out.lt _ e).1;omega)) (by omega),(HTE.out.grown hgp (Nat.zero_le _) (by omega)).mono (by omega),below_pn4 HB.out (w.heap.size+1) (by omega) _ _ _ _⟩
end
end Go.Proofs.YtiokpmlhmlcojaaGreatDoor
