/- Contracts and facts on the way to DrivePlays, joined into one text: ItLaw, AgentKb, DrivePgI, ClassTwo, RefDrMem, GenTake, OwnInts, RefDrSay, RefDrMay, RefPutMath, RefCube, StHop, StrClone, TableBey, AlikeMath, ChangeFresh, WishMath, WishFirst, WishHold, MixWalk1, RefWalkMath, RefIn, RefTouched, RefDrNext. -/
import Derived.Test.YtpgjkmefomldfaaDoorDrivePlaysP1
namespace Go.Proofs.YtpgjkmefomldfaaDoor
set_option linter.unusedSimpArgs false
set_option linter.unusedVariables false
set_option maxHeartbeats 16000000
set_option maxRecDepth 100000
open Go.Proofs.Tryd
open IntKind (i64)
section
open Go.RowKit Go.Shelf
structure Kb (p:Nat→Prop)(w w':World):Prop where
 os:w'.os=w.os
 tape:w'.tape=w.tape
 output:w'.output=w.output
 size:w.heap.size≤w'.heap.size
 block:∀k,k<w.heap.size→p k→w'.heap[k]?=w.heap[k]?
theorem Kb.refl (p:Nat→Prop)(w:World):Kb p w w:=⟨rfl,rfl,rfl,nLQ _,fun _ _ _=>rfl⟩
theorem Kb.trans {p:Nat→Prop}{a b c:World}(h:Kb p a b)(k:Kb p b c):Kb p a c:=
 ⟨k.os.trans h.os,k.tape.trans h.tape,k.output.trans h.output,Nat.le_trans h.size k.size,fun i hi hx=>(k.block i (Nat.lt_of_lt_of_le hi h.size) hx).trans (h.block i hi hx)⟩
theorem Kb.mono {p q:Nat→Prop}{w w':World}(h:Kb p w w')(hq:∀b,b<w.heap.size→q b→p b):Kb q w w':=⟨h.os,h.tape,h.output,h.size,fun k hk hx=>h.block k hk (hq k hk hx)⟩
theorem Kb.of_below {p:Nat→Prop}{n₀:Nat}{w w':World}(h:Below n₀ w w')(hp:∀b,b<w.heap.size→p b→b<n₀):Kb p w w':=⟨h.os,h.tape,h.output,h.size,fun k hk hx=>h.block k (hp k hk hx)⟩
theorem Kb.below {p:Nat→Prop}{n₀:Nat}{w w':World}(h:Kb p w w')(hn:n₀≤w.heap.size)(hp:∀b,b<n₀→p b):Below n₀ w w':=⟨h.os,h.tape,h.output,h.size,fun k hk=>h.block k (by omega) (hp k hk)⟩
theorem Kb.drew {p:Nat→Prop}{a w:World}(h:Kb p a w):Kb p a w.drew:=⟨h.os,h.tape,h.output,h.size,h.block⟩
theorem Kb.alloc {p:Nat→Prop}{a w:World}(h:Kb p a w)(o:Obj):Kb p a (w.alloc o):=
 h.trans (Kb.of_below ((Below.refl w.heap.size w).alloc (nLQ _) o) (fun b hb _=>hb))
theorem Kb.setCell {p:Nat→Prop}{a w:World}(h:Kb p a w){q:Addr}(hq:q.block<a.heap.size→¬p q.block)(v:Value):Kb p a (w.setCell q v):=by
 refine⟨h.os,h.tape,h.output,?_,fun k hk hx=>(Below.heap_setCell w q v k ?_).trans (h.block k hk hx)⟩
 ·show a.heap.size≤(w.heap.modify _ _).size;rw[Array.size_modify];exact h.size
 intro e;subst e;exact hq hk hx
theorem Kb.grown {p:Nat→Prop}{a w w':World}{row:Option Nat}(h:Kb p a w)(hg:w.grownBy w' row)(hr:∀r,row=some r→r<a.heap.size→¬p r):Kb p a w':=
 ⟨hg.os.trans h.os,hg.tape.trans h.tape,hg.output.trans h.output,Nat.le_trans h.size hg.size,fun k hk hx=>(hg.block k (Nat.lt_of_lt_of_le hk h.size) (fun e=>hr k e.symm hk hx)).trans (h.block k hk hx)⟩
theorem Kb.cell {p:Nat→Prop}{w w':World}(h:Kb p w w'){q:Addr}(hl:q.block<w.heap.size)(hp:p q.block):w'.cell? q=w.cell? q:=World.cell?_of_block (w:=w) (h.block q.block hl hp)
theorem Kb.at {p:Nat→Prop}{w w':World}(h:Kb p w w'){q:Addr}{v:Value}(hc:w.cell? q=some v)(hp:p q.block):w'.cell? q=some v:=(h.cell (bLQ _ _ hc) hp).trans hc
theorem Kb.frozen {p:Nat→Prop}{w w':World}(h:Kb p w w'){q:Addr}(hl:q.block<w.heap.size)(hp:p q.block):w'.frozen? q=w.frozen? q:=by
 simp only[World.frozen?,h.block q.block hl hp]
theorem Kb.boxed {p:Nat→Prop}{w w':World}(h:Kb p w w'){b:Nat}{t:TypeId}{v:Value}(hb:Boxed w b t v)(hp:p b):Boxed w' b t v:=(h.block b hb.lt hp).trans hb
end
section
open Go.RowKit
theorem own_kb {w w':World}{base e size n:Nat}{v:Value}{xs:List Value}{p:Nat→Prop}(h:w.ownsRow base e size v n xs)(hk:Kb p w w')(hp:∀b,v.ownBlock=some b→p b):w'.ownsRow base e size v n xs:=by
 refine⟨h.1,?_⟩;have hl:=h.lt
 rcases h.2 with hn | ⟨g,cap,cur,rfl,hb,hg,rest⟩
 ·exact .inl hn
 exact .inr ⟨g,cap,cur,rfl,hb,(hk.block g (hl g rfl).2 (hp g rfl)).trans hg,rest⟩
abbrev DrP:Type:=World→Nat→Nat→(Nat→Prop)→DrT→Prop
theorem gs_kept {α:Type}{E:Enc α}{W W':World}{ao:AdQ}{n c:Nat}{L:List α}{p:Nat→Prop}(h:GS E W (.slice ao n c) L)(hk:Kb p W W')(hp:L=[]∨∀ad,ao=some ad→p ad.block):GS E W' (.slice ao n c) L:=by
 rcases h with ⟨ao',cap',e,rfl⟩ | ⟨g,o,cap',e,h1,h2,h3⟩
 ·exact .inl ⟨ao',cap',e,rfl⟩
 rcases hp with rfl | hp
 ·cases e;exact .inl ⟨_,_,rfl,rfl⟩
 cases e;have hq:p g:=hp ⟨g,o,none⟩ rfl;exact .inr ⟨g,o,c,rfl,h1,h2,fun i hi j u hu=>hk.at (h3 i hi j u hu) hq⟩
def DvA (Pd:DrP)(w:World)(p B0:Nat)(O:Nat→Prop)(D':DrT)(a1:AdQ)(n1 c1:Nat)(l:List Mg)(w':World):Prop:=
 GS msgE w' (.slice a1 n1 c1) l∧(∀ad,a1=some ad→w.heap.size≤ad.block) ∧
  ∃O',Pd w' p B0 O' D'∧(∀b,O' b→O b∨w.heap.size≤b)∧(∀ad,a1=some ad→¬O' ad.block)∧Kb (fun b=>¬O b) w w'
def DvN (Pd:DrP)(vE:Int→Value)(w:World)(p B0:Nat)(O:Nat→Prop)(D':DrT)(E:Int)(l:List Mg)(e:Ending)(w':World):Prop:=
 ∃a1 n1 c1,e=.returned (.tuple #[.slice a1 n1 c1,vE E])∧DvA Pd w p B0 O D' a1 n1 c1 l w'
def DvT (Pd:DrP)(w:World)(p B0:Nat)(O:Nat→Prop)(D':DrT)(l:List Mg)(e:Ending)(w':World):Prop:=
 ∃a1 n1 c1,e=.returned (.slice a1 n1 c1)∧DvA Pd w p B0 O D' a1 n1 c1 l w'
def DvH (Pd:DrP)(vE:Int→Value)(w:World)(p B0:Nat)(O:Nat→Prop)(D':DrT)(E:Int)(e:Ending)(w':World):Prop:=
 e=.returned (vE E)∧∃O',Pd w' p B0 O' D'∧(∀b,O' b→O b∨w.heap.size≤b)∧Kb (fun b=>¬O b) w w'
structure PdI (Pd:DrP):Prop where
 kb:∀{W W':World} {p B0:Nat} {O:Nat→Prop} {D:DrT},Pd W p B0 O D→Kb (fun b=>b<B0∨O b) W W'→Pd W' p B0 O D
 lt:∀{W:World} {p B0:Nat} {O:Nat→Prop} {D:DrT},Pd W p B0 O D→∀b,O b→B0≤b∧b<W.heap.size
 new:∀(ao:AdQ) (n c:Nat) (L:List (List Op8)) (T:Int) (B0:Nat) (w:World),(∀V,Below B0 w V→RS V (.slice ao n c) L)→B0≤w.heap.size →
  Calls prog 5 #[.slice ao n c,.int i64 T] w fun e w'=>∃v,e=.returned (.tuple #[v,noV (rsF L T)])∧Below w.heap.size w w'∧(rsF L T=0→∃p O,v=.pointer (some ⟨p,0,none⟩)∧Pd w' p B0 O (dr0 L T)∧∀b,O b→w.heap.size≤b)
 next:∀{p B0:Nat} {O:Nat→Prop} {D:DrT} {k:Nat} (w:World),Pd w p B0 O D→DrOK D k→k≤100000 →
  Calls prog 7 #[.pointer (some ⟨p,0,none⟩)] w fun e w'=>DvN Pd noV w p B0 O (nxS D) (nxN D) (nxA D) e w'
 hear:∀{p B0:Nat} {O:Nat→Prop} {D:DrT} {k:Nat} (x0 x1 x2 x3 x4:Int) (x5:Bool) (x6 x7 x8 x9 x10 x11:Int) (w:World),Pd w p B0 O D→DrOK D k→k≤100000 →
  Calls prog 9 #[.pointer (some ⟨p,0,none⟩),.agg #[.int i64 x0,.int i64 x1,.int i64 x2,.int i64 x3,.int i64 x4,.bool x5,.int i64 x6,.int i64 x7,.int i64 x8,.int i64 x9,.int i64 x10,.int i64 x11]] w fun e w' =>
   DvH Pd noV w p B0 O (dhS D ⟨x0,x1,x2,x3,⟨x4,x5,⟨x6,x7,x8,x9,x10,x11⟩⟩⟩) (dhN D ⟨x0,x1,x2,x3,⟨x4,x5,⟨x6,x7,x8,x9,x10,x11⟩⟩⟩) e w'
 tick:∀{p B0:Nat} {O:Nat→Prop} {D:DrT} {k:Nat} (w:World),Pd w p B0 O D→DrOK D k→k≤100000 →
  Calls prog 15 #[.pointer (some ⟨p,0,none⟩)] w fun e w'=>DvT Pd w p B0 O (tkS D) (tkA D) e w'
 left:∀{p B0:Nat} {O:Nat→Prop} {D:DrT} {k:Nat} (w:World),Pd w p B0 O D→DrOK D k→k≤100000 →
  Calls prog 8 #[.pointer (some ⟨p,0,none⟩)] w fun e w'=>∃a1 n1 c1,e=.returned (.slice a1 n1 c1)∧GS inE w' (.slice a1 n1 c1) D.l∧(∀ad,a1=some ad→w.heap.size≤ad.block)∧Below w.heap.size w w'
 round:∀{p B0:Nat} {O:Nat→Prop} {D:DrT} {k:Nat} (w:World),Pd w p B0 O D→DrOK D k→k≤100000 →
  Calls prog 11 #[.pointer (some ⟨p,0,none⟩)] w fun e w'=>e=.returned (.int i64 (D.s:Int))∧Below w.heap.size w w'
 done:∀{p B0:Nat} {O:Nat→Prop} {D:DrT} {k:Nat} (w:World),Pd w p B0 O D→DrOK D k→k≤100000 →
  Calls prog 10 #[.pointer (some ⟨p,0,none⟩)] w fun e w'=>e=.returned (.bool (doneD D))∧Below w.heap.size w w'
theorem gnn_refl (w:World):w.grownBy w none:=⟨rfl,rfl,rfl,nLQ _,fun _ _ _=>rfl⟩
theorem below_grown {B:Nat}{w W:World}{row:Option Nat}(h:w.grownBy W row)(hB:B≤w.heap.size)(hr:∀k,row=some k→B≤k):Below B w W:=
 ⟨h.os,h.tape,h.output,h.size,fun k hk=>h.block k (by omega) (fun e=>by have:=hr k e.symm;omega)⟩
theorem step_append_blk {P:Program}{α:Type}{E:Enc α}(w:World){ops:Array Oper}{o:Oper}{a:Act}{K:Act→World→Prop}{Q:Exit→Act→World→Prop}{X:Prop}(hgd:o.guard=none)(s x:Operand)(t e:TypeId)
 (ho:o.op=.call { callee:=.builtin .append,args:=#[s,x],argTypes:=#[t,t] }) (ht:P.underlying t=some (.slice e)) (i:TypeInfo) (z:Value) (bytes:Nat) (hi:P.info? e=some i) (hz:i.zero=some z)
 (hsize:i.size=E.n) (hby:i.bytes=bytes) (hzs:z.cells.size=E.n) (base:Nat)
 (v:Value) (hs:a.eval s=v) (L:List α) (hown:w.ownsRow base e E.n v L.length (cellsG E L)) (g q c:Nat) (hx:a.eval x=.slice (some ⟨g,q,none⟩) 1 c) (y:α) (hM:VAt w g q (E.c y))
 (h63:L.length+1≤maxLen) (hbytes:(L.length+1)*bytes≤140737488355328) (hbase:base≤w.heap.size)
 (h:∀v' w',w'.ownsRow base e E.n v' (L++[y]).length (cellsG E (L++[y]))→w.grownBy w' v.ownBlock→v'.ownBlock=v.ownBlock∨v'.ownBlock=some w.heap.size→K (a.put o.dst v') w'):
 if Region.wanted o (yielded ops a.tmps)=true then Oper.wp P o a w K Q else X:=by
 have hw:Region.wanted o (yielded ops a.tmps)=true:=by simp[Region.wanted,hgd]
 rw[if_pos hw];have hG:GAt E w g q [y]:=by
  intro k hk;obtain rfl:k=0:=by simp at hk;omega
  simpa using hM
 have hc:=hG.cells;rw[cellsG_one] at hc;have hl:(E.c y).length=1*E.n:=by rw[E.len];omega
 obtain⟨v',w',hr,h2,h3,_⟩:=run_append_own (P:=P) w base t o.type e i z E.n bytes ht hi hz hsize hby hzs E.pos v _ _ hown ⟨g,q,none⟩ 1 c (E.c y) hl hc (E.one y) h63 hbytes hbase;have hb:=run_append_blk (P:=P) t o.type e i z ht hi hz v _ _ (by rw[hsize];exact hown) ⟨g,q,none⟩ c (E.c y) (by rw[hsize];exact hl) hc (E.one y) h63 (by rw[hby];exact hbytes) hr;unfold Oper.wp execOp;simp only[ho,resolve,invoke,builtin,Sem.run_bind,Sem.run_pure,Result.andThen_ok,List.map_toArray,List.map_cons,List.map_nil,hs,hx,hr];exact h v' w' (by rw[List.length_append,cellsG_app,cellsG_one];exact h2) h3 hb
section
variable {e1 e2:TypeId}{w W1 W1' W2 W2' Wf:World}{B:Nat}{v u v' u':Value}{vs us:List SlT}{Cs Ps:List (List Int)}
end
structure RfD (W:World)(p B0:Nat)(O:Nat→Prop)(D:DrT)(xr xl:SlT):Prop where
 c0:W.cell? ⟨p,0,none⟩=some (slV xr)
 c1:W.cell? ⟨p,1,none⟩=some (.int i64 D.W)
 c2:W.cell? ⟨p,2,none⟩=some (.int i64 (D.s:Int))
 c3:W.cell? ⟨p,3,none⟩=some (slV xl)
 c4:W.cell? ⟨p,4,none⟩=some (.int i64 (D.k:Int))
 f:∀i,W.frozen? ⟨p,i,none⟩=false
 r:∀V,Below B0 W V→RS V (slV xr) D.L
 l:GS inE W (slV xl) D.l
 lo:D.l=[]∨∀ad,xl.1=some ad→O ad.block∧ad.block≠p
 pO:O p
 lt:∀b,O b→B0≤b∧b<W.heap.size
section
variable {W W':World}{p B0:Nat}{O:Nat→Prop}{D:DrT}{xr xl:SlT}
theorem RfD.low (h:RfD W p B0 O D xr xl):B0≤W.heap.size:=by
 have:=h.lt p h.pO;omega
theorem RfD.kb (h:RfD W p B0 O D xr xl)(hk:Kb (fun b=>b<B0∨O b) W W'):RfD W' p B0 O D xr xl:=by
 have hp:(p<B0∨O p):=.inr h.pO;have hb:Below B0 W W':=hk.below h.low fun b hb=>.inl hb
 refine⟨hk.at h.c0 hp,hk.at h.c1 hp,hk.at h.c2 hp,hk.at h.c3 hp,hk.at h.c4 hp,fun i=>(hk.frozen (q:=⟨p,i,none⟩) (h.lt p h.pO).2 hp).trans (h.f i),fun V hV=>h.r V (hb.trans hV),?_,h.lo,h.pO,fun b hb=>⟨(h.lt b hb).1,Nat.lt_of_lt_of_le (h.lt b hb).2 hk.size⟩⟩;exact gs_kept h.l hk (h.lo.imp id fun h1 ad ha=>.inr (h1 ad ha).1)
theorem RfD.later (h:RfD W p B0 O D xr xl)(hb:Below W.heap.size W W'):RfD W' p B0 O D xr xl:=h.kb (Kb.of_below hb fun b hl _=>hl)
theorem set_size (W:World)(q:Addr)(v:Value):(W.setCell q v).heap.size=W.heap.size:=by simp[World.setCell]
theorem RfD.setb (h:RfD W p B0 O D xr xl)(i:Nat)(v:Value):Below B0 W (W.setCell ⟨p,i,none⟩ v):=
 below_grown (grown_set W p i v) h.low fun k hk=>by cases hk;exact (h.lt p h.pO).1
theorem RfD.setl (h:RfD W p B0 O D xr xl)(i:Nat)(v:Value):GS inE (W.setCell ⟨p,i,none⟩ v) (slV xl) D.l:=
 gs_kept (p:=fun b=>b≠p) h.l ((Kb.refl _ _).setCell (fun _ h=>h rfl) v) (h.lo.imp id fun h1 ad ha=>(h1 ad ha).2)
theorem RfD.set2 (h:RfD W p B0 O D xr xl)(s:Nat):RfD (W.setCell ⟨p,2,none⟩ (.int i64 (s:Int))) p B0 O { D with s:=s } xr xl:=by
 refine⟨?_,?_,World.cell?_setCell_same _ _ _ h.c2,?_,?_,fun i=>?_,fun V hV=>h.r V ((h.setb 2 _).trans hV),h.setl 2 _,h.lo,h.pO,fun b hb=>by rw[set_size];exact h.lt b hb⟩
 ·rw[World.cell?_setCell_other _ _ _ _ (by simp)];exact h.c0
 ·rw[World.cell?_setCell_other _ _ _ _ (by simp)];exact h.c1
 ·rw[World.cell?_setCell_other _ _ _ _ (by simp)];exact h.c3
 ·rw[World.cell?_setCell_other _ _ _ _ (by simp)];exact h.c4
 rw[World.frozen?_setCell];exact h.f i
theorem RfD.set4 (h:RfD W p B0 O D xr xl)(k:Nat):RfD (W.setCell ⟨p,4,none⟩ (.int i64 (k:Int))) p B0 O { D with k:=k } xr xl:=by
 refine⟨?_,?_,?_,?_,World.cell?_setCell_same _ _ _ h.c4,fun i=>?_,fun V hV=>h.r V ((h.setb 4 _).trans hV),h.setl 4 _,h.lo,h.pO,fun b hb=>by rw[set_size];exact h.lt b hb⟩
 ·rw[World.cell?_setCell_other _ _ _ _ (by simp)];exact h.c0
 ·rw[World.cell?_setCell_other _ _ _ _ (by simp)];exact h.c1
 ·rw[World.cell?_setCell_other _ _ _ _ (by simp)];exact h.c2
 ·rw[World.cell?_setCell_other _ _ _ _ (by simp)];exact h.c3
 rw[World.frozen?_setCell];exact h.f i
theorem RfD.set3 (h:RfD W p B0 O D xr xl){y:SlT}{l':List Int}(hy:GS inE W (slV y) l')(hn:∀ad,y.1=some ad→B0≤ad.block∧ad.block≠p):
 RfD (W.setCell ⟨p,3,none⟩ (slV y)) p B0 (fun b=>O b∨∃ad,y.1=some ad∧ad.block<W.heap.size∧b=ad.block) { D with l:=l' } xr y:=by
 refine⟨?_,?_,?_,World.cell?_setCell_same _ _ _ h.c3,?_,fun i=>?_,fun V hV=>h.r V ((h.setb 3 _).trans hV),gs_kept (p:=fun b=>b≠p) hy ((Kb.refl _ _).setCell (fun _ h=>h rfl) _) (.inr fun ad ha=>(hn ad ha).2),?_,.inl h.pO,?_⟩
 ·rw[World.cell?_setCell_other _ _ _ _ (by simp)];exact h.c0
 ·rw[World.cell?_setCell_other _ _ _ _ (by simp)];exact h.c1
 ·rw[World.cell?_setCell_other _ _ _ _ (by simp)];exact h.c2
 ·rw[World.cell?_setCell_other _ _ _ _ (by simp)];exact h.c4
 ·rw[World.frozen?_setCell];exact h.f i
 ·rcases hy with ⟨ao,cap,e,rfl⟩ | ⟨g,o,cap,e,h1,h2,h3⟩
  ·exact .inl rfl
  by_cases h0:l'=[]
  ·exact .inl h0
  refine .inr fun ad ha=>⟨.inr ⟨ad,ha,?_,rfl⟩,(hn ad ha).2⟩
  obtain⟨y1,y2,y3⟩:=y;simp only[slV,Value.slice.injEq] at e;obtain⟨rfl,_⟩:=e;cases ha;have h4:0<l'.length:=List.length_pos_iff.2 h0;exact bLQ _ _ (h3 0 h4 0 _ rfl)
 rw[set_size];rintro b (hb | ⟨ad,ha,hl,rfl⟩)
 ·exact h.lt b hb
 exact⟨(hn ad ha).1,hl⟩
end
def DrR:DrP:=fun W p B0 O D=>∃xr xl,RfD W p B0 O D xr xl
theorem DrR.kb {W W':World}{p B0:Nat}{O:Nat→Prop}{D:DrT}(h:DrR W p B0 O D)(hk:Kb (fun b=>b<B0∨O b) W W'):DrR W' p B0 O D:=by
 obtain⟨xr,xl,h⟩:=h;exact⟨xr,xl,h.kb hk⟩
theorem DrR.lt {W:World}{p B0:Nat}{O:Nat→Prop}{D:DrT}(h:DrR W p B0 O D):∀b,O b→B0≤b∧b<W.heap.size:=by
 obtain⟨xr,xl,h⟩:=h;exact h.lt
theorem GS.take {α:Type}{E:Enc α}{W:World}{ao:AdQ}{n cap c:Nat}{L:List α}(h:GS E W (.slice ao n cap) L)(hc:c≤n):GS E W (.slice ao c cap) (L.take c):=by
 rcases h with ⟨ao',cap',e,rfl⟩ | ⟨g,o,cap',e,h1,h2,h3⟩
 ·simp only[Value.slice.injEq] at e;obtain⟨rfl,rfl,rfl⟩:=e;obtain rfl:c=0:=by omega
  exact .inl ⟨_,_,rfl,by simp⟩
 simp only[Value.slice.injEq] at e;obtain⟨rfl,rfl,rfl⟩:=e;have e1:(L.take c).length=c:=by rw[List.length_take];omega
 exact .inr ⟨g,o,cap,by rw[e1],by rw[e1];omega,h2,h3.take c⟩
theorem GS.drop {α:Type}{E:Enc α}{W:World}{g o n cap c:Nat}{L:List α}(h:GS E W (.slice (some ⟨g,o,none⟩) n cap) L)(hc:c≤n):GS E W (.slice (some ⟨g,o+c*E.n,none⟩) (n-c) (cap-c)) (L.drop c):=by
 rcases h with ⟨ao',cap',e,rfl⟩ | ⟨g',o',cap',e,h1,h2,h3⟩
 ·simp only[Value.slice.injEq] at e;obtain⟨rfl,rfl,rfl⟩:=e;obtain rfl:c=0:=by omega
  exact .inl ⟨_,_,rfl,by simp⟩
 simp only[Value.slice.injEq,Option.some.injEq,Addr.mk.injEq,and_true] at e;obtain⟨⟨rfl,rfl⟩,rfl,rfl⟩:=e;have e1:(L.drop c).length=L.length-c:=List.length_drop;exact .inr ⟨g,o+c*E.n,cap-c,by rw[e1],by rw[e1];omega,Nat.le_trans (Nat.sub_le _ _) h2,h3.drop c⟩
theorem own_form {w:World}{B e size n:Nat}{v:Value}{xs:List Value}(h:w.ownsRow B e size v n xs):∃ao cap,v=.slice ao n cap:=by
 rcases h.2 with ⟨rfl,rfl⟩ | ⟨g,cap,cur,rfl,_⟩
 ·exact⟨none,0,rfl⟩
 exact⟨_,cap,rfl⟩
theorem rsay_any {p B0:Nat}{O:Nat→Prop}{D:DrT}{xr xl:SlT}{K:Nat}(w:World)(h:RfD w p B0 O D xr xl)(hok:DrOK D K):
 Calls prog 31 #[.pointer (some ⟨p,0,none⟩)] w fun e w'=>∃a1 n1 c1,e=.returned (.slice a1 n1 c1)∧GS msgE w' (.slice a1 n1 c1) (saD D)∧(∀ad,a1=some ad→w.heap.size≤ad.block)∧Below w.heap.size w w':=by
 obtain⟨ar,nr,cr⟩:=xr;obtain⟨al,nl,cl⟩:=xl;have HH:Hid (∀V,Below w.heap.size w V→RfD V p B0 O D (ar,nr,cr) (al,nl,cl)):=fun V hb=>h.later hb
 obtain⟨_,_,_,e1,hn,_,_,ha⟩:=h.l.form;cases e1;have HNL:Hid (D.l.length=nl):=hn;have HLA:Hid (0<nl→∃g o,al=some ⟨g,o,none⟩∧GAt inE w g o D.l):=fun h=>by
  obtain⟨g,o,h1,h2,_⟩:=ha h;exact⟨g,o,h1,h2⟩
 have HNR:Hid (D.L.length=nr):=(h.r w (bRQ _ _)).len;have HOK:Hid (DrOK D K):=hok;have HRS:Hid (RS w (.slice ar nr cr) D.L):=h.r w (bRQ _ _);have hs20:D.s≤20:=Nat.le_trans hok.s hok.L;have hnl6:nl≤6:=by
  have h6:=hok.six;have h7:D.l.length=nl:=hn;omega
 obtain⟨I,hI⟩:∃I,I=(D.s:Int)-1:=⟨_,rfl⟩;have HI:Hid (I=(D.s:Int)-1):=hI;have hw0:IntKind.i64.wrap ((D.s:Int)-1)=I:=by rw[IntKind.wrap_i64];omega
 obtain⟨R,hR⟩:∃R,R=D.L.getD (D.s-1) []:=⟨_,rfl⟩;have HR:Hid (R=D.L.getD (D.s-1) []):=hR;have HRL:Hid (R.length≤200):=by
  show _≤_;rw[hR]
  rcases getd_mem (L:=D.L) (i:=D.s-1) with e | e
  ·rw[e];simp
  exact hok.r _ e
 have HSA:Hid (saD D=sayL R I D.l):=by
  show _=_;rw[saD,hR,hI]
 have c2:=h.c2;obtain⟨j0,hj0,hz0,hz1,hz2⟩:=info_parts msg_info;have HI1:Hid (Tryd.prog.info? 39=some j0):=hj0;have HI2:Hid (j0.zero=some (.agg #[.int i64 0,.int i64 0,.int i64 0,.int i64 0,.int i64 0,.bool false,.int i64 0,.int i64 0,.int i64 0,.int i64 0,.int i64 0,.int i64 0])):=hz0;have HI3:Hid (j0.size=12):=hz1;have HI4:Hid (j0.bytes=96):=hz2;clear h hok hn ha hI hR hj0 hz0 hz1 hz2;go_enter func31,ntmps31;go_wp2;clear c2
 go_loopw [3,5] (fun v i wr=>∃(k:Nat) (a5:AdQ) (m5 c5:Nat),k≤nl∧i=.int i64 (k:Int)∧v=.slice a5 m5 c5∧wr.ownsRow w.heap.size 39 msgE.n (.slice a5 m5 c5) (sayL R I (D.l.take k)).length (cellsG msgE (sayL R I (D.l.take k)))∧Below w.heap.size w wr) (fun _ i _=>nl-(intOf i).toNat)
 case atStart=>exact⟨0,none,0,0,by omega,rfl,rfl,World.ownsRow_nil _ _ _ _,bRQ _ _⟩
 case round =>
  obtain⟨k,a5,m5,c5,hk,rfl,rfl,ho,hb⟩:=hrel;obtain⟨wz,hwz⟩:∃X,X=wr:=⟨_,rfl⟩;subst hwz;have HO:Hid (wz.ownsRow w.heap.size 39 msgE.n (.slice a5 m5 c5) (sayL R I (D.l.take k)).length (cellsG msgE (sayL R I (D.l.take k)))):=ho;have HB:Hid (Below w.heap.size w wz):=hb;have c3:wz.cell? ⟨p,3,none⟩=some (.slice al nl cl):=(HH.out _ hb).c3;clear ho hb;by_cases hlt:k<nl
  ·obtain⟨gl,ol,hal,hGl⟩:=HLA.out (by omega);subst hal;obtain⟨x,hkl,hLk,y0⟩:=in_at (hGl.later HB.out) HNL.out hlt;obtain⟨s1,hs1⟩:∃s1,D.s=s1+1:=⟨D.s-1,by
    by_cases h0:D.s=0
    ·have:=HOK.out.p h0;rw[this] at hkl;simp at hkl
    omega⟩
   obtain rfl:I=(s1:Int):=by have:=HI.out;omega
   have hsn:s1<nr:=by
    have:=HOK.out.s;have:=HNR.out;omega
   obtain⟨gr,qr,R',a1,n1,c1,har,hRs,hc1,hGr⟩:=HRS.out.at hsn;subst har;obtain rfl:R'=R:=by
    rw[HR.out];have:D.s-1=s1:=by omega
    rw[this];simp[List.getD,hRs]
   have HRC:Hid (∀V,Below w.heap.size w V→V.cell? ⟨p,0,none⟩=some (.slice (some ⟨gr,qr,none⟩) nr cr)∧V.cell? ⟨gr,qr+s1,none⟩=some (.slice a1 n1 c1)∧GS opE V (.slice a1 n1 c1) R'):=fun V hV=>⟨(HH.out V hV).c0,cell_later hV hc1,hGr.later hV⟩
   have HRN:Hid (R'.length=n1):=hGr.len;have HSN:Hid (sayL R' (s1:Int) (D.l.take (k+1))=sayL R' (s1:Int) (D.l.take k)++sayS R' (s1:Int) x):=by
    show _=_;rw[say_next _ _ hkl,hLk]
   obtain⟨X,hX⟩:∃X,X=sayL R' (s1:Int) (D.l.take k):=⟨_,rfl⟩;rw[←hX] at HO HSN;have HXL:Hid (X.length≤1206):=by
    show _≤_;have h1:=say_len R' (s1:Int) (D.l.take k);have h2:(D.l.take k).length≤6:=by rw[List.length_take];omega
    have h3:(D.l.take k).length*(R'.length+1)≤6*201:=Nat.mul_le_mul h2 (by have:=HRL.out;omega);rw[hX];omega
   have hn1:n1≤200:=by
    have:=HRL.out;have:=HRN.out;omega
   have kb0:(0:Int)≤(k:Int):=by omega
   have kb1:(k:Int)<(nl:Int):=by omega
   have sb0:(0:Int)≤(s1:Int):=by omega
   have sb1:(s1:Int)<(nr:Int):=by omega
   clear hGl hLk hX hc1 hGr hs1;go_wp2;clear y0 c3
   go_loopw [3,7,8] (fun v u i wr=>∃(j:Nat) (a5:AdQ) (m5 c5:Nat),j≤n1∧i=.int i64 (j:Int)∧u=.int i64 (cntW (R'.take j) x:Nat)∧v=.slice a5 m5 c5∧wr.ownsRow w.heap.size 39 msgE.n (.slice a5 m5 c5) (X++sdM (s1:Int) x 0 (R'.take j)).length (cellsG msgE (X++sdM (s1:Int) x 0 (R'.take j)))∧Below w.heap.size w wr) (fun _ _ i _=>n1-(intOf i).toNat)
   case atStart=>exact⟨0,a5,m5,c5,by omega,rfl,rfl,rfl,by rw[List.take_zero,sdM,List.append_nil];exact HO.out,HB.out⟩
   case round =>
    obtain⟨j,a6,m6,c6,hj,rfl,rfl,rfl,ho,hb⟩:=hrel;obtain⟨wy,hwy⟩:∃X,X=wr:=⟨_,rfl⟩;subst hwy;have HO6:Hid (wy.ownsRow w.heap.size 39 msgE.n (.slice a6 m6 c6) (X++sdM (s1:Int) x 0 (R'.take j)).length (cellsG msgE (X++sdM (s1:Int) x 0 (R'.take j)))):=ho;have HB6:Hid (Below w.heap.size w wy):=hb;obtain⟨c0,c1',hGr⟩:=HRC.out wy hb;have HDL:Hid ((sdM (s1:Int) x 0 (R'.take j)).length≤200):=by
     show _≤_;rw[do_len];have h1:=cw_le (R'.take j) x;have h2:(R'.take j).length≤R'.length:=by rw[List.length_take];exact Nat.min_le_right _ _
     have:=HRL.out;omega
    clear ho hb HO HB;by_cases hjn:j<n1
    ·obtain⟨_,_,_,e2,_,_,_,ha⟩:=hGr.form;cases e2;obtain⟨go,oo,ha1,hGo,_⟩:=ha (by omega);subst ha1;obtain⟨x0,x1,x2,x3,x4,x5,x6,x7,hjl,hLj,q0,q1,q2,q3,q4,q5,q6,q7⟩:=op_at hGo HRN.out hjn;have gl:=bLQ _ _ q0;have HDN:Hid (sdM (s1:Int) x 0 (R'.take (j+1))=sdM (s1:Int) x 0 (R'.take j)++(if x0=x then [⟨1,x,(s1:Int),(cntW (R'.take j) x:Nat),⟨x0,x1,⟨x2,x3,x4,x5,x6,x7⟩⟩⟩] else [])):=by
      show _=_;rw[do_next _ _ hjl,hLj]
     have HCN:Hid (cntW (R'.take (j+1)) x=cntW (R'.take j) x+(if x0=x then 1 else 0)):=by
      show _=_;rw[cw_next _ hjl,hLj]
     obtain⟨C,hC⟩:∃C,C=cntW (R'.take j) x:=⟨_,rfl⟩;have HCJ:Hid (C≤200):=by
      show _≤_;have h1:=HDL.out;rw[do_len] at h1;omega
     rw[←hC] at HDN HCN ⊢;obtain⟨Y,hY⟩:∃Y,Y=sdM (s1:Int) x 0 (R'.take j):=⟨_,rfl⟩;rw[←hY] at HDN HO6 HDL;obtain⟨Z,hZ⟩:∃Z,Z=X++Y:=⟨_,rfl⟩;have HZ:Hid (Z=X++Y):=hZ;rw[←hZ] at HO6;have hcb:C≤200:=HCJ.out;have jb0:(0:Int)≤(j:Int):=by omega
     have jb1:(j:Int)<(n1:Int):=by omega
     clear hGo hGr ha hLj hC hY hZ;go_upto_region 12 with fail;obtain⟨wa,hwa⟩:∃V,V=wy.alloc (.cells #[.int i64 x0,.bool x1,.int i64 x2,.int i64 x3,.int i64 x4,.int i64 x5,.int i64 x6,.int i64 x7] 37):=⟨_,rfl⟩;have hc:=op_new wy x0 x1 x2 x3 x4 x5 x6 x7 37;have hba:Below wy.heap.size wy (wy.alloc (.cells #[.int i64 x0,.bool x1,.int i64 x2,.int i64 x3,.int i64 x4,.int i64 x5,.int i64 x6,.int i64 x7] 37)):=(bRQ _ _).alloc (nLQ _) _;rw[←hwa] at hc hba ⊢;obtain⟨r0,r1,r2,r3,r4,r5,r6,r7⟩:=op_cells hc;simp only[Nat.zero_add] at r0 r1 r2 r3 r4 r5 r6 r7;have HOA:Hid (wa.ownsRow w.heap.size 39 msgE.n (.slice a6 m6 c6) Z.length (cellsG msgE Z)):=own_below HO6.out hba;have HBA:Hid (Below w.heap.size w wa):=HB6.out.trans (hba.mono HB6.out.size);clear q0 q1 q2 q3 q4 q5 q6 q7 hc hba hwa c0 c1' HO6;cases hx:(x0==x)
     ·have hne:¬x0=x:=by simpa using hx
      have HD2:Hid (sdM (s1:Int) x 0 (R'.take (j+1))=Y):=by
       show _=_;rw[HDN.out,if_neg hne,List.append_nil]
      have HC2:Hid (cntW (R'.take (j+1)) x=C):=by
       show _=_;rw[HCN.out,if_neg hne];rfl
      go_wp2;go_roundw
      case rel=>exact⟨j+1,_,_,_,by omega,by go_num,by rw[HC2.out],rfl,by rw[HD2.out,←HZ.out];exact HOA.out,HBA.out⟩
      case measure=>simp[intOf];omega
     obtain rfl:x0=x:=by simpa using hx
     have HD2:Hid (sdM (s1:Int) x0 0 (R'.take (j+1))=Y++[⟨1,x0,(s1:Int),(C:Nat),⟨x0,x1,⟨x2,x3,x4,x5,x6,x7⟩⟩⟩]):=by
      show _=_;rw[HDN.out,if_pos rfl]
     have HC2:Hid (cntW (R'.take (j+1)) x0=C+1):=by
      show _=_;rw[HCN.out,if_pos rfl]
     have HLV:Hid (Z.length≤1406):=by
      show _≤_;rw[HZ.out];have:=HXL.out;have:=HDL.out;rw[List.length_append];omega
     go_upto_region 13 with fail
     go_wp2_with (at_builtin;refine wpList_append_blk (E:=msgE) _ rfl _ _ 29 39 rfl underlying29 j0 _ 96 HI1.out HI2.out HI3.out HI4.out msg_zero w.heap.size (.slice a6 m6 c6) rfl Z (HOA.out.alloc _) wa.heap.size 0 1 rfl (⟨1,x0,(s1:Int),(C:Nat),⟨x0,x1,⟨x2,x3,x4,x5,x6,x7⟩⟩⟩:Mg) (msg_new wa 1 x0 (s1:Int) (C:Nat) x0 x1 x2 x3 x4 x5 x6 x7 39) ?c1 ?c2 ?c3 ?_)
     case c1=>have:=HLV.out;unfold maxLen;omega
     case c2=>have:=HLV.out;omega
     case c3=>have:=HBA.out.size;first | (simp;omega) | omega
     intro v' w9 ho9 hg9 _;obtain⟨a9,n9,c9,hv9⟩:∃a n c,v'=.slice a n c:=by obtain⟨a,c,h⟩:=own_form ho9;exact⟨a,_,c,h⟩
     subst hv9;have HO9:Hid (w9.ownsRow w.heap.size 39 msgE.n (.slice a9 n9 c9) (X++sdM (s1:Int) x0 0 (R'.take (j+1))).length (cellsG msgE (X++sdM (s1:Int) x0 0 (R'.take (j+1))))):=by
      show w9.ownsRow _ _ _ _ _ _;rw[HD2.out,←List.append_assoc,←HZ.out,List.length_append];exact ho9
     have HB9:Hid (Below w.heap.size w w9):=(HBA.out.alloc HBA.out.size _).grown hg9 (by have:=HBA.out.size;simp;omega) (fun g hg=>(HOA.out.lt g hg).1);have hwc:IntKind.i64.wrap ((C:Int)+1)=((C+1:Nat):Int):=by rw[IntKind.wrap_i64];omega
     clear ho9 hg9 r0 r1 r2 r3 r4 r5 r6 r7;go_wp2;go_roundw
     case rel=>exact⟨j+1,_,_,_,by omega,by go_num,by rw[HC2.out];first | rfl | simp[hwc],rfl,HO9.out,HB9.out⟩
     case measure=>simp[intOf];omega
    obtain rfl:j=n1:=by omega
    have htk:R'.take j=R':=by rw[←HRN.out];exact List.take_length
    rw[htk] at HO6 HDL ⊢;obtain⟨Y,hY⟩:∃Y,Y=sdM (s1:Int) x 0 R':=⟨_,rfl⟩;obtain⟨C,hC⟩:∃C,C=cntW R' x:=⟨_,rfl⟩;have HSN2:Hid (sayL R' (s1:Int) (D.l.take (k+1))=(X++Y)++[saM (s1:Int) x C]):=by
     show _=_;rw[HSN.out,sayS,←List.append_assoc,hY,hC]
    rw[←hY] at HO6 HDL;obtain⟨Z,hZ⟩:∃Z,Z=X++Y:=⟨_,rfl⟩;have HZ:Hid (Z=X++Y):=hZ;rw[←hZ] at HO6 HSN2;rw[←hC];have HLV:Hid (Z.length≤1406):=by
     show _≤_;rw[HZ.out];have:=HXL.out;have:=HDL.out;rw[List.length_append];omega
    clear hY hC hZ hGr;go_upto_region 15 with fail
    go_wp2_with (at_builtin;refine wpList_append_blk (E:=msgE) _ rfl _ _ 29 39 rfl underlying29 j0 _ 96 HI1.out HI2.out HI3.out HI4.out msg_zero w.heap.size (.slice a6 m6 c6) rfl Z (HO6.out.alloc _) wy.heap.size 0 1 rfl (saM (s1:Int) x C) (msg_new wy 2 x (s1:Int) (C:Nat) 0 false 0 0 0 0 0 0 39) ?c1 ?c2 ?c3 ?_)
    case c1=>have:=HLV.out;unfold maxLen;omega
    case c2=>have:=HLV.out;omega
    case c3=>have:=HB6.out.size;first | (simp;omega) | omega
    intro v' w9 ho9 hg9 _;obtain⟨a9,n9,c9,hv9⟩:∃a n c,v'=.slice a n c:=by obtain⟨a,c,h⟩:=own_form ho9;exact⟨a,_,c,h⟩
    subst hv9;have HO9:Hid (w9.ownsRow w.heap.size 39 msgE.n (.slice a9 n9 c9) (sayL R' (s1:Int) (D.l.take (k+1))).length (cellsG msgE (sayL R' (s1:Int) (D.l.take (k+1))))):=by
     show w9.ownsRow _ _ _ _ _ _;rw[HSN2.out,List.length_append];exact ho9
    have HB9:Hid (Below w.heap.size w w9):=(HB6.out.alloc HB6.out.size _).grown hg9 (by have:=HB6.out.size;simp;omega) (fun g hg=>(HO6.out.lt g hg).1);clear ho9 hg9 c0 c1';go_wp2;go_roundw
    case rel=>exact⟨k+1,_,_,_,by omega,by go_num,rfl,HO9.out,HB9.out⟩
    case measure=>simp[intOf];omega
  obtain rfl:k=nl:=by omega
  have htk:D.l.take k=D.l:=by rw[←HNL.out];exact List.take_length
  rw[htk] at HO;go_wp2;go_ret;exact⟨_,_,_,rfl,by rw[HSA.out];exact own_GS HO.out,fun ad ha=>by subst ha;exact (HO.out.lt ad.block rfl).1,HB.out⟩
theorem below_drwN (w:World)(n:Nat):Below w.heap.size w (w.drewN n):=⟨rfl,rfl,rfl,nLQ _,fun _ _=>rfl⟩
theorem emp_iff {l:List Int}{n:Nat}(h:l.length=n):l.isEmpty=decide ((n:Int)=0):=by
 subst h;cases l with
 | nil=>rfl
 | cons x l =>
   have:¬(((x :: l).length:Nat):Int)=0:=by simp;omega
   rw[decide_eq_false this];rfl
theorem rmayd_any {p B0:Nat}{O:Nat→Prop}{D:DrT}{xr xl:SlT}(w:World)(h:RfD w p B0 O D xr xl):
 Calls prog 29 #[.pointer (some ⟨p,0,none⟩)] w fun e w'=>e=.returned (.bool (mayD D))∧Below w.heap.size w w':=by
 obtain⟨ar,nr,cr⟩:=xr;obtain⟨al,nl,cl⟩:=xl;have hn:D.l.length=nl:=h.l.len;have hr:D.L.length=nr:=(h.r w (bRQ _ _)).len;have HM:Hid (mayD D=(decide ((nl:Int)=0)&&decide ((D.s:Int)<(nr:Int)))):=by
  show _=_;rw[mayD,emp_iff hn,hr]
  congr 1
  by_cases e:D.s<nr
  ·rw[decide_eq_true e,decide_eq_true (by omega)]
  rw[decide_eq_false e,decide_eq_false (by omega)]
 rw[HM.out];obtain⟨s,hs⟩:∃s:Int,s=(D.s:Int):=⟨_,rfl⟩;have c0:w.cell? ⟨p,0,none⟩=some (.slice ar nr cr):=h.c0;have c2:w.cell? ⟨p,2,none⟩=some (.int i64 s):=by rw[hs];exact h.c2
 have c3:w.cell? ⟨p,3,none⟩=some (.slice al nl cl):=h.c3;rw[←hs];clear h hn hr hs HM;by_cases h0:(nl:Int)=0
 ·have hb:decide ((nl:Int)=0)=true:=by simp[h0]
  have hb2:((nl:Int)==0)=true:=by simp[h0]
  go_enter func29,ntmps29;go_wp2
  go_quiet (fail)
  go_wp2;go_ret;have hz:nl=0:=by omega
  exact⟨by simp[hz],below_drwN _ _⟩
 have hb:decide ((nl:Int)=0)=false:=decide_eq_false h0;have hb2:((nl:Int)==0)=false:=beq_false_of_ne h0;go_enter func29,ntmps29;go_wp2
 go_quiet (fail)
 go_wp2;go_ret;have hz:¬nl=0:=by omega
 exact⟨by simp[hz],below_drwN _ _⟩
theorem dvt_nil {w w':World}{p B0:Nat}{O:Nat→Prop}{D':DrT}(h:DrR w' p B0 O D')(hk:Kb (fun b=>¬O b) w w'):DvT DrR w p B0 O D' [] (.returned (.slice none 0 0)) w':=
 ⟨none,0,0,rfl,GS.nil _,(fun _ h=>by cases h),O,h,fun b h=>.inl h,(fun _ h=>by cases h),hk⟩
theorem rtick_any {p B0:Nat}{O:Nat→Prop}{D:DrT}{xr xl:SlT}{K:Nat}(w:World)(h:RfD w p B0 O D xr xl)(hok:DrOK D K)(hK:K≤1000000):
 Calls prog 14 #[.pointer (some ⟨p,0,none⟩)] w fun e w'=>DvT DrR w p B0 O (tkS D) (tkA D) e w':=by
 obtain⟨ar,nr,cr⟩:=xr;obtain⟨al,nl,cl⟩:=xl;have hn:D.l.length=nl:=h.l.len;have c3:w.cell? ⟨p,3,none⟩=some (.slice al nl cl):=h.c3;by_cases h0:nl=0
 ·have he:D.l.isEmpty=true:=by rw[emp_iff hn,h0];rfl
  have hT:tkS D=D∧tkA D=[]:=by rw[tkS,tkA,if_pos he,if_pos he];exact⟨rfl,rfl⟩
  rw[hT.1,hT.2];have HH:Hid (RfD w p B0 O D (ar,nr,cr) (al,nl,cl)):=h;clear h hok hn he hT;go_enter func14,ntmps14;go_wp2;go_ret;exact dvt_nil ⟨_,_,HH.out⟩ (Kb.refl _ _)
 have he:D.l.isEmpty=false:=by
  rw[emp_iff hn];exact decide_eq_false (by omega)
 have h1:=h.set4 (D.k+1);obtain⟨D1,hD1⟩:∃D1,D1=({ D with k:=D.k+1 }:DrT):=⟨_,rfl⟩;have HT1:Hid (tkS D=D1):=by
  show _=_;rw[tkS,he,hD1];rfl
 have HT2:Hid (tkA D=if ((D.k+1:Nat):Int) % D.W=0 then saD D1 else []):=by
  show _=_;rw[tkA,he,hD1];rfl
 rw[←hD1] at h1;obtain⟨q,hq⟩:∃q:Int,q=((D.k+1:Nat):Int):=⟨_,rfl⟩;obtain⟨T,hTW⟩:∃T:Int,T=D.W:=⟨_,rfl⟩;obtain⟨z,hz⟩:∃z:Int,z=(D.k:Int):=⟨_,rfl⟩;rw[←hq,←hTW] at HT2;rw[←hq] at h1;have c4:w.cell? ⟨p,4,none⟩=some (.int i64 z):=by rw[hz];exact h.c4
 have f4:=h.f 4;have hq0:0≤q:=by omega
 have hT1:1≤T:=by rw[hTW];exact hok.w.1
 have hzb:z≤1000000:=by have:=hok.k;omega
 have hz0:0≤z:=by omega
 have hwr:IntKind.i64.wrap (z+1)=q:=by rw[IntKind.wrap_i64];omega
 obtain⟨w1,hw1⟩:∃V,V=w.setCell ⟨p,4,none⟩ (.int i64 q):=⟨_,rfl⟩;have HW1:Hid (w.setCell ⟨p,4,none⟩ (.int i64 q)=w1):=hw1.symm;rw[←hw1] at h1;have HK1:Hid (Kb (fun b=>¬O b) w w1):=by
  show Kb _ _ _;rw[hw1];exact (Kb.refl _ _).setCell (fun _ hn=>hn h.pO) _
 have d4:w1.cell? ⟨p,4,none⟩=some (.int i64 q):=by
  have:=h1.c4;rw[hD1] at this;rw[hq];exact this
 have d1:w1.cell? ⟨p,1,none⟩=some (.int i64 T):=by
  have:=h1.c1;rw[hTW];rw[hD1] at this;exact this
 have HH:Hid (RfD w1 p B0 O D1 (ar,nr,cr) (al,nl,cl)):=h1;have HOK:Hid (DrOK D1 (K+1)):=by
  show DrOK _ _;rw[←HT1.out];exact dk_tk hok
 rw[HT1.out,HT2.out];obtain⟨A,hA⟩:∃A,A=if q % T=0 then saD D1 else []:=⟨_,rfl⟩
 have HA:Hid (A=if q % T=0 then saD D1 else []):=hA;rw[←hA];have h0i:¬(nl:Int)=0:=by omega
 clear h hok hn he hD1 HT1 HT2 hq hTW hz hw1 h1 hA;go_enter func14,ntmps14;go_upto_region 4 with fail;rw[HW1.out];clear HW1
 go_quiet (fail)
 by_cases h2:q % T=0
 ·have h2b:(q % T != 0)=false:=by simp[h2]
  rw[h2b];have HA2:Hid (A=saD D1):=by show _=_;rw[HA.out,if_pos h2]
  have HL:Hid (RfD (w1.drewN nq) p B0 O D1 (ar,nr,cr) (al,nl,cl)):=HH.out.later (below_drwN _ _)
  go_wp2_with fail
  refine (rsay_any _ HL.out HOK.out).mono ?_;rintro e w3 ⟨a1,n1,c1,rfl,hg,hn,hb⟩;have hb1:Below w1.heap.size w1 w3:=(below_drwN w1 nq).trans hb;have HF:Hid (DvT DrR w p B0 O D1 A (.returned (.slice a1 n1 c1)) w3):=by
   show DvT _ _ _ _ _ _ _ _ _;rw[HA2.out];have hsz:w.heap.size≤w1.heap.size:=HK1.out.size;refine⟨a1,n1,c1,rfl,hg,fun ad ha=>Nat.le_trans hsz (hn ad ha),O,⟨_,_,HH.out.later hb1⟩,fun b h=>.inl h,fun ad ha h=>?_,HK1.out.trans (Kb.of_below hb1 fun b hl _=>hl)⟩;have h3:=hn ad ha;have h4:=(HH.out.lt _ h).2;have h5:(w1.drewN nq).heap.size=w1.heap.size:=rfl;omega
  clear hg hn hb hb1;go_wp2;go_ret;exact HF.out
 have h2b:(q % T != 0)=true:=by simp[h2]
 rw[h2b];have HA2:Hid (A=[]):=by show _=_;rw[HA.out,if_neg h2]
 go_wp2;go_ret;rw[HA2.out];exact dvt_nil ⟨_,_,HH.out.later (below_drwN _ _)⟩ (HK1.out.trans (Kb.of_below (below_drwN _ _) fun b hl _=>hl))
section
variable {α:Type}{r:α→α→Bool}
theorem pu_in (hr:LO r){f:α}{l:List α}(hl:Ris r l)(hf:f∈l):puR r f l=l:=by
 refine ris_ext hr (pu_ris hr f hl) hl (fun x=>(pu_mem hr f).trans ⟨?_,fun h=>.inr h⟩);rintro (rfl | h)
 ·exact hf
 exact h
theorem pu_at (hr:LO r){f:α}{l:List α}(hl:Ris r l){k:Nat}(hk:k≤l.length)(h1:∀j x,k≤j→l[j]?=some x→r f x=true)(h2:∀j x,j<k→l[j]?=some x→r x f=true):puR r f l=l.take k++[f]++l.drop k:=by
 have hris:Ris r (l.take k++[f]++l.drop k):=by
  unfold Ris at hl ⊢;have hl2:=hl;rw[←List.take_append_drop k l,List.pairwise_append] at hl2;obtain⟨a1,a2,a3⟩:=hl2;have t1:∀x∈l.take k,r x f=true:=fun x hx=>by
   obtain⟨j,hj,e⟩:=List.mem_take_iff_getElem.1 hx;exact h2 j x (by omega) (by rw[←e];exact List.getElem?_eq_getElem (by omega))
  have t2:∀x∈l.drop k,r f x=true:=fun x hx=>by
   obtain⟨j,hj,e⟩:=List.mem_drop_iff_getElem.1 hx;exact h1 (k+j) x (by omega) (by rw[←e];exact List.getElem?_eq_getElem (by omega))
  rw[List.append_assoc,List.pairwise_append];refine⟨a1,?_,?_⟩
  ·rw[List.singleton_append,List.pairwise_cons];exact⟨t2,a2⟩
  intro x hx y hy
  rcases List.mem_append.1 hy with hy | hy
  ·obtain rfl:y=f:=by simpa using hy
   exact t1 x hx
  exact a3 x hx y hy
 refine ris_ext hr (pu_ris hr f hl) hris (fun x=>(pu_mem hr f).trans ?_);rw[List.mem_append,List.mem_append,List.mem_singleton];constructor
 ·rintro (h | h)
  ·exact .inl (.inr h)
  rw[←List.take_append_drop k l,List.mem_append] at h;exact h.elim (fun h=>.inl (.inl h)) .inr
 rintro ((h | h) | h)
 ·exact .inr (List.mem_of_mem_take h)
 ·exact .inl h
 exact .inr (List.mem_of_mem_drop h)
theorem ris_lt (hr:LO r){l:List α}(hl:Ris r l){i j:Nat}{x y:α}(hij:i<j)(hx:l[i]?=some x)(hy:l[j]?=some y):r x y=true:=by
 unfold Ris at hl;rw[List.pairwise_iff_getElem] at hl;obtain⟨h1,rfl⟩:=List.getElem?_eq_some_iff.1 hx;obtain⟨h2,rfl⟩:=List.getElem?_eq_some_iff.1 hy;exact hl i j h1 h2 hij
end
theorem header_yes (n:Int)(w:World)(h:hdrB n=true):
 Calls prog 46 #[.int i64 n] w fun e w'=>e=.returned (.bool true)∧w'=w:=by
 obtain⟨h1,h2⟩:=hdr_of h;clear h;go_enter func46,ntmps46;go_wp2;go_ret;exact⟨rfl,rfl⟩
theorem header_no (n:Int)(w:World)(h:hdrB n=false):
 Calls prog 46 #[.int i64 n] w fun e w'=>e=.returned (.bool false)∧w'=w:=by
 rcases hdr_no h with h1 | h1
 ·clear h;go_enter func46,ntmps46;go_wp2;go_ret;exact⟨rfl,rfl⟩
 have h2:0≤n:=by omega
 have h3:decide (n<16)=false:=by simp;omega
 clear h;go_enter func46,ntmps46;go_wp2;go_ret;exact⟨rfl,rfl⟩
theorem header_any (n:Int)(w:World):
 Calls prog 46 #[.int i64 n] w fun e w'=>e=.returned (.bool (hdrB n))∧w'=w:=by
 cases h:hdrB n
 ·exact header_no n w h
 exact header_yes n w h
theorem refCube_any (m b:Int)(w:World):
 Calls prog 47 #[.agg #[.int i64 m,.int i64 b]] w fun e w'=>e=.returned (.int i64 (refN m b))∧Below w.heap.size w w':=by
 cases hr:rngB m b
 ·rw[refN_range hr];have HH:hdrB m=false∨(hdrB m=true∧hdrB b=false):=by
   cases h1:hdrB m
   ·exact .inl rfl
   exact .inr ⟨rfl,by simpa[rngB,h1] using hr⟩
  rcases HH with hm | ⟨hm,hb⟩
  all_goals
   clear hr;go_enter func47,ntmps47
   go_wp2_with fail
   refine (header_any _ _).mono ?_;rintro e w' ⟨rfl,rfl⟩
   go_wp2_with fail
   refine (header_any _ _).mono ?_;rintro e w' ⟨rfl,rfl⟩;go_wp2;go_ret;exact⟨rfl,(bRQ _ _).alloc (nLQ _) _⟩
 have hm:hdrB m=true:=hdr_mk (rng_of hr).1;have hb:hdrB b=true:=hdr_mk (rng_of hr).2;cases ho:okB m b
 ·rw[refN_shape ho hr];have hz:(bits .and .i64 b m==b)=false:=by rw[andEq hr,ho]
  clear hr ho;go_enter func47,ntmps47
  go_wp2_with fail
  refine (header_any _ _).mono ?_;rintro e w' ⟨rfl,rfl⟩
  go_wp2_with fail
  refine (header_any _ _).mono ?_;rintro e w' ⟨rfl,rfl⟩;go_wp2;go_ret;exact⟨rfl,(bRQ _ _).alloc (nLQ _) _⟩
 rw[refN_ok ho];have hz:(bits .and .i64 b m==b)=true:=by rw[andEq hr,ho]
 clear hr ho;go_enter func47,ntmps47
 go_wp2_with fail
 refine (header_any _ _).mono ?_;rintro e w' ⟨rfl,rfl⟩
 go_wp2_with fail
 refine (header_any _ _).mono ?_;rintro e w' ⟨rfl,rfl⟩;go_wp2;go_ret;exact⟨rfl,(bRQ _ _).alloc (nLQ _) _⟩
end
section
open Go.ChangeShapes Go.WideShapes Go.ChangeAt Go.RowKit Go.Joins
def hopE:Enc ((Int×Int)×Int) where
 c:=fun x=>[.int i64 x.1.1,.int i64 x.1.2,.int i64 x.2]
 n:=3
 len:=fun _=>rfl
 pos:=by decide
 one:=by
  intro x u hu;simp at hu
  rcases hu with rfl | rfl | rfl <;> rfl
end
section
open Go.RowKit
theorem infoByte:(Tryd.prog.info? 5).map (fun i=>(i.zero,i.size,i.bytes))=some (some (.int .u8 0),1,1):=by kernel_rfl
theorem run_clear_of (w w':World)(t e ty:TypeId)(ht:Tryd.prog.underlying t=some (.slice e))(b o n c:Nat)(hn:0<n)(z:Value)(hv:∀w,(zeroValue e).run prog w=.ok z w)(Z:List Value)
 (hZ:(Builtin.zeroCells z.cells n).toList=Z) (hst:(storeCells ⟨b,o,none⟩ Z 0).run prog w=.ok () w'):(Builtin.clear_ #[t] ty #[.slice (some ⟨b,o,none⟩) n c]).run prog w=.ok (.tuple #[]) w':=by
 obtain⟨m,rfl⟩:∃m,n=m+1:=⟨n-1,by omega⟩;simp[Builtin.clear_,run_underlying ht,hv,hZ,hst]
def HC (w:World)(B:Nat)(S S':Int)(a1 a2 b1 b2:Value)(g o:Nat)(x0:ByteArray)(x1 x2:Int)(g' o':Nat)(y0:ByteArray)(y1 y2:Int)(w':World):Prop:=
 Below w.heap.size w w'∧TBox w' B S a1 a2∧TBox w' (B+1) S' b1 b2∧(w'.cell? ⟨g,o,none⟩=some (.string x0)∧w'.cell? ⟨g,o+1,none⟩=some (.int i64 x1)∧w'.cell? ⟨g,o+2,none⟩=some (.int i64 x2)) ∧
  w'.cell? ⟨g',o',none⟩=some (.string y0)∧w'.cell? ⟨g',o'+1,none⟩=some (.int i64 y1)∧w'.cell? ⟨g',o'+2,none⟩=some (.int i64 y2)
theorem HC.later {w W W':World}{B:Nat}{S S':Int}{a1 a2 b1 b2:Value}{g o:Nat}{x0:ByteArray}{x1 x2:Int}{g' o':Nat}{y0:ByteArray}{y1 y2:Int}(hb:Below W.heap.size W W')(h:HC w B S S' a1 a2 b1 b2 g o x0 x1 x2 g' o' y0 y1 y2 W):HC w B S S' a1 a2 b1 b2 g o x0 x1 x2 g' o' y0 y1 y2 W':=by
 obtain⟨h0,t1,t2,⟨h1,h2,h3⟩,k1,k2,k3⟩:=h;exact⟨h0.trans (hb.mono h0.size),t1.later hb,t2.later hb,⟨cell_later hb h1,cell_later hb h2,cell_later hb h3⟩,cell_later hb k1,cell_later hb k2,cell_later hb k3⟩
section
variable {W W':World}{g:Nat}{S:Int}{v1 v2 v3:Value}
end
section
variable {W W':World}{B:Nat}{S:Int}{v1 v2 v3:Value}{s:Int}{u1 u2 u3:Value}
end
theorem falloc {w w':World}{o:Obj}(hb:Below (w.drew.alloc o).heap.size (w.drew.alloc o) w'):Below w.heap.size w w':=((Below.drew (bRQ _ _)).alloc (nLQ _) o).trans (hb.mono (by simp))
theorem vat_sl {W:World}{g q:Nat}{y:SlT}(h:W.cell? ⟨g,q,none⟩=some (slV y)):VAt W g q (slE.c y):=by
 intro j u hu;obtain rfl:j=0:=by
  have:=(List.getElem?_eq_some_iff.1 hu).1;have e:(slE.c y).length=1:=rfl;omega
 have e4:slV y=u:=Option.some.inj hu;rw[Nat.add_zero,←e4];exact h
structure Wi where
 k:Int
 f:ByteArray
 t:ByteArray
 v:Int
section
variable (Ls:LkQ)(Hs:HoQ)(Ts:TsQ)
end
section
variable {Ls:LkQ}{Hs:HoQ}{Ts:TsQ}
variable {Xs:HoQ}
variable {l:List Wi}
end
abbrev Ft:=Int×ByteArray×HpQ
section
variable {l:List Wi}{m:ByteArray}
end
section
variable {l:List Wi}{Hs:HoQ}{Fs:Nat→Nat→List Ft}
end
section
variable {Ls:LkQ}{Hs:HoQ}{Ts:TsQ}{Xs:HoQ}{l:List Wi}
end
end
section
open Go.RowKit Go.Shelf
attribute [local go_sem] Oper.semAt_some
theorem GS.kb {α:Type}{E:Enc α}{W W':World}{v:Value}{L:List α}{p:Nat→Prop}(h:GS E W v L)(hk:Kb p W W')(hp:∀q u,W.cell? q=some u→p q.block):GS E W' v L:=by
 rcases h with ⟨ao',cap',e,rfl⟩ | ⟨g,o,cap',e,h1,h2,h3⟩
 ·exact .inl ⟨ao',cap',e,rfl⟩
 exact .inr ⟨g,o,cap',e,h1,h2,fun i hi j u hu=>hk.at (h3 i hi j u hu) (hp _ _ (h3 i hi j u hu))⟩
end
section
open Go.RowKit Go.Shelf
attribute [local go_sem] Oper.semAt_some
theorem own_kbm {W W':World}{B e size n:Nat}{v:Value}{xs:List Value}{p:Nat→Prop}(h:W.ownsRow B e size v n xs)(hk:Kb p W W')(hp:∀g,v.ownBlock=some g→p g):W'.ownsRow B e size v n xs:=by
 refine⟨h.1,?_⟩
 rcases h.2 with ⟨rfl,rfl⟩ | ⟨g,cap,cur,rfl,h1,hg,h2⟩
 ·exact .inl ⟨rfl,rfl⟩
 exact .inr ⟨g,cap,cur,rfl,h1,(hk.block g (Array.getElem?_eq_some_iff.1 hg).1 (hp g rfl)).trans hg,h2⟩
section
variable {l lo n₀:Nat}{J:Nat→(Nat→Prop)→World→Prop}{Jx:World→Prop}{L:List Ft}{w:World}{vo vy:Value}{m:Nat}{Ls:LkQ}{Hs:HoQ}{As Bs:TsQ}
end
end
section
open Go.RowKit
section
variable (Ls:LkQ)(Hs:HoQ)(As Bs:TsQ)
variable {Ls Hs As Bs}
end
def SK (a:AdQ)(n c:Nat):Prop:=(a=none∧n=0∧c=0)∨0<n
theorem in_any (ao:AdQ)(n cap:Nat)(L:List Int)(x:Int)(w:World)(h:GS inE w (.slice ao n cap) L):
 Calls prog 33 #[.slice ao n cap,.int i64 x] w fun e w'=>e=.returned (.bool (L.any fun y=>y==x))∧w'=w:=by
 obtain⟨_,_,_,e1,hn,hn2,_,ha⟩:=h.form;cases e1;have HN:Hid (L.length=n):=hn;have HA:Hid (0<n→∃g o,ao=some ⟨g,o,none⟩∧GAt inE w g o L∧cap≤maxLen):=ha;unfold maxLen at hn2;obtain⟨R,hR⟩:∃R,R=L.any fun y=>y==x:=⟨_,rfl⟩
 have HR:Hid (R=L.any fun y=>y==x):=hR;rw[←hR];clear h hn ha hR;go_enter func33,ntmps33;go_wp2
 go_loopw [5] (fun i wr=>∃k:Nat,k≤n∧i=.int i64 k∧(L.take k).any (fun y=>y==x)=false∧wr=w) (fun i _=>n-(intOf i).toNat)
 case atStart=>exact⟨0,by omega,rfl,rfl,rfl⟩
 case round =>
  obtain⟨k,hk,rfl,hno,hwz⟩:=hrel;have hwy:=hwz.symm;subst hwy;have HNO:Hid ((L.take k).any (fun y=>y==x)=false):=hno;clear hwz hno;by_cases hlt:k<n
  ·obtain⟨g,o,hao,hG,_⟩:=HA.out (by omega);subst hao;obtain⟨y,hkl,hLk,c0⟩:=in_at hG HN.out hlt;have kb0:(0:Int)≤(k:Int):=by omega
   have kb1:(k:Int)<(n:Int):=by omega
   clear hG;cases hy:(y==x)
   ·have HN2:Hid ((L.take (k+1)).any (fun y=>y==x)=false):=any_nextG hkl HNO.out (by rw[hLk];exact hy);go_wp2;go_roundw
    case rel=>exact⟨k+1,by omega,by go_num,HN2.out,by first | rfl | trivial⟩
    case measure=>simp[intOf];omega
   have HT:Hid (R=true):=by
    show R=true;rw[HR.out];exact any_hitG hkl (by rw[hLk];exact hy)
   go_wp2;go_ret;exact⟨by rw[HT.out];rfl,rfl⟩
  obtain rfl:k=n:=by omega
  have HF:Hid (R=false):=by
   show R=false;rw[HR.out];have:=HNO.out
   rwa [←HN.out,List.take_length] at this
  go_wp2;go_ret;exact⟨by rw[HF.out];rfl,rfl⟩
theorem hid_len2 {α:Type}{l:List α}{x:α}{k:Nat}(h:l.length=k):(l++[x]).length=k+1:=by simp[h]
theorem rtouched_own (ao:AdQ)(n cap:Nat)(l:List Op8)(w:World)(h:GS opE w (.slice ao n cap) l)(hn0:n≤2199023255552):
 Calls prog 30 #[.slice ao n cap] w fun e w'=>∃a3 m c3,e=.returned (.slice a3 m c3)∧GS inE w' (.slice a3 m c3) (tcL l)∧(∀ad,a3=some ad→w.heap.size≤ad.block)∧Below w.heap.size w w':=by
 obtain⟨_,_,_,e1,hn,hn2,_,ha⟩:=h.form;cases e1;have HN:Hid (l.length=n):=hn;have HA:Hid (0<n→∃g o,ao=some ⟨g,o,none⟩∧GAt opE w g o l∧cap≤maxLen):=ha;unfold maxLen at hn2;clear h hn ha;go_enter func30,ntmps30;go_wp2
 go_loopw [3,4] (fun v i wr=>∃(k m c3:Nat) (a3:AdQ),k≤n∧i=.int i64 k∧v=.slice a3 m c3∧GS inE wr (.slice a3 m c3) (tcL (l.take k))∧SK a3 m c3∧(∀ad,a3=some ad→w.heap.size≤ad.block)∧Below w.heap.size w wr) (fun _ i _=>n-(intOf i).toNat)
 case atStart=>exact⟨0,0,0,none,by omega,rfl,rfl,.inl ⟨none,0,rfl,rfl⟩,.inl ⟨rfl,rfl,rfl⟩,(fun ad h=>by cases h),bRQ _ _⟩
 case round =>
  obtain⟨i,m,c3,a3,hi,rfl,rfl,hG,hSK,hNW,hB⟩:=hrel;have HNW:Hid (∀ad,a3=some ad→w.heap.size≤ad.block):=hNW;obtain⟨wr0,hw0⟩:∃X,X=wr:=⟨_,rfl⟩;subst hw0;have HB:Hid (Below w.heap.size w wr0):=hB;have HSK:Hid (SK a3 m c3):=hSK;have HMM:Hid ((tcL (l.take i)).length=m):=hG.len;have HGR:Hid (∀W,Below wr0.heap.size wr0 W→GS inE W (.slice a3 m c3) (tcL (l.take i))):=fun W hb=>hG.later hb
  have HG0:Hid (GS inE wr0 (.slice a3 m c3) (tcL (l.take i))):=hG;have HRI:Hid (Ris ltI (tcL (l.take i))):=tc_ris _ _ List.Pairwise.nil;have hmn:m≤i:=by
   have h1:=tc_few (l.take i) [];have h2:(l.take i).length≤i:=List.length_take_le i l;have h3:=HMM.out;unfold tcL at h3;simp only[List.length_nil,Nat.zero_add] at h1;omega
  clear hG hSK hNW hB;by_cases hlt:i<n
  ·obtain⟨g,o,hao,hc,_⟩:=HA.out (by omega);subst hao;obtain⟨x0,x1,x2,x3,x4,x5,x6,x7,hil,hLi,_⟩:=op_at hc HN.out hlt;have HCO:Hid (∀W,Below wr0.heap.size wr0 W→W.cell? ⟨g,o+i*8,none⟩=some (.int i64 x0)):=fun W hb=>by
    obtain⟨y0,_,_,_,_,_,_,_,_,e,c0,_⟩:=op_at (hc.later (HB.out.trans (hb.mono HB.out.size))) HN.out hlt;rw[hLi] at e;cases e;exact c0
   have HTN:Hid (tcL (l.take (i+1))=puR ltI x0 (tcL (l.take i))):=show _=_ by
    rw[tc_next hil,hLi]
   obtain⟨R,hR⟩:∃R,R=tcL (l.take i):=⟨_,rfl⟩;rw[←hR] at HMM HGR HG0 HRI HTN;have ib0:(0:Int)≤(i:Int):=by omega
   have ib1:(i:Int)<(n:Int):=by omega
   clear hc hLi hR;go_upto_region 5 with fail;go_wp2
   go_loopw [5] (fun q wr=>∃k:Nat,k≤m∧q=.int i64 k∧(∀j x,k≤j→R[j]?=some x→ltI x0 x=true)∧Below wr0.heap.size wr0 wr) (fun q _=>(intOf q).toNat)
   case atStart=>exact⟨m,nLQ _,rfl,fun j x hj hx=>by
    have:=(List.getElem?_eq_some_iff.1 hx).1;have:=HMM.out;omega,bRQ _ _⟩
   case round =>
    obtain⟨k,hk,rfl,hall,hBz⟩:=hrel;obtain⟨wz,hwz⟩:∃X,X=wr:=⟨_,rfl⟩;subst hwz;have HBZ:Hid (Below wr0.heap.size wr0 wz):=hBz;have HALL:Hid (∀j x,k≤j→R[j]?=some x→ltI x0 x=true):=hall;obtain⟨BQ,hBQ⟩:∃b:Bool,b=(decide (0<k)&&decide (R.getD (k-1) 0 > x0)):=⟨_,rfl⟩;have HBQ:Hid ((decide (0<k)&&decide (R.getD (k-1) 0 > x0))=BQ):=hBQ.symm;clear hall hBz hBQ;go_upto_region 6 with fail
    go_cut [29] from 15 to 28 (fun q w'=>q=.bool BQ∧Below wz.heap.size wz w')
    case first =>
     by_cases hk0:0<k
     ·obtain⟨jj,hjj⟩:∃jj,k=jj+1:=⟨k-1,by omega⟩;obtain⟨_,_,_,e9,_,_,_,hRa⟩:=(HGR.out _ HBZ.out).form;cases e9;obtain⟨gr,qr,ha3,hGa,_⟩:=hRa (by omega);subst ha3;obtain⟨xr,hxl,hxr,hcx⟩:=in_at hGa HMM.out (show jj<m by omega);have hbq:BQ=decide (xr > x0):=by
       rw[←HBQ.out,hjj];simp[List.getD,hxl,hxr]
      have HCQ:Hid (wz.cell? ⟨gr,qr+jj,none⟩=some (.int i64 xr)∧wz.cell? ⟨g,o+i*8,none⟩=some (.int i64 x0)):=⟨hcx,HCO.out _ HBZ.out⟩;have hsub:IntKind.i64.wrap ((k:Int)-1)=(jj:Int):=by rw[IntKind.wrap_i64];omega
      have jb0:(0:Int)≤(jj:Int):=by omega
      have jb1:(jj:Int)<(m:Int):=by omega
      have kb0:decide ((0:Int)<(k:Int))=true:=by simp;omega
      subst hbq;clear hRa hGa hxr hcx hjj
      as_aux_lemma =>
       refine wp_region_quiet (C:=fun W=>Below wz.heap.size wz W∧W.cell? ⟨gr,qr+jj,none⟩=some (.int i64 xr)∧W.cell? ⟨g,o+i*8,none⟩=some (.int i64 x0)) (by kernel_rfl) (by kernel_rfl) ⟨Below.drew (bRQ _ _),HCQ.out⟩ ?_;simp only[List.toList_toArray];go_big_quiet_want;refine qv (.int i64 (k:Int)) ?_ ?_
       ·rintro w' ⟨z0,z1,z2⟩;go_simp
       simp only[Act.put,AP];go_big_quiet_on;go_big_quiet_want;refine qv (.bool true) ?_ ?_
       ·rintro w' ⟨z0,z1,z2⟩;go_simp
       simp only[Act.put,AP];go_big_quiet_on;go_big_quiet_want;refine qv (.bool true) ?_ ?_
       ·rintro w' ⟨z0,z1,z2⟩;go_simp
       simp only[Act.put,AP];go_big_quiet_on;go_big_quiet_want;refine qv (.slice (some ⟨gr,qr,none⟩) m c3) ?_ ?_
       ·rintro w' ⟨z0,z1,z2⟩;go_simp
       simp only[Act.put,AP];go_big_quiet_on;go_big_quiet_want;refine qv (.int i64 (k:Int)) ?_ ?_
       ·rintro w' ⟨z0,z1,z2⟩;go_simp
       simp only[Act.put,AP];go_big_quiet_on;go_big_quiet_want;refine qv (.int i64 (jj:Int)) ?_ ?_
       ·rintro w' ⟨z0,z1,z2⟩;go_simp
       simp only[Act.put,AP];go_big_quiet_on;go_big_quiet_want;refine qv (.pointer (some ⟨gr,qr+jj,none⟩)) ?_ ?_
       ·rintro w' ⟨z0,z1,z2⟩;go_simp
       simp only[Act.put,AP];go_big_quiet_on;go_big_quiet_want;refine qv (.int i64 xr) ?_ ?_
       ·rintro w' ⟨z0,z1,z2⟩;go_simp
       simp only[Act.put,AP];go_big_quiet_on;go_big_quiet_want;refine qv (.slice (some ⟨g,o,none⟩) n cap) ?_ ?_
       ·rintro w' ⟨z0,z1,z2⟩;go_simp
       simp only[Act.put,AP];go_big_quiet_on;go_big_quiet_want;refine qv (.int i64 (i:Int)) ?_ ?_
       ·rintro w' ⟨z0,z1,z2⟩;go_simp
       simp only[Act.put,AP];go_big_quiet_on;go_big_quiet_want;refine qv (.pointer (some ⟨g,o+i*8,none⟩)) ?_ ?_
       ·rintro w' ⟨z0,z1,z2⟩;go_simp
       simp only[Act.put,AP];go_big_quiet_on;go_big_quiet_want;refine qv (.pointer (some ⟨g,o+i*8,none⟩)) ?_ ?_
       ·rintro w' ⟨z0,z1,z2⟩;go_simp
       simp only[Act.put,AP];go_big_quiet_on;go_big_quiet_want;refine qv (.int i64 x0) ?_ ?_
       ·rintro w' ⟨z0,z1,z2⟩;go_simp
       simp only[Act.put,AP];go_big_quiet_on;go_big_quiet_want;refine qv (.bool (decide (xr > x0))) ?_ ?_
       ·rintro w' ⟨z0,z1,z2⟩;go_simp
       simp only[Act.put,AP];go_big_quiet_on;go_big_quiet_want;refine qv (.bool (decide (xr > x0))) ?_ ?_
       ·rintro w' ⟨z0,z1,z2⟩;go_simp
       simp only[Act.put,AP];go_big_quiet_on;refine wpQuiet_nil ?_;intro w' hC
       go_wp2_with fail
       go_meet
       case rel=>exact⟨rfl,hC.1⟩
     obtain rfl:k=0:=by omega
     have hbq:BQ=false:=by
      rw[←HBQ.out];simp
     subst hbq
     as_aux_lemma =>
      refine wp_region_quiet (C:=fun W=>Below wz.heap.size wz W) (by kernel_rfl) (by kernel_rfl) (Below.drew (bRQ _ _)) ?_;simp only[List.toList_toArray];go_big_quiet_want;refine qv (.int i64 0) ?_ ?_
      ·rintro w' z0;go_simp
      simp only[Act.put,AP];go_big_quiet_on;go_big_quiet_want;refine qv (.bool false) ?_ ?_
      ·rintro w' z0;go_simp
      simp only[Act.put,AP];go_big_quiet_on;go_big_quiet_want;refine qv (.bool false) ?_ ?_
      ·rintro w' z0;go_simp
      simp only[Act.put,AP];go_big_quiet_on;go_big_quiet_skip;go_big_quiet_skip;go_big_quiet_skip;go_big_quiet_skip;go_big_quiet_skip;go_big_quiet_skip;go_big_quiet_skip;go_big_quiet_skip;go_big_quiet_skip;go_big_quiet_skip;go_big_quiet_skip;go_big_quiet_want;refine qv (.bool false) ?_ ?_
      ·rintro w' z0;go_simp
      simp only[Act.put,AP];go_big_quiet_on;refine wpQuiet_nil ?_;intro w' hC
      go_wp2_with fail
      go_meet
      case rel=>exact⟨rfl,hC⟩
    case rest =>
     obtain⟨rfl,hbq2⟩:=hcut;have HBC:Hid (Below wr0.heap.size wr0 wc):=HBZ.out.trans (hbq2.mono HBZ.out.size);clear hbq2 HBZ;cases BQ with
     | true =>
       have hb:=HBQ.out;simp only[Bool.and_eq_true,decide_eq_true_eq] at hb;have HALL2:Hid (∀j x,k-1≤j→R[j]?=some x→ltI x0 x=true):=fun j x hj hx=>by
        by_cases e:j=k-1
        ·subst e;have h2:=hb.2;simp only[List.getD,hx,Option.getD_some] at h2;simpa[ltI] using h2
        exact HALL.out j x (by omega) hx
       have hk1:0<k:=hb.1;have hsub:IntKind.i64.wrap ((k:Int)-1)=((k-1:Nat):Int):=by rw[IntKind.wrap_i64];omega
       clear hb;go_wp2;go_roundw
       case rel=>exact⟨k-1,by omega,by first | rfl | (simp only[hsub]),HALL2.out,HBC.out⟩
       case measure=>simp[intOf,hsub];omega
     | false =>
       have HNG:Hid (0<k→R.getD (k-1) 0≤x0):=fun h=>by
        have hb:=HBQ.out;simp[h] at hb;simpa using hb
       clear HBQ;obtain⟨wy,hwy⟩:∃X,X=wc:=⟨_,rfl⟩;subst hwy;have HBZ:Hid (Below wr0.heap.size wr0 wy):=HBC.out;obtain⟨BQ,hBQ⟩:∃b:Bool,b=(decide (0<k)&&(R.getD (k-1) 0==x0)):=⟨_,rfl⟩;have HBQ:Hid ((decide (0<k)&&(R.getD (k-1) 0==x0))=BQ):=hBQ.symm;clear hBQ HBC;go_upto_region 8 with fail
       go_cut [46] from 32 to 45 (fun q w'=>q=.bool BQ∧Below wy.heap.size wy w')
       case first =>
        by_cases hk0:0<k
        ·obtain⟨jj,hjj⟩:∃jj,k=jj+1:=⟨k-1,by omega⟩;obtain⟨_,_,_,e9,_,_,_,hRa⟩:=(HGR.out _ HBZ.out).form;cases e9;obtain⟨gr,qr,ha3,hGa,_⟩:=hRa (by omega);subst ha3;obtain⟨xr,hxl,hxr,hcx⟩:=in_at hGa HMM.out (show jj<m by omega);have hbq:BQ=(xr==x0):=by
          rw[←HBQ.out,hjj];simp[List.getD,hxl,hxr]
         have HCQ:Hid (wy.cell? ⟨gr,qr+jj,none⟩=some (.int i64 xr)∧wy.cell? ⟨g,o+i*8,none⟩=some (.int i64 x0)):=⟨hcx,HCO.out _ HBZ.out⟩;have hsub:IntKind.i64.wrap ((k:Int)-1)=(jj:Int):=by rw[IntKind.wrap_i64];omega
         have jb0:(0:Int)≤(jj:Int):=by omega
         have jb1:(jj:Int)<(m:Int):=by omega
         have kb0:decide ((0:Int)<(k:Int))=true:=by simp;omega
         subst hbq;clear hRa hGa hxr hcx hjj
         as_aux_lemma =>
          refine wp_region_quiet (C:=fun W=>Below wy.heap.size wy W∧W.cell? ⟨gr,qr+jj,none⟩=some (.int i64 xr)∧W.cell? ⟨g,o+i*8,none⟩=some (.int i64 x0)) (by kernel_rfl) (by kernel_rfl) ⟨Below.drew (bRQ _ _),HCQ.out⟩ ?_;simp only[List.toList_toArray];go_big_quiet_want;refine qv (.int i64 (k:Int)) ?_ ?_
          ·rintro w' ⟨z0,z1,z2⟩;go_simp
          simp only[Act.put,AP];go_big_quiet_on;go_big_quiet_want;refine qv (.bool true) ?_ ?_
          ·rintro w' ⟨z0,z1,z2⟩;go_simp
          simp only[Act.put,AP];go_big_quiet_on;go_big_quiet_want;refine qv (.bool true) ?_ ?_
          ·rintro w' ⟨z0,z1,z2⟩;go_simp
          simp only[Act.put,AP];go_big_quiet_on;go_big_quiet_want;refine qv (.slice (some ⟨gr,qr,none⟩) m c3) ?_ ?_
          ·rintro w' ⟨z0,z1,z2⟩;go_simp
          simp only[Act.put,AP];go_big_quiet_on;go_big_quiet_want;refine qv (.int i64 (k:Int)) ?_ ?_
          ·rintro w' ⟨z0,z1,z2⟩;go_simp
          simp only[Act.put,AP];go_big_quiet_on;go_big_quiet_want;refine qv (.int i64 (jj:Int)) ?_ ?_
          ·rintro w' ⟨z0,z1,z2⟩;go_simp
          simp only[Act.put,AP];go_big_quiet_on;go_big_quiet_want;refine qv (.pointer (some ⟨gr,qr+jj,none⟩)) ?_ ?_
          ·rintro w' ⟨z0,z1,z2⟩;go_simp
          simp only[Act.put,AP];go_big_quiet_on;go_big_quiet_want;refine qv (.int i64 xr) ?_ ?_
          ·rintro w' ⟨z0,z1,z2⟩;go_simp
          simp only[Act.put,AP];go_big_quiet_on;go_big_quiet_want;refine qv (.slice (some ⟨g,o,none⟩) n cap) ?_ ?_
          ·rintro w' ⟨z0,z1,z2⟩;go_simp
          simp only[Act.put,AP];go_big_quiet_on;go_big_quiet_want;refine qv (.int i64 (i:Int)) ?_ ?_
          ·rintro w' ⟨z0,z1,z2⟩;go_simp
          simp only[Act.put,AP];go_big_quiet_on;go_big_quiet_want;refine qv (.pointer (some ⟨g,o+i*8,none⟩)) ?_ ?_
          ·rintro w' ⟨z0,z1,z2⟩;go_simp
          simp only[Act.put,AP];go_big_quiet_on;go_big_quiet_want;refine qv (.pointer (some ⟨g,o+i*8,none⟩)) ?_ ?_
          ·rintro w' ⟨z0,z1,z2⟩;go_simp
          simp only[Act.put,AP];go_big_quiet_on;go_big_quiet_want;refine qv (.int i64 x0) ?_ ?_
          ·rintro w' ⟨z0,z1,z2⟩;go_simp
          simp only[Act.put,AP];go_big_quiet_on;go_big_quiet_want;refine qv (.bool (xr==x0)) ?_ ?_
          ·rintro w' ⟨z0,z1,z2⟩;go_simp
          simp only[Act.put,AP];go_big_quiet_on;go_big_quiet_want;refine qv (.bool (xr==x0)) ?_ ?_
          ·rintro w' ⟨z0,z1,z2⟩;go_simp
          simp only[Act.put,AP];go_big_quiet_on;refine wpQuiet_nil ?_;intro w' hC
          go_wp2_with fail
          go_meet
          case rel=>exact⟨rfl,hC.1⟩
        obtain rfl:k=0:=by omega
        have hbq:BQ=false:=by
         rw[←HBQ.out];simp
        subst hbq
        as_aux_lemma =>
         refine wp_region_quiet (C:=fun W=>Below wy.heap.size wy W) (by kernel_rfl) (by kernel_rfl) (Below.drew (bRQ _ _)) ?_;simp only[List.toList_toArray];go_big_quiet_want;refine qv (.int i64 0) ?_ ?_
         ·rintro w' z0;go_simp
         simp only[Act.put,AP];go_big_quiet_on;go_big_quiet_want;refine qv (.bool false) ?_ ?_
         ·rintro w' z0;go_simp
         simp only[Act.put,AP];go_big_quiet_on;go_big_quiet_want;refine qv (.bool false) ?_ ?_
         ·rintro w' z0;go_simp
         simp only[Act.put,AP];go_big_quiet_on;go_big_quiet_skip;go_big_quiet_skip;go_big_quiet_skip;go_big_quiet_skip;go_big_quiet_skip;go_big_quiet_skip;go_big_quiet_skip;go_big_quiet_skip;go_big_quiet_skip;go_big_quiet_skip;go_big_quiet_skip;go_big_quiet_want;refine qv (.bool false) ?_ ?_
         ·rintro w' z0;go_simp
         simp only[Act.put,AP];go_big_quiet_on;refine wpQuiet_nil ?_;intro w' hC
         go_wp2_with fail
         go_meet
         case rel=>exact⟨rfl,hC⟩
       case rest =>
        obtain⟨rfl,hbq2⟩:=hcut;have HBC:Hid (Below wr0.heap.size wr0 wc):=HBZ.out.trans (hbq2.mono HBZ.out.size);clear hbq2 HBZ;cases BQ with
        | true =>
          have hb:=HBQ.out;simp only[Bool.and_eq_true,decide_eq_true_eq,beq_iff_eq] at hb;have HIN:Hid (puR ltI x0 R=R):=pu_in lo_ltI HRI.out (by
           have hl:k-1<R.length:=by have:=HMM.out;omega
           rw[←hb.2];simp[List.getD,hl])
          have HGC:Hid (GS inE wc (.slice a3 m c3) R):=HGR.out _ HBC.out;have HBW:Hid (Below w.heap.size w wc):=HB.out.trans (HBC.out.mono HB.out.size);clear hb;go_wp2;go_roundw
          case rel=>exact⟨i+1,m,c3,a3,by omega,by go_num,rfl,by rw[HTN.out,HIN.out];exact HGC.out,HSK.out,HNW.out,HBW.out⟩
          case measure=>simp[intOf];omega
        | false =>
          have HLT:Hid (∀j x,j<k→R[j]?=some x→ltI x x0=true):=fun j x hj hx=>by
           have hl:k-1<R.length:=by have:=HMM.out;omega
           have h1:ltI R[k-1] x0=true:=by
            have h2:=HNG.out (by omega);have h3:=HBQ.out;have h4:0<k:=by omega
            simp[List.getD,hl,h4] at h2 h3;simp only[ltI,decide_eq_true_eq];omega
           by_cases e:j=k-1
           ·subst e;rw[List.getElem?_eq_getElem hl] at hx;cases hx;exact h1
           exact lo_ltI.tr _ _ _ (ris_lt lo_ltI HRI.out (show j<k-1 by omega) hx (List.getElem?_eq_getElem hl)) h1
          have HPU:Hid (puR ltI x0 R=R.take k++[x0]++R.drop k):=pu_at lo_ltI HRI.out (by rw[HMM.out];exact hk) HALL.out HLT.out;obtain⟨wy,hwy⟩:∃X,X=wc:=⟨_,rfl⟩;subst hwy;have HWY:Hid (Below w.heap.size w wy):=HB.out.trans (HBC.out.mono HB.out.size);have HCY:Hid (∀W,Below wy.heap.size wy W→W.cell? ⟨g,o+i*8,none⟩=some (.int i64 x0)):=fun W hb=>HCO.out W (HBC.out.trans (hb.mono HBC.out.size))
          have hGY:=HGR.out _ HBC.out;obtain⟨Z1,hq1⟩:∃q,q=R.take k:=⟨_,rfl⟩;obtain⟨Z2,hq2⟩:∃q,q=R.drop k:=⟨_,rfl⟩;have HZ1L:Hid (Z1.length=k):=show Z1.length=k by rw[hq1,List.length_take,HMM.out];omega
          have HZ2L:Hid (Z2.length=m-k):=show Z2.length=m-k by rw[hq2,List.length_drop,HMM.out]
          have HT1:Hid (GS inE wy (.slice a3 k c3) Z1):=show GS inE wy (.slice a3 k c3) Z1 by rw[hq1];exact hGY.take hk
          have HD:Hid (∀g o,a3=some ⟨g,o,none⟩→GS inE wy (.slice (some ⟨g,o+k,none⟩) (m-k) (c3-k)) Z2):=show ∀g o,a3=some ⟨g,o,none⟩→GS inE wy (.slice (some ⟨g,o+k,none⟩) (m-k) (c3-k)) Z2 by
           rintro g o rfl;rw[hq2];have:=hGY.drop hk;simpa[inE] using this
          rw[←hq1,←hq2] at HPU;have hmc:m≤c3:=by
           obtain⟨_,_,_,e,_,_,h,_⟩:=hGY.form;cases e;exact h
          have HAD:Hid (0<m→∃g o,a3=some ⟨g,o,none⟩):=fun h=>by
           obtain⟨_,_,_,e,_,_,_,ha⟩:=hGY.form;cases e;obtain⟨g,o,e,_⟩:=ha h;exact⟨g,o,e⟩
          obtain⟨i0,hi0,hz0,hz1,hz2⟩:=info_parts infoInt;clear hGY hq1 hq2 HBC HALL HNG HBQ HLT
          rcases HSK.out with ⟨rfl,rfl,rfl⟩ | hm0
          ·obtain rfl:k=0:=by omega
           have HT2:Hid (GS inE wy (.slice none 0 0) Z2):=.inl ⟨none,0,rfl,List.length_eq_zero_iff.1 (by have:=HZ2L.out;omega)⟩;go_upto_region 10 with fail
           go_wp2_with (at_builtin;refine wpList_append_GS (E:=inE) _ rfl _ _ 40 3 rfl underlying40 i0 (.int i64 0) 8 hi0 hz0 hz1 hz2 rfl wy.heap.size (.slice none 0 0) rfl [] (World.ownsRow_nil _ _ _ _) _ rfl Z1 ?a1 ?a2 ?a3 (nLQ _) ?_)
           case a1=>exact HT1.out
           case a2=>have:=HZ1L.out;unfold maxLen;simp;omega
           case a3=>have:=HZ1L.out;simp;omega
           intro v1 w1 ho1 hg1
           try rw[List.nil_append] at ho1
           have hb1:Below wy.heap.size wy w1:=(Below.refl _ wy).grown hg1 (nLQ _) (fun g hg=>by cases hg);obtain⟨a1,c1,hv1⟩:=own_form ho1;subst hv1;rw[HZ1L.out] at ho1 ⊢;have HO1:Hid (w1.ownsRow wy.heap.size 3 inE.n (.slice a1 0 c1) 0 (cellsG inE Z1)):=ho1;have HB1:Hid (Below wy.heap.size wy w1):=hb1;have q0:=HCY.out _ hb1;clear ho1 hg1 hb1;go_upto_region 11 with fail
           go_wp2_with (at_builtin;refine wpList_append_blk (E:=inE) _ rfl _ _ 40 3 rfl underlying40 i0 (.int i64 0) 8 hi0 hz0 hz1 hz2 rfl wy.heap.size (.slice a1 0 c1) rfl Z1 ?m0 w1.heap.size 0 1 rfl x0 (vat_new w1 [.int i64 x0] 3) ?m1 ?m2 ?m3 ?_)
           case m0=>rw[HZ1L.out];exact HO1.out.alloc _
           case m1=>rw[HZ1L.out];unfold maxLen;omega
           case m2=>rw[HZ1L.out];omega
           case m3=>have:=HB1.out.size;simp;omega
           intro v2 w2 ho2 hg2 _;have hb2:Below wy.heap.size w1 w2:=((Below.refl _ w1).alloc HB1.out.size _).grown hg2 (by have:=HB1.out.size;simp;omega) (fun g hg=>(HO1.out.lt g hg).1);have HB2:Hid (Below wy.heap.size wy w2):=HB1.out.trans hb2;obtain⟨a2,c2,hv2⟩:=own_form ho2;subst hv2;have HL2:Hid ((Z1++[x0]).length=0+1):=hid_len2 HZ1L.out
           try rw[List.length_append] at ho2 ⊢
           try simp only[List.length_cons,List.length_nil,Nat.zero_add] at ho2 ⊢
           rw[HZ1L.out] at ho2 ⊢;have HO2:Hid (w2.ownsRow wy.heap.size 3 inE.n (.slice a2 (0+1) c2) (0+1) (cellsG inE (Z1++[x0]))):=ho2;clear ho2 hg2 hb2 q0;go_upto_region 12 with fail
           go_wp2_with (at_builtin;refine wpList_append_GS (E:=inE) _ rfl _ _ 40 3 rfl underlying40 i0 (.int i64 0) 8 hi0 hz0 hz1 hz2 rfl wy.heap.size (.slice a2 (0+1) c2) rfl (Z1++[x0]) ?b0 _ rfl Z2 ?b1 ?b2 ?b4 ?b3 ?_)
           case b0=>rw[HL2.out];exact HO2.out
           case b1=>exact HT2.out.later HB2.out
           case b2=>rw[HL2.out,HZ2L.out];unfold maxLen;omega
           case b4=>rw[HL2.out,HZ2L.out];omega
           case b3=>exact HB2.out.size
           intro v3 w3 ho3 hg3;have hb3:Below wy.heap.size w2 w3:=(Below.refl _ w2).grown hg3 HB2.out.size (fun g hg=>(HO2.out.lt g hg).1);have HB3:Hid (Below wy.heap.size wy w3):=HB2.out.trans hb3;have hG3:GS inE w3 v3 (Z1++[x0]++Z2):=own_GS (by simpa using ho3);obtain⟨a9,n9,c9,hv3,hn9,_⟩:=hG3.form;subst hv3;have HG3:Hid (GS inE w3 (.slice a9 n9 c9) (Z1++[x0]++Z2)):=hG3;have hn90:0<n9:=by rw[←hn9];simp;omega
           have HN9:Hid (∀ad,a9=some ad→w.heap.size≤ad.block):=fun ad ha=>by subst ha;exact Nat.le_trans HWY.out.size (ho3.lt ad.block rfl).1
           clear ho3 hg3 hb3 hG3 hn9;go_wp2;go_roundw
           case rel=>exact⟨i+1,n9,c9,a9,by omega,by go_num,rfl,by rw[HTN.out,HPU.out];exact HG3.out,.inr hn90,HN9.out,HWY.out.trans (HB3.out.mono HWY.out.size)⟩
           case measure=>simp[intOf];omega
          obtain⟨gr,qr,rfl⟩:=HAD.out hm0;by_cases hck:c3=k
          ·obtain rfl:m=k:=by omega
           obtain rfl:m=c3:=by omega
           have HT2:Hid (GS inE wy (.slice (some ⟨gr,qr,none⟩) 0 0) Z2):=.inl ⟨_,_,rfl,List.length_eq_zero_iff.1 (by have:=HZ2L.out;omega)⟩;go_upto_region 10 with fail
           go_wp2_with (at_builtin;refine wpList_append_GS (E:=inE) _ rfl _ _ 40 3 rfl underlying40 i0 (.int i64 0) 8 hi0 hz0 hz1 hz2 rfl wy.heap.size (.slice none 0 0) rfl [] (World.ownsRow_nil _ _ _ _) _ rfl Z1 ?a1 ?a2 ?a3 (nLQ _) ?_)
           case a1=>exact HT1.out
           case a2=>have:=HZ1L.out;unfold maxLen;simp;omega
           case a3=>have:=HZ1L.out;simp;omega
           intro v1 w1 ho1 hg1
           try rw[List.nil_append] at ho1
           have hb1:Below wy.heap.size wy w1:=(Below.refl _ wy).grown hg1 (nLQ _) (fun g hg=>by cases hg);obtain⟨a1,c1,hv1⟩:=own_form ho1;subst hv1;rw[HZ1L.out] at ho1 ⊢;have HO1:Hid (w1.ownsRow wy.heap.size 3 inE.n (.slice a1 m c1) m (cellsG inE Z1)):=ho1;have HB1:Hid (Below wy.heap.size wy w1):=hb1;have q0:=HCY.out _ hb1;clear ho1 hg1 hb1;go_upto_region 11 with fail
           go_wp2_with (at_builtin;refine wpList_append_blk (E:=inE) _ rfl _ _ 40 3 rfl underlying40 i0 (.int i64 0) 8 hi0 hz0 hz1 hz2 rfl wy.heap.size (.slice a1 m c1) rfl Z1 ?m0 w1.heap.size 0 1 rfl x0 (vat_new w1 [.int i64 x0] 3) ?m1 ?m2 ?m3 ?_)
           case m0=>rw[HZ1L.out];exact HO1.out.alloc _
           case m1=>rw[HZ1L.out];unfold maxLen;omega
           case m2=>rw[HZ1L.out];omega
           case m3=>have:=HB1.out.size;simp;omega
           intro v2 w2 ho2 hg2 _;have hb2:Below wy.heap.size w1 w2:=((Below.refl _ w1).alloc HB1.out.size _).grown hg2 (by have:=HB1.out.size;simp;omega) (fun g hg=>(HO1.out.lt g hg).1);have HB2:Hid (Below wy.heap.size wy w2):=HB1.out.trans hb2;obtain⟨a2,c2,hv2⟩:=own_form ho2;subst hv2;have HL2:Hid ((Z1++[x0]).length=m+1):=hid_len2 HZ1L.out
           try rw[List.length_append] at ho2 ⊢
           try simp only[List.length_cons,List.length_nil,Nat.zero_add] at ho2 ⊢
           rw[HZ1L.out] at ho2 ⊢;have HO2:Hid (w2.ownsRow wy.heap.size 3 inE.n (.slice a2 (m+1) c2) (m+1) (cellsG inE (Z1++[x0]))):=ho2;clear ho2 hg2 hb2 q0;go_upto_region 12 with fail
           go_wp2_with (at_builtin;refine wpList_append_GS (E:=inE) _ rfl _ _ 40 3 rfl underlying40 i0 (.int i64 0) 8 hi0 hz0 hz1 hz2 rfl wy.heap.size (.slice a2 (m+1) c2) rfl (Z1++[x0]) ?b0 _ rfl Z2 ?b1 ?b2 ?b4 ?b3 ?_)
           case b0=>rw[HL2.out];exact HO2.out
           case b1=>exact HT2.out.later HB2.out
           case b2=>rw[HL2.out,HZ2L.out];unfold maxLen;omega
           case b4=>rw[HL2.out,HZ2L.out];omega
           case b3=>exact HB2.out.size
           intro v3 w3 ho3 hg3;have hb3:Below wy.heap.size w2 w3:=(Below.refl _ w2).grown hg3 HB2.out.size (fun g hg=>(HO2.out.lt g hg).1);have HB3:Hid (Below wy.heap.size wy w3):=HB2.out.trans hb3;have hG3:GS inE w3 v3 (Z1++[x0]++Z2):=own_GS (by simpa using ho3);obtain⟨a9,n9,c9,hv3,hn9,_⟩:=hG3.form;subst hv3;have HG3:Hid (GS inE w3 (.slice a9 n9 c9) (Z1++[x0]++Z2)):=hG3;have hn90:0<n9:=by rw[←hn9];simp;omega
           have HN9:Hid (∀ad,a9=some ad→w.heap.size≤ad.block):=fun ad ha=>by subst ha;exact Nat.le_trans HWY.out.size (ho3.lt ad.block rfl).1
           clear ho3 hg3 hb3 hG3 hn9;go_wp2;go_roundw
           case rel=>exact⟨i+1,n9,c9,a9,by omega,by go_num,rfl,by rw[HTN.out,HPU.out];exact HG3.out,.inr hn90,HN9.out,HWY.out.trans (HB3.out.mono HWY.out.size)⟩
           case measure=>simp[intOf];omega
          have HT2:Hid (GS inE wy (.slice (some ⟨gr,qr+k,none⟩) (m-k) (c3-k)) Z2):=HD.out gr qr rfl;go_upto_region 10 with fail
          go_wp2_with (at_builtin;refine wpList_append_GS (E:=inE) _ rfl _ _ 40 3 rfl underlying40 i0 (.int i64 0) 8 hi0 hz0 hz1 hz2 rfl wy.heap.size (.slice none 0 0) rfl [] (World.ownsRow_nil _ _ _ _) _ rfl Z1 ?a1 ?a2 ?a3 (nLQ _) ?_)
          case a1=>exact HT1.out
          case a2=>have:=HZ1L.out;unfold maxLen;simp;omega
          case a3=>have:=HZ1L.out;simp;omega
          intro v1 w1 ho1 hg1
          try rw[List.nil_append] at ho1
          have hb1:Below wy.heap.size wy w1:=(Below.refl _ wy).grown hg1 (nLQ _) (fun g hg=>by cases hg);obtain⟨a1,c1,hv1⟩:=own_form ho1;subst hv1;rw[HZ1L.out] at ho1 ⊢;have HO1:Hid (w1.ownsRow wy.heap.size 3 inE.n (.slice a1 k c1) k (cellsG inE Z1)):=ho1;have HB1:Hid (Below wy.heap.size wy w1):=hb1;have q0:=HCY.out _ hb1;clear ho1 hg1 hb1;go_upto_region 11 with fail
          go_wp2_with (at_builtin;refine wpList_append_blk (E:=inE) _ rfl _ _ 40 3 rfl underlying40 i0 (.int i64 0) 8 hi0 hz0 hz1 hz2 rfl wy.heap.size (.slice a1 k c1) rfl Z1 ?m0 w1.heap.size 0 1 rfl x0 (vat_new w1 [.int i64 x0] 3) ?m1 ?m2 ?m3 ?_)
          case m0=>rw[HZ1L.out];exact HO1.out.alloc _
          case m1=>rw[HZ1L.out];unfold maxLen;omega
          case m2=>rw[HZ1L.out];omega
          case m3=>have:=HB1.out.size;simp;omega
          intro v2 w2 ho2 hg2 _;have hb2:Below wy.heap.size w1 w2:=((Below.refl _ w1).alloc HB1.out.size _).grown hg2 (by have:=HB1.out.size;simp;omega) (fun g hg=>(HO1.out.lt g hg).1);have HB2:Hid (Below wy.heap.size wy w2):=HB1.out.trans hb2;obtain⟨a2,c2,hv2⟩:=own_form ho2;subst hv2;have HL2:Hid ((Z1++[x0]).length=k+1):=hid_len2 HZ1L.out
          try rw[List.length_append] at ho2 ⊢
          try simp only[List.length_cons,List.length_nil,Nat.zero_add] at ho2 ⊢
          rw[HZ1L.out] at ho2 ⊢;have HO2:Hid (w2.ownsRow wy.heap.size 3 inE.n (.slice a2 (k+1) c2) (k+1) (cellsG inE (Z1++[x0]))):=ho2;clear ho2 hg2 hb2 q0;go_upto_region 12 with fail
          go_wp2_with (at_builtin;refine wpList_append_GS (E:=inE) _ rfl _ _ 40 3 rfl underlying40 i0 (.int i64 0) 8 hi0 hz0 hz1 hz2 rfl wy.heap.size (.slice a2 (k+1) c2) rfl (Z1++[x0]) ?b0 _ rfl Z2 ?b1 ?b2 ?b4 ?b3 ?_)
          case b0=>rw[HL2.out];exact HO2.out
          case b1=>exact HT2.out.later HB2.out
          case b2=>rw[HL2.out,HZ2L.out];unfold maxLen;omega
          case b4=>rw[HL2.out,HZ2L.out];omega
          case b3=>exact HB2.out.size
          intro v3 w3 ho3 hg3;have hb3:Below wy.heap.size w2 w3:=(Below.refl _ w2).grown hg3 HB2.out.size (fun g hg=>(HO2.out.lt g hg).1);have HB3:Hid (Below wy.heap.size wy w3):=HB2.out.trans hb3;have hG3:GS inE w3 v3 (Z1++[x0]++Z2):=own_GS (by simpa using ho3);obtain⟨a9,n9,c9,hv3,hn9,_⟩:=hG3.form;subst hv3;have HG3:Hid (GS inE w3 (.slice a9 n9 c9) (Z1++[x0]++Z2)):=hG3;have hn90:0<n9:=by rw[←hn9];simp;omega
          have HN9:Hid (∀ad,a9=some ad→w.heap.size≤ad.block):=fun ad ha=>by subst ha;exact Nat.le_trans HWY.out.size (ho3.lt ad.block rfl).1
          clear ho3 hg3 hb3 hG3 hn9;go_wp2;go_roundw
          case rel=>exact⟨i+1,n9,c9,a9,by omega,by go_num,rfl,by rw[HTN.out,HPU.out];exact HG3.out,.inr hn90,HN9.out,HWY.out.trans (HB3.out.mono HWY.out.size)⟩
          case measure=>simp[intOf];omega
  obtain rfl:i=n:=by omega
  have HTL:Hid (tcL l=tcL (l.take i)):=show _=_ by rw[←HN.out,List.take_length]
  go_wp2;go_ret;exact⟨a3,m,c3,rfl,by rw[HTL.out];exact HG0.out,HNW.out,HB.out⟩
theorem nx_rfd {w w1:World}{p B0:Nat}{O:Nat→Prop}{D:DrT}{xr xl:SlT}{a3:AdQ}{m3 c3:Nat}(h:RfD w p B0 O D xr xl)(hb:Below w.heap.size w w1)
 (hg:GS inE w1 (.slice a3 m3 c3) (tcL (D.L.getD D.s []))) (hn:∀ad,a3=some ad→w.heap.size≤ad.block):
 RfD (((w1.setCell ⟨p,3,none⟩ (.slice a3 m3 c3)).setCell ⟨p,2,none⟩ (.int i64 ((D.s+1:Nat):Int))).setCell ⟨p,4,none⟩ (.int i64 0)) p B0 (fun b=>O b∨∃ad,a3=some ad∧ad.block<w1.heap.size∧b=ad.block)
  { D with s:=D.s+1,l:=tcL (D.L.getD D.s []),k:=0 } xr (a3,m3,c3):=by
 have hp:=h.lt p h.pO;have h3:=(h.later hb).set3 (y:=(a3,m3,c3)) hg fun ad ha=>by
  have:=hn ad ha;omega
 exact (h3.set2 (D.s+1)).set4 0
theorem rnext_any {p B0:Nat}{O:Nat→Prop}{D:DrT}{xr xl:SlT}{K:Nat}(w:World)(h:RfD w p B0 O D xr xl)(hok:DrOK D K):
 Calls prog 13 #[.pointer (some ⟨p,0,none⟩)] w fun e w'=>DvN DrR (.int i64) w p B0 O (nxS D) (nxN D) (nxA D) e w':=by
 obtain⟨ar,nr,cr⟩:=xr;obtain⟨al,nl,cl⟩:=xl;have HH:Hid (RfD w p B0 O D (ar,nr,cr) (al,nl,cl)):=h;have HOK:Hid (DrOK D K):=hok;obtain⟨M,hM⟩:∃M,M=mayD D:=⟨_,rfl⟩;have HM:Hid (mayD D=M):=hM.symm;clear h hok hM;go_enter func13,ntmps13
 go_wp2_with fail
 refine (rmayd_any _ HH.out).mono ?_;rintro e w1 ⟨rfl,hb1⟩;rw[HM.out];have HB1:Hid (Below w.heap.size w w1):=hb1;have HH1:Hid (RfD w1 p B0 O D (ar,nr,cr) (al,nl,cl)):=HH.out.later hb1;clear hb1;cases M with
 | false =>
   have HF:Hid (DvN DrR (.int i64) w p B0 O (nxS D) (nxN D) (nxA D) (.returned (.tuple #[.slice none 0 0,.int i64 6])) w1):=by
    show DvN _ _ _ _ _ _ _ _ _ _ _;have hm:=HM.out;rw[nxS,nxN,nxA,hm];exact⟨none,0,0,rfl,GS.nil _,(fun _ h=>by cases h),O,⟨_,_,HH1.out⟩,fun b h=>.inl h,(fun _ h=>by cases h),Kb.of_below HB1.out fun b hl _=>hl⟩
   go_wp2;refine bodyPost_ret (v:=.tuple #[.slice none 0 0,.int i64 6]) (by simp[results,results13,go_sem, *]) rfl ?_;exact HF.out
 | true =>
   have hm:=HM.out;obtain⟨hm1,hm2⟩:=may_iff.1 hm;have hs20:D.s≤20:=Nat.le_trans HOK.out.s HOK.out.L;have hnr:D.L.length=nr:=(HH.out.r w (bRQ _ _)).len;have hsn:D.s<nr:=by omega
   obtain⟨gr,qr,R,a1,n1,c1,har,hRs,hc1,hGr⟩:=(HH1.out.r w1 (bRQ _ _)).at hsn;subst har;have hR:D.L.getD D.s []=R:=by simp[List.getD,hRs]
   have HR:Hid (D.L.getD D.s []=R):=hR;have HRN:Hid (R.length=n1):=hGr.len;have HRL:Hid (R.length≤200):=HOK.out.r R (List.mem_of_getElem? hRs);have HRG:Hid (∀V,Below w1.heap.size w1 V→GS opE V (.slice a1 n1 c1) R):=fun V hV=>hGr.later hV
   obtain⟨s,hs⟩:∃s:Int,s=(D.s:Int):=⟨_,rfl⟩;have HS:Hid (s=(D.s:Int)):=hs;have HNX:Hid (nxS D={ D with s:=D.s+1,l:=tcL R,k:=0 }∧nxN D=0∧nxA D=saD { D with s:=D.s+1,l:=tcL R,k:=0 }):=by
    have e:nxS D={ D with s:=D.s+1,l:=tcL R,k:=0 }:=by rw[nxS,hm,hR];rfl
    refine⟨e,by rw[nxN,hm];rfl,?_⟩;rw[nxA,hm,e];rfl
   have HOK2:Hid (DrOK { D with s:=D.s+1,l:=tcL R,k:=0 } (K+1)):=by
    show DrOK _ _;rw[←HNX.out.1];exact dk_nx HOK.out
   have HRE:Hid (∀(w4:World) (a3:AdQ) (m3 c3:Nat),Below w1.heap.size w1 w4→GS inE w4 (.slice a3 m3 c3) (tcL R)→(∀ad,a3=some ad→w1.heap.size≤ad.block) →
    RfD (((w4.setCell ⟨p,3,none⟩ (.slice a3 m3 c3)).setCell ⟨p,2,none⟩ (.int i64 (s+1))).setCell ⟨p,4,none⟩ (.int i64 0)) p B0 (fun b=>O b∨∃ad,a3=some ad∧ad.block<w4.heap.size∧b=ad.block)
     { D with s:=D.s+1,l:=tcL R,k:=0 } (some ⟨gr,qr,none⟩,nr,cr) (a3,m3,c3)):=fun w4 a3 m3 c3 hb hg hn=>by
    have:=nx_rfd HH1.out hb (by rw[hR];exact hg) hn;rw[hR] at this;rw[hs];exact this
   have HC0:Hid (∀V,Below w1.heap.size w1 V→V.cell? ⟨p,0,none⟩=some (.slice (some ⟨gr,qr,none⟩) nr cr)∧V.cell? ⟨p,2,none⟩=some (.int i64 s)∧V.cell? ⟨p,3,none⟩=some (.slice al nl cl)∧V.cell? ⟨p,4,none⟩=some (.int i64 (D.k:Int))∧(∀i,V.frozen? ⟨p,i,none⟩=false)∧V.cell? ⟨gr,qr+s.toNat,none⟩=some (.slice a1 n1 c1)):=fun V hV=>by
    have hx:=HH1.out.later hV;have e:s.toNat=D.s:=by omega
    refine⟨hx.c0,by rw[hs];exact hx.c2,hx.c3,hx.c4,hx.f,?_⟩;rw[e];exact cell_later hV hc1
   have s0:0≤s:=by omega
   have s1:s<(nr:Int):=by omega
   have s2:s≤20:=by omega
   have hwr:IntKind.i64.wrap (s+1)=s+1:=by rw[IntKind.wrap_i64];omega
   have hn12:n1≤2199023255552:=by have:=HRL.out;have:=HRN.out;omega
   obtain⟨e0,e2,e3,e4,ef,e1⟩:=HC0.out w1 (bRQ _ _);clear hm hm1 hm2 hs20 hnr hsn hRs hc1 hGr hR hs;go_upto_region 4 with fail
   go_cut [] from 9 to 22 (fun w'=>∃(w4:World) (a3:AdQ) (m3 c3:Nat),Below w1.heap.size w1 w4∧GS inE w4 (.slice a3 m3 c3) (tcL R)∧(∀ad,a3=some ad→w1.heap.size≤ad.block)∧w'=w4.setCell ⟨p,3,none⟩ (.slice a3 m3 c3))
   case first =>
    have f3:=ef 3;clear ef
    go_region_with (go_at_call 30;refine (rtouched_own a1 n1 c1 R _ (HRG.out _ (by first | exact Below.drew (bRQ _ _) | exact bRQ _ _)) hn12).mono ?_;rintro e w9 ⟨a3,m3,c3,rfl,hg3,hn3,hb3⟩;have HG3:Hid (GS inE w9 (.slice a3 m3 c3) (tcL R)):=hg3;have HN3:Hid (∀ad,a3=some ad→w1.heap.size≤ad.block):=hn3;have HB3:Hid (Below w1.heap.size w1 w9):=(Below.drew (bRQ _ _)).trans hb3;obtain⟨t0,t2,t3,t4,tf,t1⟩:=HC0.out _ HB3.out;have tf3:=tf 3;clear hg3 hn3 hb3 tf)
    all_goals (go_wp2_with fail;go_meet)
    all_goals exact⟨_,_,_,_,HB3.out,HG3.out,HN3.out,rfl⟩
   case rest =>
    obtain⟨w4,a3,m3,c3,hb4,hg4,hn4,rfl⟩:=hcut;have hF:=HRE.out w4 a3 m3 c3 hb4 hg4 hn4;obtain⟨w7,hw7⟩:∃V,V=(((w4.setCell ⟨p,3,none⟩ (.slice a3 m3 c3)).setCell ⟨p,2,none⟩ (.int i64 (s+1))).setCell ⟨p,4,none⟩ (.int i64 0)):=⟨_,rfl⟩;have HW7:Hid ((((w4.setCell ⟨p,3,none⟩ (.slice a3 m3 c3)).setCell ⟨p,2,none⟩ (.int i64 (s+1))).setCell ⟨p,4,none⟩ (.int i64 0))=w7):=hw7.symm;rw[←hw7] at hF;obtain⟨O',hO'⟩:∃O':Nat→Prop,O'=fun b=>O b∨∃ad,a3=some ad∧ad.block<w4.heap.size∧b=ad.block:=⟨_,rfl⟩
    rw[←hO'] at hF;have HF:Hid (RfD w7 p B0 O' { D with s:=D.s+1,l:=tcL R,k:=0 } (some ⟨gr,qr,none⟩,nr,cr) (a3,m3,c3)):=hF;have HO':Hid (∀b,O' b→O b∨w.heap.size≤b):=fun b hb=>by
     rw[hO'] at hb
     rcases hb with hb | ⟨ad,ha,_,rfl⟩
     ·exact .inl hb
     exact .inr (Nat.le_trans HB1.out.size (hn4 ad ha))
    have HK7:Hid (Kb (fun b=>¬O b) w w7):=by
     have hpO:=HH.out.pO;have h4:Kb (fun b=>¬O b) w w4:=Kb.of_below (HB1.out.trans (hb4.mono HB1.out.size)) fun b hl _=>hl
     show Kb _ _ _;rw[hw7];exact ((h4.setCell (fun _ hn=>hn hpO) _).setCell (fun _ hn=>hn hpO) _).setCell (fun _ hn=>hn hpO) _
    clear hF hw7 hO';have HB4:Hid (Below w1.heap.size w1 w4):=hb4;have HN4:Hid (∀ad,a3=some ad→w1.heap.size≤ad.block):=hn4;obtain⟨d0,d2,d3,d4,df,d1⟩:=HC0.out _ hb4;have df2:=df 2;have df3:=df 3;have df4:=df 4;clear hb4 hg4 hn4 e0 e1 e2 e3 e4 ef df;go_upto_region 7 with fail;rw[HW7.out];clear d0 d1 d2 d3 d4 df2 df3 df4 HW7
    go_wp2_with fail
    refine (rsay_any _ HF.out HOK2.out).mono ?_;rintro e w8 ⟨a5,n5,c5,rfl,hg5,hn5,hb5⟩;have HR8:Hid (DvN DrR (.int i64) w p B0 O (nxS D) (nxN D) (nxA D) (.returned (.tuple #[.slice a5 n5 c5,.int i64 0])) w8):=by
     show DvN _ _ _ _ _ _ _ _ _ _ _;rw[HNX.out.1,HNX.out.2.1,HNX.out.2.2];have hsz:=HK7.out.size;refine⟨a5,n5,c5,rfl,hg5,fun ad ha=>Nat.le_trans hsz (hn5 ad ha),O',⟨_,_,HF.out.later hb5⟩,HO'.out,fun ad ha h=>?_,HK7.out.trans (Kb.of_below hb5 fun b hl _=>hl)⟩;have h3:=hn5 ad ha;have h4:=(HF.out.lt _ h).2;omega
    clear hg5 hn5 hb5;go_wp2;refine bodyPost_ret (v:=.tuple #[.slice a5 n5 c5,.int i64 0]) (by simp[results,results13,go_sem, *]) rfl ?_;exact HR8.out
end
end Go.Proofs.YtpgjkmefomldfaaDoor
