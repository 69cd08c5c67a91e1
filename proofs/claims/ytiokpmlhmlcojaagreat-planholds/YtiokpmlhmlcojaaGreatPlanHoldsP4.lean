/- Contracts and facts on the way to PlanHolds, joined into one text: TableBey, TableOps, TableDiff, TableDiff2, NetCheck, SmNet, ChangeSame, StCube, StRule, StOp, ClassMem, ChangeMem, ChangeOps, OwnInts. -/
import Derived.Test.YtiokpmlhmlcojaaGreatPlanHoldsP3
namespace Go.Proofs.YtiokpmlhmlcojaaGreat
set_option linter.unusedSimpArgs false
set_option linter.unusedVariables false
set_option maxHeartbeats 16000000
set_option maxRecDepth 100000
section
open Go.RowKit
theorem contains_any (ao:Option Addr)(n cap:Nat)(p m b o s v:Int)(L:List Ru)(w:World)(hs:SR w (.slice ao n cap) L):
 Calls Tryz.prog 72 #[.slice ao n cap,.agg #[.int .i64 p,.int .i64 m,.int .i64 b,.int .i64 o,.int .i64 s,.int .i64 v]] w fun e w'=>e=.returned (.bool (inB L ⟨p,m,b,o,s,v⟩))∧Below w.heap.size w w':=by
 obtain⟨ao',n',cap',e,hn,hn2,hn3,ha⟩:=hs.form;cases e;have HN:Hid (L.length=n):=hn;have hB0:Below w.heap.size w (w.alloc (Obj.cells #[.int .i64 p,.int .i64 m,.int .i64 b,.int .i64 o,.int .i64 s,.int .i64 v] 37)):=(Below.refl _ _).alloc (Nat.le_refl _) _;have HA:Hid (0<n→∃g o,ao=some ⟨g,o,none⟩∧RAt w g o L∧cap≤maxLen):=ha;have HB0:Hid (Below w.heap.size w (w.alloc (Obj.cells #[.int .i64 p,.int .i64 m,.int .i64 b,.int .i64 o,.int .i64 s,.int .i64 v] 37))):=hB0;have HM:Hid (n≤maxLen):=hn2;have HX:Hid (inB L ⟨p,m,b,o,s,v⟩=decide (0≤ixP (fun a=>eqR ⟨p,m,b,o,s,v⟩ a) L)):=(ixP_any L (fun a=>eqR ⟨p,m,b,o,s,v⟩ a)).symm;rw[HX.out];clear hn ha hs hn2 hB0 HX;obtain⟨x,hx⟩:∃x,x=ixP (fun a=>eqR ⟨p,m,b,o,s,v⟩ a) L:=⟨_,rfl⟩;rw[←hx];have HX:Hid (x=ixP (fun a=>eqR ⟨p,m,b,o,s,v⟩ a) L):=hx;clear hx;go_enter Tryz.func72,Tryz.ntmps72
 go_wp2_with fail
 refine (index_any ao n cap p m b o s v L _ HN.out HM.out (fun h=>by obtain⟨g,o,e1,e2,e3⟩:=HA.out h;exact⟨g,o,e1,e2.later HB0.out,e3⟩)).mono ?_;rintro e w1 ⟨rfl,hb1⟩;rw[←HX.out];have HB1:Hid (Below w.heap.size w w1):=HB0.out.trans (hb1.mono HB0.out.size);clear hb1;go_wp2;go_ret;exact⟨rfl,HB1.out⟩
theorem beyond1_any (p m b o s v:Int)(ao:Option Addr)(n cap:Nat)(L:List Ru)(B:Nat)(w:World)(hc:w.cell? ⟨B,0,none⟩=some (.slice ao n cap))(hs:SR w (.slice ao n cap) L):
 Calls Tryz.prog 71 #[.agg #[.int .i64 p,.int .i64 m,.int .i64 b,.int .i64 o,.int .i64 s,.int .i64 v],.pointer (some ⟨B,0,none⟩)] w fun e w'=>e=.returned (.bool (inB L ⟨p,m,b,o,s,v⟩))∧Below w.heap.size w w':=by
 have hlt:B<w.heap.size:=bLQ _ _ hc;have hB0:Below w.heap.size w (w.alloc (Obj.cells #[.int .i64 p,.int .i64 m,.int .i64 b,.int .i64 o,.int .i64 s,.int .i64 v] 37)):=(Below.refl _ _).alloc (Nat.le_refl _) _;have HS0:Hid (SR (w.alloc (Obj.cells #[.int .i64 p,.int .i64 m,.int .i64 b,.int .i64 o,.int .i64 s,.int .i64 v] 37)) (.slice ao n cap) L):=hs.later hB0;clear hs hB0;go_enter Tryz.func71,Tryz.ntmps71
 go_wp2_with fail
 refine (contains_any ao n cap p m b o s v L _ HS0.out).mono ?_;rintro e w1 ⟨rfl,hb1⟩;go_wp2;go_ret;exact⟨rfl,((Below.refl _ _).alloc (Nat.le_refl _) _).trans (hb1.mono (by simp))⟩
theorem beyond1_asks (ao:Option Addr)(n cap:Nat)(L:List Ru)(B:Nat)(w:World)(hc:w.cell? ⟨B,0,none⟩=some (.slice ao n cap))(hs:SR w (.slice ao n cap) L):Asks w 71 (.pointer (some ⟨B,0,none⟩)) (fun a=>inB L a):=
 fun p m b o s v W hW=>beyond1_any p m b o s v ao n cap L B W (cell_later hW hc) (hs.later hW)
structure KI (f:Ru→Bool)(L:List Ru)(j i:Nat)(X:List Ru):Prop where
 len:X.length=L.length
 lt:i<j
 low:X.take i=(L.take j).filter (fun a => !f a)
 high:X.drop j=L.drop j
theorem KI.start {f:Ru→Bool}{L:List Ru}{k:Nat}(hk:k<L.length)(h:(L.take k).any f=false)(h2:f L[k]=true):KI f L (k+1) k L:=by
 refine⟨rfl,by omega,?_,rfl⟩;rw[List.take_succ_eq_append_getElem hk,List.filter_append];have e1:(L.take k).filter (fun a => !f a)=L.take k:=by
  rw[List.filter_eq_self];intro a ha;rw[List.any_eq_false] at h;simpa using h a ha
 rw[e1];simp[h2]
theorem KI.skip {f:Ru→Bool}{L X:List Ru}{j i:Nat}(h:KI f L j i X)(hj:j<L.length)(h2:f L[j]=true):KI f L (j+1) i X:=by
 refine⟨h.len,by have:=h.lt;omega,?_,?_⟩
 ·rw[List.take_succ_eq_append_getElem hj,List.filter_append,←h.low];simp[h2]
 have:=congrArg (List.drop 1) h.high;simpa[List.drop_drop,Nat.add_comm] using this
theorem KI.at {f:Ru→Bool}{L X:List Ru}{j i:Nat}(h:KI f L j i X)(hj:j<L.length):X[j]'(by rw[h.len];exact hj)=L[j]:=by
 have e1:=congrArg (fun l=>l[0]?) h.high;simp only[List.getElem?_drop,Nat.add_zero] at e1;rw[List.getElem?_eq_getElem (by rw[h.len];exact hj),List.getElem?_eq_getElem hj] at e1;exact Option.some.inj e1
theorem KI.keep {f:Ru→Bool}{L X:List Ru}{j i:Nat}(h:KI f L j i X)(hj:j<L.length)(h2:f L[j]=false):KI f L (j+1) (i+1) (X.set i L[j]):=by
 have hlt:=h.lt;have hl:=h.len;refine⟨by rw[List.length_set];exact h.len,by omega,?_,?_⟩
 ·rw[List.take_succ_eq_append_getElem hj,List.filter_append,←h.low];have hi:i<(X.set i L[j]).length:=by rw[List.length_set];omega
  rw[List.take_succ_eq_append_getElem hi,List.take_set_of_le (Nat.le_refl _)];simp[h2]
 rw[List.drop_set_of_lt (by omega)];have:=congrArg (List.drop 1) h.high;simpa[List.drop_drop,Nat.add_comm] using this
theorem KI.done {f:Ru→Bool}{L X:List Ru}{i:Nat}(h:KI f L L.length i X):X.take i=L.filter (fun a => !f a):=by
 have:=h.low;rw[List.take_length] at this;exact this
theorem cellsR_set (X:List Ru)(i:Nat)(p m b o s v:Int)(hi:i<X.length):cellsR (X.set i ⟨p,m,b,o,s,v⟩)=((((((cellsR X).set (i*6) (.int .i64 p)).set (i*6+1) (.int .i64 m)).set (i*6+2) (.int .i64 b)).set (i*6+3) (.int .i64 o)).set (i*6+4) (.int .i64 s)).set (i*6+5) (.int .i64 v):=by
 induction X generalizing i with
 | nil=>simp at hi
 | cons x X ih =>
   cases i with
   | zero=>simp[cellsR]
   | succ i =>
     have:=ih i (by simpa using hi);have e1:(i+1)*6=i*6+1+1+1+1+1+1:=by omega
     simp only[cellsR,List.flatMap_cons,List.set_cons_succ] at this ⊢;rw[this];simp[e1]
theorem own_set {w:World}{base e g n cap i:Nat}{X:List Ru}(h:w.ownsRow base e 6 (.slice (some ⟨g,0,none⟩) n cap) n (cellsR X))(hi:i<X.length)(p m b o s v:Int):
 ((((((w.setCell ⟨g,i*6,none⟩ (.int .i64 p)).setCell ⟨g,i*6+1,none⟩ (.int .i64 m)).setCell ⟨g,i*6+2,none⟩ (.int .i64 b)).setCell ⟨g,i*6+3,none⟩ (.int .i64 o)).setCell ⟨g,i*6+4,none⟩ (.int .i64 s)).setCell ⟨g,i*6+5,none⟩ (.int .i64 v)).ownsRow base e 6 (.slice (some ⟨g,0,none⟩) n cap) n (cellsR (X.set i ⟨p,m,b,o,s,v⟩)):=by
 rw[cellsR_set X i p m b o s v hi];exact ((((((h.stored _ _).1.stored _ _).1.stored _ _).1.stored _ _).1.stored _ _).1.stored _ _).1
theorem below_six {B:Nat}{a w:World}{g i:Nat}(h:Below B a w)(hg:B≤g)(p m b o s v:Value):
 Below B a ((((((w.setCell ⟨g,i*6,none⟩ p).setCell ⟨g,i*6+1,none⟩ m).setCell ⟨g,i*6+2,none⟩ b).setCell ⟨g,i*6+3,none⟩ o).setCell ⟨g,i*6+4,none⟩ s).setCell ⟨g,i*6+5,none⟩ v):=
 (((((h.setCell hg _).setCell hg _).setCell hg _).setCell hg _).setCell hg _).setCell hg _
theorem own_at {w:World}{base e g n cap i:Nat}{X:List Ru}(h:w.ownsRow base e 6 (.slice (some ⟨g,0,none⟩) n cap) n (cellsR X))(hn:X.length=n)(hi:i<n):
 C6 w g (i*6) (X[i]'(by omega))∧(∀c,w.frozen? ⟨g,c,none⟩=false):=by
 subst hn;obtain⟨a0,a1,a2,a3,a4,a5⟩:=cellsR_at X i hi;refine⟨⟨?_,?_,?_,?_,?_,?_⟩,fun c=>h.frozenAt c⟩
 ·rw[h.cellAt _ (by omega)];exact a0
 ·rw[h.cellAt _ (by omega)];exact a1
 ·rw[h.cellAt _ (by omega)];exact a2
 ·rw[h.cellAt _ (by omega)];exact a3
 ·rw[h.cellAt _ (by omega)];exact a4
 rw[h.cellAt _ (by omega)];exact a5
theorem run_clear_of (w w':World)(t e ty:TypeId)(ht:Tryz.prog.underlying t=some (.slice e))(b o n c:Nat)(hn:0<n)(z:Value)(hv:∀w,(zeroValue e).run Tryz.prog w=.ok z w)(Z:List Value)
 (hZ:(Builtin.zeroCells z.cells n).toList=Z) (hst:(storeCells ⟨b,o,none⟩ Z 0).run Tryz.prog w=.ok () w'):(Builtin.clear_ #[t] ty #[.slice (some ⟨b,o,none⟩) n c]).run Tryz.prog w=.ok (.tuple #[]) w':=by
 obtain⟨m,rfl⟩:∃m,n=m+1:=⟨n-1,by omega⟩;simp[Builtin.clear_,run_underlying ht,hv,hZ,hst]
theorem cellsR_take (X:List Ru)(i:Nat):(cellsR X).take (i*6)=cellsR (X.take i):=by
 induction X generalizing i with
 | nil=>simp[cellsR]
 | cons x X ih =>
   cases i with
   | zero=>simp[cellsR]
   | succ i =>
     have:=ih i;have e1:(i+1)*6=i*6+1+1+1+1+1+1:=by omega
     simp only[cellsR] at this;simp[cellsR,e1,this]
theorem run_clear6 (w:World)(t ty:TypeId)(ht:Tryz.prog.underlying t=some (.slice 37))(b o n c:Nat)(hn:0<n)
 (hc:∀j,j<n*6→(w.cell? ⟨b,o+j,none⟩).isSome=true) (hf:∀j,w.frozen? ⟨b,j,none⟩=false):
 (Builtin.clear_ #[t] ty #[.slice (some ⟨b,o,none⟩) n c]).run Tryz.prog w=.ok (.tuple #[]) (w.setCells b o (Builtin.zeroCells (Value.agg #[.int .i64 0,.int .i64 0,.int .i64 0,.int .i64 0,.int .i64 0,.int .i64 0]).cells n).toList):=by
 obtain⟨i0,hi,hz0,hz1,hz2⟩:=info_parts infoRule;have hv:∀w,(zeroValue 37).run Tryz.prog w=.ok (.agg #[.int .i64 0,.int .i64 0,.int .i64 0,.int .i64 0,.int .i64 0,.int .i64 0]) w:=fun w=>by simp[zeroValue,typeInfo,hi,hz0]
 have hl:(Builtin.zeroCells (Value.agg #[.int .i64 0,.int .i64 0,.int .i64 0,.int .i64 0,.int .i64 0,.int .i64 0]).cells n).toList.length=n*6:=by rw[Array.length_toList,size_zeroCells,sixCells]
 have h1:∀u∈(Builtin.zeroCells (Value.agg #[.int .i64 0,.int .i64 0,.int .i64 0,.int .i64 0,.int .i64 0,.int .i64 0]).cells n).toList,u.oneCell'=true:=by
  intro u hu;simp only[Builtin.zeroCells,Array.toList_map,List.mem_map] at hu;obtain⟨i,_,rfl⟩:=hu;rw[sixCells];have h6:i % 6<6:=Nat.mod_lt _ (by omega)
  generalize i % 6=j at h6
  rcases (by omega:j=0∨j=1∨j=2∨j=3∨j=4∨j=5) with rfl | rfl | rfl | rfl | rfl | rfl <;> rfl
 have hst:=run_storeCells_cells (P:=Tryz.prog) b o (Builtin.zeroCells (Value.agg #[.int .i64 0,.int .i64 0,.int .i64 0,.int .i64 0,.int .i64 0,.int .i64 0]).cells n).toList 0 w (by rw[hl];simpa using hc) (fun j _=>hf _) h1;simp only[Nat.add_zero] at hst;exact run_clear_of w _ t _ ty ht b o n c hn _ hv _ rfl hst
theorem delete_some (g n cap:Nat)(f:FuncId)(c:Value)(P:Ru→Bool)(L:List Ru)(w0 w:World)(hn:L.length=n)(hB:Below w0.heap.size w0 w)(ho:w.ownsRow w0.heap.size 37 6 (.slice (some ⟨g,0,none⟩) n cap) n (cellsR L))
 (he:∀args w,(callFunc f args).run Tryz.prog w=.ok (.enter f args) w) (hf:Asks w0 f c P) (h1000:n≤1000):
 Calls Tryz.prog 70 #[.slice (some ⟨g,0,none⟩) n cap,.func (Fn.func f) #[] #[c]] w fun e w'=>∃u,e=.returned u∧w'.ownsRow w0.heap.size 37 6 u (L.filter (fun a => !P a)).length (cellsR (L.filter (fun a => !P a)))∧Below w0.heap.size w0 w':=by
 have HN:Hid (L.length=n):=hn;have HB:Hid (Below w0.heap.size w0 w):=hB;have HO:Hid (w.ownsRow w0.heap.size 37 6 (.slice (some ⟨g,0,none⟩) n cap) n (cellsR L)):=ho;have HF:Hid (Asks w0 f c P):=hf;have hgb:w0.heap.size≤g∧n≤cap∧cap≤maxLen:=by
  rcases ho.2 with ⟨h',_⟩ | ⟨g',cap',cur,h',hb,_,h1,h2,_⟩
  ·simp at h'
  simp only[Value.slice.injEq,Option.some.injEq,Addr.mk.injEq,and_true,true_and] at h';obtain⟨rfl,rfl⟩:=h';exact⟨hb,h1,h2⟩
 obtain⟨hg0,hncap,hcm⟩:=hgb;have HCM:Hid (cap≤maxLen):=hcm;have hsr:SR w (.slice (some ⟨g,0,none⟩) n cap) L:=own_SR (by subst hn;exact ho);have HSR:Hid (SR w (.slice (some ⟨g,0,none⟩) n cap) L):=hsr;have hc63:(cap:Int)≤9223372036854775807:=by unfold maxLen at hcm;omega
 clear hn hB ho hf hsr hcm;have HNM:Hid (n≤maxLen∧(0<n→∃g' o',some (⟨g,0,none⟩:Addr)=some ⟨g',o',none⟩∧RAt w g' o' L∧cap≤maxLen)):=by
  obtain⟨ao',n',cap',e,hn,hn2,hn3,ha⟩:=HSR.out.form;cases e;exact⟨hn2,ha⟩
 cases hany:L.any P
 ·have HX:Hid (ixP P L = -1):=ixP_no hany;have HFL:Hid (L.filter (fun a => !P a)=L):=by
   show L.filter (fun a => !P a)=L;rw[List.filter_eq_self];intro a ha;rw[List.any_eq_false] at hany;simpa using hany a ha
  clear hany;go_enter Tryz.func70,Tryz.ntmps70
  go_wp2_with fail
  refine (idxF _ n cap f c P L _ HN.out HNM.out.1 HNM.out.2 he (HF.out.later HB.out)).mono ?_;rintro e w1 ⟨rfl,hb1⟩;rw[HX.out];have HO1:Hid (w1.ownsRow w0.heap.size 37 6 (.slice (some ⟨g,0,none⟩) n cap) n (cellsR L)):=own_below HO.out hb1;have HB1:Hid (Below w0.heap.size w0 w1):=HB.out.trans (hb1.mono HB.out.size);clear hb1;go_wp2;go_ret;refine⟨_,rfl,?_,HB1.out⟩;rw[HFL.out,HN.out];exact HO1.out
 obtain⟨k,hk,hno,hyes⟩:∃k,∃hk:k<L.length,(L.take k).any P=false∧P L[k]=true:=by
  have h1:L.findIdx P<L.length:=List.findIdx_lt_length.2 (by simpa using hany);refine⟨L.findIdx P,h1,?_,List.findIdx_getElem (w:=h1)⟩;rw[List.any_eq_false];intro a ha;rw[List.mem_take_iff_getElem] at ha;obtain⟨i,hi,rfl⟩:=ha;have:=List.not_of_lt_findIdx (p:=P) (xs:=L) (i:=i) (by omega);simpa using this
 have HX:Hid (ixP P L=(k:Int)):=ixP_hit hk hno hyes;have HK:Hid (KI P L (k+1) k L):=KI.start hk hno hyes;have hkn:k<n:=by rw[HN.out] at hk;exact hk
 have kne:((k:Int) == -1)=false:=beq_eq_false_iff_ne.2 (by omega);clear hany hno hyes hk;go_enter Tryz.func70,Tryz.ntmps70
 go_wp2_with fail
 refine (idxF _ n cap f c P L _ HN.out HNM.out.1 HNM.out.2 he (HF.out.later HB.out)).mono ?_;rintro e w1 ⟨rfl,hb1⟩;rw[HX.out];have HO1:Hid (w1.ownsRow w0.heap.size 37 6 (.slice (some ⟨g,0,none⟩) n cap) n (cellsR L)):=own_below HO.out hb1;have HB1:Hid (Below w0.heap.size w0 w1):=HB.out.trans (hb1.mono HB.out.size);clear hb1 HO HNM HSR;go_wp2
 go_loopw [5,6] (fun a b wr=>∃i j:Nat,∃X,a=.int .i64 i∧b=.int .i64 j∧j≤n∧KI P L j i X∧wr.ownsRow w0.heap.size 37 6 (.slice (some ⟨g,0,none⟩) n cap) n (cellsR X)∧Below w0.heap.size w0 wr) (fun _ b _=>n-(intOf b).toNat)
 case atStart=>exact⟨k,k+1,L,rfl,by go_num,by omega,HK.out,HO1.out,HB1.out⟩
 case round =>
  obtain⟨i,j,X,rfl,rfl,hj,hK,hown,hBr⟩:=hrel;have HKR:Hid (KI P L j i X):=hK;have HOR:Hid (wr.ownsRow w0.heap.size 37 6 (.slice (some ⟨g,0,none⟩) n cap) n (cellsR X)):=hown;have HBR:Hid (Below w0.heap.size w0 wr):=hBr;have hij:i<j:=hK.lt;have HXL:Hid (X.length=n):=by have:=hK.len;rw[HN.out] at this;exact this
  clear HO1 HB1 HK HX;by_cases hlt:j<n
  ·have hjl:j<L.length:=by rw[HN.out];exact hlt
   obtain⟨hCj,hfz⟩:=own_at hown HXL.out hlt;rw[hK.at hjl] at hCj;have HKK:Hid (P L[j]=false→KI P L (j+1) (i+1) (X.set i L[j])):=fun h=>hK.keep hjl h
   have HKS:Hid (P L[j]=true→KI P L (j+1) i X):=fun h=>hK.skip hjl h
   rcases hLj:L[j] with ⟨p,m,b,o,s,v⟩
   rw[hLj] at hCj HKK HKS;obtain⟨q0,q1,q2,q3,q4,q5⟩:=hCj;have HC6:=C6.new wr p m b o s v 37;have hBA:Below wr.heap.size wr (wr.alloc (Obj.cells #[.int .i64 p,.int .i64 m,.int .i64 b,.int .i64 o,.int .i64 s,.int .i64 v] 37)):=(Below.refl _ _).alloc (Nat.le_refl _) _;have HBA:Hid (Below w0.heap.size w0 (wr.alloc (Obj.cells #[.int .i64 p,.int .i64 m,.int .i64 b,.int .i64 o,.int .i64 s,.int .i64 v] 37))):=hBr.trans (hBA.mono hBr.size);have HOA:Hid ((wr.alloc (Obj.cells #[.int .i64 p,.int .i64 m,.int .i64 b,.int .i64 o,.int .i64 s,.int .i64 v] 37)).ownsRow w0.heap.size 37 6 (.slice (some ⟨g,0,none⟩) n cap) n (cellsR X)):=own_below hown hBA;clear hown hBr hK hLj hfz hBA;cases hP:P ⟨p,m,b,o,s,v⟩
   ·go_wp2_with fail
    refine (HF.out p m b o s v _ HBA.out).mono ?_;rintro e w2 ⟨rfl,hb2⟩;rw[hP];have hO2:=own_below HOA.out hb2;have HO2:Hid (w2.ownsRow w0.heap.size 37 6 (.slice (some ⟨g,0,none⟩) n cap) n (cellsR X)):=hO2;have HB2:Hid (Below w0.heap.size w0 w2):=HBA.out.trans (hb2.mono HBA.out.size);obtain⟨d0,d1,d2,d3,d4,d5⟩:=HC6.later hb2;simp only[Nat.zero_add] at d0 d1 d2 d3 d4 d5;obtain⟨hCi,hfz⟩:=own_at hO2 HXL.out (show i<n by omega)
    generalize X[i]'(by have:=HXL.out;omega)=r at hCi
    obtain⟨rp,rm,rb,ro,rs,rv⟩:=r;obtain⟨i0,i1,i2,i3,i4,i5⟩:=hCi;have f0:=hfz (i*6);have f1:=hfz (i*6+1);have f2:=hfz (i*6+2);have f3:=hfz (i*6+3);have f4:=hfz (i*6+4);have f5:=hfz (i*6+5);have hgl:g<w2.heap.size:=bLQ _ _ i0;have hwl:wr.heap.size<w2.heap.size:=bLQ _ _ d0;have b0:(0:Int)≤(i:Int):=by omega
    have b1:(i:Int)<(n:Int):=by omega
    clear hb2 hO2 q0 q1 q2 q3 q4 q5 hfz;go_wp2;exact⟨⟨i+1,j+1,_,by go_num,by go_num,by omega,HKK.out hP,own_set HO2.out (by rw[HXL.out];omega) p m b o s v,below_six HB2.out hg0 _ _ _ _ _ _⟩,by simp[intOf];omega⟩
   go_wp2_with fail
   refine (HF.out p m b o s v _ HBA.out).mono ?_;rintro e w2 ⟨rfl,hb2⟩;rw[hP];have HO2:Hid (w2.ownsRow w0.heap.size 37 6 (.slice (some ⟨g,0,none⟩) n cap) n (cellsR X)):=own_below HOA.out hb2;have HB2:Hid (Below w0.heap.size w0 w2):=HBA.out.trans (hb2.mono HBA.out.size);clear hb2 q0 q1 q2 q3 q4 q5;go_wp2;go_roundw
   case rel=>exact⟨i,j+1,X,rfl,by go_num,by omega,HKS.out hP,HO2.out,HB2.out⟩
   case measure=>simp[intOf];omega
  obtain rfl:j=n:=by omega
  have b0:(0:Int)≤(i:Int):=by omega
  have b1:(i:Int)≤(j:Int):=by omega
  have b2:(i:Int)≤(cap:Int):=by omega
  have b3:¬cap=i:=by omega
  have HZ:Hid (∀ty,(Builtin.clear_ #[39] ty #[.slice (some ⟨g,i*6,none⟩) (j-i) (cap-i)]).run Tryz.prog wr=.ok (.tuple #[]) (wr.setCells g (i*6) (Builtin.zeroCells (Value.agg #[.int .i64 0,.int .i64 0,.int .i64 0,.int .i64 0,.int .i64 0,.int .i64 0]).cells (j-i)).toList)):=fun ty =>
   run_clear6 wr _ ty Tryz.underlying39 g (i*6) (j-i) (cap-i) (by omega) (fun t ht=>by
    rw[hown.cellAt _ (by omega)];have h1:i*6+t<(cellsR X).length:=by rw[cellsR_len,HXL.out];omega
    rw[List.getElem?_eq_getElem h1];rfl) (fun t=>hown.frozenAt t)
  have hcl:=HZ.out
  generalize (Builtin.zeroCells (Value.agg #[.int .i64 0,.int .i64 0,.int .i64 0,.int .i64 0,.int .i64 0,.int .i64 0]).cells (j-i)).toList=Z at hcl
  have hoc:=own_behind Z (i*6) wr _ (own_cut hown (show i≤j by omega)) (Nat.le_refl _);have HE:Hid (X.take i=L.filter (fun a => !P a)):=by
   have:=hK;rw[←HN.out] at this;exact this.done
  have HOE:Hid ((wr.setCells g (i*6) Z).ownsRow w0.heap.size 37 6 (.slice (some ⟨g,0,none⟩) i cap) (L.filter (fun a => !P a)).length (cellsR (L.filter (fun a => !P a)))):=by
   have h1:=hoc.1;rw[cellsR_take,HE.out] at h1;have e1:(L.filter (fun a => !P a)).length=i:=by
    rw[←HE.out,List.length_take,HXL.out];omega
   show World.ownsRow _ _ _ _ _ _ _;rw[e1];exact h1
  have HBE:Hid (Below w0.heap.size w0 (wr.setCells g (i*6) Z)):=hBr.grown hoc.2 hBr.size (fun k hk=>by cases hk;exact hg0);clear hown hBr hK hoc HZ;go_wp2;go_ret;exact⟨_,rfl,HOE.out,HBE.out⟩
theorem delete_nil (f:FuncId)(c:Value)(P:Ru→Bool)(w:World)(he:∀args w,(callFunc f args).run Tryz.prog w=.ok (.enter f args) w)(hf:Asks w f c P):
 Calls Tryz.prog 70 #[.slice none 0 0,.func (Fn.func f) #[] #[c]] w fun e w'=>e=.returned (.slice none 0 0)∧Below w.heap.size w w':=by
 have HX:Hid (ixP P [] = -1):=rfl;have HF:Hid (Asks w f c P):=hf;clear hf;go_enter Tryz.func70,Tryz.ntmps70
 go_wp2_with fail
 refine (idxF none 0 0 f c P [] _ rfl (Nat.zero_le _) (fun h=>absurd h (by omega)) he HF.out).mono ?_;rintro e w1 ⟨rfl,hb1⟩;rw[HX.out];go_wp2;go_ret;exact⟨rfl,hb1⟩
theorem delete_any (v:Value)(f:FuncId)(c:Value)(P:Ru→Bool)(L:List Ru)(w0 w:World)(hB:Below w0.heap.size w0 w)(ho:w.ownsRow w0.heap.size 37 6 v L.length (cellsR L))
 (he:∀args w,(callFunc f args).run Tryz.prog w=.ok (.enter f args) w) (hf:Asks w0 f c P) (h1000:L.length≤1000):
 Calls Tryz.prog 70 #[v,.func (Fn.func f) #[] #[c]] w fun e w'=>∃u,e=.returned u∧w'.ownsRow w0.heap.size 37 6 u (L.filter (fun a => !P a)).length (cellsR (L.filter (fun a => !P a)))∧Below w0.heap.size w0 w':=by
 rcases ho.2 with ⟨rfl,h0⟩ | ⟨g,cap,cur,rfl,_⟩
 ·obtain rfl:L=[]:=List.length_eq_zero_iff.1 h0;refine (delete_nil f c P w he (hf.later hB)).mono ?_;rintro e w' ⟨rfl,hb⟩;exact⟨_,rfl,World.ownsRow_nil _ _ _ _,hB.trans (hb.mono hB.size)⟩
 refine (delete_some g L.length cap f c P L w0 w rfl hB ho he hf h1000).mono ?_;rintro e w' ⟨u,rfl,h1,h2⟩;exact⟨u,rfl,h1,h2⟩
theorem own_apart {w:World}{b1 e1 s1 n1 b2 e2 s2 n2:Nat}{v1 v2:Value}{x1 x2:List Value}(h1:w.ownsRow b1 e1 s1 v1 n1 x1)(h2:w.ownsRow b2 e2 s2 v2 n2 x2)(he:e1≠e2):v1.ownBlock=none∨v1.ownBlock≠v2.ownBlock:=by
 rcases h1.2 with ⟨rfl,_⟩ | ⟨g,cap,cur,rfl,_,hg,_⟩
 ·exact .inl rfl
 refine .inr ?_
 rcases h2.2 with ⟨rfl,_⟩ | ⟨g2,cap2,cur2,rfl,_,hg2,_⟩
 ·exact fun h=>by cases h
 intro h;simp only[Value.ownBlock,Option.some.injEq] at h;subst h;rw[hg] at hg2;simp only[Option.some.injEq,Obj.cells.injEq] at hg2;exact he hg2.2.1
theorem pat1 {W:World}{a1:Option Addr}{n1 c1:Nat}{L1:List Ru}(t:TypeId)(h1:SR W (.slice a1 n1 c1) L1):
 PAt (W.alloc (.cells #[.slice a1 n1 c1] t)) W.heap.size 0 [L1]:=by
 have hb:Below W.heap.size W (W.alloc (.cells #[.slice a1 n1 c1] t)):=(Below.refl _ _).alloc (Nat.le_refl _) _;intro i hi
 match i,hi with
 | 0,_=>exact⟨a1,n1,c1,by simp,h1.later hb⟩
theorem beyond_any (ao:Option Addr)(n cap:Nat)(ao2:Option Addr)(n2 cap2:Nat)(L M:List Ru)(w:World)(hs:SR w (.slice ao n cap) L)(ht:SR w (.slice ao2 n2 cap2) M)(h1000:L.length≤1000):
 Calls Tryz.prog 45 #[.slice ao n cap,.slice ao2 n2 cap2] w fun e w'=>∃ao3 n3 cap3,e=.returned (.slice ao3 n3 cap3)∧n3=(bey L M).length∧w'.ownsRow w.heap.size 37 6 (.slice ao3 n3 cap3) (bey L M).length (cellsR (bey L M))∧Below w.heap.size w w':=by
 have hB0:Below w.heap.size w (w.alloc (Obj.cells #[.slice ao2 n2 cap2] 39)):=(Below.refl _ _).alloc (Nat.le_refl _) _;have HAS:Hid (Asks (w.alloc (Obj.cells #[.slice ao2 n2 cap2] 39)) 71 (.pointer (some ⟨w.heap.size,0,none⟩)) (fun a=>inB M a)):=
  beyond1_asks ao2 n2 cap2 M w.heap.size _ (by simp) (ht.later hB0)
 have hp:=pat1 39 (hs.later hB0);have hB1:Below (w.alloc (Obj.cells #[.slice ao2 n2 cap2] 39)).heap.size (w.alloc (Obj.cells #[.slice ao2 n2 cap2] 39)) ((w.alloc (Obj.cells #[.slice ao2 n2 cap2] 39)).alloc (.cells #[.slice ao n cap] 39)):=(Below.refl _ _).alloc (Nat.le_refl _) _;have HP:Hid (PAt ((w.alloc (Obj.cells #[.slice ao2 n2 cap2] 39)).alloc (.cells #[.slice ao n cap] 39)) (w.heap.size+1) 0 [L]):=by
  show PAt _ _ _ _;simpa using hp
 have HB0:Hid (Below w.heap.size w (w.alloc (Obj.cells #[.slice ao2 n2 cap2] 39))):=hB0;have HB1:Hid (Below (w.alloc (Obj.cells #[.slice ao2 n2 cap2] 39)).heap.size (w.alloc (Obj.cells #[.slice ao2 n2 cap2] 39)) ((w.alloc (Obj.cells #[.slice ao2 n2 cap2] 39)).alloc (.cells #[.slice ao n cap] 39))):=hB1;have HL:Hid (L.length≤1000):=h1000;have HL2:Hid ([L].flatten.length≤1000):=by show _≤1000;simpa using h1000
 clear hs ht hB0 hp hB1 h1000;go_enter Tryz.func45,Tryz.ntmps45
 go_wp2_with fail
 refine (concat_any _ 0 1 1 [L] _ rfl (by omega) HP.out HL2.out).mono ?_;rintro e w1 ⟨u,rfl,hown,hb1⟩;have HB2:Hid (Below (w.alloc (Obj.cells #[.slice ao2 n2 cap2] 39)).heap.size (w.alloc (Obj.cells #[.slice ao2 n2 cap2] 39)) w1):=HB1.out.trans (hb1.mono HB1.out.size);have HO:Hid (w1.ownsRow (w.alloc (Obj.cells #[.slice ao2 n2 cap2] 39)).heap.size 37 6 u L.length (cellsR L)):=by
  show World.ownsRow _ _ _ _ _ _ _;have h1:=own_mono hown HB1.out.size;have e1:[L].flatten=L:=by simp
  rw[e1] at h1;exact h1
 clear hown hb1
 go_wp2_with fail
 refine (delete_any u _ _ (fun a=>inB M a) L _ _ HB2.out HO.out (enters_of Tryz.func71 (by kernel_rfl) rfl) HAS.out HL.out).mono ?_;rintro e w2 ⟨u2,rfl,hsr,hb2⟩;obtain⟨ao3,n3,cap3,rfl,hn3,_⟩:=(own_SR hsr).form;have HSR:Hid (w2.ownsRow w.heap.size 37 6 (.slice ao3 n3 cap3) (bey L M).length (cellsR (bey L M))):=own_mono hsr HB0.out.size;have HN3:Hid (n3=(bey L M).length):=hn3.symm;have HB3:Hid (Below w.heap.size w w2):=HB0.out.trans (hb2.mono HB0.out.size);clear hsr hb2 hn3;go_wp2;go_ret;exact⟨_,_,_,rfl,HN3.out,HSR.out,HB3.out⟩
structure C8 (w:World)(g o:Nat)(x:Op8):Prop where
 c0:w.cell? ⟨g,o,none⟩=some (.int .i64 x.w)
 c1:w.cell? ⟨g,o+1,none⟩=some (.bool x.a)
 c2:w.cell? ⟨g,o+2,none⟩=some (.int .i64 x.r.p)
 c3:w.cell? ⟨g,o+3,none⟩=some (.int .i64 x.r.m)
 c4:w.cell? ⟨g,o+4,none⟩=some (.int .i64 x.r.b)
 c5:w.cell? ⟨g,o+5,none⟩=some (.int .i64 x.r.o)
 c6:w.cell? ⟨g,o+6,none⟩=some (.int .i64 x.r.s)
 c7:w.cell? ⟨g,o+7,none⟩=some (.int .i64 x.r.v)
theorem C8.later {w w':World}{g o:Nat}{x:Op8}(h:C8 w g o x)(hb:Below w.heap.size w w'):C8 w' g o x:=
 ⟨cell_later hb h.c0,cell_later hb h.c1,cell_later hb h.c2,cell_later hb h.c3,cell_later hb h.c4,cell_later hb h.c5,cell_later hb h.c6,cell_later hb h.c7⟩
theorem C8.new (w:World)(y:Int)(a:Bool)(p m b o s v:Int)(t:TypeId):C8 (w.alloc (Obj.cells #[.int .i64 y,Value.bool a,.int .i64 p,.int .i64 m,.int .i64 b,.int .i64 o,.int .i64 s,.int .i64 v] t)) w.heap.size 0 ⟨y,a,⟨p,m,b,o,s,v⟩⟩:=by
 refine⟨?_,?_,?_,?_,?_,?_,?_,?_⟩ <;> simp
def cellsO (L:List Op8):List Value:=L.flatMap fun x=>[.int .i64 x.w,.bool x.a,.int .i64 x.r.p,.int .i64 x.r.m,.int .i64 x.r.b,.int .i64 x.r.o,.int .i64 x.r.s,.int .i64 x.r.v]
theorem cellsO_app (L M:List Op8):cellsO (L++M)=cellsO L++cellsO M:=by simp[cellsO]
theorem infoOp:(Tryz.prog.info? 83).map (fun i=>(i.zero,i.size,i.bytes))=some (some (.agg #[.int .i64 0,.bool false,.int .i64 0,.int .i64 0,.int .i64 0,.int .i64 0,.int .i64 0,.int .i64 0]),8,64):=by kernel_rfl
theorem eightCells:(Value.agg #[.int .i64 0,.bool false,.int .i64 0,.int .i64 0,.int .i64 0,.int .i64 0,.int .i64 0,.int .i64 0]).cells.size=8:=by simp[Value.cells]
theorem wpList_append_op (w:World){ops:Array Oper}{rest:List Oper}{o:Oper}{a:Act}{Q:Exit→Act→World→Prop}(hgd:o.guard=none)(s x:Operand)(t:TypeId)
 (ho:o.op=.call { callee:=.builtin .append,args:=#[s,x],argTypes:=#[t,t] }) (ht:Tryz.prog.underlying t=some (.slice 83)) (base:Nat)
 (v:Value) (hs:a.eval s=v) (L:List Op8) (hown:w.ownsRow base 83 8 v L.length (cellsO L)) (B:Nat) (hx:a.eval x=.slice (some ⟨B,0,none⟩) 1 1) (y:Op8) (hM:C8 w B 0 y)
 (h100:L.length≤1000) (hbase:base≤w.heap.size)
 (h:∀v' w',w'.ownsRow base 83 8 v' (L++[y]).length (cellsO (L++[y]))→w.grownBy w' v.ownBlock→wpList Tryz.prog ops Q rest (a.put o.dst v') w'):wpList Tryz.prog ops Q (o :: rest) a w:=by
 obtain⟨i0,hi,hz0,hz1,hz2⟩:=info_parts infoOp;refine wpList_append_own w hgd s x t ho base 83 i0 (.agg #[.int .i64 0,.bool false,.int .i64 0,.int .i64 0,.int .i64 0,.int .i64 0,.int .i64 0,.int .i64 0]) 8 64 ht hi hz0 hz1 hz2 eightCells (by decide) v _ _ hs hown ⟨B,0,none⟩ 1 1 (cellsO [y]) hx rfl ?_ ?_ (by unfold maxLen;omega) (by omega) hbase ?_
 ·intro j u hj;rw[addr_add,Nat.zero_add];obtain⟨c0,c1,c2,c3,c4,c5,c6,c7⟩:=hM
  match j,hj with
  | 0,hj=>simp[cellsO] at hj;subst hj;exact c0
  | 1,hj=>simp[cellsO] at hj;subst hj;exact c1
  | 2,hj=>simp[cellsO] at hj;subst hj;exact c2
  | 3,hj=>simp[cellsO] at hj;subst hj;exact c3
  | 4,hj=>simp[cellsO] at hj;subst hj;exact c4
  | 5,hj=>simp[cellsO] at hj;subst hj;exact c5
  | 6,hj=>simp[cellsO] at hj;subst hj;exact c6
  | 7,hj=>simp[cellsO] at hj;subst hj;exact c7
 ·intro u hu;simp[cellsO] at hu
  rcases hu with rfl | rfl | rfl | rfl | rfl | rfl | rfl | rfl <;> rfl
 intro v' w' h1 h2 _;refine h v' w' ?_ h2;rw[List.length_append,cellsO_app];exact h1
theorem tw_ne {A B:List Ru}(h:tbN A≠0):twN A B=tbN A:=by simp[twN,h]
theorem tw_ok {A B:List Ru}(h:tbN A=0):twN A B=tbN B:=by simp[twN,h]
theorem tw_two {A B:List Ru}(h:twN A B=0):tbN A=0∧tbN B=0:=by
 by_cases h1:tbN A=0
 ·rw[tw_ok h1] at h;exact⟨h1,h⟩
 rw[tw_ne h1] at h;exact absurd h h1
theorem sm_ne {A B:List Ru}(h:twN A B≠0):smB A B=false:=by simp[smB,h]
theorem sm_ok {A B:List Ru}(h:twN A B=0):smB A B=(decide (A.length=B.length)&&decide ((bey A B).length=0)):=by simp[smB,h]
theorem check_any2 (v1 v2:Value)(L M:List Ru)(w:World)(hs:SR w v1 L)(ht:SR w v2 M):
 Calls Tryz.prog 44 #[v1,v2] w fun e w'=>e=.returned (noV (twN L M))∧Below w.heap.size w w':=by
 have HS:Hid (SR w v1 L):=hs;have HT:Hid (SR w v2 M):=ht;clear hs ht;by_cases h1:tbN L=0
 ·rw[tw_ok h1];have H1:Hid (tbN L=0):=h1;clear h1
  generalize hE:noV (tbN M)=E
  have HE:Hid (noV (tbN M)=E):=hE;clear hE;go_enter Tryz.func44,Tryz.ntmps44
  go_wp2_with fail
  refine (table_any _ L _ HS.out).mono ?_;rintro e w1 ⟨rfl,hb1⟩;rw[no_ok H1.out];have HT1:Hid (SR w1 v2 M):=HT.out.later hb1;have HB1:Hid (Below w.heap.size w w1):=hb1;clear hb1
  go_wp2_with fail
  refine (table_any _ M _ HT1.out).mono ?_;rintro e w2 ⟨rfl,hb2⟩;rw[HE.out];have HB2:Hid (Below w.heap.size w w2):=HB1.out.trans (hb2.mono HB1.out.size);clear hb2;go_wp2;go_ret;exact⟨rfl,HB2.out⟩
 rw[tw_ne h1,no_ne h1];have H1:Hid (tbN L≠0):=h1;clear h1;go_enter Tryz.func44,Tryz.ntmps44
 go_wp2_with fail
 refine (table_any _ L _ HS.out).mono ?_;rintro e w1 ⟨rfl,hb1⟩;rw[no_ne H1.out];go_wp2;go_ret;exact⟨rfl,hb1⟩
theorem same_any2 (ao:Option Addr)(n cap:Nat)(ao2:Option Addr)(n2 cap2:Nat)(L M:List Ru)(w:World)(hs:SR w (.slice ao n cap) L)(ht:SR w (.slice ao2 n2 cap2) M):
 Calls Tryz.prog 66 #[.slice ao n cap,.slice ao2 n2 cap2] w fun e w'=>e=.returned (.tuple #[.bool (smB L M),noV (twN L M)])∧Below w.heap.size w w':=by
 have HS:Hid (SR w (.slice ao n cap) L):=hs;have HT:Hid (SR w (.slice ao2 n2 cap2) M):=ht;have HLN:Hid (L.length=n):=hs.len;have HMN:Hid (M.length=n2):=ht.len;clear hs ht;by_cases h1:twN L M=0
 ·rw[sm_ok h1,no_ok h1,HLN.out,HMN.out];have H1:Hid (twN L M=0):=h1;have HL:Hid (L.length≤1000):=by
   have:=(tb_iff.1 (tw_two h1).1).1;show _≤1000;omega
  clear h1;by_cases hn:n=n2
  ·subst hn;obtain⟨N,hN⟩:∃N,N=(bey L M).length:=⟨_,rfl⟩;rw[←hN];have HN:Hid (N=(bey L M).length):=hN;clear hN;have e1:decide (n=n)=true:=by simp
   rw[e1,Bool.true_and];have HD:Hid (((N:Int)==0)=decide (N=0)):=by
    show _=_;rw[Bool.eq_iff_iff];simp
   go_enter Tryz.func66,Tryz.ntmps66
   go_wp2_with fail
   refine (check_any2 _ _ L M _ HS.out HT.out).mono ?_;rintro e w1 ⟨rfl,hb1⟩;rw[no_ok H1.out];have HS1:Hid (SR w1 (.slice ao n cap) L):=HS.out.later hb1;have HT1:Hid (SR w1 (.slice ao2 n cap2) M):=HT.out.later hb1;have HB1:Hid (Below w.heap.size w w1):=hb1;clear hb1
   go_wp2_with fail
   refine (beyond_any _ _ _ _ _ _ L M _ HS1.out HT1.out HL.out).mono ?_;rintro e w2 ⟨ao3,n3,cap3,rfl,hn3,_,hb2⟩;rw[←HN.out] at hn3;subst hn3;have HB2:Hid (Below w.heap.size w w2):=HB1.out.trans (hb2.mono HB1.out.size);clear hb2;go_wp2;refine bodyPost_ret (v:=.tuple #[.bool ((n3:Int)==0),.nilIface]) (by simp[results,Tryz.results66,go_sem]) rfl ⟨by rw[HD.out],HB2.out⟩
  have e1:decide (n=n2)=false:=by simpa using hn
  rw[e1,Bool.false_and];have e2:((n:Int)==(n2:Int))=false:=beq_eq_false_iff_ne.2 (by omega);go_enter Tryz.func66,Tryz.ntmps66
  go_wp2_with fail
  refine (check_any2 _ _ L M _ HS.out HT.out).mono ?_;rintro e w1 ⟨rfl,hb1⟩;rw[no_ok H1.out];have HB1:Hid (Below w.heap.size w w1):=hb1;clear hb1;go_wp2;refine bodyPost_ret (v:=.tuple #[.bool false,.nilIface]) (by simp[results,Tryz.results66,go_sem]) rfl ⟨rfl,HB1.out⟩
 rw[sm_ne h1,no_ne h1];have H1:Hid (twN L M≠0):=h1;clear h1;go_enter Tryz.func66,Tryz.ntmps66
 go_wp2_with fail
 refine (check_any2 _ _ L M _ HS.out HT.out).mono ?_;rintro e w1 ⟨rfl,hb1⟩;rw[no_ne H1.out];have HB1:Hid (Below w.heap.size w w1):=hb1;clear hb1;go_wp2;refine bodyPost_ret (v:=.tuple #[.bool false,.iface 63 (.int .i64 (twN L M))]) (by simp[results,Tryz.results66,go_sem]) rfl ⟨rfl,HB1.out⟩
theorem bey_le (A B:List Ru):(bey A B).length≤A.length:=List.length_filter_le _ _
theorem taken_next {D:List Ru}{k:Nat}(hk:k<D.length):taken (D.take (k+1))=taken (D.take k)++[⟨0,false,D[k]⟩]:=by
 rw[List.take_succ_eq_append_getElem hk];simp only[taken,List.map_append,List.map_cons,List.map_nil]
theorem added_next {D:List Ru}{k:Nat}(hk:k<D.length)(C:List Op8):C++added (D.take (k+1))=(C++added (D.take k))++[⟨0,true,D[k]⟩]:=by
 rw[List.take_succ_eq_append_getElem hk];simp only[added,List.map_append,List.map_cons,List.map_nil,List.append_assoc]
theorem taken_len (D:List Ru):(taken D).length=D.length:=by simp[taken]
theorem added_len (D:List Ru):(added D).length=D.length:=by simp[added]
theorem diff_own (ao:Option Addr)(n cap:Nat)(ao2:Option Addr)(n2 cap2:Nat)(L M:List Ru)(w:World)(hs:SR w (.slice ao n cap) L)(ht:SR w (.slice ao2 n2 cap2) M)(h0:twN L M=0):
 Calls Tryz.prog 22 #[.slice ao n cap,.slice ao2 n2 cap2] w fun e w'=>∃u,e=.returned (.tuple #[u,.nilIface])∧w'.ownsRow w.heap.size 83 8 u (taken (bey L M)++added (bey M L)).length (cellsO (taken (bey L M)++added (bey M L)))∧Below w.heap.size w w':=by
 have HS:Hid (SR w (.slice ao n cap) L):=hs;have HT:Hid (SR w (.slice ao2 n2 cap2) M):=ht;have H0:Hid (twN L M=0):=h0;have HL:Hid (L.length≤12∧M.length≤12):=⟨(tb_iff.1 (tw_two h0).1).1,(tb_iff.1 (tw_two h0).2).1⟩;clear hs ht h0;go_enter Tryz.func22,Tryz.ntmps22
 go_wp2_with fail
 refine (check_any2 _ _ L M _ HS.out HT.out).mono ?_;rintro e w1 ⟨rfl,hb1⟩;rw[no_ok H0.out];have HS1:Hid (SR w1 (.slice ao n cap) L):=HS.out.later hb1;have HT1:Hid (SR w1 (.slice ao2 n2 cap2) M):=HT.out.later hb1;have HB1:Hid (Below w.heap.size w w1):=hb1;clear hb1
 go_wp2_with fail
 refine (beyond_any _ _ _ _ _ _ L M _ HS1.out HT1.out (by have:=HL.out;omega)).mono ?_;rintro e w2 ⟨ao3,n3,cap3,rfl,hn3,hown,hb2⟩;have HD0:Hid ((bey L M).length≤12):=Nat.le_trans (bey_le L M) HL.out.1;obtain⟨D,hD⟩:∃D,D=bey L M:=⟨_,rfl⟩;rw[←hD] at hn3 hown HD0;have HD:Hid (D=bey L M):=hD;have HN3:Hid (D.length=n3):=hn3.symm;have hn12:n3≤12:=by have:=HD0.out;omega
 have HR:Hid (w2.ownsRow w.heap.size 37 6 (.slice ao3 n3 cap3) D.length (cellsR D)):=own_mono hown HB1.out.size;have HB2:Hid (Below w.heap.size w w2):=HB1.out.trans (hb2.mono HB1.out.size);clear hn3 hown hb2 hD HS1 HT1 HB1
 go_upto_block 0 with fail
 go_cut [7] from 6 (fun u w'=>w'.ownsRow w.heap.size 83 8 u (taken (bey L M)).length (cellsO (taken (bey L M)))∧Below w.heap.size w w')
 case first =>
  go_wp2
  go_loopw [7,22] (fun u i wr=>∃k:Nat,k≤n3∧i=.int .i64 k∧wr.ownsRow w.heap.size 83 8 u (taken (D.take k)).length (cellsO (taken (D.take k)))∧wr.ownsRow w.heap.size 37 6 (.slice ao3 n3 cap3) D.length (cellsR D)∧Below w.heap.size w wr) (fun _ i _=>n3-(intOf i).toNat)
  case atStart=>exact⟨0,by omega,rfl,World.ownsRow_nil _ _ _ _,HR.out,HB2.out⟩
  case round =>
   obtain⟨k,hk,rfl,hop,hru,hB⟩:=hrel;have HOP:Hid (wr.ownsRow w.heap.size 83 8 u7 (taken (D.take k)).length (cellsO (taken (D.take k)))):=hop;have HRU:Hid (wr.ownsRow w.heap.size 37 6 (.slice ao3 n3 cap3) D.length (cellsR D)):=hru;have HB:Hid (Below w.heap.size w wr):=hB;clear hop hB HR HB2;by_cases hlt:k<n3
   ·obtain⟨ao',n',cap',e,_,_,_,ha⟩:=(own_SR hru).form;cases e;obtain⟨g,og,rfl,hRA,_⟩:=ha (by omega);obtain⟨p,m,b,q,s,v,hkl,hLk,q0,q1,q2,q3,q4,q5⟩:=hRA.at HN3.out hlt;have HT2:Hid (taken (D.take (k+1))=taken (D.take k)++[⟨0,false,⟨p,m,b,q,s,v⟩⟩]):=by
     show _=_;rw[taken_next hkl,hLk]
    have HK:Hid ((taken (D.take k)).length≤1000):=by
     show _≤1000;rw[taken_len,List.length_take];omega
    have hBA:=(Below.refl wr.heap.size wr).alloc (Nat.le_refl _) (Obj.cells #[.int .i64 p,.int .i64 m,.int .i64 b,.int .i64 q,.int .i64 s,.int .i64 v] 37);have hBB:=hBA.alloc (by simp) (Obj.cells #[.int .i64 0,Value.bool false,.int .i64 p,.int .i64 m,.int .i64 b,.int .i64 q,.int .i64 s,.int .i64 v] 83);have HBB:=hBB;have HC8:=C8.new (wr.alloc (Obj.cells #[.int .i64 p,.int .i64 m,.int .i64 b,.int .i64 q,.int .i64 s,.int .i64 v] 37)) 0 false p m b q s v 83;simp only[World.size_alloc] at HC8;clear hRA hLk ha hBA hru
    go_wp2_with (at_builtin;refine wpList_append_op _ rfl _ _ 45 rfl Tryz.underlying45 w.heap.size _ rfl _ (own_below HOP.out hBB) _ rfl _ HC8 HK.out (HB.out.trans (hBB.mono HB.out.size)).size ?_)
    intro v' w3 hown3 hgrow;have hO3:=own_below HOP.out hBB;have HR3:Hid (w3.ownsRow w.heap.size 37 6 (.slice (some ⟨g,og,none⟩) n3 cap3) D.length (cellsR D)):=(own_below HRU.out hBB).kept hgrow (own_apart (own_below HRU.out hBB) hO3 (by decide));have HB3:Hid (Below w.heap.size w w3):=(HB.out.trans (hBB.mono HB.out.size)).grown hgrow (HB.out.trans (hBB.mono HB.out.size)).size (fun g hg=>(hO3.lt g hg).1);have HO3:Hid (w3.ownsRow w.heap.size 83 8 v' (taken (D.take (k+1))).length (cellsO (taken (D.take (k+1))))):=by
     show World.ownsRow _ _ _ _ _ _ _;rw[HT2.out,List.length_append];exact hown3
    clear hown3 hgrow hO3 hBB HBB HC8 q0 q1 q2 q3 q4 q5;go_wp2;go_roundw
    case rel=>exact⟨k+1,by omega,by go_num,HO3.out,HR3.out,HB3.out⟩
    case measure=>simp[intOf];omega
   obtain rfl:k=n3:=by omega
   go_wp2_with fail
   go_meet
   case rel =>
    refine⟨?_,HB.out⟩;have h1:=HOP.out;rw[←HN3.out,List.take_length,HD.out] at h1;exact h1
 case rest =>
  obtain⟨hop,hB⟩:=hcut;obtain⟨C,hC⟩:∃C,C=taken (bey L M):=⟨_,rfl⟩;have HC:Hid (C=taken (bey L M)):=hC;have HCL:Hid (C.length≤12):=by
   show C.length≤12;rw[hC,taken_len];exact Nat.le_trans (bey_le L M) HL.out.1
  rw[←hC] at hop;have HOC:Hid (wc.ownsRow w.heap.size 83 8 u7 C.length (cellsO C)):=hop;have HBC:Hid (Below w.heap.size w wc):=hB;have HS1:Hid (SR wc (.slice ao n cap) L):=HS.out.later hB;have HT1:Hid (SR wc (.slice ao2 n2 cap2) M):=HT.out.later hB;clear hop hB hC HR HB2 HN3 HD HD0 hn12;clear D
  go_wp2_with fail
  refine (beyond_any _ _ _ _ _ _ M L _ HT1.out HS1.out (by have:=HL.out;omega)).mono ?_;rintro e w2 ⟨ao3,n3,cap3,rfl,hn3,hown,hb2⟩;have HD0:Hid ((bey M L).length≤12):=Nat.le_trans (bey_le M L) HL.out.2;obtain⟨D,hD⟩:∃D,D=bey M L:=⟨_,rfl⟩;rw[←hD] at hn3 hown HD0;have HD:Hid (D=bey M L):=hD;have HN3:Hid (D.length=n3):=hn3.symm;have hn12:n3≤12:=by have:=HD0.out;omega
  have HR:Hid (w2.ownsRow w.heap.size 37 6 (.slice ao3 n3 cap3) D.length (cellsR D)):=own_mono hown HBC.out.size;have HOC2:Hid (w2.ownsRow w.heap.size 83 8 u7 C.length (cellsO C)):=own_below HOC.out hb2;have HB2:Hid (Below w.heap.size w w2):=HBC.out.trans (hb2.mono HBC.out.size);clear hn3 hown hb2 hD HS1 HT1;go_wp2
  go_loopw [7,36] (fun u i wr=>∃k:Nat,k≤n3∧i=.int .i64 k∧wr.ownsRow w.heap.size 83 8 u (C++added (D.take k)).length (cellsO (C++added (D.take k)))∧wr.ownsRow w.heap.size 37 6 (.slice ao3 n3 cap3) D.length (cellsR D)∧Below w.heap.size w wr) (fun _ i _=>n3-(intOf i).toNat)
  case atStart=>exact⟨0,by omega,rfl,by have:=HOC2.out;simpa[added] using this,HR.out,HB2.out⟩
  case round =>
   obtain⟨k,hk,rfl,hop,hru,hB⟩:=hrel;have HOP:Hid (wr.ownsRow w.heap.size 83 8 u7 (C++added (D.take k)).length (cellsO (C++added (D.take k)))):=hop;have HRU:Hid (wr.ownsRow w.heap.size 37 6 (.slice ao3 n3 cap3) D.length (cellsR D)):=hru;have HB:Hid (Below w.heap.size w wr):=hB;clear hop hB HR HB2 HOC2;by_cases hlt:k<n3
   ·obtain⟨ao',n',cap',e,_,_,_,ha⟩:=(own_SR hru).form;cases e;obtain⟨g,og,rfl,hRA,_⟩:=ha (by omega);obtain⟨p,m,b,q,s,v,hkl,hLk,q0,q1,q2,q3,q4,q5⟩:=hRA.at HN3.out hlt;have HT2:Hid (C++added (D.take (k+1))=C++added (D.take k)++[⟨0,true,⟨p,m,b,q,s,v⟩⟩]):=by
     show _=_;rw[added_next hkl,hLk]
    have HK:Hid ((C++added (D.take k)).length≤1000):=by
     show _≤1000;rw[List.length_append,added_len,List.length_take];have:=HCL.out;omega
    have hBA:=(Below.refl wr.heap.size wr).alloc (Nat.le_refl _) (Obj.cells #[.int .i64 p,.int .i64 m,.int .i64 b,.int .i64 q,.int .i64 s,.int .i64 v] 37);have hBB:=hBA.alloc (by simp) (Obj.cells #[.int .i64 0,Value.bool true,.int .i64 p,.int .i64 m,.int .i64 b,.int .i64 q,.int .i64 s,.int .i64 v] 83);have HBB:=hBB;have HC8:=C8.new (wr.alloc (Obj.cells #[.int .i64 p,.int .i64 m,.int .i64 b,.int .i64 q,.int .i64 s,.int .i64 v] 37)) 0 true p m b q s v 83;simp only[World.size_alloc] at HC8;clear hRA hLk ha hBA hru
    go_wp2_with (at_builtin;refine wpList_append_op _ rfl _ _ 45 rfl Tryz.underlying45 w.heap.size _ rfl _ (own_below HOP.out hBB) _ rfl _ HC8 HK.out (HB.out.trans (hBB.mono HB.out.size)).size ?_)
    intro v' w3 hown3 hgrow;have hO3:=own_below HOP.out hBB;have HR3:Hid (w3.ownsRow w.heap.size 37 6 (.slice (some ⟨g,og,none⟩) n3 cap3) D.length (cellsR D)):=(own_below HRU.out hBB).kept hgrow (own_apart (own_below HRU.out hBB) hO3 (by decide));have HB3:Hid (Below w.heap.size w w3):=(HB.out.trans (hBB.mono HB.out.size)).grown hgrow (HB.out.trans (hBB.mono HB.out.size)).size (fun g hg=>(hO3.lt g hg).1);have HO3:Hid (w3.ownsRow w.heap.size 83 8 v' (C++added (D.take (k+1))).length (cellsO (C++added (D.take (k+1))))):=by
     show World.ownsRow _ _ _ _ _ _ _;rw[HT2.out,List.append_assoc,List.length_append,List.length_append];exact hown3
    clear hown3 hgrow hO3 hBB HBB HC8 q0 q1 q2 q3 q4 q5;go_wp2;go_roundw
    case rel=>exact⟨k+1,by omega,by go_num,HO3.out,HR3.out,HB3.out⟩
    case measure=>simp[intOf];omega
   obtain rfl:k=n3:=by omega
   have HFI:Hid (wr.ownsRow w.heap.size 83 8 u7 (taken (bey L M)++added (bey M L)).length (cellsO (taken (bey L M)++added (bey M L)))):=by
    have h1:=HOP.out;rw[←HN3.out,List.take_length,HD.out,HC.out] at h1;exact h1
   go_wp2;refine bodyPost_ret (v:=.tuple #[u7,.nilIface]) (by simp[results,Tryz.results22,go_sem]) rfl ⟨_,rfl,HFI.out,HB.out⟩
def TAt (w:World)(g o:Nat)(Ts:List (List Ru)):Prop:=∀i (h:i<Ts.length),∃ao n cap,w.cell? ⟨g,o+i,none⟩=some (.slice ao n cap)∧SR w (.slice ao n cap) Ts[i]
theorem TAt.later {w w':World}{g o:Nat}{Ts:List (List Ru)}(h:TAt w g o Ts)(hb:Below w.heap.size w w'):TAt w' g o Ts:=fun i hi=>by
 obtain⟨ao,n,cap,h1,h2⟩:=h i hi;exact⟨ao,n,cap,cell_later hb h1,h2.later hb⟩
def TS (w:World)(v:Value)(Ts:List (List Ru)):Prop:=
 (∃ao cap,v=.slice ao 0 cap∧Ts=[])∨∃g o cap,v=.slice (some ⟨g,o,none⟩) Ts.length cap∧Ts.length≤cap∧cap≤maxLen∧TAt w g o Ts
theorem TS.later {w w':World}{v:Value}{Ts:List (List Ru)}(h:TS w v Ts)(hb:Below w.heap.size w w'):TS w' v Ts:=by
 rcases h with h | ⟨g,o,cap,h1,h2,h3,h4⟩
 ·exact .inl h
 exact .inr ⟨g,o,cap,h1,h2,h3,h4.later hb⟩
theorem TS.form {w:World}{v:Value}{Ts:List (List Ru)}(h:TS w v Ts):∃ao n cap,v=.slice ao n cap∧Ts.length=n∧n≤maxLen∧n≤cap∧(0<n→∃g o,ao=some ⟨g,o,none⟩∧TAt w g o Ts∧cap≤maxLen):=by
 rcases h with ⟨ao,cap,rfl,rfl⟩ | ⟨g,o,cap,rfl,h1,h2,h3⟩
 ·exact⟨ao,0,cap,rfl,rfl,Nat.zero_le _,Nat.zero_le _,fun h=>absurd h (by omega)⟩
 exact⟨_,_,cap,rfl,rfl,Nat.le_trans h1 h2,h1,fun _=>⟨g,o,rfl,h3,h2⟩⟩
theorem TS.len {w:World}{ao:Option Addr}{n cap:Nat}{Ts:List (List Ru)}(h:TS w (.slice ao n cap) Ts):Ts.length=n:=by
 rcases h with ⟨_,_,e,rfl⟩ | ⟨_,_,_,e,_⟩
 ·simp at e;simp[e]
 simp at e;exact e.2.1.symm
theorem getT {Ts:List (List Ru)}{k:Nat}(hk:k<Ts.length):Ts.getD k []=Ts[k]:=by simp[List.getD,hk]
def NeBox (W:World)(g:Nat)(S:Int)(v1 v2 v3:Value):Prop:=W.cell? ⟨g,0,none⟩=some (.int .i64 S)∧W.cell? ⟨g,1,none⟩=some v1∧W.cell? ⟨g,2,none⟩=some v2∧W.cell? ⟨g,3,none⟩=some v3
theorem nebox_new (w:World)(S:Int)(v1 v2 v3:Value)(t:TypeId):NeBox (w.alloc (Obj.cells #[.int .i64 S,v1,v2,v3] t)) w.heap.size S v1 v2 v3:=by
 refine⟨?_,?_,?_,?_⟩ <;> simp
theorem NeBox.later {W W':World}{g:Nat}{S:Int}{v1 v2 v3:Value}(h:NeBox W g S v1 v2 v3)(hb:Below W.heap.size W W'):NeBox W' g S v1 v2 v3:=
 ⟨cell_later hb h.1,cell_later hb h.2.1,cell_later hb h.2.2.1,cell_later hb h.2.2.2⟩
theorem ncheck_any (S:Int)(ao:Option Addr)(n cap:Nat)(ao2:Option Addr)(n2 cap2:Nat)(ao3:Option Addr)(n3 cap3:Nat)(Ls:LkQ)(Hs:HoQ)(Ts:List (List Ru))(w:World)
 (hL:GS lnkE w (.slice ao n cap) Ls) (hH:GS hstE w (.slice ao2 n2 cap2) Hs) (hT:TS w (.slice ao3 n3 cap3) Ts):
 Calls Tryz.prog 28 #[.agg #[.int .i64 S,.slice ao n cap,.slice ao2 n2 cap2,.slice ao3 n3 cap3]] w fun e w'=>e=.returned (noV (ntN S Ls Hs Ts))∧Below w.heap.size w w':=by
 have hb1:Below w.heap.size w (w.alloc (Obj.cells #[.int .i64 S,.slice ao n cap,.slice ao2 n2 cap2,.slice ao3 n3 cap3] 28)):=(Below.refl _ _).alloc (Nat.le_refl _) _;obtain⟨C,hC⟩:∃C,C=ntN S Ls Hs Ts:=⟨_,rfl⟩;have HC:Hid (C=ntN S Ls Hs Ts):=hC;rw[←hC];have HL2:Hid (GS lnkE (w.alloc (Obj.cells #[.int .i64 S,.slice ao n cap,.slice ao2 n2 cap2,.slice ao3 n3 cap3] 28)) (.slice ao n cap) Ls):=hL.later hb1;have HH2:Hid (GS hstE (w.alloc (Obj.cells #[.int .i64 S,.slice ao n cap,.slice ao2 n2 cap2,.slice ao3 n3 cap3] 28)) (.slice ao2 n2 cap2) Hs):=hH.later hb1;have HT2:Hid (TS (w.alloc (Obj.cells #[.int .i64 S,.slice ao n cap,.slice ao2 n2 cap2,.slice ao3 n3 cap3] 28)) (.slice ao3 n3 cap3) Ts):=hT.later hb1;have HB2:Hid (Below w.heap.size w (w.alloc (Obj.cells #[.int .i64 S,.slice ao n cap,.slice ao2 n2 cap2,.slice ao3 n3 cap3] 28))):=hb1;have HX:Hid (NeBox (w.alloc (Obj.cells #[.int .i64 S,.slice ao n cap,.slice ao2 n2 cap2,.slice ao3 n3 cap3] 28)) w.heap.size S (.slice ao n cap) (.slice ao2 n2 cap2) (.slice ao3 n3 cap3)):=nebox_new w S _ _ _ 28;clear hC hb1 hL hH hT;go_enter Tryz.func28,Tryz.ntmps28
 go_wp2_with fail
 refine (check_any S ao n cap ao2 n2 cap2 Ls Hs _ HL2.out HH2.out).mono ?_;rintro e w1 ⟨rfl,hb1⟩;obtain⟨T,hT⟩:∃T,T=tpN S Ls Hs:=⟨_,rfl⟩;have HT:Hid (T=tpN S Ls Hs):=hT;rw[←hT];have HB1:Hid (Below w.heap.size w w1):=HB2.out.trans (hb1.mono HB2.out.size);obtain⟨b0,b1,b2,b3⟩:=HX.out.later hb1;have HT1:Hid (TS w1 (.slice ao3 n3 cap3) Ts):=HT2.out.later hb1;clear hT hb1 HX HL2 HH2 HB2 HT2;by_cases h0:T=0
 ·subst h0;rw[no_ok rfl];obtain⟨_,_,_,e2,hTn,hTm,_,hTa⟩:=HT1.out.form;cases e2;have HTN:Hid (Ts.length=n3):=hTn;have HTM:Hid (n3≤maxLen):=hTm;have HTA:Hid (0<n3→∃g o,ao3=some ⟨g,o,none⟩∧TAt w1 g o Ts∧cap3≤maxLen):=hTa;have n63:n3≤9223372036854775807:=by unfold maxLen at hTm;omega
  clear hTn hTm hTa HT1;by_cases hS:(n3:Int)=S
  ·have HC2:Hid (C=tsTo Ts n3):=by
    show _=_;rw[HC.out,ntN,if_pos HT.out.symm,if_pos (by rw[HTN.out];exact hS),HTN.out]
   have e1:((n3:Int) != S)=false:=by simp[hS]
   clear hS HC;go_wp2
   go_loopw [24] (fun i wr=>∃k:Nat,k≤n3∧i=.int .i64 k∧tsTo Ts k=0∧Below w1.heap.size w1 wr) (fun i _=>n3-(intOf i).toNat)
   case atStart=>exact⟨0,by omega,rfl,rfl,Below.refl _ _⟩
   case round =>
    obtain⟨k,hk,rfl,hz,hB⟩:=hrel;have HZ:Hid (tsTo Ts k=0):=hz;have HB:Hid (Below w1.heap.size w1 wr):=hB;have HBw:Hid (Below w.heap.size w wr):=HB1.out.trans (hB.mono HB1.out.size);clear hz b0 b1 b2 b3;by_cases hlt:k<n3
    ·obtain⟨g,o,hao,hc,_⟩:=HTA.out (by omega);subst hao;obtain⟨a4,n4,c4,q0,hs⟩:=(hc.later hB) k (by rw[HTN.out];exact hlt);have HS4:Hid (SR wr (.slice a4 n4 c4) (Ts.getD k [])):=by
      show SR _ _ _;rw[getT (by rw[HTN.out];exact hlt)];exact hs
     clear hs hc hB
     go_wp2_with fail
     refine (table_any _ (Ts.getD k []) _ HS4.out).mono ?_;rintro e w2 ⟨rfl,hb2⟩;obtain⟨R,hR⟩:∃R,R=tbN (Ts.getD k []):=⟨_,rfl⟩;have HR:Hid (tsTo Ts (k+1)=R):=by
      show _=_;rw[tsTo,if_pos HZ.out,hR]
     rw[←hR];have HB3:Hid (Below w1.heap.size w1 w2):=HB.out.trans (hb2.mono HB.out.size);have HBw3:Hid (Below w.heap.size w w2):=HBw.out.trans (hb2.mono HBw.out.size);clear hR hb2 q0;by_cases hN:R=0
     ·subst hN;rw[no_ok rfl];go_wp2;go_roundw
      case rel=>exact⟨k+1,by omega,by go_num,HR.out,HB3.out⟩
      case measure=>simp[intOf];omega
     rw[no_ne hN];have HCR:Hid (C=R):=by
      show _=_;rw[HC2.out,ts_le (k:=k+1) (by rw[HR.out];exact hN) (by omega),HR.out]
     have HNN:Hid (R≠0):=hN;clear hN;go_wp2;go_ret;exact⟨by rw[HCR.out,no_ne HNN.out];rfl,HBw3.out⟩
    obtain rfl:k=n3:=by omega
    have HCR:Hid (C=0):=by
     show _=_;rw[HC2.out,HZ.out]
    clear hB;go_wp2;go_ret;exact⟨by rw[HCR.out];rfl,HBw.out⟩
  have HC2:Hid (C=3):=by
   show _=_;rw[HC.out,ntN,if_pos HT.out.symm,if_neg (by rw[HTN.out];exact hS)]
  have e1:((n3:Int) != S)=true:=by simpa using hS
  clear hS HC;go_wp2;go_ret;exact⟨by rw[HC2.out];rfl,HB1.out⟩
 rw[no_ne h0];have HC2:Hid (C=T):=by
  show _=_;rw[HC.out,ntN,←HT.out,if_neg h0]
 have HN0:Hid (T≠0):=h0;clear h0;go_wp2;go_ret;exact⟨by rw[HC2.out,no_ne HN0.out];rfl,HB1.out⟩
def NN (W:World)(B:Nat)(S:Int)(a1 a2 a3:Value)(S':Int)(b1 b2 b3:Value):Prop:=NeBox W B S a1 a2 a3∧NeBox W (B+1) S' b1 b2 b3
theorem nn_new (w:World)(S:Int)(a1 a2 a3:Value)(S':Int)(b1 b2 b3:Value)(t:TypeId):NN ((w.alloc (Obj.cells #[.int .i64 S,a1,a2,a3] t)).alloc (Obj.cells #[.int .i64 S',b1,b2,b3] t)) w.heap.size S a1 a2 a3 S' b1 b2 b3:=by
 refine⟨(nebox_new w S a1 a2 a3 t).later ((Below.refl _ _).alloc (Nat.le_refl _) _),?_⟩;have:=nebox_new (w.alloc (Obj.cells #[.int .i64 S,a1,a2,a3] t)) S' b1 b2 b3 t;simpa using this
theorem NN.later {W W':World}{B:Nat}{S:Int}{a1 a2 a3:Value}{S':Int}{b1 b2 b3:Value}(h:NN W B S a1 a2 a3 S' b1 b2 b3)(hb:Below W.heap.size W W'):NN W' B S a1 a2 a3 S' b1 b2 b3:=⟨h.1.later hb,h.2.later hb⟩
theorem NeBox.grown {W W':World}{g:Nat}{S:Int}{v1 v2 v3:Value}{row:Option Nat}(h:NeBox W g S v1 v2 v3)(hg:W.grownBy W' row)(hne:some g≠row):NeBox W' g S v1 v2 v3:=
 ⟨hg.cell h.1 hne,hg.cell h.2.1 hne,hg.cell h.2.2.1 hne,hg.cell h.2.2.2 hne⟩
theorem NN.grown {W W':World}{B:Nat}{S:Int}{a1 a2 a3:Value}{S':Int}{b1 b2 b3:Value}{row:Option Nat}(h:NN W B S a1 a2 a3 S' b1 b2 b3)(hg:W.grownBy W' row)(hr:∀g,row=some g→B+2≤g):NN W' B S a1 a2 a3 S' b1 b2 b3:=
 ⟨h.1.grown hg (fun e=>by have:=hr _ e.symm;omega),h.2.grown hg (fun e=>by have:=hr _ e.symm;omega)⟩
def nwN (S:Int)(Ls:LkQ)(Hs:HoQ)(Ts:List (List Ru))(S':Int)(Ls':LkQ)(Hs':HoQ)(Ts':List (List Ru)):Int:=
 if ntN S Ls Hs Ts=0 then ntN S' Ls' Hs' Ts' else ntN S Ls Hs Ts
theorem chCheck_any (S:Int)(ao:Option Addr)(n cap:Nat)(ao2:Option Addr)(n2 cap2:Nat)(ao3:Option Addr)(n3 cap3:Nat)(S':Int)(bo:Option Addr)(m dap:Nat)(bo2:Option Addr)(m2 dap2:Nat)(bo3:Option Addr)(m3 dap3:Nat)(Ls:LkQ)(Hs:HoQ)(Ts:List (List Ru))(Ls':LkQ)(Hs':HoQ)(Ts':List (List Ru))(w:World)
 (hL:GS lnkE w (.slice ao n cap) Ls) (hH:GS hstE w (.slice ao2 n2 cap2) Hs) (hT:TS w (.slice ao3 n3 cap3) Ts) (hL':GS lnkE w (.slice bo m dap) Ls') (hH':GS hstE w (.slice bo2 m2 dap2) Hs') (hT':TS w (.slice bo3 m3 dap3) Ts'):
 Calls Tryz.prog 20 #[.agg #[.int .i64 S,.slice ao n cap,.slice ao2 n2 cap2,.slice ao3 n3 cap3],.agg #[.int .i64 S',.slice bo m dap,.slice bo2 m2 dap2,.slice bo3 m3 dap3]] w fun e w'=>e=.returned (noV (nwN S Ls Hs Ts S' Ls' Hs' Ts'))∧Below w.heap.size w w':=by
 have hb0:Below w.heap.size w ((w.alloc (Obj.cells #[.int .i64 S,.slice ao n cap,.slice ao2 n2 cap2,.slice ao3 n3 cap3] 28)).alloc (Obj.cells #[.int .i64 S',.slice bo m dap,.slice bo2 m2 dap2,.slice bo3 m3 dap3] 28)):=((Below.refl _ _).alloc (Nat.le_refl _) _).alloc (by simp) _;have HNN:=nn_new w S (.slice ao n cap) (.slice ao2 n2 cap2) (.slice ao3 n3 cap3) S' (.slice bo m dap) (.slice bo2 m2 dap2) (.slice bo3 m3 dap3) 28;have HB0:Hid (Below w.heap.size w ((w.alloc (Obj.cells #[.int .i64 S,.slice ao n cap,.slice ao2 n2 cap2,.slice ao3 n3 cap3] 28)).alloc (Obj.cells #[.int .i64 S',.slice bo m dap,.slice bo2 m2 dap2,.slice bo3 m3 dap3] 28))):=hb0;have HW:Hid (∀W,Below w.heap.size w W→(GS lnkE W (.slice ao n cap) Ls∧GS hstE W (.slice ao2 n2 cap2) Hs∧TS W (.slice ao3 n3 cap3) Ts)∧GS lnkE W (.slice bo m dap) Ls'∧GS hstE W (.slice bo2 m2 dap2) Hs'∧TS W (.slice bo3 m3 dap3) Ts'):=fun W h=>⟨⟨hL.later h,hH.later h,hT.later h⟩,hL'.later h,hH'.later h,hT'.later h⟩
 obtain⟨X,hX⟩:∃X,X=nwN S Ls Hs Ts S' Ls' Hs' Ts':=⟨_,rfl⟩;have HX:Hid (X=nwN S Ls Hs Ts S' Ls' Hs' Ts'):=hX;rw[←hX];clear hL hH hT hL' hH' hT' hb0 hX;go_enter Tryz.func20,Tryz.ntmps20
 go_wp2_with fail
 refine (ncheck_any S ao n cap ao2 n2 cap2 ao3 n3 cap3 Ls Hs Ts _ (HW.out _ HB0.out).1.1 (HW.out _ HB0.out).1.2.1 (HW.out _ HB0.out).1.2.2).mono ?_;rintro e w1 ⟨rfl,hb1⟩;obtain⟨C,hC⟩:∃C,C=ntN S Ls Hs Ts:=⟨_,rfl⟩;have HC:Hid (C=ntN S Ls Hs Ts):=hC;rw[←hC];have HB1:Hid (Below w.heap.size w w1):=HB0.out.trans (hb1.mono HB0.out.size);obtain⟨⟨p0,p1,p2,p3⟩,s0,s1,s2,s3⟩:=HNN.later hb1;have hlt1:w.heap.size<w1.heap.size:=bLQ _ _ p0;have hlt2:w.heap.size+1<w1.heap.size:=bLQ _ _ s0;clear hC hb1 HNN HB0;by_cases h0:C=0
 ·subst h0;rw[no_ok rfl];have HX2:Hid (X=ntN S' Ls' Hs' Ts'):=by
   show _=_;rw[HX.out,nwN,if_pos HC.out.symm]
  go_wp2_with fail
  refine (ncheck_any S' bo m dap bo2 m2 dap2 bo3 m3 dap3 Ls' Hs' Ts' _ (HW.out _ HB1.out).2.1 (HW.out _ HB1.out).2.2.1 (HW.out _ HB1.out).2.2.2).mono ?_;rintro e w2 ⟨rfl,hb2⟩;have HB2:Hid (Below w.heap.size w w2):=HB1.out.trans (hb2.mono HB1.out.size);rw[←HX2.out];clear hb2 p0 p1 p2 p3 s0 s1 s2 s3;go_wp2;go_ret;exact⟨rfl,HB2.out⟩
 have HNZ:Hid (C≠0):=h0;have HX2:Hid (X=C):=by
  show _=_;rw[HX.out,nwN,←HC.out,if_neg h0]
 rw[no_ne h0];clear h0;go_wp2;go_ret;exact⟨by rw[HX2.out,no_ne HNZ.out];rfl,HB1.out⟩
theorem sameTable_any (ao:Option Addr)(n cap:Nat)(ao2:Option Addr)(n2 cap2:Nat)(L M:List Ru)(w:World)(hs:SR w (.slice ao n cap) L)(ht:SR w (.slice ao2 n2 cap2) M)(h0:twN L M=0):
 Calls Tryz.prog 40 #[.slice ao n cap,.slice ao2 n2 cap2] w fun e w'=>e=.returned (.bool (smB L M))∧Below w.heap.size w w':=by
 go_enter Tryz.func40,Tryz.ntmps40
 go_wp2_with fail
 refine (same_any2 ao n cap ao2 n2 cap2 L M w hs ht).mono ?_;rintro e w1 ⟨rfl,hb1⟩;rw[no_ok h0];obtain⟨B,hB⟩:∃B,B=smB L M:=⟨_,rfl⟩;rw[←hB];have HB:Hid (Below w.heap.size w w1):=hb1;have HE:Hid (B=smB L M):=hB;clear hB hb1 hs ht h0;go_wp2;go_ret;exact⟨by rw[←HE.out];rfl,HB.out⟩
def etB (As Bs:List (List Ru)):Bool:=decide (As.length=Bs.length)&&csB As Bs As.length
theorem cs_no {As Bs:List (List Ru)}{k n:Nat}(hk:k<n)(h:smB (As.getD k []) (Bs.getD k [])=false):csB As Bs n=false:=by
 cases e:csB As Bs n
 ·rfl
 have:=cs_iff.1 e k hk;rw[h] at this;cases this
theorem eqTabs_any (ao:Option Addr)(n cap:Nat)(ao2:Option Addr)(n2 cap2:Nat)(As Bs:List (List Ru))(w:World)(hs:TS w (.slice ao n cap) As)(ht:TS w (.slice ao2 n2 cap2) Bs)(htw:∀j,j<As.length→j<Bs.length→twN (As.getD j []) (Bs.getD j [])=0):
 Calls Tryz.prog 39 #[.slice ao n cap,.slice ao2 n2 cap2,.func (.func 40) #[] #[]] w fun e w'=>e=.returned (.bool (etB As Bs))∧Below w.heap.size w w':=by
 obtain⟨_,_,_,e,hn,hn2,hn3,ha⟩:=hs.form;cases e;obtain⟨_,_,_,e,hm,hm2,hm3,hb⟩:=ht.form;cases e;have HN:Hid (As.length=n):=hn;have HM:Hid (Bs.length=n2):=hm;have HA:Hid (0<n→∃g o,ao=some ⟨g,o,none⟩∧TAt w g o As∧cap≤maxLen):=ha;have HA2:Hid (0<n2→∃g o,ao2=some ⟨g,o,none⟩∧TAt w g o Bs∧cap2≤maxLen):=hb;have HTW:Hid (∀j,j<As.length→j<Bs.length→twN (As.getD j []) (Bs.getD j [])=0):=htw;have hn63:n≤9223372036854775807:=by unfold maxLen at hn2;omega
 clear hs ht hn ha hm hb hn2 hm2 htw;obtain⟨R,hR⟩:∃R,R=etB As Bs:=⟨_,rfl⟩;have HR:Hid (R=etB As Bs):=hR;rw[←hR];clear hR;by_cases hl:n=n2
 ·subst hl;have HRC:Hid (R=csB As Bs n):=by
   show _=_;rw[HR.out,etB,HN.out,HM.out];simp
  go_enter Tryz.func39,Tryz.ntmps39;go_wp2
  go_loopw [17] (fun i wr=>∃k:Nat,k≤n∧i=.int .i64 k∧csB As Bs k=true∧Below w.heap.size w wr) (fun i _=>n-(intOf i).toNat)
  case atStart=>exact⟨0,by omega,rfl,rfl,Below.refl _ _⟩
  case round =>
   obtain⟨k,hk,rfl,hall,hB⟩:=hrel;have HB:Hid (Below w.heap.size w wr):=hB;have HALL:Hid (csB As Bs k=true):=hall;clear hall;by_cases hlt:k<n
   ·obtain⟨g,og,hao,hc,_⟩:=HA.out (by omega);obtain⟨f,of,hbo,hd,_⟩:=HA2.out (by omega);subst hao hbo;have hkA:k<As.length:=by rw[HN.out];exact hlt
    have hkB:k<Bs.length:=by rw[HM.out];exact hlt
    obtain⟨a3,l3,c3,r0,hG3⟩:=(hc.later hB) k hkA;obtain⟨a4,l4,c4,r1,hG4⟩:=(hd.later hB) k hkB;rw[←getT hkA] at hG3;rw[←getT hkB] at hG4;have HG3:Hid (SR wr (.slice a3 l3 c3) (As.getD k [])):=hG3;have HG4:Hid (SR wr (.slice a4 l4 c4) (Bs.getD k [])):=hG4;have kb0:(0:Int)≤(k:Int):=by omega
    have kb1:(k:Int)<(n:Int):=by omega
    have HT0:Hid (twN (As.getD k []) (Bs.getD k [])=0):=HTW.out k hkA hkB;clear hc hd hB hG3 hG4
    go_wp2_with fail
    refine (sameTable_any a3 l3 c3 a4 l4 c4 _ _ wr HG3.out HG4.out HT0.out).mono ?_;rintro e w2 ⟨rfl,hb2⟩;have HB2:Hid (Below w.heap.size w w2):=HB.out.trans (hb2.mono HB.out.size);obtain⟨T,hT⟩:∃T,T=smB (As.getD k []) (Bs.getD k []):=⟨_,rfl⟩;have HT:Hid (T=smB (As.getD k []) (Bs.getD k [])):=hT;rw[←hT];clear hb2 hT r0 r1;cases T with
    | false =>
      have HF:Hid (R=false):=by
       show _=_;rw[HRC.out];exact cs_no hlt HT.out.symm
      go_wp2;go_ret;exact⟨by rw[HF.out];rfl,HB2.out⟩
    | true =>
      have HC2:Hid (csB As Bs (k+1)=true):=by
       show _=_;rw[csB,HALL.out,←HT.out];rfl
      go_wp2;go_roundw
      case rel=>exact⟨k+1,by omega,by go_num,HC2.out,HB2.out⟩
      case measure=>simp[intOf];omega
   obtain rfl:k=n:=by omega
   have HF:Hid (R=true):=by
    show _=_;rw[HRC.out,HALL.out]
   go_wp2;go_ret;exact⟨by rw[HF.out];rfl,HB.out⟩
 have HF:Hid (R=false):=by
  show _=_;rw[HR.out,etB,HN.out,HM.out];simp[hl]
 have e1:((n:Int)==(n2:Int))=false:=beq_eq_false_iff_ne.2 (by omega);have e2:((n:Int) != (n2:Int))=true:=by simp;omega
 go_enter Tryz.func39,Tryz.ntmps39;go_wp2;go_ret;exact⟨by rw[HF.out];rfl,Below.refl _ _⟩
theorem sameTopo_any (S:Int)(ao:Option Addr)(n cap:Nat)(ao2:Option Addr)(n2 cap2:Nat)(Ls:LkQ)(Hs:HoQ)(S':Int)(bo:Option Addr)(m cap3:Nat)(bo2:Option Addr)(m2 cap4:Nat)(Ls':LkQ)(Hs':HoQ)(w:World)
 (hL:GS lnkE w (.slice ao n cap) Ls) (hH:GS hstE w (.slice ao2 n2 cap2) Hs) (hL':GS lnkE w (.slice bo m cap3) Ls') (hH':GS hstE w (.slice bo2 m2 cap4) Hs'):
 Calls Tryz.prog 21 #[.agg #[.int .i64 S,.slice ao n cap,.slice ao2 n2 cap2],.agg #[.int .i64 S',.slice bo m cap3,.slice bo2 m2 cap4]] w fun e w'=>e=.returned (.bool (tpB S S' Ls Ls' Hs Hs'))∧Below w.heap.size w w':=by
 have hb0:Below w.heap.size w ((w.alloc (Obj.cells #[.int .i64 S,.slice ao n cap,.slice ao2 n2 cap2] 25)).alloc (Obj.cells #[.int .i64 S',.slice bo m cap3,.slice bo2 m2 cap4] 25)):=((Below.refl _ _).alloc (Nat.le_refl _) _).alloc (by simp) _;have HTT:=tt_new w S S' (.slice ao n cap) (.slice ao2 n2 cap2) (.slice bo m cap3) (.slice bo2 m2 cap4) 25;have HB0:Hid (Below w.heap.size w ((w.alloc (Obj.cells #[.int .i64 S,.slice ao n cap,.slice ao2 n2 cap2] 25)).alloc (Obj.cells #[.int .i64 S',.slice bo m cap3,.slice bo2 m2 cap4] 25))):=hb0;have HW:Hid (∀W,Below w.heap.size w W→(GS lnkE W (.slice ao n cap) Ls∧GS hstE W (.slice ao2 n2 cap2) Hs)∧GS lnkE W (.slice bo m cap3) Ls'∧GS hstE W (.slice bo2 m2 cap4) Hs'):=fun W h=>⟨⟨hL.later h,hH.later h⟩,hL'.later h,hH'.later h⟩
 clear hL hH hL' hH' hb0;by_cases hS:S=S'
 ·subst hS;have e1:(S==S)=true:=by simp
  have HE:Hid (tpB S S Ls Ls' Hs Hs'=(smG lnkB Ls Ls'&&smG hstB Hs Hs')):=by
   show _=_;simp[tpB]
  rw[HE.out];go_enter Tryz.func21,Tryz.ntmps21
  go_wp2_with fail
  refine (lnk_equal ao n cap bo m cap3 Ls Ls' _ (HW.out _ HB0.out).1.1 (HW.out _ HB0.out).2.1).mono ?_;rintro e w1 ⟨rfl,hb1⟩;have HB1:Hid (Below w.heap.size w w1):=HB0.out.trans (hb1.mono HB0.out.size);obtain⟨⟨p0,p1,p2⟩,s0,s1,s2⟩:=HTT.later hb1;have hlt1:w.heap.size<w1.heap.size:=bLQ _ _ p0;have hlt2:w.heap.size+1<w1.heap.size:=bLQ _ _ s0;obtain⟨b1,hb⟩:∃b,b=smG lnkB Ls Ls':=⟨_,rfl⟩;have HBE:Hid (smG lnkB Ls Ls'=b1):=hb.symm;rw[HBE.out];clear hb hb1 HB0 HTT;cases b1 with
  | false =>
    go_wp2;go_ret;exact⟨by rw[HBE.out];rfl,HB1.out⟩
  | true =>
    go_wp2_with fail
    refine (hst_equal ao2 n2 cap2 bo2 m2 cap4 Hs Hs' _ (HW.out _ HB1.out).1.2 (HW.out _ HB1.out).2.2).mono ?_;rintro e w2 ⟨rfl,hb2⟩;have HB2:Hid (Below w.heap.size w w2):=HB1.out.trans (hb2.mono HB1.out.size);obtain⟨b2,hb⟩:∃b,b=smG hstB Hs Hs':=⟨_,rfl⟩;have HB3:Hid (smG hstB Hs Hs'=b2):=hb.symm;rw[HB3.out];clear hb hb2 p0 p1 p2 s0 s1 s2;go_wp2;go_ret;exact⟨by rw[HBE.out,HB3.out];rfl,HB2.out⟩
 have e1:(S==S')=false:=by simpa using hS
 have HE:Hid (tpB S S' Ls Ls' Hs Hs'=false):=by
  show _=_;simp[tpB,hS]
 rw[HE.out];clear hS;go_enter Tryz.func21,Tryz.ntmps21;go_wp2;go_ret;exact⟨rfl,HB0.out⟩
def nsB (S:Int)(Ls:LkQ)(Hs:HoQ)(Ts:List (List Ru))(S':Int)(Ls':LkQ)(Hs':HoQ)(Ts':List (List Ru)):Bool:=
 decide (nwN S Ls Hs Ts S' Ls' Hs' Ts'=0)&&(tpB S S' Ls Ls' Hs Hs'&&etB Ts Ts')
theorem nw_two {S:Int}{Ls:LkQ}{Hs:HoQ}{Ts:List (List Ru)}{S':Int}{Ls':LkQ}{Hs':HoQ}{Ts':List (List Ru)}(h:nwN S Ls Hs Ts S' Ls' Hs' Ts'=0):ntN S Ls Hs Ts=0∧ntN S' Ls' Hs' Ts'=0:=by
 unfold nwN at h;by_cases e:ntN S Ls Hs Ts=0
 ·rw[if_pos e] at h;exact⟨e,h⟩
 rw[if_neg e] at h;exact absurd h e
theorem nw_tw {S:Int}{Ls:LkQ}{Hs:HoQ}{Ts:List (List Ru)}{S':Int}{Ls':LkQ}{Hs':HoQ}{Ts':List (List Ru)}(h:nwN S Ls Hs Ts S' Ls' Hs' Ts'=0)(j:Nat)(h1:j<Ts.length)(h2:j<Ts'.length):twN (Ts.getD j []) (Ts'.getD j [])=0:=by
 obtain⟨a,b⟩:=nw_two h;rw[twN,if_pos ((nt_0 a).2.2 j h1),(nt_0 b).2.2 j h2]
theorem chSame_any (S:Int)(ao:Option Addr)(n cap:Nat)(ao2:Option Addr)(n2 cap2:Nat)(ao3:Option Addr)(n3 cap3:Nat)(S':Int)(bo:Option Addr)(m dap:Nat)(bo2:Option Addr)(m2 dap2:Nat)(bo3:Option Addr)(m3 dap3:Nat)(Ls:LkQ)(Hs:HoQ)(Ts:List (List Ru))(Ls':LkQ)(Hs':HoQ)(Ts':List (List Ru))(w:World)
 (hL:GS lnkE w (.slice ao n cap) Ls) (hH:GS hstE w (.slice ao2 n2 cap2) Hs) (hT:TS w (.slice ao3 n3 cap3) Ts) (hL':GS lnkE w (.slice bo m dap) Ls') (hH':GS hstE w (.slice bo2 m2 dap2) Hs') (hT':TS w (.slice bo3 m3 dap3) Ts'):
 Calls Tryz.prog 17 #[.agg #[.int .i64 S,.slice ao n cap,.slice ao2 n2 cap2,.slice ao3 n3 cap3],.agg #[.int .i64 S',.slice bo m dap,.slice bo2 m2 dap2,.slice bo3 m3 dap3]] w fun e w'=>e=.returned (.tuple #[.bool (nsB S Ls Hs Ts S' Ls' Hs' Ts'),noV (nwN S Ls Hs Ts S' Ls' Hs' Ts')])∧Below w.heap.size w w':=by
 have hb0:Below w.heap.size w ((w.alloc (Obj.cells #[.int .i64 S,.slice ao n cap,.slice ao2 n2 cap2,.slice ao3 n3 cap3] 28)).alloc (Obj.cells #[.int .i64 S',.slice bo m dap,.slice bo2 m2 dap2,.slice bo3 m3 dap3] 28)):=((Below.refl _ _).alloc (Nat.le_refl _) _).alloc (by simp) _;have HNN:=nn_new w S (.slice ao n cap) (.slice ao2 n2 cap2) (.slice ao3 n3 cap3) S' (.slice bo m dap) (.slice bo2 m2 dap2) (.slice bo3 m3 dap3) 28;have HB0:Hid (Below w.heap.size w ((w.alloc (Obj.cells #[.int .i64 S,.slice ao n cap,.slice ao2 n2 cap2,.slice ao3 n3 cap3] 28)).alloc (Obj.cells #[.int .i64 S',.slice bo m dap,.slice bo2 m2 dap2,.slice bo3 m3 dap3] 28))):=hb0;have HW:Hid (∀W,Below w.heap.size w W→(GS lnkE W (.slice ao n cap) Ls∧GS hstE W (.slice ao2 n2 cap2) Hs∧TS W (.slice ao3 n3 cap3) Ts)∧GS lnkE W (.slice bo m dap) Ls'∧GS hstE W (.slice bo2 m2 dap2) Hs'∧TS W (.slice bo3 m3 dap3) Ts'):=fun W h=>⟨⟨hL.later h,hH.later h,hT.later h⟩,hL'.later h,hH'.later h,hT'.later h⟩
 obtain⟨X,hX⟩:∃X,X=nwN S Ls Hs Ts S' Ls' Hs' Ts':=⟨_,rfl⟩;have HX:Hid (X=nwN S Ls Hs Ts S' Ls' Hs' Ts'):=hX;obtain⟨R,hR⟩:∃R,R=nsB S Ls Hs Ts S' Ls' Hs' Ts':=⟨_,rfl⟩;have HR:Hid (R=(decide (X=0)&&(tpB S S' Ls Ls' Hs Hs'&&etB Ts Ts'))):=by
  show _=_;rw[hR,nsB,hX]
 rw[←hX,←hR];clear hL hH hT hL' hH' hT' hb0 hX hR;go_enter Tryz.func17,Tryz.ntmps17
 go_wp2_with fail
 refine (chCheck_any S ao n cap ao2 n2 cap2 ao3 n3 cap3 S' bo m dap bo2 m2 dap2 bo3 m3 dap3 Ls Hs Ts Ls' Hs' Ts' _ (HW.out _ HB0.out).1.1 (HW.out _ HB0.out).1.2.1 (HW.out _ HB0.out).1.2.2 (HW.out _ HB0.out).2.1 (HW.out _ HB0.out).2.2.1 (HW.out _ HB0.out).2.2.2).mono ?_;rintro e w1 ⟨rfl,hb1⟩;rw[←HX.out];have HB1:Hid (Below w.heap.size w w1):=HB0.out.trans (hb1.mono HB0.out.size);have HN1:=HNN.later hb1;obtain⟨⟨p0,p1,p2,p3⟩,s0,s1,s2,s3⟩:=HN1;have HNH:Hid (NN w1 w.heap.size S (.slice ao n cap) (.slice ao2 n2 cap2) (.slice ao3 n3 cap3) S' (.slice bo m dap) (.slice bo2 m2 dap2) (.slice bo3 m3 dap3)):=HNN.later hb1;have hlt1:w.heap.size<w1.heap.size:=bLQ _ _ p0;have hlt2:w.heap.size+1<w1.heap.size:=bLQ _ _ s0;clear hb1 HNN HB0;by_cases h0:X=0
 ·subst h0;rw[no_ok rfl]
  go_wp2_with fail
  refine (sameTopo_any S ao n cap ao2 n2 cap2 Ls Hs S' bo m dap bo2 m2 dap2 Ls' Hs' _ (HW.out _ HB1.out).1.1 (HW.out _ HB1.out).1.2.1 (HW.out _ HB1.out).2.1 (HW.out _ HB1.out).2.2.1).mono ?_;rintro e w2 ⟨rfl,hb2⟩;have HB2:Hid (Below w.heap.size w w2):=HB1.out.trans (hb2.mono HB1.out.size);clear p0 p1 p2 p3 s0 s1 s2 s3 hlt1 hlt2;obtain⟨⟨p0,p1,p2,p3⟩,s0,s1,s2,s3⟩:=HNH.out.later hb2;have hlt1:w.heap.size<w2.heap.size:=bLQ _ _ p0;have hlt2:w.heap.size+1<w2.heap.size:=bLQ _ _ s0;obtain⟨b1,hb⟩:∃b,b=tpB S S' Ls Ls' Hs Hs':=⟨_,rfl⟩;have HBE:Hid (tpB S S' Ls Ls' Hs Hs'=b1):=hb.symm;rw[HBE.out];clear hb hb2 HNH;cases b1 with
  | false =>
    have HRF:Hid (R=false):=by
     show _=_;rw[HR.out,HBE.out];simp
    go_wp2;refine bodyPost_ret (v:=.tuple #[.bool false,.nilIface]) (by simp[results,Tryz.results17,go_sem]) rfl ?_;exact⟨by rw[HRF.out];rfl,HB2.out⟩
  | true =>
    go_wp2_with fail
    refine (eqTabs_any ao3 n3 cap3 bo3 m3 dap3 Ts Ts' w2 (HW.out _ HB2.out).1.2.2 (HW.out _ HB2.out).2.2.2 (nw_tw HX.out.symm)).mono ?_;rintro e w3 ⟨rfl,hb3⟩;have HB3:Hid (Below w.heap.size w w3):=HB2.out.trans (hb3.mono HB2.out.size);obtain⟨b2,hb⟩:∃b,b=etB Ts Ts':=⟨_,rfl⟩;have HB4:Hid (etB Ts Ts'=b2):=hb.symm;rw[HB4.out];have HRF:Hid (R=b2):=by
     show _=_;rw[HR.out,HBE.out,HB4.out];simp
    clear hb hb3 p0 p1 p2 p3 s0 s1 s2 s3;go_wp2;refine bodyPost_ret (v:=.tuple #[.bool b2,.nilIface]) (by simp[results,Tryz.results17,go_sem]) rfl ?_;exact⟨by rw[HRF.out];rfl,HB3.out⟩
 have HNZ:Hid (X≠0):=h0;have HRF:Hid (R=false):=by
  show _=_;rw[HR.out];simp[h0]
 rw[no_ne h0];clear h0;go_wp2;refine bodyPost_ret (v:=.tuple #[.bool false,.iface 63 (.int .i64 X)]) (by simp[results,Tryz.results17,go_sem]) rfl ?_;exact⟨by rw[HRF.out,no_ne HNZ.out],HB1.out⟩
end
section
open Go.ChangeShapes Go.WideShapes Go.ChangeAt Go.RowKit Go.Joins
def cuE:Enc (Int×Int) where
 c:=fun x=>[.int .i64 x.1,.int .i64 x.2]
 n:=2
 len:=fun _=>rfl
 pos:=by decide
 one:=by
  intro x u hu;simp at hu
  rcases hu with rfl | rfl <;> rfl
theorem cu_open {H:Type}{enc:TypeId×Value→H}{W:World}{n:Nat}{cs:List Value}{x:DataW H×List MemPlace}
 (h:DataW.trod enc Tryz.prog W 0 (fun _=>true) true n 35 cs=some x):∃y,cs=cuE.c y:=by
 obtain⟨xs,k,_,_,hl,hlen,hf⟩:=DataW.trod_struct Tryz.underlying35 h;have hC:Tryz.prog.cellsOf 35=2:=by kernel_rfl
 have hT0:Tryz.prog.cellsOf 3=1:=by kernel_rfl
 rw[hC] at hl
 match cs,hl with
 | [c0,c1],_ =>
   match xs,hlen with
   | [z0,z1],_ =>
     have g0:=hf 0 _ rfl;have g1:=hf 1 _ rfl;simp[hT0] at g0 g1;obtain⟨v0,e0,_,_⟩:=DataW.trod_int Tryz.underlying3 g0;obtain⟨v1,e1,_,_⟩:=DataW.trod_int Tryz.underlying3 g1;simp[] at e0 e1;refine⟨(v0,v1),?_⟩;simp[cuE,e0,e1]
def rlE:Enc (Ru) where
 c:=fun x=>[.int .i64 x.p,.int .i64 x.m,.int .i64 x.b,.int .i64 x.o,.int .i64 x.s,.int .i64 x.v]
 n:=6
 len:=fun _=>rfl
 pos:=by decide
 one:=by
  intro x u hu;simp at hu
  rcases hu with rfl | rfl | rfl | rfl | rfl | rfl <;> rfl
theorem rl_cells {w:World}{g o:Nat}{x0 x1 x2 x3 x4 x5:Int}(h:VAt w g o (rlE.c ⟨x0,x1,x2,x3,x4,x5⟩)):w.cell? ⟨g,o,none⟩=some (.int .i64 x0)∧w.cell? ⟨g,o+1,none⟩=some (.int .i64 x1)∧w.cell? ⟨g,o+2,none⟩=some (.int .i64 x2)∧w.cell? ⟨g,o+3,none⟩=some (.int .i64 x3)∧w.cell? ⟨g,o+4,none⟩=some (.int .i64 x4)∧w.cell? ⟨g,o+5,none⟩=some (.int .i64 x5):=
 ⟨h 0 _ rfl,h 1 _ rfl,h 2 _ rfl,h 3 _ rfl,h 4 _ rfl,h 5 _ rfl⟩
theorem rl_open {H:Type}{enc:TypeId×Value→H}{W:World}{n:Nat}{cs:List Value}{x:DataW H×List MemPlace}
 (h:DataW.trod enc Tryz.prog W 0 (fun _=>true) true n 37 cs=some x):∃y,cs=rlE.c y:=by
 obtain⟨xs,k,_,_,hl,hlen,hf⟩:=DataW.trod_struct Tryz.underlying37 h;have hC:Tryz.prog.cellsOf 37=6:=by kernel_rfl
 have hT0:Tryz.prog.cellsOf 3=1:=by kernel_rfl
 have hT1:Tryz.prog.cellsOf 35=2:=by kernel_rfl
 rw[hC] at hl
 match cs,hl with
 | [c0,c1,c2,c3,c4,c5],_ =>
   match xs,hlen with
   | [z0,z1,z2,z3,z4],_ =>
     have g0:=hf 0 _ rfl;have g1:=hf 1 _ rfl;have g2:=hf 2 _ rfl;have g3:=hf 3 _ rfl;have g4:=hf 4 _ rfl;simp[hT0,hT1] at g0 g1 g2 g3 g4;obtain⟨v0,e0,_,_⟩:=DataW.trod_int Tryz.underlying3 g0;obtain⟨s1,e1⟩:=cu_open g1;obtain⟨v3,e2,_,_⟩:=DataW.trod_int Tryz.underlying3 g2;obtain⟨v4,e3,_,_⟩:=DataW.trod_int Tryz.underlying3 g3;obtain⟨v5,e4,_,_⟩:=DataW.trod_int Tryz.underlying3 g4;simp[cuE] at e0 e1 e2 e3 e4;refine⟨⟨v0,s1.1,s1.2,v3,v4,v5⟩,?_⟩;simp[rlE,e0,e1,e2,e3,e4]
def opE:Enc (Op8) where
 c:=fun x=>[.int .i64 x.w,.bool x.a,.int .i64 x.r.p,.int .i64 x.r.m,.int .i64 x.r.b,.int .i64 x.r.o,.int .i64 x.r.s,.int .i64 x.r.v]
 n:=8
 len:=fun _=>rfl
 pos:=by decide
 one:=by
  intro x u hu;simp at hu
  rcases hu with rfl | rfl | rfl | rfl | rfl | rfl | rfl | rfl <;> rfl
theorem op_cells {w:World}{g o:Nat}{x0:Int}{x1:Bool}{x2 x3 x4 x5 x6 x7:Int}(h:VAt w g o (opE.c ⟨x0,x1,⟨x2,x3,x4,x5,x6,x7⟩⟩)):w.cell? ⟨g,o,none⟩=some (.int .i64 x0)∧w.cell? ⟨g,o+1,none⟩=some (.bool x1)∧w.cell? ⟨g,o+2,none⟩=some (.int .i64 x2)∧w.cell? ⟨g,o+3,none⟩=some (.int .i64 x3)∧w.cell? ⟨g,o+4,none⟩=some (.int .i64 x4)∧w.cell? ⟨g,o+5,none⟩=some (.int .i64 x5)∧w.cell? ⟨g,o+6,none⟩=some (.int .i64 x6)∧w.cell? ⟨g,o+7,none⟩=some (.int .i64 x7):=
 ⟨h 0 _ rfl,h 1 _ rfl,h 2 _ rfl,h 3 _ rfl,h 4 _ rfl,h 5 _ rfl,h 6 _ rfl,h 7 _ rfl⟩
theorem op_at {w:World}{g o:Nat}{L:List (Op8)}(h:GAt opE w g o L){n k:Nat}(hn:L.length=n)(hk:k<n):
 ∃(x0:Int) (x1:Bool) (x2:Int) (x3:Int) (x4:Int) (x5:Int) (x6:Int) (x7:Int) (hl:k<L.length),L[k]=⟨x0,x1,⟨x2,x3,x4,x5,x6,x7⟩⟩∧w.cell? ⟨g,o+k*8,none⟩=some (.int .i64 x0)∧w.cell? ⟨g,o+k*8+1,none⟩=some (.bool x1)∧w.cell? ⟨g,o+k*8+2,none⟩=some (.int .i64 x2)∧w.cell? ⟨g,o+k*8+3,none⟩=some (.int .i64 x3)∧w.cell? ⟨g,o+k*8+4,none⟩=some (.int .i64 x4)∧w.cell? ⟨g,o+k*8+5,none⟩=some (.int .i64 x5)∧w.cell? ⟨g,o+k*8+6,none⟩=some (.int .i64 x6)∧w.cell? ⟨g,o+k*8+7,none⟩=some (.int .i64 x7):=
 have hl:k<L.length:=by omega
 ⟨_,_,_,_,_,_,_,_,hl,rfl,op_cells (h k hl)⟩
theorem op_new (w:World)(x0:Int)(x1:Bool)(x2 x3 x4 x5 x6 x7:Int)(t:TypeId):VAt (w.alloc (Obj.cells #[.int .i64 x0,.bool x1,.int .i64 x2,.int .i64 x3,.int .i64 x4,.int .i64 x5,.int .i64 x6,.int .i64 x7] t)) w.heap.size 0 (opE.c ⟨x0,x1,⟨x2,x3,x4,x5,x6,x7⟩⟩):=vat_new w [.int .i64 x0,.bool x1,.int .i64 x2,.int .i64 x3,.int .i64 x4,.int .i64 x5,.int .i64 x6,.int .i64 x7] t
theorem op_info:(Tryz.prog.info? 83).map (fun i=>(i.zero,i.size,i.bytes))=some (some (.agg #[.int .i64 0,.bool false,.int .i64 0,.int .i64 0,.int .i64 0,.int .i64 0,.int .i64 0,.int .i64 0]),8,64):=by kernel_rfl
theorem op_zero:(Value.agg #[.int .i64 0,.bool false,.int .i64 0,.int .i64 0,.int .i64 0,.int .i64 0,.int .i64 0,.int .i64 0]).cells.size=8:=by simp[Value.cells]
end
section
open Go.RowKit
abbrev SlT:Type:=Option Addr×Nat×Nat
def slV (x:SlT):Value:=.slice x.1 x.2.1 x.2.2
def slE:Enc SlT where
 c:=fun x=>[slV x]
 n:=1
 len:=fun _=>rfl
 pos:=by decide
 one:=by
  intro x u hu;simp at hu;subst hu;rfl
theorem sl_cells (L:List SlT):cellsG slE L=L.map slV:=by
 induction L with
 | nil=>rfl
 | cons x r ih =>
   simp only[cellsG,List.flatMap_cons,List.map_cons] at *;rw[ih];rfl
theorem grown_below {w w':World}(hb:Below w.heap.size w w'):w.grownBy w' none:=⟨hb.os,hb.tape,hb.output,hb.size,fun k hk _=>hb.block k hk⟩
theorem grown_set (w:World)(b i:Nat)(v:Value):w.grownBy (w.setCell ⟨b,i,none⟩ v) (some b):=
 ⟨rfl,rfl,rfl,by simp[World.setCell],fun k _ hk=>Below.heap_setCell _ _ _ _ (fun e=>hk (by simp[e]))⟩
theorem none_or (o:Option Nat):o=none∨o≠none:=by cases o <;> simp
theorem run_append_blk {P:Program}{w:World}{base:Nat}(t ty e:TypeId)(i:TypeInfo)(z:Value)(ht:P.underlying t=some (.slice e))(hi:P.info? e=some i)(hz:i.zero=some z)
 (v:Value) (n:Nat) (xs:List Value) (hown:w.ownsRow base e i.size v n xs)
 (a:Addr) (c:Nat) (news:List Value) (hl:news.length=1*i.size) (hnews:∀j u,news[j]?=some u→w.cell? (a.add j)=some u) (h1:∀u∈news,u.oneCell'=true)
 (h63:n+1≤maxLen) (hbytes:(n+1)*i.bytes≤140737488355328) {v':Value} {w':World} (hr:(Builtin.append_ #[t,t] ty #[v,.slice (some a) 1 c]).run P w=.ok v' w'):v'.ownBlock=v.ownBlock∨v'.ownBlock=some w.heap.size:=by
 have hm:n+1≤9223372036854775807:=by simp only[maxLen] at h63;omega
 rcases hown.2 with ⟨rfl,rfl⟩ | ⟨g,cap,cur,rfl,hbg,hg,hnc,hcm,hcs,htake⟩
 ·rw[run_append_nil (P:=P) w t ty e i z ht hi hz a 1 c news hl hnews (by omega) (by omega) (by have hb:=hbytes;simp only[Nat.zero_add] at hb;omega)] at hr;cases hr;exact .inr rfl
 by_cases hroom:n+1≤cap
 ·have hfit:n*i.size+news.length≤cur.size:=by rw[hl,hcs,←Nat.add_mul];exact Nat.mul_le_mul_right _ hroom
  rw[run_append_room (P:=P) w t ty e i ht hi g n cap cur hg a 1 c news hl hnews h1 hroom hfit] at hr;cases hr;exact .inl rfl
 rw[run_append_grow (P:=P) w t ty e i z ht hi hz ⟨g,0,none⟩ n cap xs hown.1 (hown.cells (g:=g) rfl) a 1 c news hl hnews (by omega) (by omega) (growslice_fits (by omega) hbytes)] at hr;cases hr;exact .inr rfl
theorem wpList_append_blk {P:Program}{α:Type}{E:Enc α}(w:World){ops:Array Oper}{rest:List Oper}{o:Oper}{a:Act}{Q:Exit→Act→World→Prop}(hgd:o.guard=none)(s x:Operand)(t e:TypeId)
 (ho:o.op=.call { callee:=.builtin .append,args:=#[s,x],argTypes:=#[t,t] }) (ht:P.underlying t=some (.slice e)) (i:TypeInfo) (z:Value) (bytes:Nat) (hi:P.info? e=some i) (hz:i.zero=some z)
 (hsize:i.size=E.n) (hby:i.bytes=bytes) (hzs:z.cells.size=E.n) (base:Nat)
 (v:Value) (hs:a.eval s=v) (L:List α) (hown:w.ownsRow base e E.n v L.length (cellsG E L)) (g q c:Nat) (hx:a.eval x=.slice (some ⟨g,q,none⟩) 1 c) (y:α) (hM:VAt w g q (E.c y))
 (h63:L.length+1≤maxLen) (hbytes:(L.length+1)*bytes≤140737488355328) (hbase:base≤w.heap.size)
 (h:∀v' w',w'.ownsRow base e E.n v' (L++[y]).length (cellsG E (L++[y]))→w.grownBy w' v.ownBlock→v'.ownBlock=v.ownBlock∨v'.ownBlock=some w.heap.size→wpList P ops Q rest (a.put o.dst v') w'):wpList P ops Q (o :: rest) a w:=by
 have hG:GAt E w g q [y]:=by
  intro k hk;obtain rfl:k=0:=by simp at hk;omega
  simpa using hM
 have hc:=hG.cells;rw[cellsG_one] at hc;have hl:(E.c y).length=1*E.n:=by rw[E.len];omega
 obtain⟨v',w',hr,h2,h3,_⟩:=run_append_own (P:=P) w base t o.type e i z E.n bytes ht hi hz hsize hby hzs E.pos v _ _ hown ⟨g,q,none⟩ 1 c (E.c y) hl hc (E.one y) h63 hbytes hbase;have hb:=run_append_blk (P:=P) t o.type e i z ht hi hz v _ _ (by rw[hsize];exact hown) ⟨g,q,none⟩ c (E.c y) (by rw[hsize];exact hl) hc (E.one y) h63 (by rw[hby];exact hbytes) hr;refine wpList_plain hgd fun K hK=>?_
 unfold Oper.wp execOp;simp only[ho,resolve,invoke,builtin,Sem.run_bind,Sem.run_pure,Result.andThen_ok,List.map_toArray,List.map_cons,List.map_nil,hs,hx,hr];exact hK _ _ (h v' w' (by rw[List.length_append,cellsG_app,cellsG_one];exact h2) h3 hb)
section
variable {e1 e2:TypeId}{w w':World}{B:Nat}{v u:Value}{vs us:List SlT}{Cs Ps:List (List Int)}
end
def offB (x:SlT)(b:Nat):Prop:=x.2.1=0∨∀a,x.1=some a→a.block≠b
theorem RAt.lt {w:World}{g o:Nat}{L:List Ru}(h:RAt w g o L)(h0:0<L.length):g<w.heap.size:=bLQ _ _ (h 0 h0).c0
theorem SR.off {w:World}{x:SlT}{L:List Ru}(h:SR w (slV x) L){b:Nat}(hb:w.heap.size≤b):offB x b:=by
 obtain⟨ao,n,cap⟩:=x
 rcases h with ⟨ao',cap',e,rfl⟩ | ⟨g,o,cap',e,h1,h2,h3⟩
 ·simp only[slV,Value.slice.injEq] at e;exact .inl e.2.1
 simp only[slV,Value.slice.injEq] at e;obtain⟨rfl,rfl,rfl⟩:=e;by_cases h0:L.length=0
 ·exact .inl h0
 refine .inr fun a ha=>?_
 cases ha;have:=h3.lt (by omega);show g≠b;omega
theorem SR.grown {w w':World}{x:SlT}{L:List Ru}{row:Option Nat}(h:SR w (slV x) L)(hg:w.grownBy w' row)(ho:∀b,row=some b→offB x b):SR w' (slV x) L:=by
 obtain⟨ao,n,cap⟩:=x
 rcases h with ⟨ao',cap',e,rfl⟩ | ⟨g,o,cap',e,h1,h2,h3⟩
 ·exact .inl ⟨ao',cap',e,rfl⟩
 simp only[slV,Value.slice.injEq] at e;obtain⟨rfl,rfl,rfl⟩:=e;by_cases h0:L.length=0
 ·exact .inl ⟨_,_,by rw[slV,h0],List.length_eq_zero_iff.1 h0⟩
 have hne:some g≠row:=by
  intro e
  rcases ho g e.symm with h4 | h4
  ·exact h0 h4
  exact h4 _ rfl rfl
 refine .inr ⟨g,o,cap,rfl,h1,h2,fun i hi=>?_⟩;obtain⟨c0,c1,c2,c3,c4,c5⟩:=h3 i hi;exact⟨hg.cell c0 hne,hg.cell c1 hne,hg.cell c2 hne,hg.cell c3 hne,hg.cell c4 hne,hg.cell c5 hne⟩
structure TR (e:TypeId)(w:World)(A B:Nat)(v:Value)(vs:List SlT)(Ts:List (List Ru)):Prop where
 ov:w.ownsRow B e slE.n v vs.length (cellsG slE vs)
 lv:vs.length=Ts.length
 rv:∀(i:Nat) (x:SlT) (L:List Ru),vs[i]?=some x→Ts[i]?=some L→SR w (slV x) L∧∀b,v.ownBlock=some b→offB x b
 rz:∀(i:Nat) (x:SlT),vs[i]?=some x→∀b,A≤b→b<B→offB x b
section
variable {e:TypeId}{w w':World}{A B:Nat}{v:Value}{vs:List SlT}{Ts:List (List Ru)}
theorem tr_nil (e:TypeId)(w:World)(A B:Nat):TR e w A B (.slice none 0 0) [] []:=
 ⟨World.ownsRow_nil w B e slE.n,rfl,fun i x L h=>by simp at h,fun i x h=>by simp at h⟩
theorem TR.later (h:TR e w A B v vs Ts)(hb:Below w.heap.size w w'):TR e w' A B v vs Ts:=
 ⟨h.ov.kept (grown_below hb) (none_or _),h.lv,fun i x L h1 h2=>⟨(h.rv i x L h1 h2).1.later hb,(h.rv i x L h1 h2).2⟩,h.rz⟩
theorem TR.grown (h:TR e w A B v vs Ts){b:Nat}(hg:w.grownBy w' (some b))(h1:A≤b)(h2:b<B):TR e w' A B v vs Ts:=by
 refine⟨h.ov.kept hg (.inr fun e=>?_),h.lv,fun i x L a1 a2=>⟨(h.rv i x L a1 a2).1.grown hg (fun c hc=>?_),(h.rv i x L a1 a2).2⟩,h.rz⟩
 ·have:=(h.ov.lt b e).1;omega
 cases hc;exact h.rz i x a1 b h1 h2
theorem TR.push (h:TR e w A B v vs Ts){x:SlT}{L:List Ru}(hx:SR w (slV x) L){v':Value}(hox:∀b,v.ownBlock=some b→offB x b)(hoz:∀b,A≤b→b<B→offB x b)
 (hg:w.grownBy w' v.ownBlock) (ho:w'.ownsRow B e slE.n v' (vs++[x]).length (cellsG slE (vs++[x]))) (hb:v'.ownBlock=v.ownBlock∨v'.ownBlock=some w.heap.size):TR e w' A B v' (vs++[x]) (Ts++[L]):=by
 have one:∀{y:SlT} {M:List Ru},SR w (slV y) M→(∀b,v.ownBlock=some b→offB y b)→SR w' (slV y) M∧∀b,v'.ownBlock=some b→offB y b:=by
  intro y M h1 h2;refine⟨h1.grown hg h2,fun b hv=>?_⟩
  rcases hb with hb | hb
  ·exact h2 b (by rw[←hb];exact hv)
  rw[hb] at hv;cases hv;exact h1.off (Nat.le_refl _)
 refine⟨ho,by simp[h.lv],fun i y M h1 h2=>?_,fun i y h1=>?_⟩
 ·by_cases hi:i<vs.length
  ·rw[List.getElem?_append_left hi] at h1;rw[List.getElem?_append_left (by rw[←h.lv];exact hi)] at h2;obtain⟨a1,a2⟩:=h.rv i y M h1 h2;exact one a1 a2
  have hi2:i=vs.length:=by
   have:=(List.getElem?_eq_some_iff.1 h1).1;simp at this;omega
  subst hi2;simp at h1;rw[h.lv] at h2;simp at h2;subst h1 h2;exact one hx hox
 by_cases hi:i<vs.length
 ·rw[List.getElem?_append_left hi] at h1;exact h.rz i y h1
 have hi2:i=vs.length:=by
  have:=(List.getElem?_eq_some_iff.1 h1).1;simp at this;omega
 subst hi2;simp at h1;subst h1;exact hoz
theorem TR.put {g n cap i:Nat}(h:TR e w A B (.slice (some ⟨g,0,none⟩) n cap) vs Ts){x:SlT}{L:List Ru}(hx:SR w (slV x) L)(hox:offB x g)(hoz:∀b,A≤b→b<B→offB x b):TR e (w.setCell ⟨g,i,none⟩ (slV x)) A B (.slice (some ⟨g,0,none⟩) n cap) (vs.set i x) (Ts.set i L):=by
 have hgw:w.grownBy (w.setCell ⟨g,i,none⟩ (slV x)) (some g):=grown_set w g i (slV x);refine⟨?_,by simp[h.lv],fun j y M a1 a2=>?_,fun j y a1=>?_⟩
 ·have h1:=h.ov;have hn:n=vs.length:=by
   rcases h1.2 with ⟨h3,_⟩ | ⟨_,_,_,h3,_⟩
   ·cases h3
   simp only[Value.slice.injEq] at h3;exact h3.2.1
  rw[List.length_set,sl_cells,List.map_set];rw[sl_cells,←hn] at h1;rw[←hn];exact (h1.stored _ _).1
 ·have hj:j<(vs.set i x).length:=(List.getElem?_eq_some_iff.1 a1).1;rw[List.length_set] at hj;by_cases hij:i=j
  ·subst hij;rw[List.getElem?_set_self hj] at a1;rw[List.getElem?_set_self (by rw[←h.lv];exact hj)] at a2;cases a1;cases a2;refine⟨hx.grown hgw (fun b hb=>by cases hb;exact hox),fun b hb=>?_⟩;cases hb;exact hox
  rw[List.getElem?_set_ne hij] at a1 a2;obtain⟨b1,b2⟩:=h.rv j y M a1 a2;exact⟨b1.grown hgw (fun b hb=>by cases hb;exact b2 g rfl),b2⟩
 have hj:j<(vs.set i x).length:=(List.getElem?_eq_some_iff.1 a1).1;rw[List.length_set] at hj;by_cases hij:i=j
 ·subst hij;rw[List.getElem?_set_self hj] at a1;cases a1;exact hoz
 rw[List.getElem?_set_ne hij] at a1;exact h.rz j y a1
theorem TR.ts (h:TR e w A B v vs Ts):TS w v Ts:=by
 rcases own_GS h.ov with ⟨ao,cap,rfl,h0⟩ | ⟨g,o,cap,rfl,h1,h2,h3⟩
 ·refine .inl ⟨ao,cap,rfl,?_⟩;have:=h.lv;rw[h0] at this;exact List.length_eq_zero_iff.1 this.symm
 refine .inr ⟨g,o,cap,by rw[h.lv],by rw[←h.lv];exact h1,h2,fun i hi=>?_⟩;have hi2:i<vs.length:=by rw[h.lv];exact hi
 have:=h3 i hi2 0 _ rfl;have e:o+i*slE.n+0=o+i:=by show o+i*1+0=o+i;omega
 rw[e] at this;exact⟨_,_,_,this,(h.rv i _ _ (List.getElem?_eq_getElem hi2) (List.getElem?_eq_getElem hi)).1⟩
theorem TR.at {g n cap i:Nat}(h:TR e w A B (.slice (some ⟨g,0,none⟩) n cap) vs Ts)(hi:i<Ts.length):∃x:SlT,w.cell? ⟨g,i,none⟩=some (slV x)∧SR w (slV x) (Ts.getD i [])∧w.frozen? ⟨g,i,none⟩=false∧n=Ts.length∧B≤g∧g<w.heap.size:=by
 have h1:=h.ov;have hn:n=vs.length:=by
  rcases h1.2 with ⟨h3,_⟩ | ⟨_,_,_,h3,_⟩
  ·cases h3
  simp only[Value.slice.injEq] at h3;exact h3.2.1
 have hi2:i<vs.length:=by rw[h.lv];exact hi
 rw[sl_cells,←hn] at h1;refine⟨vs[i],?_,?_,h1.frozenAt i,by rw[hn,h.lv],(h1.lt g rfl).1,(h1.lt g rfl).2⟩
 ·rw[h1.cellAt i (by show i<n*1;omega)];simp[hi2]
 rw[getT hi];exact (h.rv i _ _ (List.getElem?_eq_getElem hi2) (List.getElem?_eq_getElem hi)).1
end
def NO (w:World)(B:Nat)(v:Value)(L:List Op8):Prop:=w.ownsRow B 83 8 v L.length (cellsG opE L)
theorem NO.gs {w:World}{B:Nat}{v:Value}{L:List Op8}(h:NO w B v L):GS opE w v L:=own_GS (E:=opE) h
theorem NO.nil (w:World)(B:Nat):NO w B (.slice none 0 0) []:=World.ownsRow_nil w B _ 8
theorem NO.mono {w:World}{B B':Nat}{v:Value}{L:List Op8}(h:NO w B v L)(hB:B'≤B):NO w B' v L:=by
 obtain⟨h1,h2 | ⟨g,cap,cur,hv,hb,h3⟩⟩:=h
 ·exact⟨h1,.inl h2⟩
 exact⟨h1,.inr ⟨g,cap,cur,hv,Nat.le_trans hB hb,h3⟩⟩
theorem NO.later {w w':World}{B:Nat}{v:Value}{L:List Op8}(h:NO w B v L)(hb:Below w.heap.size w w'):NO w' B v L:=h.kept (grown_below hb) (none_or _)
theorem NO.ofn {w:World}{B n:Nat}{v:Value}{M L:List Op8}(h:w.ownsRow B 83 8 v n (cellsG opE M))(hL:M=L)(hn:n=L.length):NO w B v L:=by subst hL hn;exact h
theorem NR.ofn {w:World}{B n:Nat}{v:Value}{M:List Ru}(h:w.ownsRow B 37 6 v n (cellsR M))(hn:n=M.length):NR w B v M:=by subst hn;exact h
theorem wpList_append_ops (w:World){ops:Array Oper}{rest:List Oper}{o:Oper}{a:Act}{Q:Exit→Act→World→Prop}(hgd:o.guard=none)(s x:Operand)(t:TypeId)
 (ho:o.op=.call { callee:=.builtin .append,args:=#[s,x],argTypes:=#[t,t] }) (ht:Tryz.prog.underlying t=some (.slice 83)) (base:Nat)
 (v:Value) (hs:a.eval s=v) (L:List Op8) (hown:NO w base v L) (u:Value) (hx:a.eval x=u) (M:List Op8) (hM:GS opE w u M)
 (h100:L.length+M.length≤1000000) (hbase:base≤w.heap.size)
 (h:∀v' w',NO w' base v' (L++M)→w.grownBy w' v.ownBlock→wpList Tryz.prog ops Q rest (a.put o.dst v') w'):wpList Tryz.prog ops Q (o :: rest) a w:=by
 obtain⟨i0,hi,hz0,hz1,hz2⟩:=info_parts op_info;exact wpList_append_GS (E:=opE) w hgd s x t 83 ho ht i0 _ 64 hi hz0 hz1 hz2 op_zero base v hs L hown u hx M hM (by unfold maxLen;omega) (by omega) hbase h
theorem ta_info:(Tryz.prog.info? 39).map (fun i=>(i.zero,i.size,i.bytes))=some (some (.slice none 0 0),1,24):=by kernel_rfl
theorem NR.sl {w:World}{B:Nat}{v:Value}{L:List Ru}(h:NR w B v L):∃x:SlT,v=slV x∧∀b,b<B→offB x b:=by
 rcases h.2 with ⟨rfl,h0⟩ | ⟨g,cap,cur,rfl,hg,_⟩
 ·exact⟨(none,0,0),rfl,fun b _=>.inl rfl⟩
 refine⟨(some ⟨g,0,none⟩,L.length,cap),rfl,fun b hb=>.inr fun a ha=>?_⟩;cases ha;show g≠b;omega
theorem own_form {w:World}{B e size n:Nat}{v:Value}{xs:List Value}(h:w.ownsRow B e size v n xs):∃ao cap,v=.slice ao n cap:=by
 rcases h.2 with ⟨rfl,rfl⟩ | ⟨g,cap,cur,rfl,_⟩
 ·exact⟨none,0,rfl⟩
 exact⟨_,cap,rfl⟩
end
end Go.Proofs.YtiokpmlhmlcojaaGreat
