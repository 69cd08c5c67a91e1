/- Contracts and facts on the way to PlanNothing, joined into one text: PlanTask, PlanRound, MixMath5, MixTellsMath, PlanSafe, PlanLeastMath, PlanMono, SlSet, ItLaw3, PlanSets. -/
import Derived.Test.YtiokpmlhmlcojaaGreatPlanNothingP9
namespace Go.Proofs.YtiokpmlhmlcojaaGreat
set_option linter.unusedSimpArgs false
set_option linter.unusedVariables false
set_option maxHeartbeats 16000000
set_option maxRecDepth 100000
section
open Go.RowKit
def mgD (M:List (Int×SlT))(a:Int):SlT:=(mget intKey.q a M).getD (none,0,0)
theorem getV_sl (o:Option SlT):getV slV (.slice none 0 0) o=slV (o.getD (none,0,0)):=by cases o <;> rfl
theorem mg_put (M:List (Int×SlT))(a b:Int)(x:SlT):mgD (mput intKey.q a x M) b=if b=a then x else mgD M b:=by
 unfold mgD;rw[mget_put intKey.qeq];by_cases h:b=a
 ·rw[if_pos h,if_pos ((intKey.qeq _ _).2 h)];rfl
 rw[if_neg h,if_neg (fun e=>h ((intKey.qeq _ _).1 e))]
theorem opA_app (D:List Op8)(x:Op8)(a:Int):opA (D++[x]) a=if x.w=a then opA D a++[x] else opA D a:=by
 unfold opA;rw[List.filter_append];by_cases h:x.w=a
 ·rw[if_pos h];simp[h]
 rw[if_neg h];simp[h]
structure GM (W:World)(bm B:Nat)(M:List (Int×SlT))(D:List Op8):Prop where
 m:MAt intKey slV W bm M
 o:∀a,NO W B (slV (mgD M a)) (opA D a)
 d:∀a b,a≠b→∀g,(slV (mgD M a)).ownBlock=some g→(slV (mgD M b)).ownBlock≠some g
theorem gm_new (W:World)(bm B:Nat)(h:MAt intKey slV W bm []):GM W bm B [] []:=⟨h,fun a=>NO.nil _ _,fun a b _ g h=>by cases h⟩
theorem NO.sl {w:World}{B:Nat}{v:Value}{L:List Op8}(h:NO w B v L):∃x:SlT,v=slV x:=by
 rcases h.2 with ⟨h3,_⟩ | ⟨g,cap,cur,h3,_⟩
 ·exact⟨(none,0,0),h3⟩
 exact⟨(some ⟨g,0,none⟩,L.length,cap),h3⟩
theorem GM.grown {W W':World}{bm B:Nat}{M:List (Int×SlT)}{D:List Op8}(h:GM W bm B M D){row:Option Nat}(hg:W.grownBy W' row)(hne:∀b,row=some b→b≠bm∧∀a,(slV (mgD M a)).ownBlock≠some b):GM W' bm B M D:=
 ⟨h.m.kept hg (fun e=>(hne bm e.symm).1 rfl),fun a=>(h.o a).kept hg (by
  cases row with
  | none=>exact none_or _
  | some b=>exact .inr fun e=>(hne b rfl).2 a e),h.d⟩
theorem GM.push {W W1 W2 W3:World}{bm B:Nat}{M:List (Int×SlT)}{D:List Op8}(h:GM W bm B M D)(hbm:bm<B){x:Op8}{y:SlT}(hg1:W.grownBy W1 none)
 (ho:NO W2 B (slV y) (opA D x.w++[x])) (hg2:W1.grownBy W2 (slV (mgD M x.w)).ownBlock) (hl:(slV y).ownBlock=(slV (mgD M x.w)).ownBlock∨(slV y).ownBlock=some W1.heap.size)
 (hm:MAt intKey slV W3 bm (mput intKey.q x.w y M)) (hg3:W2.grownBy W3 (some bm)):GM W3 bm B (mput intKey.q x.w y M) (D++[x]):=by
 have hlt:∀a g,(slV (mgD M a)).ownBlock=some g→B≤g∧g<W1.heap.size:=fun a g e=>by
  have:=(h.o a).lt g e;exact⟨this.1,Nat.lt_of_lt_of_le this.2 hg1.size⟩
 refine⟨hm,fun a=>?_,fun a b hab g e1 e2=>?_⟩
 ·rw[mg_put,opA_app];by_cases e:a=x.w
  ·subst e;rw[if_pos rfl,if_pos rfl];exact ho.kept hg3 (.inr fun e=>by
    have:=(ho.lt bm e).1;omega)
  rw[if_neg e,if_neg (fun e2=>e e2.symm)];have h1:=(h.o a).kept hg1 (none_or _);have h2:=h1.kept hg2 (by
   cases hb:(slV (mgD M x.w)).ownBlock with
   | none=>exact none_or _
   | some b=>exact .inr (fun e3=>h.d x.w a (fun e4=>e e4.symm) b hb e3))
  exact h2.kept hg3 (.inr fun e3=>by
   have:=(h2.lt bm e3).1;omega)
 rw[mg_put] at e1 e2;by_cases k1:a=x.w
 ·subst k1;rw[if_pos rfl] at e1;rw[if_neg (fun e=>hab e.symm)] at e2
  rcases hl with hl | hl
  ·rw[hl] at e1;exact h.d _ _ hab g e1 e2
  rw[hl] at e1;have:=(hlt b g e2).2;cases e1;omega
 rw[if_neg k1] at e1;by_cases k2:b=x.w
 ·subst k2;rw[if_pos rfl] at e2
  rcases hl with hl | hl
  ·rw[hl] at e2;exact h.d _ _ hab g e1 e2
  rw[hl] at e2;have:=(hlt a g e1).2;cases e2;omega
 rw[if_neg k2] at e2;exact h.d a b hab g e1 e2
structure TskOK (W:World)(v1 v2 v3 v4:Value)(bm:Nat)(Ls:List LkT)(Hs:List HoT)(Ts:List (List Ru))(ws:List Wi)(D:List Op8):Prop where
 n:NI W v1 v2 v3 Ls Hs Ts
 w:GS wisE W v4 ws
 m:∃M,MAt intKey slV W bm M∧∀a,GS opE W (slV (mgD M a)) (opA D a)
theorem TskOK.later {W W':World}{v1 v2 v3 v4:Value}{bm:Nat}{Ls:List LkT}{Hs:List HoT}{Ts:List (List Ru)}{ws:List Wi}{D:List Op8}(h:TskOK W v1 v2 v3 v4 bm Ls Hs Ts ws D)(hb:Below W.heap.size W W'):TskOK W' v1 v2 v3 v4 bm Ls Hs Ts ws D:=by
 obtain⟨M,h1,h2⟩:=h.m;exact⟨h.n.later hb,h.w.later hb,M,h1.later hb,fun a=>(h2 a).later hb⟩
theorem TskOK.lt {W:World}{v1 v2 v3 v4:Value}{bm:Nat}{Ls:List LkT}{Hs:List HoT}{Ts:List (List Ru)}{ws:List Wi}{D:List Op8}(h:TskOK W v1 v2 v3 v4 bm Ls Hs Ts ws D):bm<W.heap.size:=by
 obtain⟨M,h1,_⟩:=h.m;exact h1.lt
theorem frozLater {W W':World}{g:Nat}{a:Value}(h:∀i,W.frozen? ⟨g,i,none⟩=false)(hc:W.cell? ⟨g,0,none⟩=some a)(hb:Below W.heap.size W W'):∀i,W'.frozen? ⟨g,i,none⟩=false:=
 fun i=>(hb.frozen (p:=⟨g,i,none⟩) (show (⟨g,0,none⟩:Addr).block<W.heap.size from bLQ W ⟨g,0,none⟩ hc)).trans (h i)
theorem cellOff {W:World}{g o j:Nat}{u v:Value}(hne:o≠j)(h:W.cell? ⟨g,o,none⟩=some u):(W.setCell ⟨g,j,none⟩ v).cell? ⟨g,o,none⟩=some u:=by
 rw[World.cell?_setCell_other _ _ _ _ (by simp[hne])];exact h
theorem frozSet {W:World}{g j:Nat}{v:Value}(b i:Nat):(W.setCell ⟨g,j,none⟩ v).frozen? ⟨b,i,none⟩=W.frozen? ⟨b,i,none⟩:=by simp
theorem cellSame {W:World}{g j:Nat}{u v:Value}(h:W.cell? ⟨g,j,none⟩=some u):(W.setCell ⟨g,j,none⟩ v).cell? ⟨g,j,none⟩=some v:=World.cell?_setCell_same _ _ _ h
structure TkB (W:World)(g:Nat)(S:Int)(v1 v2 v3 v4 v5:Value)(all:Int):Prop where
 c0:W.cell? ⟨g,0,none⟩=some (.int .i64 S)
 c1:W.cell? ⟨g,1,none⟩=some v1
 c2:W.cell? ⟨g,2,none⟩=some v2
 c3:W.cell? ⟨g,3,none⟩=some v3
 c4:W.cell? ⟨g,4,none⟩=some v4
 c5:W.cell? ⟨g,5,none⟩=some v5
 c6:W.cell? ⟨g,6,none⟩=some (.int .i64 all)
 f:∀i,W.frozen? ⟨g,i,none⟩=false
section
variable {W W':World}{g:Nat}{S:Int}{v1 v2 v3 v4 v5:Value}{all:Int}
theorem TkB.lt (h:TkB W g S v1 v2 v3 v4 v5 all):g<W.heap.size:=bLQ W ⟨g,0,none⟩ h.c0
theorem TkB.later (h:TkB W g S v1 v2 v3 v4 v5 all)(hb:Below W.heap.size W W'):TkB W' g S v1 v2 v3 v4 v5 all:=
 ⟨cell_later hb h.c0,cell_later hb h.c1,cell_later hb h.c2,cell_later hb h.c3,cell_later hb h.c4,cell_later hb h.c5,cell_later hb h.c6,frozLater h.f h.c0 hb⟩
theorem tkb_new (W:World)(S:Int)(v1 v2 v3 v4 v5:Value)(all:Int)(t:TypeId):TkB (W.alloc (Obj.cells #[.int .i64 S,v1,v2,v3,v4,v5,.int .i64 all] t)) W.heap.size S v1 v2 v3 v4 v5 all:=by
 refine⟨?_,?_,?_,?_,?_,?_,?_,fun i=>by simp⟩ <;> simp
theorem frz_grown {row:Option Nat}{b i:Nat}(hg:W.grownBy W' row)(hl:b<W.heap.size)(hne:some b≠row):W'.frozen? ⟨b,i,none⟩=W.frozen? ⟨b,i,none⟩:=by
 unfold World.frozen?;rw[hg.block b hl hne]
theorem TkB.grown (h:TkB W g S v1 v2 v3 v4 v5 all){row:Option Nat}(hg:W.grownBy W' row)(hne:some g≠row):TkB W' g S v1 v2 v3 v4 v5 all:=
 ⟨hg.cell h.c0 hne,hg.cell h.c1 hne,hg.cell h.c2 hne,hg.cell h.c3 hne,hg.cell h.c4 hne,hg.cell h.c5 hne,hg.cell h.c6 hne,fun i=>by rw[frz_grown hg h.lt hne];exact h.f i⟩
theorem TkB.put (h:TkB W g S v1 v2 v3 v4 v5 all)(b:Int):TkB (W.setCell ⟨g,6,none⟩ (.int .i64 b)) g S v1 v2 v3 v4 v5 b:=
 ⟨cellOff (by decide) h.c0,cellOff (by decide) h.c1,cellOff (by decide) h.c2,cellOff (by decide) h.c3,cellOff (by decide) h.c4,cellOff (by decide) h.c5,cellSame h.c6,fun i=>by rw[frozSet];exact h.f i⟩
end
theorem rd_len (D:List Op8)(s:Nat):∀k,(rnTo D s k).length≤k*D.length
 | 0=>by simp[rnTo]
 | k+1=>by
   have h1:=rd_len D s k;have h2:(opA D ((k+1:Nat):Int)).length≤D.length:=List.length_filter_le _ _;rw[rnTo,List.length_append,Nat.succ_mul];by_cases h:inS s (k+1)=true
   ·rw[if_pos h];omega
   rw[if_neg h];simp only[List.length_nil];omega
theorem pround_any (S:Int)(v1 v2 v3 v4:Value)(bm:Nat)(all:Int)(s:Nat)(Ls:List LkT)(Hs:List HoT)(Ts:List (List Ru))(ws:List Wi)(D:List Op8)(w:World)
 (hT:TskOK w v1 v2 v3 v4 bm Ls Hs Ts ws D) (hs:s<64) (hD:D.length≤1000):
 Calls Tryz.prog 24 #[.agg #[.int .i64 S,v1,v2,v3,v4,.map (some bm),.int .i64 all],.int .i64 (s:Int)] w fun e w'=>∃v,e=.returned v∧NO w' w.heap.size v (rnL D s)∧Below w.heap.size w w':=by
 obtain⟨w1,hw1⟩:∃W,W=w.alloc (Obj.cells #[.int .i64 S,v1,v2,v3,v4,.map (some bm),.int .i64 all] 57):=⟨_,rfl⟩;have hb1:Below w.heap.size w w1:=by rw[hw1];exact (Below.refl _ _).alloc (Nat.le_refl _) _
 have hbx:TkB w1 w.heap.size S v1 v2 v3 v4 (.map (some bm)) all:=by rw[hw1];exact tkb_new w S v1 v2 v3 v4 _ all 57
 have hs1:w1.heap.size=w.heap.size+1:=by rw[hw1];simp
 have HW1:Hid (w1=w.alloc (Obj.cells #[.int .i64 S,v1,v2,v3,v4,.map (some bm),.int .i64 all] 57)):=hw1;have HB1:Hid (Below w.heap.size w w1):=hb1;have HS1:Hid (w1.heap.size=w.heap.size+1):=hs1;have HC5:Hid (∀W,Below w1.heap.size w1 W→W.cell? ⟨w.heap.size,5,none⟩=some (.map (some bm))):=fun W h=>(hbx.later h).c5
 have HTK:Hid (∀W,Below w1.heap.size w1 W→TskOK W v1 v2 v3 v4 bm Ls Hs Ts ws D):=fun W h=>(hT.later hb1).later h
 have HSS:Hid (s<64):=hs;have HDD:Hid (D.length≤1000):=hD;clear hT hb1 hbx hs1 hw1 hs hD;go_enter Tryz.func24,Tryz.ntmps24;go_wp2;rw[←HW1.out]
 go_loopw [5,6] (fun v i wr=>∃a:Nat,1≤a∧a≤7∧i=.int .i64 (a:Int)∧NO wr w1.heap.size v (rnTo D s (a-1))∧Below w1.heap.size w1 wr) (fun _ i _=>7-(intOf i).toNat)
 case atStart=>exact⟨1,by omega,by omega,rfl,NO.nil _ _,Below.refl _ _⟩
 case round =>
  obtain⟨a,ha1,ha7,rfl,hNO,hB⟩:=hrel;obtain⟨wi,hwi⟩:∃X,X=wr:=⟨_,rfl⟩;subst hwi;have HNO:Hid (NO wi w1.heap.size u5 (rnTo D s (a-1))):=hNO;have HB:Hid (Below w1.heap.size w1 wi):=hB;clear hNO hB;by_cases hlt:a≤6
  ·have d1:(a:Int)≤6:=by omega
   have HNX:Hid (rnTo D s a=rnTo D s (a-1)++(if inS s a=true then opA D (a:Int) else [])):=show _=_ by
    obtain⟨k,rfl⟩:∃k,a=k+1:=⟨a-1,by omega⟩;rfl
   go_wp2_with fail
   refine (only_any a wi ha1 hlt).mono ?_;rintro e w2 ⟨rfl,hw2⟩;have hw2:=hw2.symm;subst hw2
   go_wp2_with fail
   refine (setHas_on s a wi HSS.out ha1 hlt).mono ?_;rintro e w2 ⟨rfl,hw2⟩;have hw2:=hw2.symm;subst hw2;obtain⟨T,hT⟩:∃T,T=inS s a:=⟨_,rfl⟩;rw[←hT] at HNX ⊢;clear hT;cases T with
   | false =>
     have HNX2:Hid (rnTo D s a=rnTo D s (a-1)):=HNX.out.trans (by simp);go_wp2;go_roundw
     case rel=>exact⟨a+1,by omega,by omega,by go_num,by rw[show a+1-1=a from rfl,HNX2.out];exact HNO.out,HB.out⟩
     case measure=>simp[intOf];omega
   | true =>
     obtain⟨M,hM,hGO⟩:=(HTK.out wi HB.out).m;have hlk:=run_lookup_M hM 54 46 Tryz.underlying54 (.slice none 0 0) (fun w=>by kernel_rfl) (a:Int) false;rw[getV_sl] at hlk;obtain⟨y,hy⟩:∃y,y=mgD M (a:Int):=⟨_,rfl⟩;have HGO:Hid (GS opE wi (slV y) (opA D (a:Int))):=by rw[hy];exact hGO _
     obtain⟨ay,ny,cy⟩:=y;have hlk2:(Instr.lookup 54 (.map (some bm)) (.int .i64 (a:Int)) false).run Tryz.prog wi=.ok (.slice ay ny cy) wi:=by
      have e:slV (mgD M (a:Int))=.slice ay ny cy:=by rw[←hy];rfl
      rw[←e];exact hlk
     have c5:=HC5.out wi HB.out;have HL1:Hid ((rnTo D s (a-1)).length+(opA D (a:Int)).length≤1000000):=by
      have h1:=rd_len D s (a-1);have h2:(opA D (a:Int)).length≤D.length:=List.length_filter_le _ _;have h3:=HDD.out;have h4:(a-1)*D.length≤6*1000:=Nat.mul_le_mul (by omega) h3;show _≤_;omega
     have HBS:Hid (w1.heap.size≤wi.heap.size):=HB.out.size;clear hM hGO hlk hy
     go_wp2_with (at_builtin;refine wpList_append_ops wi rfl _ _ 46 rfl Tryz.underlying46 w1.heap.size _ rfl _ HNO.out _ rfl _ HGO.out HL1.out HBS.out ?_)
     intro v' w3 hNO3 hg3;have HNO3:Hid (NO w3 w1.heap.size v' (rnTo D s a)):=by
      have e:rnTo D s a=rnTo D s (a-1)++opA D (a:Int):=HNX.out.trans (by simp);rw[e];exact hNO3
     have HB3:Hid (Below w1.heap.size w1 w3):=HB.out.trans (below_grown hg3 HB.out.size (fun b hb=>(HNO.out.lt b hb).1));clear hNO3 hg3 c5;go_wp2;go_roundw
     case rel=>exact⟨a+1,by omega,by omega,by go_num,HNO3.out,HB3.out⟩
     case measure=>simp[intOf];omega
  obtain rfl:a=7:=by omega
  have HBW:Hid (Below w.heap.size w wi):=HB1.out.trans (HB.out.mono HB1.out.size);have HNE:Hid (NO wi w.heap.size u5 (rnL D s)):=HNO.out.mono (by rw[HS1.out];omega);go_wp2;go_ret;exact⟨_,rfl,HNE.out,HBW.out⟩
section
variable (Ls:LkQ)(Hs:HoQ)(As Bs:List (List Ru))
def bsB (w:Wi)(x:ByteArray×(Int×Int))(h:Int):Bool:=(seeL Ls Hs As Bs x.2 h).any fun F => !fiB w x.1 F
def bsH (w:Wi)(x:ByteArray×(Int×Int)):Nat→Int
 | 0 => -1
 | k+1=>if bsH w x k<0 then (if bsB Ls Hs As Bs w x (k:Int) then (k:Int) else -1) else bsH w x k
def bsX (w:Wi)(Xs:HoQ):Nat→Option (Nat×Int)
 | 0=>none
 | k+1=>match bsX w Xs k with
   | some x=>some x
   | none=>if 0≤bsH Ls Hs As Bs w (Xs.getD k zeO) 16 then some (k,bsH Ls Hs As Bs w (Xs.getD k zeO) 16) else none
def bsW (l:List Wi)(Xs:HoQ):Nat→Option (Nat×Nat×Int)
 | 0=>none
 | k+1=>match bsW l Xs k with
   | some x=>some x
   | none=>match bsX Ls Hs As Bs (l.getD k zeW) Xs Xs.length with
     | some p=>some (k,p.1,p.2)
     | none=>none
end
section
variable {Ls:LkQ}{Hs:HoQ}{As Bs:List (List Ru)}
theorem bsH_le {w:Wi}{x:ByteArray×(Int×Int)}{k:Nat}(h:0≤bsH Ls Hs As Bs w x k):∀{n:Nat},k≤n→bsH Ls Hs As Bs w x n=bsH Ls Hs As Bs w x k
 | 0,hn=>by
   obtain rfl:k=0:=by omega
   rfl
 | n+1,hn=>by
   by_cases e:k=n+1
   ·subst e;rfl
   have:=bsH_le h (show k≤n by omega);rw[bsH,if_neg (by rw[this];omega),this]
theorem bsH_no {w:Wi}{x:ByteArray×(Int×Int)}{k:Nat}(h:bsH Ls Hs As Bs w x k<0)(h2:bsB Ls Hs As Bs w x (k:Int)=false):bsH Ls Hs As Bs w x (k+1)<0:=by
 rw[bsH,if_pos h,h2];simp
theorem bsH_yes {w:Wi}{x:ByteArray×(Int×Int)}{k:Nat}(hk:k<16)(h:bsH Ls Hs As Bs w x k<0)(h2:bsB Ls Hs As Bs w x (k:Int)=true):bsH Ls Hs As Bs w x 16=k:=by
 have e:bsH Ls Hs As Bs w x (k+1)=k:=by
  rw[bsH,if_pos h,h2];simp
 rw[bsH_le (k:=k+1) (by rw[e];omega) (by omega),e]
theorem bsH_none {w:Wi}{x:ByteArray×(Int×Int)}:∀{k:Nat},bsH Ls Hs As Bs w x k<0→∀j,j<k→bsB Ls Hs As Bs w x (j:Int)=false
 | 0,_,j,hj=>by omega
 | k+1,h,j,hj=>by
   by_cases e:bsH Ls Hs As Bs w x k<0
   ·cases h2:bsB Ls Hs As Bs w x (k:Int) with
    | false =>
      by_cases ej:j=k
      ·subst ej;exact h2
      exact bsH_none e j (by omega)
    | true =>
      rw[bsH,if_pos e,h2] at h;simp at h;omega
   rw[bsH,if_neg e] at h;exact absurd h e
variable {Xs:HoQ}
theorem bsX_le {w:Wi}{k:Nat}{p:Nat×Int}(h:bsX Ls Hs As Bs w Xs k=some p):∀{n:Nat},k≤n→bsX Ls Hs As Bs w Xs n=some p
 | 0,hn=>by
   obtain rfl:k=0:=by omega
   exact h
 | n+1,hn=>by
   by_cases e:k=n+1
   ·subst e;exact h
   rw[bsX,bsX_le h (show k≤n by omega)]
theorem bsX_yes {w:Wi}{k:Nat}(hk:k<Xs.length)(h:bsX Ls Hs As Bs w Xs k=none)(h2:0≤bsH Ls Hs As Bs w Xs[k] 16):bsX Ls Hs As Bs w Xs Xs.length=some (k,bsH Ls Hs As Bs w Xs[k] 16):=by
 refine bsX_le (k:=k+1) ?_ (by omega);rw[bsX,h];simp only;rw[getO hk,if_pos h2]
theorem bsX_none {w:Wi}:∀{k:Nat},bsX Ls Hs As Bs w Xs k=none→∀j,j<k→∀h:Nat,h<16→bsB Ls Hs As Bs w (Xs.getD j zeO) (h:Int)=false
 | 0,_,j,hj=>by omega
 | k+1,h,j,hj=>by
   rw[bsX] at h;cases e:bsX Ls Hs As Bs w Xs k with
   | some q=>rw[e] at h;cases h
   | none =>
     rw[e] at h;simp only at h
     split at h
     ·cases h
     next h0 =>
     by_cases ej:j=k
     ·subst ej;exact bsH_none (by omega)
     exact bsX_none e j (by omega)
variable {l:List Wi}
theorem bsW_le {k:Nat}{p:Nat×Nat×Int}(h:bsW Ls Hs As Bs l Xs k=some p):∀{n:Nat},k≤n→bsW Ls Hs As Bs l Xs n=some p
 | 0,hn=>by
   obtain rfl:k=0:=by omega
   exact h
 | n+1,hn=>by
   by_cases e:k=n+1
   ·subst e;exact h
   rw[bsW,bsW_le h (show k≤n by omega)]
theorem bsW_yes {k:Nat}(hk:k<l.length)(h:bsW Ls Hs As Bs l Xs k=none){p:Nat×Int}(h2:bsX Ls Hs As Bs l[k] Xs Xs.length=some p):bsW Ls Hs As Bs l Xs l.length=some (k,p.1,p.2):=by
 refine bsW_le (k:=k+1) ?_ (by omega);rw[bsW,h];simp only;rw[getW hk,h2]
theorem bsW_none:∀{k:Nat},bsW Ls Hs As Bs l Xs k=none→∀i,i<k→∀j,j<Xs.length→∀h:Nat,h<16→bsB Ls Hs As Bs (l.getD i zeW) (Xs.getD j zeO) (h:Int)=false
 | 0,_,i,hi=>by omega
 | k+1,h,i,hi=>by
   rw[bsW] at h;cases e:bsW Ls Hs As Bs l Xs k with
   | some q=>rw[e] at h;cases h
   | none =>
     rw[e] at h;simp only at h;cases e2:bsX Ls Hs As Bs (l.getD k zeW) Xs Xs.length with
     | some q=>rw[e2] at h;cases h
     | none =>
       by_cases ei:i=k
       ·subst ei;exact bsX_none e2
       exact bsW_none e i (by omega)
end
section
variable {Ls:LkQ}{Hs:HoQ}{As Bs:List (List Ru)}{Xs:HoQ}{l:List Wi}
theorem bsH_neg {w:Wi}{x:ByteArray×(Int×Int)}:∀{k:Nat},(∀j,j<k→bsB Ls Hs As Bs w x (j:Int)=false)→bsH Ls Hs As Bs w x k<0
 | 0,_=>by simp[bsH]
 | k+1,h=>bsH_no (bsH_neg (fun j hj=>h j (by omega))) (h k (by omega))
theorem bsX_neg {w:Wi}:∀{k:Nat},(∀j,j<k→∀h:Nat,h<16→bsB Ls Hs As Bs w (Xs.getD j zeO) (h:Int)=false)→bsX Ls Hs As Bs w Xs k=none
 | 0,_=>rfl
 | k+1,h=>by
   rw[bsX,bsX_neg (fun j hj=>h j (by omega))];simp only;rw[if_neg];have:=bsH_neg (Ls:=Ls) (Hs:=Hs) (As:=As) (Bs:=Bs) (w:=w) (x:=Xs.getD k zeO) (k:=16) (fun j hj=>h k (by omega) j hj);omega
theorem bsW_neg:∀{k:Nat},(∀i,i<k→∀j,j<Xs.length→∀h:Nat,h<16→bsB Ls Hs As Bs (l.getD i zeW) (Xs.getD j zeO) (h:Int)=false)→bsW Ls Hs As Bs l Xs k=none
 | 0,_=>rfl
 | k+1,h=>by
   rw[bsW,bsW_neg (fun i hi=>h i (by omega))];simp only;rw[bsX_neg (h k (by omega))]
theorem any_same {α:Type}{L M:List α}(h:∀x,x∈L↔x∈M)(p:α→Bool):L.any p=M.any p:=by
 rw[Bool.eq_iff_iff,List.any_eq_true,List.any_eq_true];exact⟨fun ⟨x,h1,h2⟩=>⟨x,(h x).1 h1,h2⟩,fun ⟨x,h1,h2⟩=>⟨x,(h x).2 h1,h2⟩⟩
theorem fb_bs {S:Int}(ht:tpN S Ls Hs=0)(hA:∀s,tbN (taT As s)=0)(hB:∀s,tbN (taT Bs s)=0){held:Nat}{p:Int×ByteArray×Int}(f:Fb l Hs (fun z h=>pwS Ls Hs As Bs (Hs.getD z zeO).2 (h:Int)) Hs.length 0 held p):(bsW Ls Hs As Bs l Hs l.length).isSome=decide (held<l.length)∧prV Hs (bsW Ls Hs As Bs l Hs l.length)=p:=by
 have hb:∀w z (h:Nat),z<Hs.length→badF w (Hs.getD z zeO).1 (pwS Ls Hs As Bs (Hs.getD z zeO).2 (h:Int))=bsB Ls Hs As Bs w (Hs.getD z zeO) (h:Int):=fun w z h hz=>by
  have hsp:spB S (Hs.getD z zeO).2=true:=by
   rw[getO hz];exact ((tp_0 ht).2.2.2.2.1 _ (List.getElem_mem hz)).2
  exact any_same (ps_mem ht hA hB hsp (h:Int)) _
 by_cases hl:held<l.length
 ·obtain⟨z,h,h16,hzh,hz,rfl,hbad,hno⟩:=f.tell hl;have e1:bsH Ls Hs As Bs l[held] Hs[z] 16=(h:Int):=by
   refine bsH_yes h16 (bsH_neg fun j hj=>?_) ?_
   ·have:=hno z j (by omega) (.inr ⟨rfl,hj⟩);rw[hb _ _ _ hz,getW hl,getO hz] at this;exact this
   rw[hb _ _ _ hz,getW hl,getO hz] at hbad;exact hbad
  have e2:bsX Ls Hs As Bs l[held] Hs Hs.length=some (z,(h:Int)):=by
   rw[bsX_yes hz (bsX_neg fun j hj h' hh'=>?_) (by rw[e1];omega),e1];have:=hno j h' hh' (.inl hj);rw[hb _ _ _ (by omega),getW hl] at this;exact this
  have e3:=bsW_yes hl (bsW_neg (Ls:=Ls) (Hs:=Hs) (As:=As) (Bs:=Bs) (Xs:=Hs) fun i hi j hj h' hh'=>by
   have:=f.ok i hi j h' hh' (.inl hj);rw[hb _ _ _ hj] at this;exact this) e2
  rw[e3];exact⟨by simp[hl],rfl⟩
 have he:held=l.length:=by have:=f.le;omega
 have e3:bsW Ls Hs As Bs l Hs l.length=none:=bsW_neg fun i hi j hj h' hh'=>by
  have:=f.ok i (by omega) j h' hh' (.inl hj);rw[hb _ _ _ hj] at this;exact this
 rw[e3,f.no he];exact⟨by simp[hl],rfl⟩
end
structure PlOK (S:Int)(Ls:List LkT)(Hs:List HoT)(As Bs:List (List Ru))(ws:List Wi)(D:List Op8):Prop where
 nt:ntN S Ls Hs As=0
 tw:∀j,twN (As.getD j []) (Bs.getD j [])=0
 ws:wsN S Ls Hs ws=0
 d:D=cdL As Bs As.length
section
variable {S:Int}{Ls:List LkT}{Hs:List HoT}{As Bs:List (List Ru)}{ws:List Wi}{D:List Op8}
theorem PlOK.len (h:PlOK S Ls Hs As Bs ws D):(As.length:Int)=S∧As.length≤6:=by
 obtain⟨h1,h2,_⟩:=nt_0 h.nt;have:=(tp_0 h1).1;exact⟨h2,by omega⟩
theorem PlOK.few (h:PlOK S Ls Hs As Bs ws D):D.length≤144:=by
 have h1:=cd_few h.tw As.length;have h2:=h.len.2;rw[h.d];omega
theorem PlOK.w (h:PlOK S Ls Hs As Bs ws D):∀o∈D,1≤o.w∧o.w≤6:=fun o ho=>by
 rw[h.d] at ho;have:=cd_w o ho;have:=h.len.2;omega
theorem rd_all (As Bs:List (List Ru))(h6:As.length≤6)(t:Nat):rnL (cdL As Bs As.length) t=rnTo (cdL As Bs As.length) t As.length:=by
 have h2:∀k,As.length≤k→rnTo (cdL As Bs As.length) t k=rnTo (cdL As Bs As.length) t As.length:=by
  intro k hk
  induction k with
  | zero=>rw[show As.length=0 by omega]
  | succ k ih =>
    by_cases e:As.length=k+1
    ·rw[e]
    rw[rd_cd,ih (by omega)];simp[show ¬k<As.length by omega]
 exact h2 6 h6
theorem PlOK.ca (h:PlOK S Ls Hs As Bs ws D){s t:Nat}(hd:∀a,1≤a→a≤6→inS t a=true→inS s a=false):caN S (nwT As Bs s) (rnL D t)=0∧caT (nwT As Bs s) (rnL D t)=nwT As Bs (s ||| t):=by
 rw[h.d,rd_all As Bs h.len.2];obtain⟨h1,h2⟩:=ca_rd h.len.1 h.len.2 (fun j _=>h.tw j) hd As.length (Nat.le_refl _);refine⟨h1,List.ext_getElem (by rw[ca_len,nw_len,nw_len]) fun i k1 k2=>?_⟩;have hi:i<As.length:=by rw[nw_len] at k2;exact k2
 have:=h2 i;rw[if_pos hi] at this;simpa[List.getD,k1,k2] using this
theorem rd_le (h6:As.length≤6)(t:Nat):(rnL (cdL As Bs As.length) t).length≤(cdL As Bs As.length).length:=by
 rw[←of_rd (As:=As) (Bs:=Bs) (n:=As.length) (s:=t) (p:=fun x=>inS t x.toNat) h6 (fun a _ _=>by simp)];exact List.length_filter_le _ _
theorem PlOK.nw (h:PlOK S Ls Hs As Bs ws D){s:Nat}:ntN S Ls Hs (nwT As Bs s)=0:=by
 obtain⟨h1,h2⟩:=h.ca (s:=0) (t:=s) (fun a _ _ _=>in_0 a);rw[nw_0] at h1 h2;rw[Nat.zero_or] at h2;rw[←h2];exact nt_ca h.nt h1
theorem PlOK.cg (h:PlOK S Ls Hs As Bs ws D){s t:Nat}(hd:∀a,1≤a→a≤6→inS t a=true→inS s a=false):cgN S Ls Hs (nwT As Bs s) (rnL D t)=0:=by
 refine cg_of h.nw ?_ (h.ca hd).1;have h1:=rd_le (Bs:=Bs) h.len.2 t;have h2:=h.few;rw[h.d] at h2 ⊢;omega
end
def sfB (Ls:List LkT)(Hs:List HoT)(As Bs:List (List Ru))(ws:List Wi)(done s:Nat):Bool:=(bsW Ls Hs (nwT As Bs done) (nwT As Bs (done ||| s)) ws Hs ws.length).isNone
theorem sf_none {S:Int}{Ls:List LkT}{Hs:List HoT}{Ts:List (List Ru)}{o:List Op8}{l:List Wi}{N:Int}{p:Int×ByteArray×Int}(h:SfR S Ls Hs Ts o l N p)(h1:cgN S Ls Hs Ts o=0)(h2:wsN S Ls Hs l=0):N=if (bsW Ls Hs Ts (caT Ts o) l Hs l.length).isNone then 0 else 9:=by
 rcases h with ⟨k1,_,_⟩ | ⟨_,k2,_,_⟩ | ⟨_,_,held,hF,hN⟩
 ·exact absurd h1 k1
 ·exact absurd h2 k2
 obtain⟨ht,_,hA,hB⟩:=cg_ok h1;obtain⟨e1,e2⟩:=fb_bs ht hA hB hF;rw[hN];by_cases hh:held<l.length
 ·rw[if_pos hh];rw[decide_eq_true hh] at e1;cases hb:bsW Ls Hs Ts (caT Ts o) l Hs l.length with
  | none=>rw[hb] at e1;cases e1
  | some x=>rfl
 rw[if_neg hh];rw[decide_eq_false hh] at e1;cases hb:bsW Ls Hs Ts (caT Ts o) l Hs l.length with
 | none=>rfl
 | some x=>rw[hb] at e1;cases e1
theorem isSafe_any (S:Int)(v1 v2 v3 v4:Value)(bm:Nat)(all:Int)(done s:Nat)(Ls:List LkT)(Hs:List HoT)(As Bs:List (List Ru))(ws:List Wi)(D:List Op8)(w:World)
 (hT:TskOK w v1 v2 v3 v4 bm Ls Hs As ws D) (hP:PlOK S Ls Hs As Bs ws D) (hd:done<64) (hs:s<64) (hds:∀a,1≤a→a≤6→inS s a=true→inS done a=false):
 Calls Tryz.prog 26 #[.agg #[.int .i64 S,v1,v2,v3,v4,.map (some bm),.int .i64 all],.int .i64 (done:Int),.int .i64 (s:Int)] w fun e w'=>e=.returned (.bool (sfB Ls Hs As Bs ws done s))∧Below w.heap.size w w':=by
 obtain⟨ao,n,cap,ao2,n2,cap2,ao3,n3,cap3,rfl,rfl,rfl⟩:=hT.n.form;obtain⟨a4,n4,c4,rfl,_⟩:=hT.w.form;obtain⟨w1,hw1⟩:∃W,W=w.alloc (Obj.cells #[.int .i64 S,.slice ao n cap,.slice ao2 n2 cap2,.slice ao3 n3 cap3,.slice a4 n4 c4,.map (some bm),.int .i64 all] 57):=⟨_,rfl⟩;have hb1:Below w.heap.size w w1:=by rw[hw1];exact (Below.refl _ _).alloc (Nat.le_refl _) _
 have hbx:TkB w1 w.heap.size S (.slice ao n cap) (.slice ao2 n2 cap2) (.slice ao3 n3 cap3) (.slice a4 n4 c4) (.map (some bm)) all:=by rw[hw1];exact tkb_new w S _ _ _ _ _ all 57
 have HW1:Hid (w1=w.alloc (Obj.cells #[.int .i64 S,.slice ao n cap,.slice ao2 n2 cap2,.slice ao3 n3 cap3,.slice a4 n4 c4,.map (some bm),.int .i64 all] 57)):=hw1;have HB1:Hid (Below w.heap.size w w1):=hb1;have HTK:Hid (∀W,Below w1.heap.size w1 W→TskOK W (.slice ao n cap) (.slice ao2 n2 cap2) (.slice ao3 n3 cap3) (.slice a4 n4 c4) bm Ls Hs As ws D):=fun W h=>(hT.later hb1).later h
 have HCB:Hid (∀W,Below w1.heap.size w1 W→W.cell? ⟨w.heap.size,0,none⟩=some (.int .i64 S)∧W.cell? ⟨w.heap.size,1,none⟩=some (.slice ao n cap)∧W.cell? ⟨w.heap.size,2,none⟩=some (.slice ao2 n2 cap2)∧W.cell? ⟨w.heap.size,3,none⟩=some (.slice ao3 n3 cap3)∧W.cell? ⟨w.heap.size,4,none⟩=some (.slice a4 n4 c4)∧W.cell? ⟨w.heap.size,5,none⟩=some (.map (some bm))∧W.cell? ⟨w.heap.size,6,none⟩=some (.int .i64 all)):=fun W h=>by
  have k:=hbx.later h;exact⟨k.c0,k.c1,k.c2,k.c3,k.c4,k.c5,k.c6⟩
 have HP:Hid (PlOK S Ls Hs As Bs ws D):=hP;have HR:Hid (∀(t:Nat) W,t<64→Below w1.heap.size w1 W→Calls Tryz.prog 24 #[.agg #[.int .i64 S,.slice ao n cap,.slice ao2 n2 cap2,.slice ao3 n3 cap3,.slice a4 n4 c4,.map (some bm),.int .i64 all],.int .i64 (t:Int)] W fun e w'=>∃a5 n5 c5,e=.returned (.slice a5 n5 c5)∧(∀V,Below w'.heap.size w' V→GS opE V (.slice a5 n5 c5) (rnL D t))∧Below W.heap.size W w'):=fun t W ht hW=>by
  refine (pround_any S _ _ _ _ bm all t Ls Hs As ws D W ((hT.later hb1).later hW) ht (by have:=hP.few;omega)).mono ?_;rintro e w' ⟨v,rfl,hNO,hb⟩;obtain⟨a5,n5,c5,rfl,_⟩:=hNO.gs.form;exact⟨a5,n5,c5,rfl,fun V hV=>(hNO.later hV).gs,hb⟩
 have HAP:Hid (∀W a5 n5 c5,GS opE W (.slice a5 n5 c5) (rnL D done)→Below w1.heap.size w1 W→Calls Tryz.prog 16 #[.agg #[.int .i64 S,.slice ao n cap,.slice ao2 n2 cap2,.slice ao3 n3 cap3],.slice a5 n5 c5] W fun e w'=>∃b1 k1 d1 b2 k2 d2 b3 k3 d3,e=.returned (.tuple #[.agg #[.int .i64 S,.slice b1 k1 d1,.slice b2 k2 d2,.slice b3 k3 d3],.nilIface])∧NA w' W.heap.size (.slice b1 k1 d1) (.slice b2 k2 d2) (.slice b3 k3 d3) Ls Hs (nwT As Bs done)∧Below W.heap.size W w'):=fun W a5 n5 c5 hG hW=>by
  have hn:=((hT.later hb1).later hW).n;have h:=chApply_own S ao n cap ao2 n2 cap2 ao3 n3 cap3 a5 n5 c5 Ls Hs As (rnL D done) W hn.l hn.h hn.t hG;have e0:=hP.cg (s:=0) (t:=done) (fun a _ _ _=>in_0 a);have e1:=(hP.ca (s:=0) (t:=done) (fun a _ _ _=>in_0 a)).2;rw[nw_0] at e0 e1;rw[Nat.zero_or] at e1;rw[e0,e1,no_ok rfl] at h;exact h
 have HDS:Hid (∀a,1≤a→a≤6→inS s a=true→inS done a=false):=hds;have HDL:Hid (done<64∧s<64):=⟨hd,hs⟩;obtain⟨T,hTT⟩:∃T,T=sfB Ls Hs As Bs ws done s:=⟨_,rfl⟩;have HT:Hid (sfB Ls Hs As Bs ws done s=T):=hTT.symm;rw[←hTT];clear hT hb1 hbx hw1 hP hd hs hds hTT;go_enter Tryz.func26,Tryz.ntmps26;go_upto_region 1 with fail;rw[←HW1.out]
 go_cut [7,8] from 9 (fun p e w'=>e=.nilIface∧PN w' p S Ls Hs (nwT As Bs done)∧Below w1.heap.size w1 w')
 case first =>
  go_region_held3 (fun W=>W.cell? ⟨w.heap.size,0,none⟩=some (.int .i64 S)∧W.cell? ⟨w.heap.size,1,none⟩=some (.slice ao n cap)∧W.cell? ⟨w.heap.size,2,none⟩=some (.slice ao2 n2 cap2)∧W.cell? ⟨w.heap.size,3,none⟩=some (.slice ao3 n3 cap3)∧W.cell? ⟨w.heap.size,4,none⟩=some (.slice a4 n4 c4)∧W.cell? ⟨w.heap.size,5,none⟩=some (.map (some bm))∧W.cell? ⟨w.heap.size,6,none⟩=some (.int .i64 all))
   (first | (with_reducible assumption) | (with_reducible exact HCB.out _ (Below.drew (Below.refl _ _))) | (with_reducible exact HCB.out _ (Below.drew ((Below.refl _ _).alloc (Nat.le_refl _) _))) | (with_reducible exact HCB.out _ HBY.out) | (with_reducible exact HCB.out _ (HBY.out.alloc HBY.out.size _)) | (with_reducible exact HCB.out _ HBX.out) | (with_reducible exact HCB.out _ (HBX.out.alloc HBX.out.size _)) | (exact HCB.out _ (below_pn4 HBY.out _ (by first | exact Nat.le_refl _ | exact HBX.out.size) _ _ _ _)))
   (first
    | (go_at_call 24;refine (HR.out done _ HDL.out.1 (by first | exact Below.drew (Below.refl _ _) | exact (Below.drew (Below.refl _ _)).alloc (Nat.le_refl _) _)).mono ?_;rintro e w' ⟨a5,n5,c5,rfl,hG,hb⟩;have HBX:Hid (Below w1.heap.size w1 w'):=(by first | exact fdrew hb | exact falloc hb);have HGX:Hid (∀V,Below w'.heap.size w' V→GS opE V (.slice a5 n5 c5) (rnL D done)):=hG;(try (have HZ:Hid (ZB w' w1.heap.size):=zb_d hb));clear hb hG)
    | (go_at_call 16;refine (HAP.out _ a5 n5 c5 (HGX.out _ (by first | exact Below.refl _ _ | exact (Below.refl _ _).alloc (Nat.le_refl _) _)) (by first | exact HBX.out | exact HBX.out.alloc HBX.out.size _)).mono ?_;rintro e w'' ⟨b1,k1,d1,b2,k2,d2,b3,k3,d3,rfl,hNA,hb⟩;have HNA:Hid (NA w'' _ (.slice b1 k1 d1) (.slice b2 k2 d2) (.slice b3 k3 d3) Ls Hs (nwT As Bs done)):=hNA;have HBY:Hid (Below w1.heap.size w1 w''):=(by first | exact HBX.out.trans (hb.mono HBX.out.size) | exact (HBX.out.alloc HBX.out.size _).trans (hb.mono (HBX.out.alloc HBX.out.size _).size));(try (have hz:=HZ.out.later hb;have hzl:=HZ.out.lt;obtain⟨⟨y0,y1,y2,y3⟩,yf⟩:=hz;have yf0:=yf 0;have yf1:=yf 1;have yf2:=yf 2;have yf3:=yf 3;clear yf));(try (have hz:=zb_a hb;obtain⟨⟨y0,y1,y2,y3⟩,yf⟩:=hz;have yf0:=yf 0;have yf1:=yf 1;have yf2:=yf 2;have yf3:=yf 3;clear yf));clear hb hNA))
  all_goals (go_wp2_with fail;go_meet)
  all_goals first
   | exact⟨rfl,pn_new _ HNA.out,HBY.out.alloc HBY.out.size _⟩
   | exact⟨rfl,pn_put HNA.out (by first | exact hzl | simp) ⟨y0,y1,y2,y3⟩,below_pn4 HBY.out _ (by first | exact Nat.le_refl _ | exact HBX.out.size) _ _ _ _⟩
 case rest =>
  obtain⟨rfl,⟨ba,b1,k1,d1,b2,k2,d2,b3,k3,d3,rfl,hba⟩,hbw⟩:=hcut;obtain⟨w2,hw2⟩:∃X,X=wc:=⟨_,rfl⟩;subst hw2;obtain⟨N,hN⟩:∃N:Int,N=if sfB Ls Hs As Bs ws done s then 0 else 9:=⟨_,rfl⟩
  have HN:Hid (N=if T then 0 else 9):=by rw[HT.out] at hN;exact hN
  have HB12:Hid (Below w1.heap.size w1 w2):=hbw;have HMK:Hid (∀W,Below w2.heap.size w2 W→W.cell? ⟨w.heap.size,0,none⟩=some (.int .i64 S)∧W.cell? ⟨w.heap.size,1,none⟩=some (.slice ao n cap)∧W.cell? ⟨w.heap.size,2,none⟩=some (.slice ao2 n2 cap2)∧W.cell? ⟨w.heap.size,3,none⟩=some (.slice ao3 n3 cap3)∧W.cell? ⟨w.heap.size,4,none⟩=some (.slice a4 n4 c4)∧W.cell? ⟨w.heap.size,5,none⟩=some (.map (some bm))∧W.cell? ⟨w.heap.size,6,none⟩=some (.int .i64 all)∧W.cell? ⟨ba,0,none⟩=some (.int .i64 S)∧W.cell? ⟨ba,1,none⟩=some (.slice b1 k1 d1)∧W.cell? ⟨ba,2,none⟩=some (.slice b2 k2 d2)∧W.cell? ⟨ba,3,none⟩=some (.slice b3 k3 d3)):=fun W hW=>by
   obtain⟨x0,x1,x2,x3,x4,x5,x6⟩:=HCB.out W (hbw.trans (hW.mono hbw.size));obtain⟨y0,y1,y2,y3⟩:=(hba.later hW).c;exact⟨x0,x1,x2,x3,x4,x5,x6,y0,y1,y2,y3⟩
  have HRS:Hid (∀W,Below w2.heap.size w2 W→Calls Tryz.prog 24 #[.agg #[.int .i64 S,.slice ao n cap,.slice ao2 n2 cap2,.slice ao3 n3 cap3,.slice a4 n4 c4,.map (some bm),.int .i64 all],.int .i64 (s:Int)] W fun e w'=>∃a5 n5 c5,e=.returned (.slice a5 n5 c5)∧GS opE w' (.slice a5 n5 c5) (rnL D s)∧Below w2.heap.size w2 w'):=fun W hW=>by
   refine (HR.out s W HDL.out.2 (hbw.trans (hW.mono hbw.size))).mono ?_;rintro e w' ⟨a5,n5,c5,rfl,hG,hb⟩;exact⟨a5,n5,c5,rfl,hG _ (Below.refl _ _),hW.trans (hb.mono hW.size)⟩
  have HSF:Hid (∀W a5 n5 c5,GS opE W (.slice a5 n5 c5) (rnL D s)→Below w2.heap.size w2 W→Calls Tryz.prog 15 #[.agg #[.int .i64 S,.slice b1 k1 d1,.slice b2 k2 d2,.slice b3 k3 d3],.slice a5 n5 c5,.slice a4 n4 c4] W fun e w'=>∃p1 p2 p3,e=.returned (.tuple #[.agg #[.int .i64 p1,.string p2,.int .i64 p3],noV N])∧Below w2.heap.size w2 w'):=fun W a5 n5 c5 hG hW=>by
   have hn:=hba.later hW;refine (safe_any S b1 k1 d1 b2 k2 d2 b3 k3 d3 a5 n5 c5 a4 n4 c4 Ls Hs (nwT As Bs done) (rnL D s) ws W hn.l hn.h hn.t hG (HTK.out W (hbw.trans (hW.mono hbw.size))).w).mono ?_;rintro e w' ⟨N',p,rfl,hSR,hb⟩;have e1:=sf_none hSR (HP.out.cg HDS.out) HP.out.ws;rw[(HP.out.ca HDS.out).2] at e1;have e2:N'=N:=e1.trans hN.symm;exact⟨p.1,p.2.1,p.2.2,by rw[e2],hW.trans (hb.mono hW.size)⟩
  clear hba hbw hN HCB HR HAP;go_upto_region 4 with fail
  go_cut [8] from 9 (fun e w'=>e=noV N∧Below w2.heap.size w2 w')
  case first =>
   go_region_held3 (fun W=>W.cell? ⟨w.heap.size,0,none⟩=some (.int .i64 S)∧W.cell? ⟨w.heap.size,1,none⟩=some (.slice ao n cap)∧W.cell? ⟨w.heap.size,2,none⟩=some (.slice ao2 n2 cap2)∧W.cell? ⟨w.heap.size,3,none⟩=some (.slice ao3 n3 cap3)∧W.cell? ⟨w.heap.size,4,none⟩=some (.slice a4 n4 c4)∧W.cell? ⟨w.heap.size,5,none⟩=some (.map (some bm))∧W.cell? ⟨w.heap.size,6,none⟩=some (.int .i64 all)∧W.cell? ⟨ba,0,none⟩=some (.int .i64 S)∧W.cell? ⟨ba,1,none⟩=some (.slice b1 k1 d1)∧W.cell? ⟨ba,2,none⟩=some (.slice b2 k2 d2)∧W.cell? ⟨ba,3,none⟩=some (.slice b3 k3 d3))
    (first | (with_reducible assumption) | (with_reducible exact HMK.out _ (Below.drew (Below.refl _ _))) | (with_reducible exact HMK.out _ HBY.out) | (with_reducible exact HMK.out _ HBX.out))
    (first
     | (go_at_call 24;refine (HRS.out _ (Below.drew (Below.refl _ _))).mono ?_;rintro e w' ⟨a5,n5,c5,rfl,hG,hb⟩;have HBX:Hid (Below w2.heap.size w2 w'):=hb;have HGX:Hid (GS opE w' (.slice a5 n5 c5) (rnL D s)):=hG;clear hb hG)
     | (go_at_call 15;refine (HSF.out _ a5 n5 c5 HGX.out HBX.out).mono ?_;rintro e w'' ⟨p1,p2,p3,rfl,hb⟩;have HBY:Hid (Below w2.heap.size w2 w''):=hb;clear hb))
   all_goals (go_wp2_with fail;go_meet)
   all_goals exact⟨rfl,HBY.out⟩
  case rest =>
   obtain⟨rfl,hb3⟩:=hcut;have HBW:Hid (Below w.heap.size w wc):=HB1.out.trans ((HB12.out.trans (hb3.mono HB12.out.size)).mono HB1.out.size);clear hb3;cases T with
   | true =>
     have h0:N=0:=HN.out.trans (by simp);rw[no_ok h0];go_wp2;go_ret;exact⟨rfl,HBW.out⟩
   | false =>
     have h0:N=9:=HN.out.trans (by simp);rw[no_ne (by rw[h0];decide)];go_wp2;go_ret;exact⟨rfl,HBW.out⟩
theorem in_and (s t a:Nat):inS (s &&& t) a=(inS s a&&inS t a):=Nat.testBit_and ..
theorem sub_and {s t:Nat}(hs:s<64):s &&& t=s↔∀a,1≤a→a≤6→inS s a=true→inS t a=true:=by
 constructor
 ·intro h a _ _ h1;rw[←h,in_and] at h1;simp only[Bool.and_eq_true] at h1;exact h1.2
 intro h;refine set_ext (Nat.lt_of_le_of_lt Nat.and_le_left hs) hs fun a h1 h2=>?_
 rw[in_and];cases e:inS s a
 ·rfl
 rw[h a h1 h2 e];rfl
theorem down_all:((List.range 64).all fun t=>(List.range 64).all fun k=>(List.range 64).all fun m => !(k &&& t==k) || !(m &&& t==m) || Nat.ble m k || Nat.ble k ((m-1) &&& t))=true:=by decide +kernel
theorem down_le {t k m:Nat}(ht:t<64)(hk:k<64)(hm:m<64)(h:k &&& t=k)(h2:m &&& t=m)(hkm:k<m):k≤(m-1) &&& t:=by
 have h1:=List.all_eq_true.1 down_all t (List.mem_range.2 ht);have h4:=List.all_eq_true.1 h1 k (List.mem_range.2 hk);have h3:=List.all_eq_true.1 h4 m (List.mem_range.2 hm);simp only[h,h2,beq_self_eq_true,Bool.not_true,Bool.false_or,Bool.or_eq_true,Nat.ble_eq] at h3
 rcases h3 with h3 | h3
 ·omega
 exact h3
def seqL (p:Nat→Bool):Nat→List Nat
 | 0=>[]
 | n+1=>if p n=true then n :: seqL p n else seqL p n
theorem seq_mem {p:Nat→Bool}{x:Nat}:∀{n:Nat},x∈seqL p n↔x<n∧p x=true
 | 0=>by simp[seqL]
 | n+1=>by
   rw[seqL];by_cases h:p n=true
   ·rw[if_pos h,List.mem_cons,seq_mem];constructor
    ·rintro (e | ⟨h1,h2⟩)
     ·subst e;exact⟨Nat.lt_succ_self _,h⟩
     exact⟨by omega,h2⟩
    rintro⟨h1,h2⟩;by_cases e:x=n
    ·exact .inl e
    exact .inr ⟨by omega,h2⟩
   rw[if_neg h,seq_mem];constructor
   ·rintro⟨h1,h2⟩;exact⟨by omega,h2⟩
   rintro⟨h1,h2⟩;refine⟨?_,h2⟩;by_cases e:x=n
   ·subst e;exact absurd h2 h
   omega
theorem seq_fall (p:Nat→Bool):∀n:Nat,(seqL p n).Pairwise (fun a b=>b<a)
 | 0=>List.Pairwise.nil
 | n+1=>by
   rw[seqL];by_cases h:p n=true
   ·rw[if_pos h];exact List.pairwise_cons.2 ⟨fun a ha=>(seq_mem.1 ha).1,seq_fall p n⟩
   rw[if_neg h];exact seq_fall p n
theorem seq_skip {p:Nat→Bool}{m:Nat}:∀{n:Nat},m≤n→(∀k,m≤k→k<n→p k=false)→seqL p n=seqL p m
 | 0,h,_=>by rw[show m=0 by omega]
 | n+1,h,hp=>by
   by_cases e:m=n+1
   ·rw[e]
   rw[seqL,if_neg (by rw[hp n (by omega) (by omega)];decide)];exact seq_skip (by omega) fun k h1 h2=>hp k h1 (by omega)
section
variable (sf:Nat→Nat→Bool)(all:Nat)
def ysB (done s:Nat):Bool:=decide (s≠0)&&decide (s &&& mnS all done=s)&&sf done s
def ysL (done:Nat):List Nat:=seqL (ysB sf all done) 64
def nxB (f:Nat→Nat)(s:Nat)(b:Nat×Nat):Nat×Nat:=if f s<b.1 then (f s,s) else b
def bsF (f:Nat→Nat):List Nat→Nat×Nat→Nat×Nat
 | [],b=>b
 | s :: l,b=>if (nxB f s b).1≤2 then nxB f s b else bsF f l (nxB f s b)
def shF:Nat→Nat→Nat×Nat
 | 0,done=>if done=all then (0,0) else (7,0)
 | n+1,done=>if done=all then (0,0) else bsF (fun s=>(shF n (done ||| s)).1+1) (ysL sf all done) (7,0)
def shC (done:Nat):Nat×Nat:=shF sf all 6 done
def DnOK (done:Nat):Prop:=done<64∧∀a,1≤a→a≤6→inS done a=true→inS all a=true
def CrO:Nat→List Nat→Prop
 | done,[]=>done=all
 | done,s :: cs=>s∈ysL sf all done∧CrO (done ||| s) cs
variable {sf all}
theorem ys_mem {done s:Nat}:s∈ysL sf all done↔s<64∧s≠0∧(∀a,1≤a→a≤6→inS s a=true→inS (mnS all done) a=true)∧sf done s=true:=by
 rw[ysL,seq_mem,ysB];simp only[Bool.and_eq_true,decide_eq_true_eq];constructor
 ·rintro⟨h1,⟨h2,h3⟩,h4⟩;exact⟨h1,h2,(sub_and h1).1 h3,h4⟩
 rintro⟨h1,h2,h3,h4⟩;exact⟨h1,⟨h2,(sub_and h1).2 h3⟩,h4⟩
theorem ys_le {done s:Nat}(h:s∈ysL sf all done):s≤mnS all done:=by
 obtain⟨h1,h2,h3,_⟩:=ys_mem.1 h;rw[←(sub_and h1).2 h3];exact Nat.and_le_right
theorem DnOK.next {done s:Nat}(h:DnOK all done)(hs:s∈ysL sf all done):DnOK all (done ||| s):=by
 obtain⟨h1,_,h3,_⟩:=ys_mem.1 hs;refine⟨or_lt h.1 h1,fun a k1 k2 k=>?_⟩;rw[in_or] at k;by_cases e:inS done a=true
 ·exact h.2 a k1 k2 e
 have:=h3 a k1 k2 (by simpa[e] using k);rw[in_mn k1 k2] at this;simp only[Bool.and_eq_true] at this;exact this.1
theorem ys_less {done s:Nat}(hs:s∈ysL sf all done):lfN all (done ||| s)<lfN all done:=by
 obtain⟨h1,h2,h3,_⟩:=ys_mem.1 hs;exact lf_less h1 h2 h3
theorem bs_congr {f g:Nat→Nat}:∀{l:List Nat} {b:Nat×Nat},(∀s∈l,f s=g s)→bsF f l b=bsF g l b
 | [],b,_=>rfl
 | s :: l,b,h=>by
   have e:nxB f s b=nxB g s b:=by rw[nxB,nxB,h s (List.mem_cons_self ..)]
   rw[bsF,bsF,e,bs_congr fun x hx=>h x (List.mem_cons_of_mem _ hx)]
theorem sh_more (ha:all<64):∀(n m done:Nat),DnOK all done→lfN all done≤n→lfN all done≤m→shF sf all n done=shF sf all m done
 | 0,m,done,hd,hn,hm=>by
   have e:=lf_0 ha hd.1 hd.2 (by omega);cases m <;> simp[shF,e]
 | n+1,0,done,hd,hn,hm=>by
   have e:=lf_0 ha hd.1 hd.2 (by omega);simp[shF,e]
 | n+1,m+1,done,hd,hn,hm=>by
   rw[shF,shF];by_cases e:done=all
   ·rw[if_pos e,if_pos e]
   rw[if_neg e,if_neg e];refine bs_congr fun s hs=>?_
   have hl:=ys_less hs;rw[sh_more ha n m (done ||| s) (hd.next hs) (by omega) (by omega)]
theorem sh_all:shC sf all all=(0,0):=by simp[shC,shF]
theorem sh_step (ha:all<64){done:Nat}(hd:DnOK all done)(h:done≠all):shC sf all done=bsF (fun s=>(shC sf all (done ||| s)).1+1) (ysL sf all done) (7,0):=by
 rw[shC,shF,if_neg h];refine bs_congr fun s hs=>?_
 have hl:=ys_less hs;have h6:=lf_le all done;rw[shC,sh_more ha 5 6 (done ||| s) (hd.next hs) (by omega) (by omega)]
theorem bs_two {f:Nat→Nat}:∀{l:List Nat} {b:Nat×Nat},(∀s∈l,2≤f s)→2≤b.1 →
 (∀s∈l,(bsF f l b).1≤f s)∧(bsF f l b).1≤b.1∧(bsF f l b=b∨∃pre s post,l=pre++s :: post∧bsF f l b=(f s,s)∧f s<b.1∧∀x∈pre,f s<f x)
 | [],b,_,_=>⟨(fun s h=>by cases h),Nat.le_refl _,.inl rfl⟩
 | s :: l,b,h,hb=>by
   have hs:=h s (List.mem_cons_self ..);have hl:∀x∈l,2≤f x:=fun x hx=>h x (List.mem_cons_of_mem _ hx)
   rw[bsF];by_cases c:f s<b.1
   ·have e:nxB f s b=(f s,s):=by rw[nxB,if_pos c]
    rw[e];by_cases c2:f s≤2
    ·rw[if_pos c2];refine⟨fun x hx=>?_,by show f s≤b.1;omega,.inr ⟨[],s,l,rfl,rfl,c,fun x hx=>by cases hx⟩⟩;show f s≤f x
     rcases List.mem_cons.1 hx with e | hx
     ·rw[e];exact Nat.le_refl _
     have:=hl x hx;omega
    rw[if_neg c2];obtain⟨i1,i2,i3⟩:=bs_two (b:=(f s,s)) hl hs;refine⟨fun x hx=>?_,by have:(f s,s).1=f s:=rfl;omega,.inr ?_⟩
    ·rcases List.mem_cons.1 hx with e | hx
     ·rw[e];exact i2
     exact i1 x hx
    rcases i3 with i3 | ⟨pre,x,post,j1,j2,j3,j4⟩
    ·exact⟨[],s,l,rfl,i3,c,fun x hx=>by cases hx⟩
    have j5:f x<f s:=j3;refine⟨s :: pre,x,post,by rw[j1];rfl,j2,by omega,fun y hy=>?_⟩
    rcases List.mem_cons.1 hy with e | hy
    ·rw[e];exact j5
    exact j4 y hy
   have e:nxB f s b=b:=by rw[nxB,if_neg c]
   rw[e];by_cases c2:b.1≤2
   ·rw[if_pos c2];refine⟨fun x hx=>?_,Nat.le_refl _,.inl rfl⟩
    rcases List.mem_cons.1 hx with e | hx
    ·rw[e];omega
    have:=hl x hx;omega
   rw[if_neg c2];obtain⟨i1,i2,i3⟩:=bs_two (b:=b) hl hb;refine⟨fun x hx=>?_,i2,i3.imp id ?_⟩
   ·rcases List.mem_cons.1 hx with e | hx
    ·rw[e];omega
    exact i1 x hx
   rintro⟨pre,x,post,j1,j2,j3,j4⟩;refine⟨s :: pre,x,post,by rw[j1];rfl,j2,j3,fun y hy=>?_⟩
   rcases List.mem_cons.1 hy with e | hy
   ·rw[e];omega
   exact j4 y hy
theorem bs_one {f:Nat→Nat}{l:List Nat}{b:Nat×Nat}(h1:∀s∈l,1≤f s)(h2:∀s∈l.tail,2≤f s)(hb:2<b.1):
 (∀s∈l,(bsF f l b).1≤f s)∧(bsF f l b).1≤b.1∧(bsF f l b=b∨∃pre s post,l=pre++s :: post∧bsF f l b=(f s,s)∧f s<b.1∧∀x∈pre,f s<f x):=by
 cases l with
 | nil=>exact⟨(fun s h=>by cases h),Nat.le_refl _,.inl rfl⟩
 | cons s l =>
   have hs:=h1 s (List.mem_cons_self ..);by_cases c:f s=1
   ·have e:nxB f s b=(f s,s):=by rw[nxB,if_pos (by omega)]
    rw[bsF,e,if_pos (show f s≤2 by omega)];refine⟨fun x hx=>?_,by show f s≤b.1;omega,.inr ⟨[],s,l,rfl,rfl,by omega,fun x hx=>by cases hx⟩⟩;have:=h1 x hx;show f s≤f x;omega
   refine bs_two (fun x hx=>?_) (by omega)
   rcases List.mem_cons.1 hx with e | hx
   ·rw[e];omega
   exact h2 x hx
theorem sh_in (n done:Nat):(shF sf all n done).2=0∨(shF sf all n done).2∈ysL sf all done:=by
 have go:∀(f:Nat→Nat) (l:List Nat) (b:Nat×Nat),(b.2=0∨b.2∈ysL sf all done)→(∀s∈l,s∈ysL sf all done)→(bsF f l b).2=0∨(bsF f l b).2∈ysL sf all done:=by
  intro f l
  induction l with
  | nil=>exact fun b hb _=>hb
  | cons s l ih =>
    intro b hb hl;have hx:(nxB f s b).2=0∨(nxB f s b).2∈ysL sf all done:=by
     rw[nxB];by_cases c:f s<b.1
     ·rw[if_pos c];exact .inr (hl s (List.mem_cons_self ..))
     rw[if_neg c];exact hb
    rw[bsF];by_cases c:(nxB f s b).1≤2
    ·rw[if_pos c];exact hx
    rw[if_neg c];exact ih _ hx fun x h=>hl x (List.mem_cons_of_mem _ h)
 cases n with
 | zero =>
   rw[shF];by_cases e:done=all
   ·rw[if_pos e];exact .inl rfl
   rw[if_neg e];exact .inl rfl
 | succ n =>
   rw[shF];by_cases e:done=all
   ·rw[if_pos e];exact .inl rfl
   rw[if_neg e];exact go _ _ _ (.inl rfl) fun _ h=>h
theorem nx_sh:NxOK all fun d=>(shC sf all d).2:=fun done=>by
 rcases sh_in (sf:=sf) (all:=all) 6 done with h | h
 ·refine⟨by show (shF sf all 6 done).2<64;rw[h];decide,fun a _ _ k=>?_⟩;have:inS (shF sf all 6 done).2 a=true:=k;rw[h,in_0] at this;cases this
 obtain⟨h1,_,h3,_⟩:=ys_mem.1 h;exact⟨h1,h3⟩
theorem or_all (ha:all<64){done s:Nat}(hs:s∈ysL sf all done)(h:done ||| s=all):s=mnS all done:=by
 obtain⟨h1,_,h3,_⟩:=ys_mem.1 hs;refine set_ext h1 (mn_lt ha) fun a k1 k2=>?_
 cases e:inS s a
 ·rw[in_mn k1 k2,←h,in_or,e];cases inS done a <;> rfl
 exact (h3 a k1 k2 e).symm
theorem sh_pos (ha:all<64){done:Nat}(hd:DnOK all done)(h:done≠all):1≤(shC sf all done).1:=by
 rw[sh_step ha hd h];have go:∀(l:List Nat) (b:Nat×Nat),1≤b.1→1≤(bsF (fun s=>(shC sf all (done ||| s)).1+1) l b).1:=by
  intro l
  induction l with
  | nil=>exact fun b hb=>hb
  | cons s l ih =>
    intro b hb;have hx:1≤(nxB (fun s=>(shC sf all (done ||| s)).1+1) s b).1:=by
     rw[nxB];by_cases c:(shC sf all (done ||| s)).1+1<b.1
     ·rw[if_pos c];show 1≤_+1;omega
     rw[if_neg c];exact hb
    rw[bsF];by_cases c:(nxB (fun s=>(shC sf all (done ||| s)).1+1) s b).1≤2
    ·rw[if_pos c];exact hx
    rw[if_neg c];exact ih _ hx
 exact go _ _ (by decide)
theorem sh_spec (ha:all<64){done:Nat}(hd:DnOK all done)(h:done≠all):
 (∀s∈ysL sf all done,(shC sf all done).1≤(shC sf all (done ||| s)).1+1)∧(shC sf all done).1≤7 ∧
 (shC sf all done=(7,0)∨∃pre s post,ysL sf all done=pre++s :: post∧shC sf all done=((shC sf all (done ||| s)).1+1,s)∧(shC sf all (done ||| s)).1+1<7∧∀x∈pre,(shC sf all (done ||| s)).1+1<(shC sf all (done ||| x)).1+1):=by
 rw[sh_step ha hd h];refine bs_one (f:=fun s=>(shC sf all (done ||| s)).1+1) (fun s _=>by show 1≤_+1;omega) (fun s hs=>?_) (by decide);have hm:s∈ysL sf all done:=List.mem_of_mem_tail hs;have hne:done ||| s≠all:=fun e=>by
  have e1:=or_all ha hm e;cases hy:ysL sf all done with
  | nil=>rw[hy] at hs;cases hs
  | cons x l =>
    have hp:=seq_fall (ysB sf all done) 64;rw[show seqL (ysB sf all done) 64=ysL sf all done from rfl,hy] at hp;rw[hy] at hs;have:=(List.pairwise_cons.1 hp).1 s hs;have:=ys_le (sf:=sf) (all:=all) (done:=done) (s:=x) (by rw[hy];exact List.mem_cons_self ..);omega
 have:=sh_pos (sf:=sf) ha (hd.next hm) hne;show 2≤_+1;omega
theorem fi_course:∀(n:Nat) {done:Nat} {cs:List Nat},roO all (fun d=>fiS sf all d 6) n done=some cs→CrO sf all done cs
 | 0,done,cs,h=>by
   rw[roO] at h;by_cases e:done=all
   ·rw[if_pos e] at h;cases h;exact e
   rw[if_neg e] at h;cases h
 | n+1,done,cs,h=>by
   rw[roO] at h;by_cases e:done=all
   ·rw[if_pos e] at h;cases h;exact e
   rw[if_neg e] at h;by_cases e0:fiS sf all done 6=0
   ·rw[if_pos e0] at h;cases h
   rw[if_neg e0] at h;obtain⟨more,h1,rfl⟩:=Option.map_eq_some_iff.1 h;have hx:=nx_fi sf all done;refine⟨ys_mem.2 ⟨hx.1,e0,hx.2,?_⟩,fi_course n h1⟩
   rcases fi_safe sf all done 6 with k | k
   ·exact absurd k e0
   exact k
end
section
variable {Ls:LkQ}{Hs:HoQ}{As Bs Cs:List (List Ru)}
theorem ch_self {s:Int}(h:taT Bs s=taT As s):chB As Bs s=false:=by
 have e:∀t:List Ru,bey t t=[]:=fun t=>List.filter_eq_nil_iff.2 fun r hr=>by rw[in_iff.2 hr];decide
 unfold chB;rw[h,e];rfl
theorem wk_sub (hC:∀s,taT Bs s=taT Cs s∨taT Bs s=taT As s):∀(n:Nat) (l:HpQ) (met:List Int) (x:Int×ByteArray×HpQ),x∈wkL Ls Hs As Bs n l met []→x∈wkL Ls Hs As Cs n l met []:=by
 intro n
 induction n with
 | zero=>intro l met x h;rw[wkL] at h ⊢;exact h
 | succ n ih =>
   intro l met x h;have on:∀(met2:List Int) (g:(Int×ByteArray) ⊕ ((Int×Int)×Int)),x∈onL (fun l' a'=>wkL Ls Hs As Bs n l' met2 a') l [] g→x∈onL (fun l' a'=>wkL Ls Hs As Cs n l' met2 a') l [] g:=by
    intro met2 g hx;cases g with
    | inl e=>exact (pu_mem lo_fate _).2 ((pu_mem lo_fate _).1 hx)
    | inr p=>exact ih _ _ _ hx
   rw[wkL] at h ⊢;by_cases hc:chB As Bs (laH l).1.1=true
   ·have hb:taT Bs (laH l).1.1=taT Cs (laH l).1.1:=by
     rcases hC (laH l).1.1 with e | e
     ·exact e
     rw[ch_self e] at hc;cases hc
    have hc2:chB As Cs (laH l).1.1=true:=by
     have e:chB As Cs (laH l).1.1=chB As Bs (laH l).1.1:=by simp only[chB,hb]
     exact e.trans hc
    rw[if_pos hc] at h;rw[if_pos hc2]
    rcases (on_mem (fun l' a x=>wk_mem n l' _ a x) l _ _ _).1 h with h | h
    ·refine (on_mem (fun l' a x=>wk_mem n l' _ a x) l _ _ _).2 (.inl ?_);by_cases hm:(laH l).1.1∈met
     ·rw[if_pos hm] at h;simp at h
     rw[if_neg hm] at h ⊢;exact on _ _ h
    refine (on_mem (fun l' a x=>wk_mem n l' _ a x) l _ _ _).2 (.inr ?_);rw[←hb];exact on _ _ h
   rw[if_neg hc] at h;by_cases hm:(laH l).1.1∈met
   ·rw[if_pos hm] at h;simp at h
   rw[if_neg hm] at h;by_cases hc2:chB As Cs (laH l).1.1=true
   ·rw[if_pos hc2];refine (on_mem (fun l' a x=>wk_mem n l' _ a x) l _ _ _).2 (.inl ?_);rw[if_neg hm];exact on _ _ h
   rw[if_neg hc2,if_neg hm];exact on _ _ h
theorem bsw_sub (hC:∀s,taT Bs s=taT Cs s∨taT Bs s=taT As s){ws:List Wi}(h:bsW Ls Hs As Cs ws Hs ws.length=none):bsW Ls Hs As Bs ws Hs ws.length=none:=by
 refine bsW_neg fun i hi j hj k hk=>?_
 have:=bsW_none h i hi j hj k hk;unfold bsB at this ⊢;rw[List.any_eq_false] at this ⊢;exact fun x hx=>this x (wk_sub hC _ _ _ _ hx)
end
def MoOK (sf:Nat→Nat→Bool)(all:Nat):Prop:=∀done s t,s<64→t<64→(∀a,1≤a→a≤6→inS s a=true→inS t a=true)→sf done t=true→sf done s=true
theorem sf_mono {S:Int}{Ls:List LkT}{Hs:List HoT}{As Bs:List (List Ru)}{ws:List Wi}{D:List Op8}(hP:PlOK S Ls Hs As Bs ws D)(all:Nat):MoOK (sfB Ls Hs As Bs ws) all:=by
 intro done s t hs ht hst h;unfold sfB at h ⊢;rw[Option.isNone_iff_eq_none] at h ⊢;refine bsw_sub (fun i=>?_) h;unfold taT;obtain⟨k,hk⟩:∃k,k=(i-1).toNat:=⟨_,rfl⟩;rw[←hk];by_cases hl:k<As.length
 ·have h6:=hP.len.2;rw[nw_get hl,nw_get hl,nw_get hl,in_or,in_or];cases e1:inS s (k+1)
  ·right;cases inS done (k+1) <;> rfl
  left;rw[hst (k+1) (by omega) (by omega) e1]
 left;simp[List.getD,nw_len,show ¬k<As.length from hl]
def setE:Enc (Int) where
 c:=fun x=>[.int .i64 x]
 n:=1
 len:=fun _=>rfl
 pos:=by decide
 one:=by
  intro x u hu;simp at hu;subst hu;rfl
theorem set_at {w:World}{g o:Nat}{L:List (Int)}(h:GAt setE w g o L){n k:Nat}(hn:L.length=n)(hk:k<n):∃(x:Int) (hl:k<L.length),L[k]=x∧w.cell? ⟨g,o+k,none⟩=some (.int .i64 x):=by
 have hl:k<L.length:=by omega
 have:=h k hl 0 _ rfl;refine⟨_,hl,rfl,?_⟩;have e:o+k*setE.n+0=o+k:=by show o+k*1+0=o+k;omega
 rw[e] at this;exact this
def setAsks (w:World)(f:FuncId)(c:Value)(P:Int→Bool):Prop:=
 ∀(x:Int) (W:World),Below w.heap.size w W→Calls Tryz.prog f #[.int .i64 x,c] W fun e w'=>e=.returned (.bool (P x))∧Below W.heap.size W w'
theorem setAsks.later {w w':World}{f:FuncId}{c:Value}{P:Int→Bool}(h:setAsks w f c P)(hb:Below w.heap.size w w'):setAsks w' f c P:=
 fun x W hW=>h x W (hb.trans (hW.mono hb.size))
theorem set_idxF (ao:Option Addr)(n cap:Nat)(f:FuncId)(c:Value)(P:Int→Bool)(L:List (Int))(w:World)(hn:L.length=n)(hn2:n≤maxLen)(ha:0<n→∃g o,ao=some ⟨g,o,none⟩∧GAt setE w g o L∧cap≤maxLen)(he:∀args w,(callFunc f args).run Tryz.prog w=.ok (.enter f args) w)(hf:setAsks w f c P):
 Calls Tryz.prog 97 #[.slice ao n cap,.func (Fn.func f) #[] #[c]] w fun e w'=>e=.returned (.int .i64 (ixG P L))∧Below w.heap.size w w':=by
 have HN:Hid (L.length=n):=hn;have HF:Hid (setAsks w f c P):=hf;have HA:Hid (0<n→∃g o,ao=some ⟨g,o,none⟩∧GAt setE w g o L∧cap≤maxLen):=ha;unfold maxLen at hn2;clear hn hf ha;go_enter Tryz.func97,Tryz.ntmps97;go_wp2
 go_loopw [8] (fun i wr=>∃k:Nat,k≤n∧i=.int .i64 k∧(L.take k).any P=false∧Below w.heap.size w wr)
  (fun i _=>n-(intOf i).toNat)
 case atStart=>exact⟨0,by omega,rfl,by simp,Below.refl _ _⟩
 case round =>
  obtain⟨k,hk,rfl,hno,hB⟩:=hrel;have HB:Hid (Below w.heap.size w wr):=hB;have HNO:Hid ((L.take k).any P=false):=hno;clear hno;by_cases hlt:k<n
  ·obtain⟨g,o,hao,hc,_⟩:=HA.out (by omega);subst hao;obtain⟨x,hkl,hL,q0⟩:=set_at (hc.later hB) HN.out hlt;have HL:Hid (L[k]=x):=hL;clear hL hB;cases ho:P x
   ·go_wp2_with fail
    refine (HF.out x _ HB.out).mono ?_;rintro e w1 ⟨rfl,hb1⟩;rw[ho];have HB1:=HB.out.trans (hb1.mono HB.out.size);clear hb1;go_wp2;go_roundw
    case rel=>exact⟨k+1,by omega,by go_num,any_nextG hkl HNO.out (by rw[HL.out];exact ho),HB1⟩
    case measure=>simp[intOf];omega
   go_wp2_with fail
   refine (HF.out x _ HB.out).mono ?_;rintro e w1 ⟨rfl,hb1⟩;rw[ho];go_wp2;go_ret;exact⟨by rw[ixG_hit hkl HNO.out (by rw[HL.out];exact ho)];rfl,HB.out.trans (hb1.mono HB.out.size)⟩
  obtain rfl:k=n:=by omega
  go_wp2;go_ret;exact⟨by have:=HNO.out;rw[←HN.out,List.take_length] at this;rw[ixG_no this];rfl,HB.out⟩
theorem set_hasF (ao:Option Addr)(n cap:Nat)(f:FuncId)(c:Value)(P:Int→Bool)(L:List (Int))(w:World)(hn:L.length=n)(hn2:n≤maxLen)(ha:0<n→∃g o,ao=some ⟨g,o,none⟩∧GAt setE w g o L∧cap≤maxLen)(he:∀args w,(callFunc f args).run Tryz.prog w=.ok (.enter f args) w)(hf:setAsks w f c P):
 Calls Tryz.prog 68 #[.slice ao n cap,.func (Fn.func f) #[] #[c]] w fun e w'=>e=.returned (.bool (L.any P))∧Below w.heap.size w w':=by
 rw[←ixG_any];obtain⟨x,hx⟩:∃x,x=ixG P L:=⟨_,rfl⟩;have HX:Hid (x=ixG P L):=hx;rw[←hx];clear hx;go_enter Tryz.func68,Tryz.ntmps68
 go_wp2_with fail
 refine (set_idxF ao n cap f c P L _ hn hn2 ha he hf).mono ?_;rintro e w1 ⟨rfl,hb1⟩;rw[←HX.out];go_wp2;go_ret;exact⟨rfl,hb1⟩
end
section
open Go.RowKit Go.Shelf
def ItQ {α:Type}(P:Program)(g:Nat)(lb:Array Value)(Vl:World→Array Value→α→Prop)(st:World→Prop)(p:Nat→Prop)(L:List α):Prop:=
 ∀ (l:Nat) (J:Nat→(Nat→Prop)→World→Prop) (Jx:World→Prop) (W:World),st W →
   J 0 (fun _=>False) W →
   (∀k X A,J k X A→∀b,X b→b<A.heap.size) →
   (∀k X A A',J k X A→Kb (fun b=>b<W.heap.size∨X b) A A'→J k X A') →
   (∀A A',Jx A→Kb (fun _=>True) A A'→Jx A') →
   (∀k X A args x (Y:Nat→Prop),J k X A→L[k]?=some x→Vl A args x→W.heap.size≤A.heap.size→(∀b,Y b→W.heap.size≤b∧¬X b)→YieldAt Fence.wide 0 P l args A fun e A' =>
    (e=.returned (.bool true)∧(∃X',J (k+1) X' A'∧∀b,X' b→X b∨A.heap.size≤b)∧Kb (fun b=>p b∨Y b) A A')∨(e=.returned (.bool false)∧Jx A'∧Kb (fun b=>p b∨Y b) A A')) →
   Calls P g (#[.func (.yield l) #[] #[]]++lb) W fun e W'=>(∃v,e=.returned v)∧((∃X,J L.length X W')∨Jx W')
theorem wpIn_rangeFunc_itQ {P:Program}{n:Nat}{α:Type}{g:Operand}{ps:Array Tmp}{assign body:Code}{Q:Exit→Act→World→Prop}{a:Act}{w:World}
 (h1:1≤n) {gf:Nat} {lb:Array Value} (hg:a.eval g=.func (.func gf) #[] lb) (eg:∀args w,(callFunc gf args).run P w=.ok (.enter gf args) w)
 {Vl:World→Array Value→α→Prop} {st:World→Prop} {p:Nat→Prop} {L:List α} (hseq:ItQ P gf lb Vl st p L) (hst:∀W,Below w.heap.size w W→st W) (hpw:∀b,p b→b<w.heap.size) (hps:∀A args x,Vl A args x→args.size=ps.size)
 (I:Nat→(Nat→Prop)→World→Prop) (Ix:Code→World→Prop)
 (hlt:∀k X A,I k X A→∀b,X b→w.heap.size+2≤b∧b<A.heap.size)
 (hI:∀k X A A',I k X A→Kb (fun b=>b<w.heap.size∨X b) A A'→I k X A')
 (hIx:∀c A A',Ix c A→Kb (fun b=>b<w.heap.size∨w.heap.size+2≤b) A A'→Ix c A')
 (h0:I 0 (fun _=>False) w)
 (hround:∀(l k:Nat) (X Y:Nat→Prop) (x:α) (args:Array Value) (W:World),l=w.heap.size+1→w.heap.size+2≤W.heap.size→I k X W→L[k]?=some x→Vl W args x→(∀b,Y b→w.heap.size+2≤b∧¬X b)→(∀q:Addr,q.block=l→W.cell? q=none) →
  assign.wpIn (Fence.wide.inRound l) (n-1-1) P (Exit.then (fun a' Wa=>Kb (fun b=>p b∨b=w.heap.size∨b=l∨Y b) W Wa∧∀W2,Kb (fun b=>b≠l) Wa W2→body.wpIn (Fence.wide.inRound l) (n-1-1) P (itPost (fun b=>p b∨b=w.heap.size∨b=l∨Y b) (fun W'=>∃X',I (k+1) X' W'∧∀b,X' b→X b∨W.heap.size≤b) Ix W2) a' W2) (fun _ _ _=>False)) { tmps:=(ps.zip args).foldl (fun t (p,v)=>t.setIfInBounds p v) a.tmps,defers:=[] } W)
 (hdone:∀(X:Nat→Prop) (W:World),I L.length X W→W.heap[w.heap.size]?=some (.deferred (some []))→Q .normal { a with defers:={ target:=.collected w.heap.size,args:=#[] } :: a.defers } W)
 (hstop:∀(c:Code) (W:World),Ix c W→W.heap[w.heap.size]?=some (.deferred (some []))→c.wpIn Fence.wide n P Q { a with defers:={ target:=.collected w.heap.size,args:=#[] } :: a.defers } W):
 (Code.rangeFunc g ps assign body).wpIn Fence.wide n P Q a w:=by
 refine wpIn_rangeFunc ?_;intro fn hfn;rw[show Fence.wide.round=none from rfl];obtain⟨rec,hrec⟩:∃rec:LoopState→Option Code→Loop,rec=fun st pe=>{ state:=st,pending:=pe,fn,tmps:=a.tmps,params:=ps,assign,body,defers:=w.heap.size }:=⟨_,rfl⟩
 obtain⟨W1,hW1⟩:∃W1,(w.alloc (.deferred (some []))).alloc (.loop (rec .ready none))=W1:=⟨_,rfl⟩;have hL1:W1.heap[w.heap.size+1]?=some (.loop (rec .ready none)):=by
  rw[←hW1];have:=World.alloc_heap_new (w.alloc (.deferred (some []))) (.loop (rec .ready none));rwa [World.size_alloc] at this
 have hK1:W1.heap[w.heap.size]?=some (.deferred (some [])):=by
  rw[←hW1];exact (Below.heap_alloc _ _ _ (by simp)).trans (World.alloc_heap_new w _)
 have hS1:W1.heap.size=w.heap.size+2:=by rw[←hW1];simp
 have hB1:Below w.heap.size w W1:=by
  rw[←hW1];exact ((Below.refl _ w).alloc (Nat.le_refl _) _).alloc (by simp) _
 have hb1:st W1:=hst W1 hB1;refine⟨w.heap.size+1,[{ target:=.collected w.heap.size,args:=#[] }],W1,{ target:=.fn (.func gf) lb,args:=#[.func (.yield (w.heap.size+1)) #[] #[]] },W1,gf,
  #[.func (.yield (w.heap.size+1)) #[] #[]]++lb,W1,?_,?_,?_,?_,fun _=>h1,?_⟩
 ·rw[←hW1,hrec];exact run_enterLoop_outer _ _ _ _ _
 ·simp only[resolve,hg];simp[go_sem]
 ·intro f' hf';trivial
 ·simp[invoke,go_sem,eg]
 have hI1:∀{k:Nat} {X:Nat→Prop} {A:World} (o:Obj),I k X A→I k X (A.putObj (w.heap.size+1) o):=fun o h=>hI _ _ _ _ h ((Kb.refl _ _).putObj (fun _ hp=>hp.elim (fun h=>by omega) (fun hx=>by have:=(hlt _ _ _ h _ hx).1;omega)) o)
 refine (callsIn_wide.2 (hseq (w.heap.size+1)
  (fun k X W=>I k X W∧W.heap[w.heap.size+1]?=some (.loop (rec .ready none))∧W.heap[w.heap.size]?=some (.deferred (some [])))
  (fun W=>∃c,Ix c W∧W.heap[w.heap.size+1]?=some (.loop (rec .done (some c)))∧W.heap[w.heap.size]?=some (.deferred (some [])))
  W1 hb1 ?_ ?_ ?_ ?_ ?_)).mono ?_
 ·exact⟨hI _ _ _ _ h0 (Kb.of_below hB1 (fun b _ h=>h.elim id False.elim)),hL1,hK1⟩
 ·exact fun k X A h b hx=>(hlt _ _ _ h.1 b hx).2
 ·rintro k X A A' ⟨hi,hl,hd⟩ hk;rw[hS1] at hk;have hlt':w.heap.size+1<A.heap.size:=(Array.getElem?_eq_some_iff.1 hl).1;exact⟨hI k X A A' hi (hk.mono (fun b _ h=>h.imp (fun h=>by omega) id)),(hk.block _ hlt' (.inl (by omega))).trans hl,(hk.block _ (by omega) (.inl (by omega))).trans hd⟩
 ·rintro A A' ⟨c,hi,hl,hd⟩ hk;have hlt':w.heap.size+1<A.heap.size:=(Array.getElem?_eq_some_iff.1 hl).1;exact⟨c,hIx c A A' hi (hk.mono (fun _ _ _=>trivial)),(hk.block _ hlt' trivial).trans hl,(hk.block _ (by omega) trivial).trans hd⟩
 ·rintro k X W args x Y ⟨hi,hl,hd⟩ hx hv hWW hY;rw[hS1] at hY hWW;have hlt':w.heap.size+1<W.heap.size:=(Array.getElem?_eq_some_iff.1 hl).1;have hy:=run_yield (P:=P) (args:=args) hl (by rw[hrec];exact hps _ _ _ hv);rw[hrec] at hy;refine yield_any (m:=n-1-1) ⟨fn,_,assign,body,hy,roundIn_of_wpIn hfn (wpIn_mono (hround _ k X Y x args W rfl hWW hi hx hv hY (fun q hq=>by simp[World.cell?,hq,hl])) ?_)⟩;clear hy;intro e1 a' Wa hp;cases e1 with
  | normal =>
    obtain⟨hka,hbody⟩:=hp;have hl2:=(hka.block _ hlt' (.inr (.inr (.inl rfl)))).trans hl;have hd2:=(hka.block w.heap.size (by omega) (.inr (.inl rfl))).trans hd;have hlta:w.heap.size+1<Wa.heap.size:=(Array.getElem?_eq_some_iff.1 hl2).1;refine⟨_,run_beginRound hl2 (by rw[hrec]),?_⟩;have hkb:Kb (fun b=>b≠w.heap.size+1) Wa (Wa.putObj (w.heap.size+1) (.loop { rec .ready none with state:=.busy })):=(Kb.refl _ _).putObj (fun _ h=>h rfl) _;have hl3:(Wa.putObj (w.heap.size+1) (.loop { rec .ready none with state:=.busy })).heap[w.heap.size+1]?=some (.loop { rec .ready none with state:=.busy }):=World.putObj_heap_same hlta;have hd3:=(hkb.block w.heap.size (by omega) (by omega)).trans hd2;refine wpIn_mono (hbody _ hkb) ?_
    generalize Wa.putObj (w.heap.size+1) (.loop { rec .ready none with state:=.busy })=W2 at hkb hl3 hd3
    have hlt2:w.heap.size+1<W2.heap.size:=(Array.getElem?_eq_some_iff.1 hl3).1;have fin:∀(jump:Option Code) (W3:World),Kb (fun b=>p b∨b=w.heap.size∨b=w.heap.size+1∨Y b) W2 W3 →
     (Instr.endRound (w.heap.size+1) jump).run P W3=.ok (.bool jump.isNone) (W3.putObj (w.heap.size+1) (.loop (rec (if jump.isNone then .ready else .done) jump))) ∧
     W3.heap[w.heap.size+1]?=some (.loop { rec .ready none with state:=.busy }) ∧
     (W3.putObj (w.heap.size+1) (.loop (rec (if jump.isNone then .ready else .done) jump))).heap[w.heap.size+1]?=some (.loop (rec (if jump.isNone then .ready else .done) jump)) ∧
     (W3.putObj (w.heap.size+1) (.loop (rec (if jump.isNone then .ready else .done) jump))).heap[w.heap.size]?=some (.deferred (some [])):=fun jump W3 hk3=>by
     have hl4:=(hk3.block _ hlt2 (.inr (.inr (.inl rfl)))).trans hl3;have hd4:=(hk3.block w.heap.size (by omega) (.inr (.inl rfl))).trans hd3;have:=run_endRound (P:=P) jump hl4;rw[hrec] at this ⊢;exact⟨this,by rw[hrec] at hl4;exact hl4,World.putObj_heap_same (Array.getElem?_eq_some_iff.1 hl4).1,(World.putObj_heap_other (by omega)).trans hd4⟩
    rintro e a3 W3 hp;have hny:∀b,p b∨Y b→b≠w.heap.size+1:=fun b h e=>h.elim (fun h=>by have:=hpw b h;omega) (fun h=>by have:=(hY b h).1;omega)
    have hall:∀(W3:World) (o:Obj),Kb (fun b=>p b∨b=w.heap.size∨b=w.heap.size+1∨Y b) W2 W3→Kb (fun b=>p b∨Y b) W (W3.putObj (w.heap.size+1) o):=fun W3 o hk3=>(((hka.mono (fun b _ h=>h.imp id (fun h=>.inr (.inr h)))).trans ((hkb.mono (fun b _ h=>hny b h)).trans (hk3.mono (fun b _ h=>h.imp id (fun h=>.inr (.inr h)))))).trans ((Kb.refl _ _).putObj (fun _ h=>hny _ h rfl) _))
    cases e with
    | normal =>
      obtain⟨hk3,X',hi3,hX'⟩:=hp;obtain⟨hr,hl4,hl5,hd5⟩:=fin none W3 hk3;exact⟨_,_,hr,.inl ⟨rfl,⟨X',⟨hI1 _ hi3,hl5,hd5⟩,hX'⟩,hall _ _ hk3⟩⟩
    | ret =>
      obtain⟨hk3,hi3⟩:=hp;obtain⟨hr,hl4,hl5,hd5⟩:=fin (some .ret) W3 hk3;exact⟨_,_,hr,.inr ⟨rfl,⟨.ret,hIx _ W3 _ hi3 ((Kb.refl _ _).putObj (fun _ h=>by omega) _),hl5,hd5⟩,hall _ _ hk3⟩⟩
    | exit id =>
      obtain⟨hk3,hi3⟩:=hp;obtain⟨hr,hl4,hl5,hd5⟩:=fin (some (.exit id)) W3 hk3;exact⟨_,_,hr,.inr ⟨rfl,⟨.exit id,hIx _ W3 _ hi3 ((Kb.refl _ _).putObj (fun _ h=>by omega) _),hl5,hd5⟩,hall _ _ hk3⟩⟩
    | goto t =>
      obtain⟨hk3,hi3⟩:=hp;obtain⟨hr,hl4,hl5,hd5⟩:=fin (some (.goto t)) W3 hk3;exact⟨_,_,hr,.inr ⟨rfl,⟨.goto t,hIx _ W3 _ hi3 ((Kb.refl _ _).putObj (fun _ h=>by omega) _),hl5,hd5⟩,hall _ _ hk3⟩⟩
    | panic ch=>exact hp.elim
    | outgrown=>exact hp.elim
  | ret=>exact hp.elim
  | exit id=>exact hp.elim
  | goto t=>exact hp.elim
  | panic ch=>exact hp.elim
  | outgrown=>exact hp.elim
 rintro e W2 ⟨⟨v,rfl⟩,(⟨X,hi,hl,hd⟩ | ⟨c,hi,hl,hd⟩)⟩
 ·refine⟨none,_,by have:=run_endLoop (P:=P) hl (by rw[hrec];simp);rw[hrec] at this;exact this,?_⟩;exact hdone X _ (hI1 _ hi) ((World.putObj_heap_other (by omega)).trans hd)
 refine⟨some c,_,by have:=run_endLoop (P:=P) hl (by rw[hrec];simp);rw[hrec] at this;exact this,?_⟩;exact hstop c _ (hIx c W2 _ hi ((Kb.refl _ _).putObj (fun _ h=>by omega) _)) ((World.putObj_heap_other (by omega)).trans hd)
attribute [local go_sem] Oper.semAt_some
theorem setStop {p:Prop}(h:Hid p):p:=h
theorem setGo {p:Prop}(h:p):Hid p:=h
theorem setHas_gen (s x:Int)(w:World):
 Calls Tryz.prog 25 #[.int .i64 x,.int .i64 s] w fun e w'=>e=.returned (.bool (decide (bits .andNot .i64 s x=0)))∧w'=w:=by
 obtain⟨B,hB⟩:∃B,B=bits .andNot .i64 s x:=⟨_,rfl⟩;have HE:Hid (bits .andNot .i64 s x=B):=hB.symm;rw[←hB];clear hB;go_enter Tryz.func25,Tryz.ntmps25;go_wp2;go_ret;refine⟨?_,rfl⟩;rw[HE.out];by_cases h:B=0
 ·simp[h]
 simp[h]
theorem part_asks (gs:Nat)(s:Int)(w:World)(hc:w.cell? ⟨gs,0,none⟩=some (.int .i64 s)):setAsks w 69 (.pointer (some ⟨gs,0,none⟩)) (fun x=>decide (bits .andNot .i64 s x=0)):=by
 intro x W hb;have hc1:=cell_later hb hc;have HB:Hid (Below W.heap.size W W):=Below.refl _ _;clear hc;go_enter Tryz.func69,Tryz.ntmps69
 go_wp2_with fail
 refine (setHas_gen s x _).mono ?_;rintro e w' ⟨rfl,rfl⟩;go_wp2;go_ret;exact⟨rfl,HB.out⟩
def bxN (w:World)(q:Value):Nat:=match q with
 | .pointer (some a)=>(match w.cell? a with | some (.int _ i)=>i.toNat | _=>0)
 | _=>0
theorem bxN_of {w:World}{g s:Nat}(h:w.cell? ⟨g,0,none⟩=some (.int .i64 (s:Int))):bxN w (.pointer (some ⟨g,0,none⟩))=s:=by
 unfold bxN;simp only[h];omega
structure SS (w0:World)(gt gd:Nat)(S:Int)(v1 v2 v3 v4 v5:Value)(all done:Nat)(A:World):Prop where
 below:Below w0.heap.size w0 A
 tk:TkB A gt S v1 v2 v3 v4 v5 (all:Int)
 dn:A.cell? ⟨gd,0,none⟩=some (.int .i64 (done:Int))
def ssP (w0:World)(gt gd b:Nat):Prop:=b<w0.heap.size∨b=gt∨b=gd
section
variable {w0:World}{gt gd:Nat}{S:Int}{v1 v2 v3 v4 v5:Value}{all done:Nat}{A A':World}
theorem TkB.kb {p:Nat→Prop}(h:TkB A gt S v1 v2 v3 v4 v5 (all:Int))(hk:Kb p A A')(hp:p gt):TkB A' gt S v1 v2 v3 v4 v5 (all:Int):=
 ⟨hk.at h.c0 hp,hk.at h.c1 hp,hk.at h.c2 hp,hk.at h.c3 hp,hk.at h.c4 hp,hk.at h.c5 hp,hk.at h.c6 hp,fun i=>by rw[hk.frozen (q:=⟨gt,i,none⟩) h.lt hp];exact h.f i⟩
theorem SS.kb {p:Nat→Prop}(h:SS w0 gt gd S v1 v2 v3 v4 v5 all done A)(hk:Kb p A A')(hp:∀b,ssP w0 gt gd b→p b):SS w0 gt gd S v1 v2 v3 v4 v5 all done A':=
 ⟨h.below.trans (hk.below h.below.size fun b hb=>hp b (.inl hb)),h.tk.kb hk (hp _ (.inr (.inl rfl))),hk.at h.dn (hp _ (.inr (.inr rfl)))⟩
theorem SS.later (h:SS w0 gt gd S v1 v2 v3 v4 v5 all done A)(hb:Below A.heap.size A A'):SS w0 gt gd S v1 v2 v3 v4 v5 all done A':=
 h.kb (p:=fun _=>True) (Kb.of_below hb fun _ h _=>h) fun _ _=>trivial
theorem SS.lt (h:SS w0 gt gd S v1 v2 v3 v4 v5 all done A){b:Nat}(hb:ssP w0 gt gd b):b<A.heap.size:=by
 rcases hb with hb | hb | hb
 ·exact Nat.lt_of_lt_of_le hb h.below.size
 ·rw[hb];exact h.tk.lt
 rw[hb];exact bLQ A ⟨gd,0,none⟩ h.dn
end
def prI (l:List Nat):List Int:=l.map fun s:Nat=>(s:Int)
theorem pr_len (l:List Nat):(prI l).length=l.length:=List.length_map ..
theorem pr_app (l:List Nat)(s:Nat):prI (l++[s])=prI l++[(s:Int)]:=by simp[prI]
theorem set_info:(Tryz.prog.info? 55).map (fun i=>(i.zero,i.size,i.bytes))=some (some (.int .i64 0),1,8):=by kernel_rfl
theorem seq_len (p:Nat→Bool):∀n,(seqL p n).length≤n
 | 0=>Nat.le_refl _
 | n+1=>by
   have:=seq_len p n;rw[seqL];by_cases h:p n=true
   ·rw[if_pos h,List.length_cons];omega
   rw[if_neg h];omega
theorem ys_next {sf:Nat→Nat→Bool}{all done s:Nat}(ha:all<64)(h0:0<s)(hs:s &&& mnS all done=s):seqL (ysB sf all done) s=seqL (ysB sf all done) (((s-1) &&& mnS all done)+1):=by
 have hl:=mn_lt (t:=done) ha;have h64:s<64:=by rw[←hs];exact Nat.lt_of_le_of_lt Nat.and_le_right hl
 refine seq_skip (by have:(s-1) &&& mnS all done≤s-1:=Nat.and_le_left;omega) fun k h1 h2=>?_
 cases e:ysB sf all done k
 ·rfl
 unfold ysB at e;simp only[Bool.and_eq_true,decide_eq_true_eq] at e;have:=down_le hl (by omega) h64 e.1.2 hs (by omega);omega
theorem part_any {s:Nat}(hs:s<64):∀{l:List Nat},(∀x∈l,x<64)→(prI l).any (fun x=>decide (bits .andNot .i64 (s:Int) x=0))=l.any (fun x=>decide (mnS s x=0))
 | [],_=>rfl
 | x :: l,h=>by
   have ih:=part_any hs (l:=l) fun y hy=>h y (List.mem_cons_of_mem _ hy)
   have e:bits .andNot .i64 (s:Int) (x:Int)=((mnS s x:Nat):Int):=bits_mn hs (h x (List.mem_cons_self ..));rw[prI,List.map_cons,List.any_cons,List.any_cons,e,←prI,ih]
   congr 1
   by_cases c:mnS s x=0
   ·simp[c]
   simp[c]
theorem part_safe {sf:Nat→Nat→Bool}{all done s:Nat}(hM:MoOK sf all){pre rest:List Nat}(hy:ysL sf all done=pre++rest)(hs:s<64)(h:pre.any (fun x=>decide (mnS s x=0))=true):sf done s=true:=by
 obtain⟨x,hx,h0⟩:=List.any_eq_true.1 h;have hm:x∈ysL sf all done:=by rw[hy];exact List.mem_append.2 (.inl hx)
 obtain⟨h1,_,_,h4⟩:=ys_mem.1 hm;refine hM done s x hs h1 (fun a k1 k2 k=>?_) h4;have e:=in_mn (s:=s) (t:=x) k1 k2;rw[of_decide_eq_true h0,in_0,k] at e;simpa using e.symm
def seV1 (_:World)(args:Array Value)(x:Nat):Prop:=args=#[.int .i64 (x:Int)]
structure SI (w0:World)(gt gd:Nat)(S:Int)(v1 v2 v3 v4 v5:Value)(all done:Nat)(sf:Nat→Nat→Bool)(J:Nat→(Nat→Prop)→World→Prop)(lo:Nat)(v:Value)(s gs:Nat)(pre:List Nat)(X:Nat→Prop)(A:World):Prop where
 ss:SS w0 gt gd S v1 v2 v3 v4 v5 all done A
 bx:Boxed A gs 55 (.int .i64 (s:Int))
 sub:s &&& mnS all done=s
 ys:ysL sf all done=pre++seqL (ysB sf all done) (s+1)
 ow:A.ownsRow lo 55 setE.n v (prI pre).length (cellsG setE (prI pre))
 j:J pre.length X A
 l1:lo≤gs
 l2:lo≤A.heap.size
 xs:¬X gs
 xo:∀b,v.ownBlock=some b→¬X b∧b≠gs
section
variable {w0:World}{gt gd:Nat}{S:Int}{v1 v2 v3 v4 v5:Value}{all done:Nat}{sf:Nat→Nat→Bool}{J:Nat→(Nat→Prop)→World→Prop}{lo:Nat}{v:Value}{s gs:Nat}{pre:List Nat}{X:Nat→Prop}{A A':World}
theorem SI.later (hJ:∀k X A A',J k X A→Kb (fun b=>b<lo∨X b) A A'→J k X A')(h:SI w0 gt gd S v1 v2 v3 v4 v5 all done sf J lo v s gs pre X A)(hb:Below A.heap.size A A'):SI w0 gt gd S v1 v2 v3 v4 v5 all done sf J lo v s gs pre X A':=
 ⟨h.ss.later hb,h.bx.kept (grown_below hb) (by simp),h.sub,h.ys,h.ow.kept (grown_below hb) (none_or _),hJ _ _ _ _ h.j (Kb.of_below hb fun b h _=>h),h.l1,Nat.le_trans h.l2 hb.size,h.xs,h.xo⟩
theorem SI.next (hJ:∀k X A A',J k X A→Kb (fun b=>b<lo∨X b) A A'→J k X A')(hX:∀k X A,J k X A→∀b,X b→b<A.heap.size)(ha:all<64)(h0:0<s)
 (ss:SS w0 gt gd S v1 v2 v3 v4 v5 all done A) (sub:s &&& mnS all done=s) (ys:ysL sf all done=pre++seqL (ysB sf all done) s) (ow:A.ownsRow lo 55 setE.n v (prI pre).length (cellsG setE (prI pre))) (j:J pre.length X A) (lo2:lo≤A.heap.size) (xo:∀b,v.ownBlock=some b→¬X b) {N:Nat} (hN:N=(s-1) &&& mnS all done):
 SI w0 gt gd S v1 v2 v3 v4 v5 all done sf J lo v N A.heap.size pre X (A.alloc (.cells #[.int .i64 (N:Int)] 55)):=by
 have hxn:¬X A.heap.size:=fun e=>by have:=hX _ _ _ j _ e;omega
 have hb:Below A.heap.size A (A.alloc (.cells #[.int .i64 (N:Int)] 55)):=(Below.refl _ A).alloc (Nat.le_refl _) _;refine⟨ss.later hb,Boxed.new A 55 (.int .i64 (N:Int)),by rw[hN,Nat.and_assoc,Nat.and_self],by rw[ys,ys_next ha h0 sub,hN],ow.kept (grown_below hb) (none_or _),hJ _ _ _ _ j (Kb.of_below hb fun b h _=>h),lo2,Nat.le_trans lo2 hb.size,hxn,fun b e=>⟨xo b e,fun e2=>?_⟩⟩;have:=(ow.lt b e).2;omega
structure SP (w0:World)(gt gd:Nat)(S:Int)(v1 v2 v3 v4 v5:Value)(all done:Nat)(sf:Nat→Nat→Bool)(J:Nat→(Nat→Prop)→World→Prop)(lo:Nat)(v:Value)(s gs:Nat)(pre:List Nat)(X:Nat→Prop)(A:World):Prop where
 ss:SS w0 gt gd S v1 v2 v3 v4 v5 all done A
 bx:Boxed A gs 55 (.int .i64 (s:Int))
 sub:s &&& mnS all done=s
 ys:ysL sf all done=(pre++[s])++seqL (ysB sf all done) s
 ow:A.ownsRow lo 55 setE.n v (prI (pre++[s])).length (cellsG setE (prI (pre++[s])))
 j:J pre.length X A
 l1:lo≤gs
 l2:lo≤A.heap.size
 xs:¬X gs
 xo:∀b,v.ownBlock=some b→¬X b∧b≠gs∧lo≤b
theorem SI.push (hJ:∀k X A A',J k X A→Kb (fun b=>b<lo∨X b) A A'→J k X A')(hX:∀k X A,J k X A→∀b,X b→b<A.heap.size)(hp:∀b,ssP w0 gt gd b→b<lo)(h0:0<s)(hsf:sf done s=true)
 (h:SI w0 gt gd S v1 v2 v3 v4 v5 all done sf J lo v s gs pre X A) (o:Obj) {v':Value} {n:Nat} (hn:(prI pre).length=n) (hown:A'.ownsRow lo 55 setE.n v' (n+1) (cellsG setE (prI pre)++[.int .i64 (s:Int)])) (hg:(A.alloc o).grownBy A' v.ownBlock) (hat:v'.ownBlock=v.ownBlock∨v'.ownBlock=some (A.heap.size+1)):
 SP w0 gt gd S v1 v2 v3 v4 v5 all done sf J lo v' s gs pre X A':=by
 have hrow:∀b,v.ownBlock=some b→lo≤b∧b<A.heap.size:=fun b e=>h.ow.lt b e
 have hk:Kb (fun b=>b<lo∨X b∨b=gs) A A':=((Kb.refl _ A).alloc o).grown hg fun b e _ hx=>by
  rcases hx with hx | hx | hx
  ·have:=(hrow b e).1;omega
  ·exact (h.xo b e).1 hx
  exact (h.xo b e).2 hx
 refine⟨h.ss.kb hk fun b hb=>.inl (hp b hb),hk.boxed h.bx (.inr (.inr rfl)),h.sub,?_,?_,hJ _ _ _ _ h.j (hk.mono fun b _ hb=>hb.imp id .inl),h.l1,Nat.le_trans h.l2 hk.size,h.xs,fun b e=>?_⟩
 ·rw[h.ys,seqL,if_pos (by unfold ysB;rw[hsf,decide_eq_true h.sub,decide_eq_true (show s≠0 by omega)];rfl),List.append_assoc];rfl
 ·rw[pr_app,List.length_append,cellsG_app,cellsG_one,hn];exact hown
 rcases hat with hat | hat
 ·rw[hat] at e;exact⟨(h.xo b e).1,(h.xo b e).2,(hrow b e).1⟩
 rw[hat] at e;cases e;have hgs:=h.bx.lt;have:=h.l2;exact⟨fun hx=>by have:=hX _ _ _ h.j _ hx;omega,by omega,by omega⟩
end
section
variable {w0:World}{gt gd:Nat}{S:Int}{v1 v2 v3 v4:Value}{bm all done:Nat}{Ls:List LkT}{Hs:List HoT}{As Bs:List (List Ru)}{ws:List Wi}{D:List Op8}
theorem sets_in (nn:Nat)(hnn:1≤nn)(hT:TskOK w0 v1 v2 v3 v4 bm Ls Hs As ws D)(hP:PlOK S Ls Hs As Bs ws D)(ha:all<64)(hd:done<64)(l:Nat)(J:Nat→(Nat→Prop)→World→Prop)(Jx:World→Prop)(W:World)
 (hss:SS w0 gt gd S v1 v2 v3 v4 (.map (some bm)) all done W) (h0:J 0 (fun _=>False) W) (hX:∀k X A,J k X A→∀b,X b→b<A.heap.size)
 (hJ:∀k X A A',J k X A→Kb (fun b=>b<W.heap.size∨X b) A A'→J k X A') (hJx:∀A A',Jx A→Kb (fun _=>True) A A'→Jx A')
 (hY:∀k X A args x (Y:Nat→Prop),J k X A→(ysL (sfB Ls Hs As Bs ws) all done)[k]?=some x→seV1 A args x→W.heap.size≤A.heap.size→(∀b,Y b→W.heap.size≤b∧¬X b)→YieldAt Fence.wide 0 Tryz.prog l args A fun e A' =>
  (e=.returned (.bool true)∧(∃X',J (k+1) X' A'∧∀b,X' b→X b∨A.heap.size≤b)∧Kb (fun b=>ssP w0 gt gd b∨Y b) A A')∨(e=.returned (.bool false)∧Jx A'∧Kb (fun b=>ssP w0 gt gd b∨Y b) A A')):
 CallsIn Fence.wide nn Tryz.prog 67 #[.func (.yield l) #[] #[],.pointer (some ⟨gt,0,none⟩),.pointer (some ⟨gd,0,none⟩)] W fun e W'=>(∃v,e=.returned v)∧((∃X,J (ysL (sfB Ls Hs As Bs ws) all done).length X W')∨Jx W'):=by
 obtain⟨ao,n,cap,ao2,n2,cap2,ao3,n3,cap3,rfl,rfl,rfl⟩:=hT.n.form;obtain⟨a4,n4,c4,rfl,_⟩:=hT.w.form;obtain⟨sf,hsf⟩:∃f,f=sfB Ls Hs As Bs ws:=⟨_,rfl⟩;have HM:Hid (MoOK sf all):=by show MoOK sf all;rw[hsf];exact sf_mono hP all
 have HIS:Hid (∀(s:Nat) A,s<64→(∀a,1≤a→a≤6→inS s a=true→inS done a=false)→Below w0.heap.size w0 A→Calls Tryz.prog 26 #[.agg #[.int .i64 S,.slice ao n cap,.slice ao2 n2 cap2,.slice ao3 n3 cap3,.slice a4 n4 c4,.map (some bm),.int .i64 (all:Int)],.int .i64 (done:Int),.int .i64 (s:Int)] A fun e w'=>e=.returned (.bool (sf done s))∧Below A.heap.size A w'):=fun s A hs hds hA=>by
  rw[hsf];exact isSafe_any S _ _ _ _ bm all done s Ls Hs As Bs ws D A (hT.later hA) hP hd hs hds
 rw[←hsf] at hY ⊢;clear hsf hT hP;obtain⟨lo,hlo⟩:∃lo,lo=W.heap.size:=⟨_,rfl⟩;rw[←hlo] at hJ hY;have HP:Hid (∀b,ssP w0 gt gd b→b<lo):=fun b h=>by rw[hlo];exact hss.lt h
 have HJ:Hid (∀k X A A',J k X A→Kb (fun b=>b<lo∨X b) A A'→J k X A'):=hJ;have HX:Hid (∀k X A,J k X A→∀b,X b→b<A.heap.size):=hX;have HY:Hid (∀k X A args x (Y:Nat→Prop),J k X A→(ysL sf all done)[k]?=some x→seV1 A args x→lo≤A.heap.size→(∀b,Y b→lo≤b∧¬X b)→YieldAt Fence.wide 0 Tryz.prog l args A fun e A' =>
  (e=.returned (.bool true)∧(∃X',J (k+1) X' A'∧∀b,X' b→X b∨A.heap.size≤b)∧Kb (fun b=>ssP w0 gt gd b∨Y b) A A')∨(e=.returned (.bool false)∧Jx A'∧Kb (fun b=>ssP w0 gt gd b∨Y b) A A')):=hY
 have HA:Hid (all<64∧done<64):=⟨ha,hd⟩;obtain⟨Lf,hLf⟩:∃L,L=mnS all done:=⟨_,rfl⟩;have HLf:Hid (mnS all done=Lf):=hLf.symm;have hm:bits .andNot .i64 (all:Int) (done:Int)=(Lf:Int):=by rw[hLf];exact bits_mn ha hd
 have HL64:Hid (Lf<64):=by show _<_;rw[hLf];exact mn_lt ha
 obtain⟨i0,hi,hz0,hz1,hz2⟩:=info_parts set_info;have HI:Hid (Tryz.prog.info? 55=some i0∧i0.zero=some (.int .i64 0)∧i0.size=setE.n∧i0.bytes=8):=⟨hi,hz0,hz1,hz2⟩;have HS0:Hid (SI w0 gt gd S (.slice ao n cap) (.slice ao2 n2 cap2) (.slice ao3 n3 cap3) (.slice a4 n4 c4) (.map (some bm)) all done sf J lo (.slice none 0 0) Lf W.heap.size [] (fun _=>False) (W.alloc (.cells #[.int .i64 (Lf:Int)] 55))):=by
  have hb:Below W.heap.size W (W.alloc (.cells #[.int .i64 (Lf:Int)] 55)):=(Below.refl _ W).alloc (Nat.le_refl _) _;refine⟨hss.later hb,Boxed.new W 55 (.int .i64 (Lf:Int)),by rw[hLf,Nat.and_self],?_,World.ownsRow_nil _ _ _ _,hJ _ _ _ _ h0 (Kb.of_below hb fun b h _=>h),by rw[hlo];exact Nat.le_refl _,by rw[hlo];simp,fun h=>h,fun b h=>by cases h⟩;rw[List.nil_append,ysL];refine (seq_skip (by have:=HL64.out;omega) fun k h1 h2=>?_);cases e:ysB sf all done k
  ·rfl
  unfold ysB at e;simp only[Bool.and_eq_true,decide_eq_true_eq] at e;have e2:=e.1.2;rw[←hLf] at e2;have:k &&& Lf≤Lf:=Nat.and_le_right;omega
 have c6:=hss.tk.c6;have cd:=hss.dn;clear hss h0 hX hJ hY ha hd hLf hi hz0 hz1 hz2 hlo;refine callsIn_of_wp Tryz.func67 rfl trivial ?_ rfl;simp only[Tryz.ntmps67,List.size_toArray,List.length_cons,List.length_nil,Nat.reduceAdd,Nat.reduceSub,Array.replicate_succ,Array.replicate_zero,List.push_toArray,List.append_toArray,List.nil_append,List.cons_append]
 gi_wp2
 clear c6 cd hm
 gi_loopw [4,6] (fun v q wr=>∃(s gs:Nat) (pre:List Nat) (X:Nat→Prop),q=.pointer (some ⟨gs,0,none⟩)∧SI w0 gt gd S (.slice ao n cap) (.slice ao2 n2 cap2) (.slice ao3 n3 cap3) (.slice a4 n4 c4) (.map (some bm)) all done sf J lo v s gs pre X wr) (fun _ q wr=>bxN wr q)
 case atStart=>exact⟨Lf,_,[],_,rfl,HS0.out⟩
 case round =>
  obtain⟨s,gs,pre,X,rfl,hS⟩:=hrel;have HS:Hid (SI w0 gt gd S (.slice ao n cap) (.slice ao2 n2 cap2) (.slice ao3 n3 cap3) (.slice a4 n4 c4) (.map (some bm)) all done sf J lo u4 s gs pre X wr):=hS;have cs:=hS.bx.cell;clear hS HS0;by_cases hs0:0<s
  ·have hs1:(0:Int)<(s:Int):=by omega
   obtain⟨ao5,n5,cap5,rfl,hn5,hm5,_,ha5⟩:=(own_GS HS.out.ow).form;have HN5:Hid ((prI pre).length=n5):=hn5;have H64:Hid (s<64):=by
    show s<64;rw[←HS.out.sub,HLf.out];exact Nat.lt_of_le_of_lt Nat.and_le_right HL64.out
   have HLN:Hid (n5≤64):=by
    show n5≤64;have h1:=congrArg List.length HS.out.ys;have h2:=seq_len (ysB sf all done) 64;rw[List.length_append] at h1;rw[ysL] at h1;rw[←hn5,pr_len];omega
   obtain⟨r,hr⟩:∃r,r=s-1:=⟨_,rfl⟩;obtain⟨N,hN⟩:∃N,N=r &&& Lf:=⟨_,rfl⟩;have HNN:Hid (N=(s-1) &&& mnS all done):=by show N=_;rw[HLf.out,←hr];exact hN
   have HNS:Hid (N<s):=by
    show N<s;have:r &&& Lf≤r:=Nat.and_le_left;omega
   have hw1:IntKind.i64.wrap ((s:Int)-1)=(r:Int):=by rw[IntKind.wrap_i64];have:=H64.out;omega
   have hw2:wrap64 ((s:Int)-1)=(r:Int):=by unfold wrap64;have:=H64.out;omega
   have hw3:bits .and .i64 (r:Int) (Lf:Int)=(N:Int):=by
    rw[hN];exact bits_and (by have:=H64.out;omega) HL64.out
   have HDS:Hid (∀a,1≤a→a≤6→inS s a=true→inS done a=false):=fun a h1 h2 h3=>by
    have:=(sub_and H64.out).1 HS.out.sub a h1 h2 h3;rw[in_mn h1 h2] at this;simp only[Bool.and_eq_true,Bool.not_eq_true'] at this;exact this.2
   clear hr hN hn5
   gi_wp2_with fail
   refine⟨trivial,(callsIn_wide.2 (set_hasF ao5 n5 cap5 _ _ (fun x=>decide (bits .andNot .i64 (s:Int) x=0)) (prI pre) _ HN5.out hm5 ha5 (enters_of Tryz.func69 (by kernel_rfl) rfl) (part_asks gs s wr HS.out.bx.cell))).mono ?_⟩;rintro e w2 ⟨rfl,hb2⟩;rw[part_any H64.out (fun x hx=>(ys_mem.1 (show x∈ysL sf all done by rw[HS.out.ys];exact List.mem_append.2 (.inl hx))).1)];have hS2:=HS.out.later HJ.out hb2;have HS2:Hid (SI w0 gt gd S (.slice ao n cap) (.slice ao2 n2 cap2) (.slice ao3 n3 cap3) (.slice a4 n4 c4) (.map (some bm)) all done sf J lo (.slice ao5 n5 cap5) s gs pre X w2):=hS2;obtain⟨T,hT⟩:∃T,T=sf done s:=⟨_,rfl⟩;have HT:Hid (sf done s=T):=hT.symm;obtain⟨PA,hPA⟩:∃P,P=pre.any (fun x=>decide (mnS s x=0)):=⟨_,rfl⟩;have HPA:Hid (PA=true→T=true):=fun h=>by rw[hT];exact part_safe HM.out HS.out.ys H64.out (by rw[←hPA];exact h)
   rw[←hPA];clear hPA hT hb2 hm5 ha5 cs;cases PA with
   | true =>
     have HTT:Hid (sf done s=true):=HT.out.trans (HPA.out rfl);have HS3:Hid (SI w0 gt gd S (.slice ao n cap) (.slice ao2 n2 cap2) (.slice ao3 n3 cap3) (.slice a4 n4 c4) (.map (some bm)) all done sf J lo (.slice ao5 n5 cap5) s gs pre X w2):=hS2;have cs:=HS3.out.bx.cell;clear hS2
     gi_wp2_with fail
     refine⟨trivial,?_⟩
     go_at_K
     gi_wp2_with (gi_at_builtin;refine wpListIn_append_own_at _ rfl _ _ 149 rfl lo 55 i0 (.int .i64 0) setE.n 8 Tryz.underlying149 HI.out.1 HI.out.2.1 HI.out.2.2.1 HI.out.2.2.2 (by simp[Value.cells];rfl) (by decide) _ n5 (cellsG setE (prI pre)) rfl ?o1 ⟨w2.heap.size,0,none⟩ 1 1 [.int .i64 (s:Int)] rfl rfl ?c1 ?c2 ?c3 ?c4 ?c5 (setStop ?k))
     case o1=>exact (by have:=HS3.out.ow;rw[HN5.out] at this;exact this.alloc _)
     case c1=>exact cell_one_new _ _ _
     case c2=>simp[Value.oneCell']
     case c3=>have:=HLN.out;unfold maxLen;omega
     case c4=>have:=HLN.out;omega
     case c5=>have:=HS3.out.l2;simp;omega
     case k =>
      refine setGo ?_;intro v5 w4 hown5 hg5 _ hat5;have hP:=HS3.out.push HJ.out HX.out HP.out hs0 HTT.out _ HN5.out hown5 hg5 hat5;have HPP:Hid (SP w0 gt gd S (.slice ao n cap) (.slice ao2 n2 cap2) (.slice ao3 n3 cap3) (.slice a4 n4 c4) (.map (some bm)) all done sf J lo v5 s gs pre X w4):=hP;have hy:=yield_any (m':=nn-1) (HY.out pre.length X w4 #[.int .i64 (s:Int)] s (fun b=>b=gs∨v5.ownBlock=some b) hP.j (by rw[hP.ys,List.append_assoc];simp) rfl hP.l2 (fun b hb=>by rcases hb with rfl | hb;exact⟨hP.l1,hP.xs⟩;exact⟨(hP.xo b hb).2.2,(hP.xo b hb).1⟩));obtain⟨fn,tmps,assign,body,hyr,hR⟩:=hy;have cs:=hP.bx.cell;clear hP hown5 hg5 hat5
      gi_wp2
      refine hR.mono ?_;rintro e5 w5 (⟨rfl,⟨X',hj5,hX5⟩,hk5⟩ | ⟨rfl,hjx,hk5⟩)
      ·have HN6:Hid (SI w0 gt gd S (.slice ao n cap) (.slice ao2 n2 cap2) (.slice ao3 n3 cap3) (.slice a4 n4 c4) (.map (some bm)) all done sf J lo v5 N w5.heap.size (pre++[s]) X' (w5.alloc (.cells #[.int .i64 (N:Int)] 55))):=by
        have hP:=HPP.out;have h4:=hP.l2;refine SI.next HJ.out HX.out HA.out.1 hs0 (hP.ss.kb hk5 fun b h=>.inl h) hP.sub hP.ys (own_kb hP.ow hk5 fun b h=>.inr (.inr h)) (by rw[List.length_append];exact hj5) (Nat.le_trans h4 hk5.size) (fun b e hx=>?_) HNN.out
        rcases hX5 b hx with h | h
        ·exact (hP.xo b e).1 h
        have:=(hP.ow.lt b e).2;omega
       have cs:=hk5.at HPP.out.bx.cell (.inr (.inl rfl));clear hj5 hX5 hk5
       gi_wp2
       go_roundw
       case rel=>exact⟨N,_,_,_,rfl,HN6.out⟩
       case measure =>
        show bxN _ _<bxN _ _;rw[bxN_of HS.out.bx.cell,bxN_of (s:=N) (by simp)];exact HNS.out
      clear hk5
      gi_wp2
      refine bodyPost_ret (results_none rfl _ _ _) rfl ?_;exact⟨⟨_,rfl⟩,.inr hjx⟩
   | false =>
     have c0:=hS2.ss.tk.c0;have c1:=hS2.ss.tk.c1;have c2:=hS2.ss.tk.c2;have c3:=hS2.ss.tk.c3;have c4':=hS2.ss.tk.c4;have c5:=hS2.ss.tk.c5;have c6:=hS2.ss.tk.c6;have cd:=hS2.ss.dn;have cs:=hS2.bx.cell;clear hS2
     gi_wp2_with fail
     refine⟨trivial,(callsIn_wide.2 (HIS.out s _ H64.out HDS.out HS2.out.ss.below)).mono ?_⟩;rintro e w3 ⟨rfl,hb3⟩;rw[HT.out];have hS3:=HS2.out.later HJ.out hb3;clear hb3 c0 c1 c2 c3 c4' c5 c6 cd cs;cases T with
     | true =>
       have HTT:Hid (sf done s=true):=HT.out;have HS3:Hid (SI w0 gt gd S (.slice ao n cap) (.slice ao2 n2 cap2) (.slice ao3 n3 cap3) (.slice a4 n4 c4) (.map (some bm)) all done sf J lo (.slice ao5 n5 cap5) s gs pre X w3):=hS3;have cs:=HS3.out.bx.cell;clear hS3
       gi_wp2_with (gi_at_builtin;refine wpListIn_append_own_at _ rfl _ _ 149 rfl lo 55 i0 (.int .i64 0) setE.n 8 Tryz.underlying149 HI.out.1 HI.out.2.1 HI.out.2.2.1 HI.out.2.2.2 (by simp[Value.cells];rfl) (by decide) _ n5 (cellsG setE (prI pre)) rfl ?o1 ⟨w3.heap.size,0,none⟩ 1 1 [.int .i64 (s:Int)] rfl rfl ?c1 ?c2 ?c3 ?c4 ?c5 (setStop ?k))
       case o1=>exact (by have:=HS3.out.ow;rw[HN5.out] at this;exact this.alloc _)
       case c1=>exact cell_one_new _ _ _
       case c2=>simp[Value.oneCell']
       case c3=>have:=HLN.out;unfold maxLen;omega
       case c4=>have:=HLN.out;omega
       case c5=>have:=HS3.out.l2;simp;omega
       case k =>
        refine setGo ?_;intro v5 w4 hown5 hg5 _ hat5;have hP:=HS3.out.push HJ.out HX.out HP.out hs0 HTT.out _ HN5.out hown5 hg5 hat5;have HPP:Hid (SP w0 gt gd S (.slice ao n cap) (.slice ao2 n2 cap2) (.slice ao3 n3 cap3) (.slice a4 n4 c4) (.map (some bm)) all done sf J lo v5 s gs pre X w4):=hP;have hy:=yield_any (m':=nn-1) (HY.out pre.length X w4 #[.int .i64 (s:Int)] s (fun b=>b=gs∨v5.ownBlock=some b) hP.j (by rw[hP.ys,List.append_assoc];simp) rfl hP.l2 (fun b hb=>by rcases hb with rfl | hb;exact⟨hP.l1,hP.xs⟩;exact⟨(hP.xo b hb).2.2,(hP.xo b hb).1⟩));obtain⟨fn,tmps,assign,body,hyr,hR⟩:=hy;have cs:=hP.bx.cell;clear hP hown5 hg5 hat5
        gi_wp2
        refine hR.mono ?_;rintro e5 w5 (⟨rfl,⟨X',hj5,hX5⟩,hk5⟩ | ⟨rfl,hjx,hk5⟩)
        ·have HN6:Hid (SI w0 gt gd S (.slice ao n cap) (.slice ao2 n2 cap2) (.slice ao3 n3 cap3) (.slice a4 n4 c4) (.map (some bm)) all done sf J lo v5 N w5.heap.size (pre++[s]) X' (w5.alloc (.cells #[.int .i64 (N:Int)] 55))):=by
          have hP:=HPP.out;have h4:=hP.l2;refine SI.next HJ.out HX.out HA.out.1 hs0 (hP.ss.kb hk5 fun b h=>.inl h) hP.sub hP.ys (own_kb hP.ow hk5 fun b h=>.inr (.inr h)) (by rw[List.length_append];exact hj5) (Nat.le_trans h4 hk5.size) (fun b e hx=>?_) HNN.out
          rcases hX5 b hx with h | h
          ·exact (hP.xo b e).1 h
          have:=(hP.ow.lt b e).2;omega
         have cs:=hk5.at HPP.out.bx.cell (.inr (.inl rfl));clear hj5 hX5 hk5
         gi_wp2
         go_roundw
         case rel=>exact⟨N,_,_,_,rfl,HN6.out⟩
         case measure =>
          show bxN _ _<bxN _ _;rw[bxN_of HS.out.bx.cell,bxN_of (s:=N) (by simp)];exact HNS.out
        clear hk5
        gi_wp2
        refine bodyPost_ret (results_none rfl _ _ _) rfl ?_;exact⟨⟨_,rfl⟩,.inr hjx⟩
     | false =>
       have HN6:Hid (SI w0 gt gd S (.slice ao n cap) (.slice ao2 n2 cap2) (.slice ao3 n3 cap3) (.slice a4 n4 c4) (.map (some bm)) all done sf J lo (.slice ao5 n5 cap5) N w3.heap.size pre X (w3.alloc (.cells #[.int .i64 (N:Int)] 55))):=by
        refine SI.next HJ.out HX.out HA.out.1 hs0 hS3.ss hS3.sub ?_ hS3.ow hS3.j hS3.l2 (fun b e=>(hS3.xo b e).1) HNN.out;rw[hS3.ys,seqL,if_neg (by unfold ysB;rw[HT.out];simp)]
       have cs:=hS3.bx.cell;clear hS3
       gi_wp2
       go_roundw
       case rel=>exact⟨N,_,_,_,rfl,HN6.out⟩
       case measure =>
        show bxN _ _<bxN _ _;rw[bxN_of HS.out.bx.cell,bxN_of (s:=N) (by simp)];exact HNS.out
  have e0:s=0:=by omega
  subst e0
  gi_wp2
  go_end0
  refine⟨⟨_,rfl⟩,.inl ⟨X,?_⟩⟩;have hy:=HS.out.ys;have e1:seqL (ysB sf all done) (0+1)=[]:=by
   show (if ysB sf all done 0=true then 0 :: seqL _ 0 else seqL _ 0)=[];rw[if_neg (by unfold ysB;simp)];rfl
  rw[e1,List.append_nil] at hy;rw[hy];exact HS.out.j
end
end
end Go.Proofs.YtiokpmlhmlcojaaGreat
