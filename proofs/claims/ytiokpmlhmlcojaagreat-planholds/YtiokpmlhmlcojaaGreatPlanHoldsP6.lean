/- Contracts and facts on the way to PlanHolds, joined into one text: ChangeBN, NetMath2, NetMath3, WishMath, StWish, SlHost, HostHas, WishCon, WishCheck, PlanDiff, PlanMath, PlanMath2, PlanOnly, MixMath, MixMath2, MixMath3, NetMath4, StHop, RuleOrder. -/
import Derived.Test.YtiokpmlhmlcojaaGreatPlanHoldsP5
namespace Go.Proofs.YtiokpmlhmlcojaaGreat
set_option linter.unusedSimpArgs false
set_option linter.unusedVariables false
set_option maxHeartbeats 16000000
set_option maxRecDepth 100000
section
open Go.RowKit
structure BN (W:World)(b:Nat)(S:Int)(v1 v2 v3:Value)(Ls:LkQ)(Hs:HoQ)(Ts:List (List Ru)):Prop where
 c:NeBox W b S v1 v2 v3
 l:GS lnkE W v1 Ls
 h:GS hstE W v2 Hs
 t:TS W v3 Ts
theorem BN.later {W W':World}{b:Nat}{S:Int}{v1 v2 v3:Value}{Ls:LkQ}{Hs:HoQ}{Ts:List (List Ru)}(h:BN W b S v1 v2 v3 Ls Hs Ts)(hb:Below W.heap.size W W'):BN W' b S v1 v2 v3 Ls Hs Ts:=⟨h.c.later hb,h.l.later hb,h.h.later hb,h.t.later hb⟩
theorem BN.lt {W:World}{b:Nat}{S:Int}{v1 v2 v3:Value}{Ls:LkQ}{Hs:HoQ}{Ts:List (List Ru)}(h:BN W b S v1 v2 v3 Ls Hs Ts):b<W.heap.size:=bLQ W ⟨b,0,none⟩ h.c.1
def PN (W:World)(p:Value)(S:Int)(Ls:LkQ)(Hs:HoQ)(Ts:List (List Ru)):Prop:=
 ∃b ao n cap ao2 n2 cap2 ao3 n3 cap3,p=.pointer (some ⟨b,0,none⟩)∧BN W b S (.slice ao n cap) (.slice ao2 n2 cap2) (.slice ao3 n3 cap3) Ls Hs Ts
theorem bn_new {w:World}{S:Int}{v1 v2 v3:Value}{Ls:LkQ}{Hs:HoQ}{Ts:List (List Ru)}(t:TypeId)(h1:GS lnkE w v1 Ls)(h2:GS hstE w v2 Hs)(h3:TS w v3 Ts):BN (w.alloc (Obj.cells #[.int .i64 S,v1,v2,v3] t)) w.heap.size S v1 v2 v3 Ls Hs Ts:=by
 have hb:Below w.heap.size w (w.alloc (Obj.cells #[.int .i64 S,v1,v2,v3] t)):=(Below.refl _ _).alloc (Nat.le_refl _) _;exact⟨nebox_new w S v1 v2 v3 t,h1.later hb,h2.later hb,h3.later hb⟩
theorem balloc4 {w w':World}{a b c d:Value}{t:TypeId}(hb:Below (w.drew.alloc (Obj.cells #[a,b,c,d] t)).heap.size (w.drew.alloc (Obj.cells #[a,b,c,d] t)) w'):(w'.cell? ⟨w.heap.size,0,none⟩=some a∧w'.cell? ⟨w.heap.size,1,none⟩=some b∧w'.cell? ⟨w.heap.size,2,none⟩=some c∧w'.cell? ⟨w.heap.size,3,none⟩=some d)∧∀i,w'.frozen? ⟨w.heap.size,i,none⟩=false:=by
 have h:=vat_new w.drew [a,b,c,d] t;have hl:w.heap.size<(w.drew.alloc (Obj.cells #[a,b,c,d] t)).heap.size:=by simp
 refine⟨⟨cell_later hb (h 0 _ rfl),cell_later hb (h 1 _ rfl),cell_later hb (h 2 _ rfl),cell_later hb (h 3 _ rfl)⟩,fun i=>(hb.frozen (p:=⟨w.heap.size,i,none⟩) hl).trans ?_⟩;have h2:=heap_alloc_new w.drew (Obj.cells #[a,b,c,d] t);have e:w.drew.heap.size=w.heap.size:=rfl;rw[e] at h2;simp only[World.frozen?,h2];simp
theorem put4_cells {W:World}{g:Nat}{a b c d u v x y:Value}(k:W.cell? ⟨g,0,none⟩=some u∧W.cell? ⟨g,1,none⟩=some v∧W.cell? ⟨g,2,none⟩=some x∧W.cell? ⟨g,3,none⟩=some y):(put4 W g a b c d).cell? ⟨g,0,none⟩=some a∧(put4 W g a b c d).cell? ⟨g,1,none⟩=some b∧(put4 W g a b c d).cell? ⟨g,2,none⟩=some c∧(put4 W g a b c d).cell? ⟨g,3,none⟩=some d:=by
 obtain⟨k0,k1,k2,k3⟩:=k;unfold put4;have o:∀(W:World) (i j:Nat) (x:Value),i≠j→(W.setCell ⟨g,i,none⟩ x).cell? ⟨g,j,none⟩=W.cell? ⟨g,j,none⟩:=fun W i j x h=>World.cell?_setCell_other _ _ _ _ (by intro e;exact h (by injection e))
 refine⟨?_,?_,?_,?_⟩
 ·rw[o _ _ _ _ (by decide),o _ _ _ _ (by decide),o _ _ _ _ (by decide)];exact World.cell?_setCell_same _ _ _ k0
 ·rw[o _ _ _ _ (by decide),o _ _ _ _ (by decide)];exact World.cell?_setCell_same _ _ _ (by rw[o _ _ _ _ (by decide)];exact k1)
 ·rw[o _ _ _ _ (by decide)];exact World.cell?_setCell_same _ _ _ (by rw[o _ _ _ _ (by decide),o _ _ _ _ (by decide)];exact k2)
 exact World.cell?_setCell_same _ _ _ (by rw[o _ _ _ _ (by decide),o _ _ _ _ (by decide),o _ _ _ _ (by decide)];exact k3)
theorem pn_new {W:World}{B:Nat}{S:Int}{a1:Option Addr}{k1 d1:Nat}{a2:Option Addr}{k2 d2:Nat}{a3:Option Addr}{k3 d3:Nat}{Ls:LkQ}{Hs:HoQ}{Ts:List (List Ru)}(t:TypeId)(h:NA W B (.slice a1 k1 d1) (.slice a2 k2 d2) (.slice a3 k3 d3) Ls Hs Ts):
 PN (W.alloc (Obj.cells #[.int .i64 S,.slice a1 k1 d1,.slice a2 k2 d2,.slice a3 k3 d3] t)) (.pointer (some ⟨W.heap.size,0,none⟩)) S Ls Hs Ts:=⟨_,_,_,_,_,_,_,_,_,_,rfl,bn_new t h.gs.1 h.gs.2.1 h.gs.2.2⟩
theorem pn_put {W:World}{B g:Nat}{S:Int}{a1:Option Addr}{k1 d1:Nat}{a2:Option Addr}{k2 d2:Nat}{a3:Option Addr}{k3 d3:Nat}{Ls:LkQ}{Hs:HoQ}{Ts:List (List Ru)}{x y z u:Value}(h:NA W B (.slice a1 k1 d1) (.slice a2 k2 d2) (.slice a3 k3 d3) Ls Hs Ts)(hg:g<B)(k:W.cell? ⟨g,0,none⟩=some u∧W.cell? ⟨g,1,none⟩=some x∧W.cell? ⟨g,2,none⟩=some y∧W.cell? ⟨g,3,none⟩=some z):
 PN (put4 W g (.int .i64 S) (.slice a1 k1 d1) (.slice a2 k2 d2) (.slice a3 k3 d3)) (.pointer (some ⟨g,0,none⟩)) S Ls Hs Ts:=by
 have h2:=(h.put (grown_put4 W g (.int .i64 S) (.slice a1 k1 d1) (.slice a2 k2 d2) (.slice a3 k3 d3)) hg).gs;exact⟨_,_,_,_,_,_,_,_,_,_,rfl,put4_cells k,h2.1,h2.2.1,h2.2.2⟩
def ZB (W:World)(g:Nat):Prop:=(W.cell? ⟨g,0,none⟩=some (.int .i64 0)∧W.cell? ⟨g,1,none⟩=some (.slice none 0 0)∧W.cell? ⟨g,2,none⟩=some (.slice none 0 0)∧W.cell? ⟨g,3,none⟩=some (.slice none 0 0))∧∀i,W.frozen? ⟨g,i,none⟩=false
theorem ZB.lt {W:World}{g:Nat}(h:ZB W g):g<W.heap.size:=bLQ W ⟨g,0,none⟩ h.1.1
theorem ZB.later {W W':World}{g:Nat}(h:ZB W g)(hb:Below W.heap.size W W'):ZB W' g:=⟨⟨cell_later hb h.1.1,cell_later hb h.1.2.1,cell_later hb h.1.2.2.1,cell_later hb h.1.2.2.2⟩,fun i=>(hb.frozen (p:=⟨g,i,none⟩) h.lt).trans (h.2 i)⟩
theorem zb_d {w w':World}{t:TypeId}(hb:Below (w.drew.alloc (Obj.cells #[.int .i64 0,.slice none 0 0,.slice none 0 0,.slice none 0 0] t)).heap.size (w.drew.alloc (Obj.cells #[.int .i64 0,.slice none 0 0,.slice none 0 0,.slice none 0 0] t)) w'):ZB w' w.heap.size:=balloc4 hb
theorem zb_a {w w':World}{t:TypeId}(hb:Below (w.alloc (Obj.cells #[.int .i64 0,.slice none 0 0,.slice none 0 0,.slice none 0 0] t)).heap.size (w.alloc (Obj.cells #[.int .i64 0,.slice none 0 0,.slice none 0 0,.slice none 0 0] t)) w'):ZB w' w.heap.size:=
 have h:=wb_new w 0 (.slice none 0 0) (.slice none 0 0) (.slice none 0 0) t
 ZB.later (W:=w.alloc (Obj.cells #[.int .i64 0,.slice none 0 0,.slice none 0 0,.slice none 0 0] t)) ⟨h.c,h.f⟩ hb
section
variable {Ls:LkQ}{Hs:HoQ}{Ts:List (List Ru)}
def atH (l:HpQ)(i:Nat):(Int×Int)×Int:=l.getD i zeH
def enE (Ls:LkQ)(Hs:HoQ)(Ts:List (List Ru))(l:HpQ)(p:(Int×Int)×Int):(Int×ByteArray) ⊕ ((Int×Int)×Int):=goE Ls Hs (taT Ts p.1.1) l p
theorem la_at (l:HpQ):laH l=atH l (l.length-1):=rfl
theorem at_app (l:HpQ)(p:(Int×Int)×Int):atH (l++[p]) l.length=p:=by simp[atH,List.getD]
theorem fo_s (n:Nat)(l:HpQ):foF Ls Hs Ts (n+1) l=match enE Ls Hs Ts l (laH l) with | .inl e=>(e.1,e.2,l) | .inr p=>foF Ls Hs Ts n (l++[p]):=rfl
end
theorem aph_fin:∀s v h:Fin 16,(bits .andNot .i64 ((v:Nat):Int) ((s:Nat):Int)==0)=true→hdrB (apV ((s:Nat):Int) ((v:Nat):Int) ((h:Nat):Int))=true:=by decide +kernel
theorem ap_hdr {p m b o s v h:Int}(hr:apN p m b o s v h=0):hdrB (apR p m b o s v h)=true:=by
 obtain⟨h1,h2,_,_⟩:=ap_yes hr;obtain⟨g1,_,g3⟩:=ru_ok h1;obtain⟨_,hs,hv⟩:=ru_in g1;obtain⟨s',rfl⟩:=small hs;obtain⟨v',rfl⟩:=small hv;obtain⟨h',rfl⟩:=small (hdr_of h2);simp only[ruSet,Bool.and_eq_true] at g3;rw[apR,if_pos hr];exact aph_fin s' v' h' g3.1
section
variable {S:Int}{Ls:LkQ}{Hs:HoQ}{Ts:List (List Ru)}
theorem st_hdr {p o:(Int×Int)×Int}(h:stO Ts p=some o):hdrB o.2=true∧o.1.1=p.1.1:=by
 unfold stO stT at h
 split at h
 ·split at h
  ·next hr =>
   cases h;exact⟨ap_hdr hr,rfl⟩
  cases h
 cases h
theorem peer_sp (ht:tpN S Ls Hs=0){s p:Int×Int}(h:peerO Ls s=some p):spB S p=true:=(tp_0 ht).2.2.1 p (peer_in h).2
end
structure Wi where
 k:Int
 f:ByteArray
 t:ByteArray
 v:Int
def zeW:Wi:=⟨0,ByteArray.empty,ByteArray.empty,0⟩
def abW (w:Wi)(n:ByteArray):Bool:=(w.k==4) || (w.f==n)
def thW (w:Wi)(F:Int×ByteArray×HpQ):Bool:=(F.1==1)&&(F.2.1==w.t)
def haW (v:Int)(l:HpQ):Bool:=l.any fun h=>h.1.1==v
def fiB (w:Wi)(n:ByteArray)(F:Int×ByteArray×HpQ):Bool:=
 if abW w n then (if w.k=1 then thW w F else if w.k=2 then !thW w F else if w.k=3 then (!thW w F || haW w.v F.2.2) else if w.k=4 then !(F.1==4) else true) else true
def wkB (k:Int):Bool:=decide (1≤k)&&decide (k≤4)
def viB (w:Wi)(S:Int):Bool:=(w.k != 3) || swB S w.v
def nlB (w:Wi):Bool:=(w.f==ByteArray.empty)&&(w.t==ByteArray.empty)
def hoB (Hs:HoQ)(n:ByteArray):Bool:=Hs.any fun h=>h.1==n
def veB (w:Wi):Bool:=(w.k != 3)&&(w.v != 0)
def woN (S:Int)(Hs:HoQ)(w:Wi):Int:=
 if !wkB w.k || (!viB w S || veB w) then 1 else if w.k=4 then (if nlB w then 0 else 3) else if hoB Hs w.f&&hoB Hs w.t then 0 else 5
def wsTo (S:Int)(Hs:HoQ)(l:List Wi):Nat→Int
 | 0=>0
 | k+1=>if wsTo S Hs l k=0 then woN S Hs (l.getD k zeW) else wsTo S Hs l k
def wsN (S:Int)(Ls:LkQ)(Hs:HoQ)(l:List Wi):Int:=
 if tpN S Ls Hs=0 then (if 8<l.length then 4 else wsTo S Hs l l.length) else tpN S Ls Hs
theorem ws_le {S:Int}{Hs:HoQ}{l:List Wi}{k:Nat}(h:wsTo S Hs l k≠0):∀{n:Nat},k≤n→wsTo S Hs l n=wsTo S Hs l k
 | 0,hn=>by
   obtain rfl:k=0:=by omega
   rfl
 | n+1,hn=>by
   by_cases e:k=n+1
   ·subst e;rfl
   have:=ws_le h (show k≤n by omega);rw[wsTo,if_neg (by rw[this];exact h),this]
theorem getW {l:List Wi}{k:Nat}(hk:k<l.length):l.getD k zeW=l[k]:=by simp[List.getD,hk]
section
variable (Ls:LkQ)(Hs:HoQ)(Ts:List (List Ru))
def brB (w:Wi)(x:ByteArray×(Int×Int))(h:Int):Bool := !fiB w x.1 (frF Ls Hs Ts x.2 h)
def brH (w:Wi)(x:ByteArray×(Int×Int)):Nat→Int
 | 0 => -1
 | k+1=>if brH w x k<0 then (if brB Ls Hs Ts w x (k:Int) then (k:Int) else -1) else brH w x k
def zeO:ByteArray×(Int×Int):=(ByteArray.empty,(0,0))
def brX (w:Wi)(Xs:HoQ):Nat→Option (Nat×Int)
 | 0=>none
 | k+1=>match brX w Xs k with
   | some x=>some x
   | none=>if 0≤brH Ls Hs Ts w (Xs.getD k zeO) 16 then some (k,brH Ls Hs Ts w (Xs.getD k zeO) 16) else none
def brW (l:List Wi)(Xs:HoQ):Nat→Option (Nat×Nat×Int)
 | 0=>none
 | k+1=>match brW l Xs k with
   | some x=>some x
   | none=>match brX Ls Hs Ts (l.getD k zeW) Xs Xs.length with
     | some p=>some (k,p.1,p.2)
     | none=>none
end
section
variable {Ls:LkQ}{Hs:HoQ}{Ts:List (List Ru)}
theorem brH_le {w:Wi}{x:ByteArray×(Int×Int)}{k:Nat}(h:0≤brH Ls Hs Ts w x k):∀{n:Nat},k≤n→brH Ls Hs Ts w x n=brH Ls Hs Ts w x k
 | 0,hn=>by
   obtain rfl:k=0:=by omega
   rfl
 | n+1,hn=>by
   by_cases e:k=n+1
   ·subst e;rfl
   have:=brH_le h (show k≤n by omega);rw[brH,if_neg (by rw[this];omega),this]
theorem brH_no {w:Wi}{x:ByteArray×(Int×Int)}{k:Nat}(h:brH Ls Hs Ts w x k<0)(h2:brB Ls Hs Ts w x (k:Int)=false):brH Ls Hs Ts w x (k+1)<0:=by
 rw[brH,if_pos h,h2];simp
theorem brH_yes {w:Wi}{x:ByteArray×(Int×Int)}{k:Nat}(hk:k<16)(h:brH Ls Hs Ts w x k<0)(h2:brB Ls Hs Ts w x (k:Int)=true):brH Ls Hs Ts w x 16=k:=by
 have e:brH Ls Hs Ts w x (k+1)=k:=by
  rw[brH,if_pos h,h2];simp
 rw[brH_le (k:=k+1) (by rw[e];omega) (by omega),e]
variable {Xs:HoQ}
theorem brX_le {w:Wi}{k:Nat}{p:Nat×Int}(h:brX Ls Hs Ts w Xs k=some p):∀{n:Nat},k≤n→brX Ls Hs Ts w Xs n=some p
 | 0,hn=>by
   obtain rfl:k=0:=by omega
   exact h
 | n+1,hn=>by
   by_cases e:k=n+1
   ·subst e;exact h
   rw[brX,brX_le h (show k≤n by omega)]
theorem getO {Xs:HoQ}{k:Nat}(hk:k<Xs.length):Xs.getD k zeO=Xs[k]:=by simp[List.getD,hk]
theorem brX_yes {w:Wi}{k:Nat}(hk:k<Xs.length)(h:brX Ls Hs Ts w Xs k=none)(h2:0≤brH Ls Hs Ts w Xs[k] 16):brX Ls Hs Ts w Xs Xs.length=some (k,brH Ls Hs Ts w Xs[k] 16):=by
 refine brX_le (k:=k+1) ?_ (by omega);rw[brX,h];simp only;rw[getO hk,if_pos h2]
variable {l:List Wi}
theorem brW_le {k:Nat}{p:Nat×Nat×Int}(h:brW Ls Hs Ts l Xs k=some p):∀{n:Nat},k≤n→brW Ls Hs Ts l Xs n=some p
 | 0,hn=>by
   obtain rfl:k=0:=by omega
   exact h
 | n+1,hn=>by
   by_cases e:k=n+1
   ·subst e;exact h
   rw[brW,brW_le h (show k≤n by omega)]
theorem brW_yes {k:Nat}(hk:k<l.length)(h:brW Ls Hs Ts l Xs k=none){p:Nat×Int}(h2:brX Ls Hs Ts l[k] Xs Xs.length=some p):brW Ls Hs Ts l Xs l.length=some (k,p.1,p.2):=by
 refine brW_le (k:=k+1) ?_ (by omega);rw[brW,h];simp only;rw[getW hk,h2]
end
def prV (Hs:HoQ):Option (Nat×Nat×Int)→Int×ByteArray×Int
 | none=>(0,ByteArray.empty,0)
 | some p=>((p.1:Int),(Hs.getD p.2.1 zeO).1,p.2.2)
def wiN (S:Int)(Ls:LkQ)(Hs:HoQ)(Ts:List (List Ru))(l:List Wi):Int:=
 if ntN S Ls Hs Ts=0 then (if wsN S Ls Hs l=0 then (if (brW Ls Hs Ts l Hs l.length).isSome then 9 else 0) else wsN S Ls Hs l) else ntN S Ls Hs Ts
def wiV (S:Int)(Ls:LkQ)(Hs:HoQ)(Ts:List (List Ru))(l:List Wi):Int×ByteArray×Int:=
 if ntN S Ls Hs Ts=0∧wsN S Ls Hs l=0 then prV Hs (brW Ls Hs Ts l Hs l.length) else (0,ByteArray.empty,0)
end
section
open Go.ChangeShapes Go.WideShapes Go.ChangeAt Go.RowKit Go.Joins
def wisE:Enc (Wi) where
 c:=fun x=>[.int .i64 x.k,.string x.f,.string x.t,.int .i64 x.v]
 n:=4
 len:=fun _=>rfl
 pos:=by decide
 one:=by
  intro x u hu;simp at hu
  rcases hu with rfl | rfl | rfl | rfl <;> rfl
theorem wis_cells {w:World}{g o:Nat}{x0:Int}{x1 x2:ByteArray}{x3:Int}(h:VAt w g o (wisE.c ⟨x0,x1,x2,x3⟩)):w.cell? ⟨g,o,none⟩=some (.int .i64 x0)∧w.cell? ⟨g,o+1,none⟩=some (.string x1)∧w.cell? ⟨g,o+2,none⟩=some (.string x2)∧w.cell? ⟨g,o+3,none⟩=some (.int .i64 x3):=
 ⟨h 0 _ rfl,h 1 _ rfl,h 2 _ rfl,h 3 _ rfl⟩
theorem wis_at {w:World}{g o:Nat}{L:List (Wi)}(h:GAt wisE w g o L){n k:Nat}(hn:L.length=n)(hk:k<n):
 ∃(x0:Int) (x1:ByteArray) (x2:ByteArray) (x3:Int) (hl:k<L.length),L[k]=⟨x0,x1,x2,x3⟩∧w.cell? ⟨g,o+k*4,none⟩=some (.int .i64 x0)∧w.cell? ⟨g,o+k*4+1,none⟩=some (.string x1)∧w.cell? ⟨g,o+k*4+2,none⟩=some (.string x2)∧w.cell? ⟨g,o+k*4+3,none⟩=some (.int .i64 x3):=
 have hl:k<L.length:=by omega
 ⟨_,_,_,_,hl,rfl,wis_cells (h k hl)⟩
theorem wis_open {H:Type}{enc:TypeId×Value→H}{W:World}{n:Nat}{cs:List Value}{x:DataW H×List MemPlace}
 (h:DataW.trod enc Tryz.prog W 0 (fun _=>true) true n 125 cs=some x):∃y,cs=wisE.c y:=by
 obtain⟨xs,k,_,_,hl,hlen,hf⟩:=DataW.trod_struct Tryz.underlying125 h;have hC:Tryz.prog.cellsOf 125=4:=by kernel_rfl
 have hT0:Tryz.prog.cellsOf 3=1:=by kernel_rfl
 have hT1:Tryz.prog.cellsOf 9=1:=by kernel_rfl
 rw[hC] at hl
 match cs,hl with
 | [c0,c1,c2,c3],_ =>
   match xs,hlen with
   | [z0,z1,z2,z3],_ =>
     have g0:=hf 0 _ rfl;have g1:=hf 1 _ rfl;have g2:=hf 2 _ rfl;have g3:=hf 3 _ rfl;simp[hT0,hT1] at g0 g1 g2 g3;obtain⟨v0,e0,_,_⟩:=DataW.trod_int Tryz.underlying3 g0;obtain⟨v1,e1,_,_⟩:=DataW.trod_string Tryz.underlying9 g1;obtain⟨v2,e2,_,_⟩:=DataW.trod_string Tryz.underlying9 g2;obtain⟨v3,e3,_,_⟩:=DataW.trod_int Tryz.underlying3 g3;simp[] at e0 e1 e2 e3;refine⟨⟨v0,v1,v2,v3⟩,?_⟩;simp[wisE,e0,e1,e2,e3]
theorem wiss_of {H:Type}{enc:TypeId×Value→H}{W:World}{base:Nat}{v:Value}{d:DataW H}{p:List MemPlace}
 (hv:Value.okWide Tryz.prog W .any base 29 v) (h:DataW.Trod enc Tryz.prog W 0 (fun _=>true) true 29 v d p):∃L,GS wisE W v L:=
 gs_of (E:=wisE) 29 125 Tryz.underlying29 (by kernel_rfl) ⟨0,ByteArray.empty,ByteArray.empty,0⟩ (fun _ _ _ h=>wis_open h) hv h
end
section
open Go.RowKit
def hstAsks (w:World)(f:FuncId)(c:Value)(P:ByteArray×(Int×Int)→Bool):Prop:=
 ∀(x0:ByteArray) (x1:Int) (x2:Int) (W:World),Below w.heap.size w W→Calls Tryz.prog f #[.agg #[.string x0,.int .i64 x1,.int .i64 x2],c] W fun e w'=>e=.returned (.bool (P (x0,(x1,x2))))∧Below W.heap.size W w'
theorem hstAsks.later {w w':World}{f:FuncId}{c:Value}{P:ByteArray×(Int×Int)→Bool}(h:hstAsks w f c P)(hb:Below w.heap.size w w'):hstAsks w' f c P:=
 fun x0 x1 x2 W hW=>h x0 x1 x2 W (hb.trans (hW.mono hb.size))
theorem hst_idxF (ao:Option Addr)(n cap:Nat)(f:FuncId)(c:Value)(P:ByteArray×(Int×Int)→Bool)(L:HoQ)(w:World)(hn:L.length=n)(hn2:n≤maxLen)(ha:0<n→∃g o,ao=some ⟨g,o,none⟩∧GAt hstE w g o L∧cap≤maxLen)(he:∀args w,(callFunc f args).run Tryz.prog w=.ok (.enter f args) w)(hf:hstAsks w f c P):
 Calls Tryz.prog 87 #[.slice ao n cap,.func (Fn.func f) #[] #[c]] w fun e w'=>e=.returned (.int .i64 (ixG P L))∧Below w.heap.size w w':=by
 have HN:Hid (L.length=n):=hn;have HF:Hid (hstAsks w f c P):=hf;have HA:Hid (0<n→∃g o,ao=some ⟨g,o,none⟩∧GAt hstE w g o L∧cap≤maxLen):=ha;unfold maxLen at hn2;clear hn hf ha;go_enter Tryz.func87,Tryz.ntmps87;go_wp2
 go_loopw [8] (fun i wr=>∃k:Nat,k≤n∧i=.int .i64 k∧(L.take k).any P=false∧Below w.heap.size w wr)
  (fun i _=>n-(intOf i).toNat)
 case atStart=>exact⟨0,by omega,rfl,by simp,Below.refl _ _⟩
 case round =>
  obtain⟨k,hk,rfl,hno,hB⟩:=hrel;have HB:Hid (Below w.heap.size w wr):=hB;have HNO:Hid ((L.take k).any P=false):=hno;clear hno;by_cases hlt:k<n
  ·obtain⟨g,o,hao,hc,_⟩:=HA.out (by omega);subst hao;obtain⟨x0,x1,x2,hkl,hL,q0,q1,q2⟩:=hst_at (hc.later hB) HN.out hlt;have HL:Hid (L[k]=(x0,(x1,x2))):=hL;clear hL hB;cases ho:P (x0,(x1,x2))
   ·go_wp2_with fail
    refine (HF.out x0 x1 x2 _ HB.out).mono ?_;rintro e w1 ⟨rfl,hb1⟩;rw[ho];have HB1:=HB.out.trans (hb1.mono HB.out.size);clear hb1;go_wp2;go_roundw
    case rel=>exact⟨k+1,by omega,by go_num,any_nextG hkl HNO.out (by rw[HL.out];exact ho),HB1⟩
    case measure=>simp[intOf];omega
   go_wp2_with fail
   refine (HF.out x0 x1 x2 _ HB.out).mono ?_;rintro e w1 ⟨rfl,hb1⟩;rw[ho];go_wp2;go_ret;exact⟨by rw[ixG_hit hkl HNO.out (by rw[HL.out];exact ho)];rfl,HB.out.trans (hb1.mono HB.out.size)⟩
  obtain rfl:k=n:=by omega
  go_wp2;go_ret;exact⟨by have:=HNO.out;rw[←HN.out,List.take_length] at this;rw[ixG_no this];rfl,HB.out⟩
theorem hst_hasF (ao:Option Addr)(n cap:Nat)(f:FuncId)(c:Value)(P:ByteArray×(Int×Int)→Bool)(L:HoQ)(w:World)(hn:L.length=n)(hn2:n≤maxLen)(ha:0<n→∃g o,ao=some ⟨g,o,none⟩∧GAt hstE w g o L∧cap≤maxLen)(he:∀args w,(callFunc f args).run Tryz.prog w=.ok (.enter f args) w)(hf:hstAsks w f c P):
 Calls Tryz.prog 101 #[.slice ao n cap,.func (Fn.func f) #[] #[c]] w fun e w'=>e=.returned (.bool (L.any P))∧Below w.heap.size w w':=by
 rw[←ixG_any];obtain⟨x,hx⟩:∃x,x=ixG P L:=⟨_,rfl⟩;have HX:Hid (x=ixG P L):=hx;rw[←hx];clear hx;go_enter Tryz.func101,Tryz.ntmps101
 go_wp2_with fail
 refine (hst_idxF ao n cap f c P L _ hn hn2 ha he hf).mono ?_;rintro e w1 ⟨rfl,hb1⟩;rw[←HX.out];go_wp2;go_ret;exact⟨rfl,hb1⟩
theorem emp_lst (s:ByteArray):s.toList.isEmpty=(s==ByteArray.empty):=by
 have e:ByteArray.empty.toList=[]:=by rw[Lib.toList_data];rfl
 rw[beq_toListBytes,e];cases h:s.toList with
 | nil=>rfl
 | cons a l=>rfl
def WiBox (W:World)(g:Nat)(k:Int)(f t:ByteArray)(v:Int):Prop:=W.cell? ⟨g,0,none⟩=some (.int .i64 k)∧W.cell? ⟨g,1,none⟩=some (.string f)∧W.cell? ⟨g,2,none⟩=some (.string t)∧W.cell? ⟨g,3,none⟩=some (.int .i64 v)
theorem wibox_new (w:World)(k:Int)(f t:ByteArray)(v:Int)(T:TypeId):WiBox (w.alloc (Obj.cells #[.int .i64 k,.string f,.string t,.int .i64 v] T)) w.heap.size k f t v:=by
 refine⟨?_,?_,?_,?_⟩ <;> simp
theorem WiBox.later {W W':World}{g:Nat}{k:Int}{f t:ByteArray}{v:Int}(h:WiBox W g k f t v)(hb:Below W.heap.size W W'):WiBox W' g k f t v:=
 ⟨cell_later hb h.1,cell_later hb h.2.1,cell_later hb h.2.2.1,cell_later hb h.2.2.2⟩
theorem WiBox.lt {W:World}{g:Nat}{k:Int}{f t:ByteArray}{v:Int}(h:WiBox W g k f t v):g<W.heap.size:=bLQ _ _ h.1
theorem isWhat_any (k:Int)(w:World):
 Calls Tryz.prog 75 #[.int .i64 k] w fun e w'=>e=.returned (.bool (wkB k))∧Below w.heap.size w w':=by
 by_cases h1:1≤k
 ·by_cases h2:k≤4
  ·have e:wkB k=true:=by simp[wkB,h1,h2]
   rw[e];clear e;go_enter Tryz.func75,Tryz.ntmps75;go_wp2;go_ret;exact⟨rfl,Below.refl _ _⟩
  have e:wkB k=false:=by simp[wkB,h2]
  rw[e];clear e;go_enter Tryz.func75,Tryz.ntmps75;go_wp2;go_ret;exact⟨rfl,Below.refl _ _⟩
 have e:wkB k=false:=by simp[wkB,h1]
 rw[e];clear e;go_enter Tryz.func75,Tryz.ntmps75;go_wp2;go_ret;exact⟨rfl,Below.refl _ _⟩
theorem isAbout_any (k:Int)(f t:ByteArray)(v:Int)(m:ByteArray)(w:World):
 Calls Tryz.prog 51 #[.agg #[.int .i64 k,.string f,.string t,.int .i64 v],.string m] w fun e w'=>e=.returned (.bool (abW ⟨k,f,t,v⟩ m))∧Below w.heap.size w w':=by
 have HB0:Hid (Below w.heap.size w (w.alloc (Obj.cells #[.int .i64 k,Value.string f,Value.string t,.int .i64 v] 125))):=(Below.refl _ _).alloc (Nat.le_refl _) _;by_cases h:k=4
 ·subst h;rw[show abW ⟨4,f,t,v⟩ m=true from rfl];go_enter Tryz.func51,Tryz.ntmps51;go_wp2;go_ret;exact⟨rfl,HB0.out⟩
 have e:abW ⟨k,f,t,v⟩ m=(k==4 || f.toList==m.toList):=by rw[abW,←beq_toListBytes]
 rw[e];clear e;go_enter Tryz.func51,Tryz.ntmps51;go_wp2;go_ret;exact⟨rfl,HB0.out⟩
theorem isNameless_any (k:Int)(f t:ByteArray)(v:Int)(w:World):
 Calls Tryz.prog 77 #[.agg #[.int .i64 k,.string f,.string t,.int .i64 v]] w fun e w'=>e=.returned (.bool (nlB ⟨k,f,t,v⟩))∧Below w.heap.size w w':=by
 have HB0:Hid (Below w.heap.size w (w.alloc (Obj.cells #[.int .i64 k,Value.string f,Value.string t,.int .i64 v] 125))):=(Below.refl _ _).alloc (Nat.le_refl _) _;cases hf:(f==ByteArray.empty)
 ·have e:nlB ⟨k,f,t,v⟩=false:=by simp[nlB,hf]
  rw[e];rw[←emp_lst] at hf;clear e;go_enter Tryz.func77,Tryz.ntmps77;go_wp2;go_ret;exact⟨rfl,HB0.out⟩
 have e:nlB ⟨k,f,t,v⟩=t.toList.isEmpty:=by simp[nlB,hf,emp_lst]
 rw[e];rw[←emp_lst] at hf;clear e;cases ht:t.toList.isEmpty
 ·go_enter Tryz.func77,Tryz.ntmps77;go_wp2;go_ret;exact⟨rfl,HB0.out⟩
 go_enter Tryz.func77,Tryz.ntmps77;go_wp2;go_ret;exact⟨rfl,HB0.out⟩
theorem isVia_any (k:Int)(f t:ByteArray)(v S:Int)(w:World):
 Calls Tryz.prog 76 #[.agg #[.int .i64 k,.string f,.string t,.int .i64 v],.int .i64 S] w fun e w'=>e=.returned (.bool (viB ⟨k,f,t,v⟩ S))∧Below w.heap.size w w':=by
 have HB0:Hid (Below w.heap.size w (w.alloc (Obj.cells #[.int .i64 k,Value.string f,Value.string t,.int .i64 v] 125))):=(Below.refl _ _).alloc (Nat.le_refl _) _;by_cases h:k=3
 ·subst h;rw[show viB ⟨3,f,t,v⟩ S=swB S v from rfl];go_enter Tryz.func76,Tryz.ntmps76
  go_wp2_with fail
  refine (isSwitch_any S v _).mono ?_;rintro e w1 ⟨rfl,hb1⟩;go_wp2;go_ret;exact⟨rfl,HB0.out.trans (hb1.mono HB0.out.size)⟩
 have e:viB ⟨k,f,t,v⟩ S=true:=by simp[viB,h]
 rw[e];clear e;go_enter Tryz.func76,Tryz.ntmps76;go_wp2;go_ret;exact⟨rfl,HB0.out⟩
theorem isHost1_any (n:ByteArray)(x0 x1:Int)(B:Nat)(m:ByteArray)(w:World)(h0:w.cell? ⟨B,0,none⟩=some (.string m)):
 Calls Tryz.prog 102 #[.agg #[.string n,.int .i64 x0,.int .i64 x1],.pointer (some ⟨B,0,none⟩)] w fun e w'=>e=.returned (.bool (n==m))∧Below w.heap.size w w':=by
 have hlt:B<w.heap.size:=bLQ _ _ h0;have HB0:Hid (Below w.heap.size w (w.alloc (Obj.cells #[Value.string n,.int .i64 x0,.int .i64 x1] 33))):=(Below.refl _ _).alloc (Nat.le_refl _) _;rw[beq_toListBytes];go_enter Tryz.func102,Tryz.ntmps102;go_wp2;go_ret;exact⟨rfl,HB0.out⟩
theorem isHost1_asks (B:Nat)(m:ByteArray)(w:World)(h0:w.cell? ⟨B,0,none⟩=some (.string m)):hstAsks w 102 (.pointer (some ⟨B,0,none⟩)) (fun h=>h.1==m):=
 fun n x0 x1 W hW=>isHost1_any n x0 x1 B m W (cell_later hW h0)
theorem isHost_any (S:Int)(v1:Value)(ao2:Option Addr)(n2 cap2:Nat)(Hs:HoQ)(m:ByteArray)(w:World)(hv1:v1.oneCell'=true)(hH:GS hstE w (.slice ao2 n2 cap2) Hs):
 Calls Tryz.prog 78 #[.agg #[.int .i64 S,v1,.slice ao2 n2 cap2],.string m] w fun e w'=>e=.returned (.bool (hoB Hs m))∧Below w.heap.size w w':=by
 have e1:(w.alloc (Obj.cells #[.int .i64 S,v1,.slice ao2 n2 cap2] 25)).heap.size=w.heap.size+1:=by simp
 have hb1:Below w.heap.size w (w.alloc (Obj.cells #[.int .i64 S,v1,.slice ao2 n2 cap2] 25)):=(Below.refl _ _).alloc (Nat.le_refl _) _;have ht:=tbox_new w S v1 (.slice ao2 n2 cap2) 25;obtain⟨w0,hw0⟩:∃W,W=w.alloc (Obj.cells #[.int .i64 S,v1,.slice ao2 n2 cap2] 25):=⟨_,rfl⟩;rw[←hw0] at e1 hb1 ht;have hb2:Below w0.heap.size w0 (w0.alloc (Obj.cells #[.string m] 9)):=(Below.refl _ _).alloc (Nat.le_refl _) _;have hm:=vat_new w0 [.string m] 9;have ht2:=ht.later hb2;have hB2:=hb1.trans (hb2.mono hb1.size);obtain⟨w2,hw2⟩:∃W,W=w0.alloc (Obj.cells #[.string m] 9):=⟨_,rfl⟩;have hm2:VAt w2 w0.heap.size 0 [.string m]:=by rw[hw2];exact hm
 rw[←hw2] at ht2 hB2;rw[e1] at hm2;have m0:w2.cell? ⟨w.heap.size+1,0,none⟩=some (.string m):=hm2 0 _ rfl;obtain⟨b0,b1,b2⟩:=ht2;have HW:Hid ((w.alloc (Obj.cells #[.int .i64 S,v1,.slice ao2 n2 cap2] 25)).alloc (Obj.cells #[.string m] 9)=w2):=by
  show _=_;rw[hw2,hw0]
 have HB2:Hid (Below w.heap.size w w2):=hB2;obtain⟨_,_,_,eH,hHn,hHm,_,hHa⟩:=hH.form;cases eH;have HHN:Hid (Hs.length=n2):=hHn;have HHM:Hid (n2≤maxLen):=hHm;have HHA:Hid (0<n2→∃g o,ao2=some ⟨g,o,none⟩∧GAt hstE w2 g o Hs∧cap2≤maxLen):=fun h=>by
  obtain⟨g,o,k1,k2,k3⟩:=hHa h;exact⟨g,o,k1,k2.later hB2,k3⟩
 have HM0:Hid (w2.cell? ⟨w.heap.size+1,0,none⟩=some (.string m)):=m0;clear hb1 ht hw0 hb2 hm hw2 hm2 hB2 hHn hHm hHa hH e1 m0;go_enter Tryz.func78,Tryz.ntmps78;go_upto_region 1 with fail;rw[HW.out];clear HW
 go_wp2_with fail
 refine (hst_hasF ao2 n2 cap2 _ _ (fun h=>h.1==m) Hs _ HHN.out HHM.out HHA.out (enters_of Tryz.func102 (by kernel_rfl) rfl) (isHost1_asks _ m _ HM0.out)).mono ?_;rintro e w3 ⟨rfl,hb3⟩;rw[show (Hs.any fun h=>h.1==m)=hoB Hs m from rfl];go_wp2;go_ret;exact⟨rfl,HB2.out.trans (hb3.mono HB2.out.size)⟩
structure CBox (w W:World)(S:Int)(v1 v2:Value)(k:Int)(f t:ByteArray)(v:Int):Prop where
 below:Below w.heap.size w W
 b:TBox W w.heap.size S v1 v2
 x:WiBox W (w.heap.size+1) k f t v
theorem cbox_new (w:World)(S:Int)(v1 v2:Value)(k:Int)(f t:ByteArray)(v:Int):CBox w ((w.alloc (Obj.cells #[.int .i64 S,v1,v2] 25)).alloc (Obj.cells #[.int .i64 k,.string f,.string t,.int .i64 v] 125)) S v1 v2 k f t v:=by
 have e1:(w.alloc (Obj.cells #[.int .i64 S,v1,v2] 25)).heap.size=w.heap.size+1:=by simp
 have hb:∀(W:World) (o:Obj),Below W.heap.size W (W.alloc o):=fun W o=>(Below.refl _ _).alloc (Nat.le_refl _) _
 have hn:=(tbox_new w S v1 v2 25).later (hb _ (Obj.cells #[.int .i64 k,.string f,.string t,.int .i64 v] 125));have hB:=((Below.refl w.heap.size w).alloc (Nat.le_refl _) (Obj.cells #[.int .i64 S,v1,v2] 25)).alloc (by rw[e1];omega) (Obj.cells #[.int .i64 k,.string f,.string t,.int .i64 v] 125)
 generalize w.alloc (Obj.cells #[.int .i64 S,v1,v2] 25)=X at e1 hn hB
 have hr:=wibox_new X k f t v 125;rw[e1] at hr;exact⟨hB,hn,hr⟩
theorem CBox.later {w W W':World}{S:Int}{v1 v2:Value}{k:Int}{f t:ByteArray}{v:Int}(h:CBox w W S v1 v2 k f t v)(hb:Below W.heap.size W W'):CBox w W' S v1 v2 k f t v:=
 ⟨h.below.trans (hb.mono h.below.size),h.b.later hb,h.x.later hb⟩
theorem checkOne_any (S:Int)(ao:Option Addr)(n cap:Nat)(ao2:Option Addr)(n2 cap2:Nat)(Hs:HoQ)(k:Int)(f t:ByteArray)(v:Int)(w:World)(hH:GS hstE w (.slice ao2 n2 cap2) Hs):
 Calls Tryz.prog 47 #[.agg #[.int .i64 S,.slice ao n cap,.slice ao2 n2 cap2],.agg #[.int .i64 k,.string f,.string t,.int .i64 v]] w fun e w'=>e=.returned (noV (woN S Hs ⟨k,f,t,v⟩))∧Below w.heap.size w w':=by
 have hX:=cbox_new w S (.slice ao n cap) (.slice ao2 n2 cap2) k f t v;obtain⟨w0,hw0⟩:∃W,(w.alloc (Obj.cells #[.int .i64 S,.slice ao n cap,.slice ao2 n2 cap2] 25)).alloc (Obj.cells #[.int .i64 k,.string f,.string t,.int .i64 v] 125)=W:=⟨_,rfl⟩;rw[hw0] at hX;have HX:Hid (CBox w w0 S (.slice ao n cap) (.slice ao2 n2 cap2) k f t v):=hX;have HW0:Hid ((w.alloc (Obj.cells #[.int .i64 S,.slice ao n cap,.slice ao2 n2 cap2] 25)).alloc (Obj.cells #[.int .i64 k,.string f,.string t,.int .i64 v] 125)=w0):=hw0;have HH:Hid (∀W,Below w.heap.size w W→GS hstE W (.slice ao2 n2 cap2) Hs):=fun W hb=>hH.later hb
 obtain⟨R,hR⟩:∃R,R=woN S Hs ⟨k,f,t,v⟩:=⟨_,rfl⟩;rw[←hR];obtain⟨Q,hQ⟩:∃q,q=(!wkB k || (!viB ⟨k,f,t,v⟩ S || veB ⟨k,f,t,v⟩)):=⟨_,rfl⟩;have HR:Hid (R=if Q then 1 else if k=4 then (if nlB ⟨k,f,t,v⟩ then 0 else 3) else if hoB Hs f&&hoB Hs t then 0 else 5):=by
  show _=_;rw[hR,hQ];rfl
 have HQ:Hid ((!wkB k || (!viB ⟨k,f,t,v⟩ S || veB ⟨k,f,t,v⟩))=Q):=hQ.symm;clear hX hw0 hH hR hQ;go_enter Tryz.func47,Tryz.ntmps47;go_upto_region 1 with fail;rw[HW0.out];obtain⟨_,⟨b0,b1,b2⟩,x0,x1,x2,x3⟩:=HX.out;clear HW0
 go_cut [25] from 5 to 26 (fun c w'=>c=.bool Q∧Below w0.heap.size w0 w')
 case first =>
  go_wp2_with fail
  refine (isWhat_any k _).mono ?_;rintro e w1 ⟨rfl,hb1⟩;obtain⟨WK,hWK⟩:∃q,q=wkB k:=⟨_,rfl⟩;have HQ1:Hid ((!WK || (!viB ⟨k,f,t,v⟩ S || veB ⟨k,f,t,v⟩))=Q):=by
   show _=_;rw[hWK];exact HQ.out
  rw[←hWK];have HB1:Hid (Below w0.heap.size w0 w1):=hb1;have HX1:Hid (CBox w w1 S (.slice ao n cap) (.slice ao2 n2 cap2) k f t v):=HX.out.later hb1;clear hWK hb1 HQ b0 b1 b2 x0 x1 x2 x3;obtain⟨_,⟨b0,b1,b2⟩,x0,x1,x2,x3⟩:=HX1.out;cases WK with
  | false =>
    have hq:=HQ1.out;simp only[Bool.not_false,Bool.true_or] at hq;subst hq
    go_wp2_with fail
    go_meet
    exact⟨rfl,HB1.out⟩
  | true =>
    go_wp2_with fail
    refine (isVia_any k f t v S _).mono ?_;rintro e w2 ⟨rfl,hb2⟩;obtain⟨VI,hVI⟩:∃q,q=viB ⟨k,f,t,v⟩ S:=⟨_,rfl⟩;have HQ2:Hid ((!VI || veB ⟨k,f,t,v⟩)=Q):=by
     show _=_;rw[hVI];have:=HQ1.out;simpa using this
    rw[←hVI];have HB2:Hid (Below w0.heap.size w0 w2):=HB1.out.trans (hb2.mono HB1.out.size);have HX2:Hid (CBox w w2 S (.slice ao n cap) (.slice ao2 n2 cap2) k f t v):=HX1.out.later hb2;clear hVI hb2 HQ1 b0 b1 b2 x0 x1 x2 x3;obtain⟨_,⟨b0,b1,b2⟩,x0,x1,x2,x3⟩:=HX2.out;cases VI with
    | false =>
      have hq:=HQ2.out;simp only[Bool.not_false,Bool.true_or] at hq;subst hq
      go_wp2_with fail
      go_meet
      exact⟨rfl,HB2.out⟩
    | true =>
      by_cases k3:k=3
      ·subst k3;have hq:false=Q:=HQ2.out;subst hq
       go_wp2_with fail
       go_meet
       exact⟨rfl,HB2.out⟩
      have hq:(k != 3&&v != 0)=Q:=HQ2.out;subst hq
      go_wp2_with fail
      go_meet
      exact⟨rfl,HB2.out⟩
 case rest =>
 obtain⟨rfl,hbc⟩:=hcut;have HXc:Hid (CBox w wc S (.slice ao n cap) (.slice ao2 n2 cap2) k f t v):=HX.out.later hbc;clear hbc HX b0 b1 b2 x0 x1 x2 x3;obtain⟨hBc,⟨b0,b1,b2⟩,x0,x1,x2,x3⟩:=HXc.out;have HBc:Hid (Below w.heap.size w wc):=hBc;clear hBc;cases Q with
 | true =>
   have HR1:Hid (R=1):=by
    show _=_;rw[HR.out,if_pos rfl]
   go_wp2;go_ret;exact⟨by rw[HR1.out];rfl,HBc.out⟩
 | false =>
   by_cases k4:k=4
   ·subst k4;obtain⟨NL,hNL⟩:∃q,q=nlB ⟨4,f,t,v⟩:=⟨_,rfl⟩;have HR1:Hid (R=if NL then 0 else 3):=by
     show _=_;rw[HR.out,if_neg (by decide),if_pos rfl,hNL]
    have HNL:Hid (nlB ⟨4,f,t,v⟩=NL):=hNL.symm;clear hNL HR
    go_wp2_with fail
    refine (isNameless_any 4 f t v _).mono ?_;rintro e w2 ⟨rfl,hb2⟩;rw[HNL.out];have HB2:Hid (Below w.heap.size w w2):=HBc.out.trans (hb2.mono HBc.out.size);clear hb2;cases NL with
    | false =>
      go_wp2;go_ret;exact⟨by rw[HR1.out];rfl,HB2.out⟩
    | true =>
      go_wp2;go_ret;exact⟨by rw[HR1.out];rfl,HB2.out⟩
   obtain⟨HF,hHF⟩:∃q,q=hoB Hs f:=⟨_,rfl⟩;obtain⟨HT,hHT⟩:∃q,q=hoB Hs t:=⟨_,rfl⟩;have HR1:Hid (R=if HF&&HT then 0 else 5):=by
    show _=_;rw[HR.out,if_neg (by decide),if_neg k4,hHF,hHT]
   have HHF:Hid (hoB Hs f=HF):=hHF.symm;have HHT:Hid (hoB Hs t=HT):=hHT.symm;clear hHF hHT HR
   go_wp2_with fail
   refine (isHost_any S (.slice ao n cap) ao2 n2 cap2 Hs f _ rfl (HH.out _ HBc.out)).mono ?_;rintro e w2 ⟨rfl,hb2⟩;rw[HHF.out];have HX2:Hid (CBox w w2 S (.slice ao n cap) (.slice ao2 n2 cap2) k f t v):=HXc.out.later hb2;clear hb2 HHF HBc b0 b1 b2 x0 x1 x2 x3;obtain⟨hB2,⟨b0,b1,b2⟩,x0,x1,x2,x3⟩:=HX2.out;have HB2:Hid (Below w.heap.size w w2):=hB2;clear hB2;cases HF with
   | false =>
     go_wp2;go_ret;exact⟨by rw[HR1.out];rfl,HB2.out⟩
   | true =>
     go_wp2_with fail
     refine (isHost_any S (.slice ao n cap) ao2 n2 cap2 Hs t _ rfl (HH.out _ HB2.out)).mono ?_;rintro e w3 ⟨rfl,hb3⟩;rw[HHT.out];have HB3:Hid (Below w.heap.size w w3):=HB2.out.trans (hb3.mono HB2.out.size);clear hb3;cases HT with
     | false =>
       go_wp2;go_ret;exact⟨by rw[HR1.out];rfl,HB3.out⟩
     | true =>
       go_wp2;go_ret;exact⟨by rw[HR1.out];rfl,HB3.out⟩
theorem wcheck_any (S:Int)(ao:Option Addr)(n cap:Nat)(ao2:Option Addr)(n2 cap2:Nat)(a4:Option Addr)(n4 c4:Nat)(Ls:LkQ)(Hs:HoQ)(l:List Wi)(w:World)
 (hL:GS lnkE w (.slice ao n cap) Ls) (hH:GS hstE w (.slice ao2 n2 cap2) Hs) (hl:GS wisE w (.slice a4 n4 c4) l):
 Calls Tryz.prog 27 #[.agg #[.int .i64 S,.slice ao n cap,.slice ao2 n2 cap2],.slice a4 n4 c4] w fun e w'=>e=.returned (noV (wsN S Ls Hs l))∧Below w.heap.size w w':=by
 have hX:=tbox_new w S (.slice ao n cap) (.slice ao2 n2 cap2) 25;have hB0:Below w.heap.size w (w.alloc (Obj.cells #[.int .i64 S,.slice ao n cap,.slice ao2 n2 cap2] 25)):=(Below.refl _ _).alloc (Nat.le_refl _) _;obtain⟨w0,hw0⟩:∃W,w.alloc (Obj.cells #[.int .i64 S,.slice ao n cap,.slice ao2 n2 cap2] 25)=W:=⟨_,rfl⟩;rw[hw0] at hX hB0;have HX:Hid (TBox w0 w.heap.size S (.slice ao n cap) (.slice ao2 n2 cap2)):=hX;have HW0:Hid (w.alloc (Obj.cells #[.int .i64 S,.slice ao n cap,.slice ao2 n2 cap2] 25)=w0):=hw0;have HB0:Hid (Below w.heap.size w w0):=hB0;have HLW:Hid (∀W,Below w.heap.size w W→GS lnkE W (.slice ao n cap) Ls):=fun W hb=>hL.later hb
 have HHW:Hid (∀W,Below w.heap.size w W→GS hstE W (.slice ao2 n2 cap2) Hs):=fun W hb=>hH.later hb
 obtain⟨_,_,_,e5,hGn,hGm,_,hGa⟩:=hl.form;cases e5;have HGN:Hid (l.length=n4):=hGn;have HGA:Hid (0<n4→∃g o,a4=some ⟨g,o,none⟩∧GAt wisE w g o l∧c4≤maxLen):=hGa;obtain⟨R,hR⟩:∃R,R=wsN S Ls Hs l:=⟨_,rfl⟩;have HR:Hid (R=wsN S Ls Hs l):=hR;rw[←hR];have hn4:n4≤maxLen:=hGm;unfold maxLen at hn4;clear hX hB0 hw0 hL hH hl hGn hGm hGa hR;go_enter Tryz.func27,Tryz.ntmps27;go_upto_region 1 with fail;rw[HW0.out];obtain⟨b0,b1,b2⟩:=HX.out;clear HW0
 go_wp2_with fail
 refine (check_any S ao n cap ao2 n2 cap2 Ls Hs _ (HLW.out _ HB0.out) (HHW.out _ HB0.out)).mono ?_;rintro e w1 ⟨rfl,hb1⟩;obtain⟨T,hT⟩:∃T,T=tpN S Ls Hs:=⟨_,rfl⟩;have HT:Hid (T=tpN S Ls Hs):=hT;rw[←hT];have HB1:Hid (Below w.heap.size w w1):=HB0.out.trans (hb1.mono HB0.out.size);have HX1:Hid (TBox w1 w.heap.size S (.slice ao n cap) (.slice ao2 n2 cap2)):=HX.out.later hb1;clear hT hb1 b0 b1 b2 HX;by_cases h0:T=0
 ·have HR1:Hid (R=if 8<l.length then 4 else wsTo S Hs l l.length):=by
   show _=_;rw[HR.out,wsN,if_pos (HT.out.symm.trans h0)]
  subst h0;rw[no_ok rfl];by_cases h8:8<n4
  ·have HR2:Hid (R=4):=by
    show _=_;rw[HR1.out,if_pos (by rw[HGN.out];exact h8)]
   have h8':(8:Int)<(n4:Int):=by omega
   go_wp2;go_ret;exact⟨by rw[HR2.out];rfl,HB1.out⟩
  have HR2:Hid (R=wsTo S Hs l n4):=by
   show _=_;rw[HR1.out,if_neg (by rw[HGN.out];exact h8),HGN.out]
  have h8':¬(8:Int)<(n4:Int):=by omega
  clear HR HR1;go_wp2
  go_loopw [20] (fun i wr=>∃j:Nat,j≤n4∧i=.int .i64 j∧wsTo S Hs l j=0∧Below w1.heap.size w1 wr) (fun i _=>n4-(intOf i).toNat)
  case atStart=>exact⟨0,by omega,rfl,rfl,Below.refl _ _⟩
  case round =>
   obtain⟨j,hj,rfl,hno,hB⟩:=hrel;have HB:Hid (Below w1.heap.size w1 wr):=hB;have HBw:Hid (Below w.heap.size w wr):=HB1.out.trans (hB.mono HB1.out.size);have HNO:Hid (wsTo S Hs l j=0):=hno;have HXr:Hid (TBox wr w.heap.size S (.slice ao n cap) (.slice ao2 n2 cap2)):=HX1.out.later hB;clear hno hB;by_cases hlt:j<n4
   ·obtain⟨g,o,hao,hc,_⟩:=HGA.out (by omega);subst hao;obtain⟨y0,y1,y2,y3,hkl,hLk,q0,q1,q2,q3⟩:=wis_at (hc.later HBw.out) HGN.out hlt;obtain⟨N,hN⟩:∃q,q=woN S Hs ⟨y0,y1,y2,y3⟩:=⟨_,rfl⟩;have HN:Hid (woN S Hs ⟨y0,y1,y2,y3⟩=N):=hN.symm;have HST:Hid (wsTo S Hs l (j+1)=N):=by
     show _=_;rw[wsTo,if_pos HNO.out,getW hkl,hLk,←hN]
    have hba:Below wr.heap.size wr (wr.alloc (Obj.cells #[.int .i64 y0,Value.string y1,Value.string y2,.int .i64 y3] 125)):=(Below.refl _ _).alloc (Nat.le_refl _) _;have HBA:Hid (Below wr.heap.size wr (wr.alloc (Obj.cells #[.int .i64 y0,Value.string y1,Value.string y2,.int .i64 y3] 125))):=hba;obtain⟨b0,b1,b2⟩:=HXr.out;have hlw:w.heap.size<wr.heap.size:=bLQ _ _ b0;clear hc hLk hN hba
    go_wp2_with fail
    refine (checkOne_any S ao n cap ao2 n2 cap2 Hs y0 y1 y2 y3 _ (HHW.out _ (HBw.out.trans (HBA.out.mono HBw.out.size)))).mono ?_;rintro e w3 ⟨rfl,hb3⟩;rw[HN.out];have HB3:Hid (Below w1.heap.size w1 w3):=(HB.out.trans (HBA.out.mono HB.out.size)).trans (hb3.mono (HB.out.trans (HBA.out.mono HB.out.size)).size);clear hb3 HBA b0 b1 b2 q0 q1 q2 q3 hlw HXr HB;by_cases hN0:N=0
    ·subst hN0;rw[no_ok rfl];go_wp2;go_roundw
     case rel=>exact⟨j+1,by omega,by go_num,HST.out,HB3.out⟩
     case measure=>simp[intOf];omega
    rw[no_ne hN0];have HR3:Hid (R=N):=by
     show _=_;rw[HR2.out,ws_le (k:=j+1) (by rw[HST.out];exact hN0) (by omega),HST.out]
    have HNN:Hid (N≠0):=hN0;clear hN0;go_wp2;go_ret;exact⟨by rw[HR3.out,no_ne HNN.out];rfl,HB1.out.trans (HB3.out.mono HB1.out.size)⟩
   obtain rfl:j=n4:=by omega
   have HR3:Hid (R=0):=by
    show _=_;rw[HR2.out,HNO.out]
   go_wp2;go_ret;exact⟨by rw[HR3.out,no_ok rfl];rfl,HBw.out⟩
 rw[no_ne h0];have HR1:Hid (R=T):=by
  show _=_;rw[HR.out,wsN,if_neg (by rw[←HT.out];exact h0),HT.out]
 have HNN:Hid (T≠0):=h0;clear h0;go_wp2;go_ret;exact⟨by rw[HR1.out,no_ne HNN.out];rfl,HB1.out⟩
abbrev LkT:Type:=(Int×Int)×(Int×Int)
abbrev HoT:Type:=ByteArray×(Int×Int)
structure NI (W:World)(v1 v2 v3:Value)(Ls:List LkT)(Hs:List HoT)(Ts:List (List Ru)):Prop where
 l:GS lnkE W v1 Ls
 h:GS hstE W v2 Hs
 t:TS W v3 Ts
theorem NI.later {W W':World}{v1 v2 v3:Value}{Ls:List LkT}{Hs:List HoT}{Ts:List (List Ru)}(h:NI W v1 v2 v3 Ls Hs Ts)(hb:Below W.heap.size W W'):NI W' v1 v2 v3 Ls Hs Ts:=⟨h.l.later hb,h.h.later hb,h.t.later hb⟩
theorem NI.form {W:World}{v1 v2 v3:Value}{Ls:List LkT}{Hs:List HoT}{Ts:List (List Ru)}(h:NI W v1 v2 v3 Ls Hs Ts):∃ao n cap ao2 n2 cap2 ao3 n3 cap3,v1=.slice ao n cap∧v2=.slice ao2 n2 cap2∧v3=.slice ao3 n3 cap3:=by
 obtain⟨ao,n,cap,e,_⟩:=h.l.form;obtain⟨ao2,n2,cap2,e2,_⟩:=h.h.form
 rcases h.t with ⟨ao3,cap3,e3,_⟩ | ⟨g,o,cap3,e3,_⟩
 ·exact⟨ao,n,cap,ao2,n2,cap2,ao3,_,cap3,e,e2,e3⟩
 exact⟨ao,n,cap,ao2,n2,cap2,_,_,cap3,e,e2,e3⟩
theorem ni_bn {W:World}{v1 v2 v3:Value}{Ls:List LkT}{Hs:List HoT}{Ts:List (List Ru)}(h:NI W v1 v2 v3 Ls Hs Ts)(S:Int)(t:TypeId):BN (W.alloc (Obj.cells #[.int .i64 S,v1,v2,v3] t)) W.heap.size S v1 v2 v3 Ls Hs Ts:=bn_new t h.l h.h h.t
def pdN (S:Int)(Ls:List LkT)(Hs:List HoT)(Ts:List (List Ru))(S':Int)(Ls':List LkT)(Hs':List HoT)(Ts':List (List Ru))(ws:List Wi):Int:=if diN S Ls Hs Ts S' Ls' Hs' Ts'=0 then wsN S Ls Hs ws else diN S Ls Hs Ts S' Ls' Hs' Ts'
def pdL (S:Int)(Ls:List LkT)(Hs:List HoT)(Ts:List (List Ru))(S':Int)(Ls':List LkT)(Hs':List HoT)(Ts':List (List Ru))(ws:List Wi):List Op8:=if pdN S Ls Hs Ts S' Ls' Hs' Ts' ws=0 then diL S Ls Hs Ts S' Ls' Hs' Ts' else []
theorem pdiff_any (S:Int)(v1 v2 v3:Value)(S':Int)(u1 u2 u3 v4:Value)(Ls:List LkT)(Hs:List HoT)(Ts:List (List Ru))(Ls':List LkT)(Hs':List HoT)(Ts':List (List Ru))(ws:List Wi)(w:World)
 (hN:NI w v1 v2 v3 Ls Hs Ts) (hM:NI w u1 u2 u3 Ls' Hs' Ts') (hw:GS wisE w v4 ws):
 Calls Tryz.prog 13 #[.agg #[.int .i64 S,v1,v2,v3],.agg #[.int .i64 S',u1,u2,u3],v4] w fun e w'=>∃v,e=.returned (.tuple #[v,noV (pdN S Ls Hs Ts S' Ls' Hs' Ts' ws)])∧NO w' w.heap.size v (pdL S Ls Hs Ts S' Ls' Hs' Ts' ws)∧Below w.heap.size w w':=by
 obtain⟨ao,n,cap,ao2,n2,cap2,ao3,n3,cap3,rfl,rfl,rfl⟩:=hN.form;obtain⟨bo,m,dap,bo2,m2,dap2,bo3,m3,dap3,rfl,rfl,rfl⟩:=hM.form;obtain⟨a4,n4,c4,rfl,_⟩:=hw.form;obtain⟨w1,hw1⟩:∃W,W=(w.alloc (Obj.cells #[.int .i64 S,.slice ao n cap,.slice ao2 n2 cap2,.slice ao3 n3 cap3] 28)).alloc (Obj.cells #[.int .i64 S',.slice bo m dap,.slice bo2 m2 dap2,.slice bo3 m3 dap3] 28):=⟨_,rfl⟩;have hb1:Below w.heap.size w w1:=by rw[hw1];exact ((Below.refl _ _).alloc (Nat.le_refl _) _).alloc (by simp) _
 have hbx:NN w1 w.heap.size S (.slice ao n cap) (.slice ao2 n2 cap2) (.slice ao3 n3 cap3) S' (.slice bo m dap) (.slice bo2 m2 dap2) (.slice bo3 m3 dap3):=by rw[hw1];exact nn_new w S _ _ _ S' _ _ _ 28
 have HNW:Hid (∀W,Below w1.heap.size w1 W→NI W (.slice ao n cap) (.slice ao2 n2 cap2) (.slice ao3 n3 cap3) Ls Hs Ts∧NI W (.slice bo m dap) (.slice bo2 m2 dap2) (.slice bo3 m3 dap3) Ls' Hs' Ts'∧GS wisE W (.slice a4 n4 c4) ws):=fun W h=>⟨(hN.later hb1).later h,(hM.later hb1).later h,(hw.later hb1).later h⟩
 have HBX:Hid (NeBox w1 w.heap.size S (.slice ao n cap) (.slice ao2 n2 cap2) (.slice ao3 n3 cap3)):=hbx.1;have HB1:Hid (Below w.heap.size w w1):=hb1;have HW1:Hid (w1=(w.alloc (Obj.cells #[.int .i64 S,.slice ao n cap,.slice ao2 n2 cap2,.slice ao3 n3 cap3] 28)).alloc (Obj.cells #[.int .i64 S',.slice bo m dap,.slice bo2 m2 dap2,.slice bo3 m3 dap3] 28)):=hw1;obtain⟨X,hX⟩:∃q,q=diN S Ls Hs Ts S' Ls' Hs' Ts':=⟨_,rfl⟩;have HX:Hid (diN S Ls Hs Ts S' Ls' Hs' Ts'=X):=hX.symm;obtain⟨U,hU⟩:∃q,q=wsN S Ls Hs ws:=⟨_,rfl⟩;have HU:Hid (wsN S Ls Hs ws=U):=hU.symm;obtain⟨E,hE⟩:∃q,q=pdN S Ls Hs Ts S' Ls' Hs' Ts' ws:=⟨_,rfl⟩;have HE:Hid (E=if X=0 then U else X):=by rw[hE,pdN,hX,hU];exact rfl
 have HPL:Hid (pdL S Ls Hs Ts S' Ls' Hs' Ts' ws=if E=0 then diL S Ls Hs Ts S' Ls' Hs' Ts' else []):=by rw[hE];exact rfl
 rw[←hE];clear hN hM hw hb1 hbx hw1 hX hU hE;go_enter Tryz.func13,Tryz.ntmps13
 go_wp2_with fail
 rw[←HW1.out];refine (chDiff_any S ao n cap ao2 n2 cap2 ao3 n3 cap3 S' bo m dap bo2 m2 dap2 bo3 m3 dap3 Ls Hs Ts Ls' Hs' Ts' w1 (HNW.out _ (Below.refl _ _)).1.l (HNW.out _ (Below.refl _ _)).1.h (HNW.out _ (Below.refl _ _)).1.t (HNW.out _ (Below.refl _ _)).2.1.l (HNW.out _ (Below.refl _ _)).2.1.h (HNW.out _ (Below.refl _ _)).2.1.t).mono ?_;rintro e w2 ⟨v,rfl,hNO,hb2⟩;rw[HX.out];have HB2:Hid (Below w1.heap.size w1 w2):=hb2;have HNO:Hid (∀W,Below w2.heap.size w2 W→NO W w.heap.size v (diL S Ls Hs Ts S' Ls' Hs' Ts')):=fun W h=>(hNO.later h).mono HB1.out.size
 obtain⟨b0,b1,b2,b3⟩:=HBX.out.later hb2;clear hNO hb2 HW1 HBX;by_cases hX0:X=0
 ·subst hX0;rw[no_ok rfl];have hEU:E=U:=HE.out.trans (if_pos rfl);subst hEU
  go_wp2_with fail
  refine (wcheck_any S ao n cap ao2 n2 cap2 a4 n4 c4 Ls Hs ws w2 (HNW.out _ HB2.out).1.l (HNW.out _ HB2.out).1.h (HNW.out _ HB2.out).2.2).mono ?_;rintro e w3 ⟨rfl,hb3⟩;rw[HU.out];have HB3:Hid (Below w2.heap.size w2 w3):=hb3;have HBW:Hid (Below w.heap.size w w3):=HB1.out.trans ((HB2.out.trans (hb3.mono HB2.out.size)).mono HB1.out.size);clear hb3 b0 b1 b2 b3;by_cases hE0:E=0
  ·have HL:Hid (pdL S Ls Hs Ts S' Ls' Hs' Ts' ws=diL S Ls Hs Ts S' Ls' Hs' Ts'):=HPL.out.trans (if_pos hE0);have HE0:Hid (E=0):=hE0;rw[no_ok hE0];clear hE0;go_wp2;refine bodyPost_ret (v:=.tuple #[v,.nilIface]) (by simp[results,Tryz.results13,go_sem, *]) rfl ⟨v,by rw[no_ok HE0.out],by rw[HL.out];exact HNO.out _ HB3.out,HBW.out⟩
  have HL:Hid (pdL S Ls Hs Ts S' Ls' Hs' Ts' ws=[]):=HPL.out.trans (if_neg hE0);have HE0:Hid (E≠0):=hE0;rw[no_ne hE0];clear hE0;go_wp2;refine bodyPost_ret (v:=.tuple #[.slice none 0 0,.iface 63 (.int .i64 E)]) (by simp[results,Tryz.results13,go_sem, *]) rfl ⟨.slice none 0 0,by rw[no_ne HE0.out],by rw[HL.out];exact NO.nil _ _,HBW.out⟩
 have hEX:E=X:=HE.out.trans (if_neg hX0);subst hEX;have HL:Hid (pdL S Ls Hs Ts S' Ls' Hs' Ts' ws=[]):=HPL.out.trans (if_neg hX0);have HE0:Hid (E≠0):=hX0;have HBW:Hid (Below w.heap.size w w2):=HB1.out.trans (HB2.out.mono HB1.out.size);rw[no_ne hX0];clear hX0;go_wp2;refine bodyPost_ret (v:=.tuple #[.slice none 0 0,.iface 63 (.int .i64 E)]) (by simp[results,Tryz.results13,go_sem, *]) rfl ⟨.slice none 0 0,by rw[no_ne HE0.out],by rw[HL.out];exact NO.nil _ _,HBW.out⟩
def inS (s a:Nat):Bool:=s.testBit (6-a)
def onS (a:Nat):Nat:=2 ^ (6-a)
def mnS (s t:Nat):Nat:=s &&& (63 ^^^ t)
theorem in_or (s t a:Nat):inS (s ||| t) a=(inS s a || inS t a):=Nat.testBit_or ..
theorem in_on {a b:Nat}(ha:a≤6)(hb:b≤6):inS (onS b) a=decide (a=b):=by
 rw[inS,onS,Nat.testBit_two_pow];by_cases h:a=b
 ·rw[h];simp
 rw[decide_eq_false h,decide_eq_false (by omega)]
theorem in_mn {s t a:Nat}(h1:1≤a)(h2:a≤6):inS (mnS s t) a=(inS s a && !inS t a):=by
 have e:(63:Nat).testBit (6-a)=true:=by
  have:∀k:Fin 6,(63:Nat).testBit k=true:=by decide
  exact this ⟨6-a,by omega⟩
 rw[mnS,inS,Nat.testBit_and,Nat.testBit_xor,e,Bool.true_xor];rfl
theorem in_0 (a:Nat):inS 0 a=false:=Nat.zero_testBit _
theorem or_lt {s t:Nat}(hs:s<64)(ht:t<64):s ||| t<64:=Nat.or_lt_two_pow (n:=6) hs ht
theorem mn_lt {s t:Nat}(hs:s<64):mnS s t<64:=Nat.lt_of_le_of_lt Nat.and_le_left hs
theorem on_lt {a:Nat}(h:1≤a):onS a<64:=by
 have:onS a≤2 ^ 5:=Nat.pow_le_pow_right (by decide) (by omega);omega
theorem set_ext {s t:Nat}(hs:s<64)(ht:t<64)(h:∀a,1≤a→a≤6→inS s a=inS t a):s=t:=by
 apply Nat.eq_of_testBit_eq
 intro i;by_cases hi:i<6
 ·have:=h (6-i) (by omega) (by omega);unfold inS at this
  rwa [show 6-(6-i)=i by omega] at this
 have two:(2:Nat) ^ 6≤2 ^ i:=Nat.pow_le_pow_right (by decide) (by omega);rw[Nat.testBit_lt_two_pow (by omega),Nat.testBit_lt_two_pow (by omega)]
theorem set_0 {s:Nat}(hs:s<64)(h:∀a,1≤a→a≤6→inS s a=false):s=0:=set_ext hs (by decide) fun a h1 h2=>by rw[h a h1 h2,in_0]
theorem set_some {s:Nat}(hs:s<64)(h:s≠0):∃a,1≤a∧a≤6∧inS s a=true:=by
 by_cases hx:∃a,1≤a∧a≤6∧inS s a=true
 ·exact hx
 exact absurd (set_0 hs fun a h1 h2=>by
  cases e:inS s a
  ·rfl
  exact absurd ⟨a,h1,h2,e⟩ hx) h
theorem on_sub {s a:Nat}(h1:1≤a)(h2:a≤6):(mnS (onS a) s=0)↔inS s a=true:=by
 constructor
 ·intro h;have:=in_mn (s:=onS a) (t:=s) h1 h2;rw[h,in_0,in_on h2 h2] at this;simpa using this.symm
 intro h;refine set_0 (mn_lt (on_lt h1)) fun b k1 k2=>?_
 rw[in_mn k1 k2,in_on k2 h2];by_cases e:b=a
 ·subst e;rw[h];simp
 simp[e]
def opA (D:List Op8)(a:Int):List Op8:=D.filter fun o=>o.w==a
def rnTo (D:List Op8)(s:Nat):Nat→List Op8
 | 0=>[]
 | k+1=>rnTo D s k++(if inS s (k+1)=true then opA D ((k+1:Nat):Int) else [])
def rnL (D:List Op8)(s:Nat):List Op8:=rnTo D s 6
def bkL (As Bs:List (List Ru))(k:Nat):List Op8:=ofS ((k+1:Nat):Int) (dfL (As.getD k []) (Bs.getD k []))
theorem cd_succ (As Bs:List (List Ru))(k:Nat):cdL As Bs (k+1)=cdL As Bs k++bkL As Bs k:=by rw[cdL,bkL];rfl
theorem bk_w {As Bs:List (List Ru)}{k:Nat}:∀o∈bkL As Bs k,o.w=((k+1:Nat):Int):=by
 intro o ho;unfold bkL ofS at ho;obtain⟨x,_,rfl⟩:=List.mem_map.1 ho;rfl
theorem cd_w {As Bs:List (List Ru)}:∀{n:Nat},∀o∈cdL As Bs n,1≤o.w∧o.w≤(n:Int)
 | 0,o,ho=>by cases ho
 | n+1,o,ho=>by
   rw[cd_succ,List.mem_append] at ho
   rcases ho with ho | ho
   ·have:=cd_w o ho;omega
   have:=bk_w o ho;omega
theorem fil_bk (As Bs:List (List Ru))(k:Nat)(p:Int→Bool):(bkL As Bs k).filter (fun o=>p o.w)=if p ((k+1:Nat):Int)=true then bkL As Bs k else []:=by
 by_cases h:p ((k+1:Nat):Int)=true
 ·rw[if_pos h];exact List.filter_eq_self.2 fun o ho=>by rw[bk_w o ho];exact h
 rw[if_neg h];exact List.filter_eq_nil_iff.2 fun o ho=>by rw[bk_w o ho];exact h
theorem opA_cd (As Bs:List (List Ru))(k:Nat):∀n:Nat,opA (cdL As Bs n) ((k+1:Nat):Int)=if k<n then bkL As Bs k else []
 | 0=>rfl
 | n+1=>by
   have h:=opA_cd As Bs k n;unfold opA at h ⊢;rw[cd_succ,List.filter_append,h,fil_bk As Bs n (fun x=>x==((k+1:Nat):Int))];by_cases e:n=k
   ·subst e;simp
   have e2:(((n+1:Nat):Int)==((k+1:Nat):Int))=false:=by
    rw[beq_eq_false_iff_ne];omega
   rw[e2];by_cases h1:k<n
   ·simp[h1,show k<n+1 by omega]
   simp[h1,show ¬k<n+1 by omega]
theorem rd_cd (As Bs:List (List Ru))(n s:Nat):∀k,rnTo (cdL As Bs n) s (k+1)=rnTo (cdL As Bs n) s k++(if inS s (k+1)=true∧k<n then bkL As Bs k else []):=by
 intro k;rw[rnTo,opA_cd];by_cases h1:inS s (k+1)=true
 ·by_cases h2:k<n
  ·simp[h1,h2]
  simp[h1,h2]
 simp[h1]
theorem of_rd {As Bs:List (List Ru)}{n s:Nat}{p:Int→Bool}(hn:n≤6)(hp:∀a:Nat,1≤a→a≤6→p (a:Int)=inS s a):(cdL As Bs n).filter (fun o=>p o.w)=rnL (cdL As Bs n) s:=by
 have h1:∀k,k≤n→(cdL As Bs k).filter (fun o=>p o.w)=rnTo (cdL As Bs n) s k:=by
  intro k
  induction k with
  | zero=>intro _;rfl
  | succ k ih =>
    intro hk;rw[cd_succ,List.filter_append,ih (by omega),fil_bk,rd_cd,hp (k+1) (by omega) (by omega)];by_cases h:inS s (k+1)=true
    ·simp[h,show k<n by omega]
    simp[h]
 have h2:∀k,n≤k→rnTo (cdL As Bs n) s k=rnTo (cdL As Bs n) s n:=by
  intro k hk
  induction k with
  | zero=>rw[show n=0 by omega]
  | succ k ih =>
    by_cases e:n=k+1
    ·rw[e]
    rw[rd_cd,ih (by omega)];simp[show ¬k<n by omega]
 rw[h1 n (Nat.le_refl _),rnL,h2 6 hn]
def nwT (As Bs:List (List Ru))(s:Nat):List (List Ru):=(List.range As.length).map fun k=>if inS s (k+1)=true then alL (As.getD k []) (dfL (As.getD k []) (Bs.getD k [])) else As.getD k []
theorem nw_len (As Bs:List (List Ru))(s:Nat):(nwT As Bs s).length=As.length:=by simp[nwT]
theorem nw_get {As Bs:List (List Ru)}{s k:Nat}(h:k<As.length):(nwT As Bs s).getD k []=if inS s (k+1)=true then alL (As.getD k []) (dfL (As.getD k []) (Bs.getD k [])) else As.getD k []:=by
 simp[nwT,List.getD,h]
theorem nw_0 (As Bs:List (List Ru)):nwT As Bs 0=As:=by
 refine List.ext_getElem (by rw[nw_len]) fun k h1 h2=>?_
 simp[nwT,in_0,h2]
theorem ca_rd {S:Int}{As Bs:List (List Ru)}(hS:(As.length:Int)=S)(h6:As.length≤6)(ht:∀j,j<As.length→twN (As.getD j []) (Bs.getD j [])=0){s t:Nat}(hd:∀a,1≤a→a≤6→inS t a=true→inS s a=false):
 ∀k,k≤As.length→caN S (nwT As Bs s) (rnTo (cdL As Bs As.length) t k)=0∧∀j,(caT (nwT As Bs s) (rnTo (cdL As Bs As.length) t k)).getD j []=if j<k then (nwT As Bs (s ||| t)).getD j [] else (nwT As Bs s).getD j []:=by
 intro k
 induction k with
 | zero=>intro _;exact⟨rfl,fun j=>by simp[rnTo,caT]⟩
 | succ k ih =>
   intro hk;obtain⟨i1,i2⟩:=ih (by omega);rw[rd_cd];by_cases h:inS t (k+1)=true
   ·rw[if_pos ⟨h,by omega⟩];have hsk:inS s (k+1)=false:=hd (k+1) (by omega) (by omega) h;have hlen:((caT (nwT As Bs s) (rnTo (cdL As Bs As.length) t k)).length:Int)=S:=by rw[ca_len,nw_len];exact hS
    have hta:taT (caT (nwT As Bs s) (rnTo (cdL As Bs As.length) t k)) ((k+1:Nat):Int)=As.getD k []:=by
     unfold taT;rw[show (((k+1:Nat):Int)-1).toNat=k by omega,i2 k,if_neg (by omega),nw_get (by omega),if_neg (by rw[hsk];decide)]
    have hal:alN (As.getD k []) (dfL (As.getD k []) (Bs.getD k []))=0:=(al_diff (ht k (by omega))).1;have hsw:swB S ((k+1:Nat):Int)=true:=by simp[swB];omega
    obtain⟨c1,c2⟩:=ca_of hsw (l:=dfL (As.getD k []) (Bs.getD k [])) hlen (by rw[hta];exact hal);refine⟨by rw[ca_app,if_pos i1];exact c1,fun j=>?_⟩;rw[cj_app,bkL,c2,hta,show (((k+1:Nat):Int)-1).toNat=k by omega,getD_set,ca_len,nw_len];by_cases e:j=k
    ·subst e;rw[if_pos ⟨rfl,by omega⟩,if_pos (by omega),nw_get (by omega),if_pos (by rw[in_or,h];simp)]
    rw[if_neg (fun x=>e x.1),i2 j];by_cases h3:j<k
    ·rw[if_pos h3,if_pos (by omega)]
    rw[if_neg h3,if_neg (by omega)]
   rw[if_neg (fun x=>h x.1),List.append_nil];refine⟨i1,fun j=>?_⟩;rw[i2 j];by_cases e:j=k
   ·subst e;rw[if_neg (by omega),if_pos (by omega),nw_get (by omega),nw_get (by omega),in_or];simp only[Bool.not_eq_true] at h;rw[h,Bool.or_false]
   by_cases h3:j<k
   ·rw[if_pos h3,if_pos (by omega)]
   rw[if_neg h3,if_neg (by omega)]
section
variable (sf:Nat→Nat→Bool)(all:Nat)
def fiS (done:Nat):Nat→Nat
 | 0=>0
 | k+1=>if (inS (mnS all done) (k+1)&&sf done (fiS done k ||| onS (k+1)))=true then fiS done k ||| onS (k+1) else fiS done k
theorem fi_lt (done:Nat):∀k,fiS sf all done k<64
 | 0=>by simp[fiS]
 | k+1=>by
   rw[fiS];by_cases h:(inS (mnS all done) (k+1)&&sf done (fiS sf all done k ||| onS (k+1)))=true
   ·rw[if_pos h];exact or_lt (fi_lt done k) (on_lt (by omega))
   rw[if_neg h];exact fi_lt done k
theorem fi_in (done:Nat):∀k,k≤6→∀a,1≤a→a≤6→inS (fiS sf all done k) a=true→inS (mnS all done) a=true∧a≤k
 | 0,_,a,_,_,h=>by rw[fiS,in_0] at h;cases h
 | k+1,hk,a,h1,h2,h=>by
   rw[fiS] at h;by_cases c:(inS (mnS all done) (k+1)&&sf done (fiS sf all done k ||| onS (k+1)))=true
   ·rw[if_pos c,in_or,in_on h2 hk] at h;by_cases e:a=k+1
    ·subst e;simp only[Bool.and_eq_true] at c;exact⟨c.1,Nat.le_refl _⟩
    have:=fi_in done k (by omega) a h1 h2 (by simpa[e] using h);exact⟨this.1,by omega⟩
   rw[if_neg c] at h;have:=fi_in done k (by omega) a h1 h2 h;exact⟨this.1,by omega⟩
theorem fi_safe (done:Nat):∀k,fiS sf all done k=0∨sf done (fiS sf all done k)=true
 | 0=>.inl rfl
 | k+1=>by
   rw[fiS];by_cases c:(inS (mnS all done) (k+1)&&sf done (fiS sf all done k ||| onS (k+1)))=true
   ·rw[if_pos c];simp only[Bool.and_eq_true] at c;exact .inr c.2
   rw[if_neg c];exact fi_safe done k
def roO (nx:Nat→Nat):Nat→Nat→Option (List Nat)
 | 0,done=>if done=all then some [] else none
 | n+1,done=>if done=all then some [] else if nx done=0 then none else (roO nx n (done ||| nx done)).map (nx done :: ·)
end
def lfN (all done:Nat):Nat:=((List.range 6).filter fun k=>inS (mnS all done) (k+1)).length
theorem lf_le (all done:Nat):lfN all done≤6:=Nat.le_trans (List.length_filter_le _ _) (by simp)
theorem fil_lt {α:Type}{p q:α→Bool}:∀{l:List α} {a:α},(∀x,q x=true→p x=true)→a∈l→p a=true→q a=false→(l.filter q).length<(l.filter p).length
 | x :: l,a,h,ha,h1,h2=>by
   have hle:∀l:List α,(l.filter q).length≤(l.filter p).length:=by
    intro l
    induction l with
    | nil=>exact Nat.le_refl _
    | cons y l ih =>
      rw[List.filter_cons,List.filter_cons];cases hq:q y
      ·cases hp:p y
       ·simpa using ih
       simp;omega
      simp[h y hq];exact ih
   rw[List.filter_cons,List.filter_cons]
   rcases List.mem_cons.1 ha with e | e
   ·subst e;rw[h1,h2];have:=hle l;simp;omega
   have:=fil_lt h e h1 h2;cases hq:q x
   ·cases hp:p x
    ·simpa using this
    simp;omega
   simp[h x hq];exact this
theorem lf_less {all done s:Nat}(hs:s<64)(h0:s≠0)(hsub:∀a,1≤a→a≤6→inS s a=true→inS (mnS all done) a=true):lfN all (done ||| s)<lfN all done:=by
 obtain⟨a,h1,h2,h3⟩:=set_some hs h0;have hin:=hsub a h1 h2 h3;unfold lfN;obtain⟨k,rfl⟩:∃k,a=k+1:=⟨a-1,by omega⟩;have e:∀k,k∈List.range 6→inS (mnS all (done ||| s)) (k+1)=(inS (mnS all done) (k+1) && !inS s (k+1)):=fun k hk=>by
  have:=List.mem_range.1 hk;rw[in_mn (by omega) (by omega),in_mn (by omega) (by omega),in_or];cases inS all (k+1) <;> cases inS done (k+1) <;> cases inS s (k+1) <;> rfl
 rw[List.filter_congr e];exact fil_lt (a:=k) (fun x hx=>by simp only[Bool.and_eq_true] at hx;exact hx.1) (List.mem_range.2 (by omega)) hin (by rw[h3];simp)
def NxOK (all:Nat)(nx:Nat→Nat):Prop:=∀done,nx done<64∧∀a,1≤a→a≤6→inS (nx done) a=true→inS (mnS all done) a=true
theorem nx_fi (sf:Nat→Nat→Bool)(all:Nat):NxOK all fun done=>fiS sf all done 6:=fun done=>⟨fi_lt sf all done 6,fun a h1 h2 h=>(fi_in sf all done 6 (Nat.le_refl _) a h1 h2 h).1⟩
theorem lf_0 {all done:Nat}(ha:all<64)(hd:done<64)(hs:∀a,1≤a→a≤6→inS done a=true→inS all a=true)(h:lfN all done=0):done=all:=by
 refine set_ext hd ha fun a h1 h2=>?_
 have hn:=List.length_eq_zero_iff.1 h;rw[List.filter_eq_nil_iff] at hn;have:=hn (a-1) (List.mem_range.2 (by omega));rw[show a-1+1=a by omega,in_mn h1 h2] at this;cases e1:inS done a
 ·cases e2:inS all a
  ·rfl
  rw[e1,e2] at this;simp at this
 exact (hs a h1 h2 e1).symm
theorem ro_more {all:Nat}{nx:Nat→Nat}(hx:NxOK all nx)(ha:all<64):∀(n m done:Nat),done<64→(∀a,1≤a→a≤6→inS done a=true→inS all a=true)→lfN all done≤n→lfN all done≤m→roO all nx n done=roO all nx m done
 | 0,m,done,hd,hs,hn,hm=>by
   have e:=lf_0 ha hd hs (by omega);cases m <;> simp[roO,e]
 | n+1,0,done,hd,hs,hn,hm=>by
   have e:=lf_0 ha hd hs (by omega);simp[roO,e]
 | n+1,m+1,done,hd,hs,hn,hm=>by
   rw[roO,roO];by_cases e:done=all
   ·rw[if_pos e,if_pos e]
   rw[if_neg e,if_neg e];by_cases e0:nx done=0
   ·rw[if_pos e0,if_pos e0]
   rw[if_neg e0,if_neg e0];have hl:=lf_less (hx done).1 e0 (hx done).2;rw[ro_more hx ha n m (done ||| nx done) (or_lt hd (hx done).1) (fun a h1 h2 h=>by
    rw[in_or] at h;by_cases e1:inS done a=true
    ·exact hs a h1 h2 e1
    have:=(hx done).2 a h1 h2 (by simpa[e1] using h);rw[in_mn h1 h2] at this;simp only[Bool.and_eq_true] at this;exact this.1) (by omega) (by omega)]
def roA (all:Nat)(nx:Nat→Nat)(done:Nat):Option (List Nat):=roO all nx 6 done
theorem ro_end {all:Nat}(nx:Nat→Nat):roA all nx all=some []:=by simp[roA,roO]
theorem ro_none {all done:Nat}{nx:Nat→Nat}(h:done≠all)(h0:nx done=0):roA all nx done=none:=by simp[roA,roO,h,h0]
theorem ro_step {all done:Nat}{nx:Nat→Nat}(hx:NxOK all nx)(ha:all<64)(hd:done<64)(hs:∀a,1≤a→a≤6→inS done a=true→inS all a=true)(h:done≠all)(h0:nx done≠0):roA all nx done=(roA all nx (done ||| nx done)).map (nx done :: ·):=by
 have hl:=lf_less (hx done).1 h0 (hx done).2;have h6:=lf_le all done;have hs':∀a,1≤a→a≤6→inS (done ||| nx done) a=true→inS all a=true:=fun a h1 h2 h=>by
  rw[in_or] at h;by_cases e1:inS done a=true
  ·exact hs a h1 h2 e1
  have:=(hx done).2 a h1 h2 (by simpa[e1] using h);rw[in_mn h1 h2] at this;simp only[Bool.and_eq_true] at this;exact this.1
 rw[roA,roO,if_neg h,if_neg h0,roA,ro_more hx ha 5 6 _ (or_lt hd (hx done).1) hs' (by omega) (by omega)]
theorem ret_num {k:IntKind}{a b:Int}(h:a=b):Ending.returned (.int k a)=.returned (.int k b):=by rw[h]
theorem or_fin:∀s t:Fin 64,bits .or .i64 ((s:Nat):Int) ((t:Nat):Int)=(((s:Nat) ||| (t:Nat):Nat):Int):=by decide +kernel
theorem mn_fin:∀s t:Fin 64,bits .andNot .i64 ((s:Nat):Int) ((t:Nat):Int)=((mnS (s:Nat) (t:Nat):Nat):Int):=by decide +kernel
theorem and_fin:∀s t:Fin 64,bits .and .i64 ((s:Nat):Int) ((t:Nat):Int)=(((s:Nat) &&& (t:Nat):Nat):Int):=by decide +kernel
theorem bits_or {s t:Nat}(hs:s<64)(ht:t<64):bits .or .i64 (s:Int) (t:Int)=((s ||| t:Nat):Int):=or_fin ⟨s,hs⟩ ⟨t,ht⟩
theorem bits_mn {s t:Nat}(hs:s<64)(ht:t<64):bits .andNot .i64 (s:Int) (t:Int)=((mnS s t:Nat):Int):=mn_fin ⟨s,hs⟩ ⟨t,ht⟩
theorem bits_and {s t:Nat}(hs:s<64)(ht:t<64):bits .and .i64 (s:Int) (t:Int)=((s &&& t:Nat):Int):=and_fin ⟨s,hs⟩ ⟨t,ht⟩
theorem only_any (a:Nat)(w:World)(h1:1≤a)(h2:a≤6):
 Calls Tryz.prog 23 #[.int .i64 (a:Int)] w fun e w'=>e=.returned (.int .i64 (onS a:Int))∧w'=w:=by
 have h0:0≤(a:Int):=by omega
 have h3:(a:Int)≤6:=by omega
 go_enter Tryz.func23,Tryz.ntmps23;go_wp2;go_ret;refine⟨ret_num ?_,rfl⟩
 rcases (by omega:a=1∨a=2∨a=3∨a=4∨a=5∨a=6) with rfl | rfl | rfl | rfl | rfl | rfl <;> decide +kernel
theorem setHas_any (s x:Nat)(w:World)(hs:s<64)(hx:x<64):
 Calls Tryz.prog 25 #[.int .i64 (s:Int),.int .i64 (x:Int)] w fun e w'=>e=.returned (.bool (decide (mnS x s=0)))∧w'=w:=by
 have HE:Hid (bits .andNot .i64 (x:Int) (s:Int)=((mnS x s:Nat):Int)):=bits_mn hx hs;go_enter Tryz.func25,Tryz.ntmps25;go_wp2;go_ret;refine⟨?_,rfl⟩;rw[HE.out];by_cases h:mnS x s=0
 ·rw[h];rfl
 have:(((mnS x s:Nat):Int)==0)=false:=by rw[beq_eq_false_iff_ne];omega
 simp[h,this]
theorem setHas_on (s a:Nat)(w:World)(hs:s<64)(h1:1≤a)(h2:a≤6):
 Calls Tryz.prog 25 #[.int .i64 (s:Int),.int .i64 (onS a:Int)] w fun e w'=>e=.returned (.bool (inS s a))∧w'=w:=by
 refine (setHas_any s (onS a) w hs (on_lt h1)).mono ?_;rintro e w' ⟨rfl,rfl⟩;refine⟨?_,rfl⟩;have h:=on_sub (s:=s) h1 h2;cases hi:inS s a
 ·rw[decide_eq_false (fun h3=>by have:=h.1 h3;rw[hi] at this;cases this)]
 rw[decide_eq_true (h.2 hi)]
structure LO {α:Type}(r:α→α→Bool):Prop where
 irr:∀a,r a a=false
 tr:∀a b c,r a b=true→r b c=true→r a c=true
 tot:∀a b,r a b=false→r b a=false→a=b
theorem lo_int:LO (fun (a b:Int)=>decide (a<b)):=⟨by simp,fun a b c h1 h2=>by simp at *;omega,fun a b h1 h2=>by simp at *;omega⟩
theorem lo_u8:LO (fun (a b:UInt8)=>decide (a<b)):=by
 refine⟨by simp,fun a b c h1 h2=>?_,fun a b h1 h2=>?_⟩
 ·simp only[decide_eq_true_eq] at *;exact UInt8.lt_trans h1 h2
 simp only[decide_eq_false_iff_not,UInt8.not_lt] at *;exact UInt8.le_antisymm h2 h1
def lexP {α β:Type}[DecidableEq α](r:α→α→Bool)(s:β→β→Bool)(a b:α×β):Bool:=if a.1=b.1 then s a.2 b.2 else r a.1 b.1
theorem lo_pair {α β:Type}[DecidableEq α]{r:α→α→Bool}{s:β→β→Bool}(hr:LO r)(hs:LO s):LO (lexP r s):=by
 refine⟨fun a=>by simp[lexP,hs.irr],fun a b c h1 h2=>?_,fun a b h1 h2=>?_⟩
 ·unfold lexP at *;by_cases e1:a.1=b.1
  ·rw[if_pos e1] at h1;by_cases e2:b.1=c.1
   ·rw[if_pos e2] at h2;rw[if_pos (e1.trans e2)];exact hs.tr _ _ _ h1 h2
   rw[if_neg e2] at h2;rw[if_neg (by rw[e1];exact e2),e1];exact h2
  rw[if_neg e1] at h1;by_cases e2:b.1=c.1
  ·rw[if_pos e2] at h2;rw[if_neg (by rw[←e2];exact e1),←e2];exact h1
  rw[if_neg e2] at h2;have h3:=hr.tr _ _ _ h1 h2;by_cases e3:a.1=c.1
  ·rw[e3,hr.irr] at h3;cases h3
  rw[if_neg e3];exact h3
 unfold lexP at *;by_cases e1:a.1=b.1
 ·rw[if_pos e1] at h1;rw[if_pos e1.symm] at h2;exact Prod.ext e1 (hs.tot _ _ h1 h2)
 rw[if_neg e1] at h1;rw[if_neg (fun e=>e1 e.symm)] at h2;exact absurd (hr.tot _ _ h1 h2) e1
def lexL {α:Type}[DecidableEq α](r:α→α→Bool):List α→List α→Bool
 | _,[]=>false
 | [],_ :: _=>true
 | a :: x,b :: y=>if a=b then lexL r x y else r a b
theorem lo_list {α:Type}[DecidableEq α]{r:α→α→Bool}(hr:LO r):LO (lexL r):=by
 refine⟨fun l=>?_,fun a=>?_,fun a=>?_⟩
 ·induction l with
  | nil=>rfl
  | cons x l ih=>simp[lexL,ih]
 ·induction a with
  | nil =>
    intro b c h1 h2;cases b with
    | nil=>cases c <;> simp[lexL] at *
    | cons y b =>
      cases c with
      | nil=>simp[lexL] at h2
      | cons z c=>rfl
  | cons x a ih =>
    intro b c h1 h2;cases b with
    | nil=>simp[lexL] at h1
    | cons y b =>
      cases c with
      | nil=>simp[lexL] at h2
      | cons z c =>
        rw[lexL] at *;by_cases e1:x=y
        ·rw[if_pos e1] at h1;by_cases e2:y=z
         ·rw[if_pos e2] at h2;rw[if_pos (e1.trans e2)];exact ih _ _ h1 h2
         rw[if_neg e2] at h2;rw[if_neg (by rw[e1];exact e2),e1];exact h2
        rw[if_neg e1] at h1;by_cases e2:y=z
        ·rw[if_pos e2] at h2;rw[if_neg (by rw[←e2];exact e1),←e2];exact h1
        rw[if_neg e2] at h2;have h3:=hr.tr _ _ _ h1 h2;by_cases e3:x=z
        ·rw[e3,hr.irr] at h3;cases h3
        rw[if_neg e3];exact h3
 induction a with
 | nil =>
   intro b h1 h2;cases b with
   | nil=>rfl
   | cons y b=>simp[lexL] at h1
 | cons x a ih =>
   intro b h1 h2;cases b with
   | nil=>simp[lexL] at h2
   | cons y b =>
     rw[lexL] at h1 h2;by_cases e1:x=y
     ·rw[if_pos e1] at h1;rw[if_pos e1.symm] at h2;rw[e1,ih _ h1 h2]
     rw[if_neg e1] at h1;rw[if_neg (fun e=>e1 e.symm)] at h2;exact absurd (hr.tot _ _ h1 h2) e1
theorem bytes_lex:∀x y:List UInt8,Op.bytesLess x y=lexL (fun (a b:UInt8)=>decide (a<b)) x y
 | _,[]=>by simp[Op.bytesLess,lexL]
 | [],_ :: _=>by simp[Op.bytesLess,lexL]
 | a :: x,b :: y=>by
   rw[Op.bytesLess,lexL,bytes_lex x y];by_cases e:a=b
   ·subst e;simp
   rw[if_neg e];simp[e]
theorem nm_loop (b:ByteArray):∀(k i:Nat) (r:List UInt8),b.size-i=k→ByteArray.toList.loop b i r=r.reverse++b.data.toList.drop i
 | 0,i,r,h=>by
   rw[ByteArray.toList.loop,if_neg (by omega)];have e:b.data.toList.length≤i:=by rw[Array.length_toList];show b.size≤i;omega
   rw[List.drop_eq_nil_of_le e,List.append_nil]
 | k+1,i,r,h=>by
   have hi:i<b.size:=by omega
   rw[ByteArray.toList.loop,if_pos hi,nm_loop b k (i+1) _ (by omega)];have hl:i<b.data.toList.length:=by rw[Array.length_toList];exact hi
   rw[List.drop_eq_getElem_cons hl,List.reverse_cons,List.append_assoc];have e:b.get! i=b.data.toList[i]:=by
    rw[Array.getElem_toList];show b.data[i]! = b.data[i];exact getElem!_pos b.data i hi
   rw[e];rfl
theorem nm_list (b:ByteArray):b.toList=b.data.toList:=by
 show ByteArray.toList.loop b 0 []=_;rw[nm_loop b _ 0 [] rfl];simp
theorem nm_inj {a b:ByteArray}(h:a.toList=b.toList):a=b:=by
 rw[nm_list,nm_list] at h;exact ByteArray.ext (Array.toList_inj.1 h)
def nmL (a b:ByteArray):Bool:=Op.bytesLess a.toList b.toList
theorem lo_name:LO nmL:=by
 have h:=lo_list lo_u8;refine⟨fun a=>?_,fun a b c h1 h2=>?_,fun a b h1 h2=>?_⟩
 ·rw[nmL,bytes_lex];exact h.irr _
 ·rw[nmL,bytes_lex] at *;exact h.tr _ _ _ h1 h2
 rw[nmL,bytes_lex] at h1 h2;have e:=h.tot _ _ h1 h2;exact nm_inj e
def faL:(Int×ByteArray×HpQ)→(Int×ByteArray×HpQ)→Bool:=
 lexP (fun (a b:Int)=>decide (a<b)) (lexP nmL (lexL (lexP (lexP (fun (a b:Int)=>decide (a<b)) (fun (a b:Int)=>decide (a<b))) (fun (a b:Int)=>decide (a<b)))))
theorem lo_fate:LO faL:=lo_pair lo_int (lo_pair lo_name (lo_list (lo_pair (lo_pair lo_int lo_int) lo_int)))
def puR {α:Type}(r:α→α→Bool)(f:α):List α→List α
 | []=>[f]
 | x :: l=>if r f x=true then f :: x :: l else if r x f=true then x :: puR r f l else x :: l
theorem pu_mem {α:Type}{r:α→α→Bool}(hr:LO r)(f:α):∀{l:List α} {x:α},x∈puR r f l↔x=f∨x∈l
 | [],x=>by simp[puR]
 | y :: l,x=>by
   rw[puR];by_cases h1:r f y=true
   ·rw[if_pos h1];simp
   rw[if_neg h1];by_cases h2:r y f=true
   ·rw[if_pos h2,List.mem_cons,pu_mem hr f,List.mem_cons];constructor
    ·rintro (h | h | h)
     ·exact .inr (.inl h)
     ·exact .inl h
     exact .inr (.inr h)
    rintro (h | h | h)
    ·exact .inr (.inl h)
    ·exact .inl h
    exact .inr (.inr h)
   rw[if_neg h2];have e:y=f:=hr.tot _ _ (by simpa using h2) (by simpa using h1);subst e;simp
def onL (k:HpQ→List (Int×ByteArray×HpQ)→List (Int×ByteArray×HpQ))(l:HpQ)(a:List (Int×ByteArray×HpQ))(g:(Int×ByteArray) ⊕ ((Int×Int)×Int)):List (Int×ByteArray×HpQ):=
 match g with
 | .inl e=>puR faL (e.1,e.2,l) a
 | .inr p=>k (l++[p]) a
def chB (As Bs:List (List Ru))(s:Int):Bool:=decide (0<(bey (taT As s) (taT Bs s)).length+(bey (taT Bs s) (taT As s)).length)
section
variable (Ls:LkQ)(Hs:HoQ)(As Bs:List (List Ru))
def wkL:Nat→HpQ→List Int→List (Int×ByteArray×HpQ)→List (Int×ByteArray×HpQ)
 | 0,_,_,a=>a
 | n+1,l,met,a =>
   if chB As Bs (laH l).1.1=true then
    onL (fun l' a'=>wkL n l' (if (laH l).1.1∈met then met else met++[(laH l).1.1]) a') l
     (if (laH l).1.1∈met then a else onL (fun l' a'=>wkL n l' met a') l a (goE Ls Hs (taT As (laH l).1.1) l (laH l)))
     (goE Ls Hs (taT Bs (laH l).1.1) l (laH l))
   else if (laH l).1.1∈met then a else onL (fun l' a'=>wkL n l' met a') l a (goE Ls Hs (taT As (laH l).1.1) l (laH l))
variable {Ls Hs As Bs}
theorem on_mem {k:HpQ→List (Int×ByteArray×HpQ)→List (Int×ByteArray×HpQ)}(hk:∀l a x,x∈k l a↔x∈a∨x∈k l [])(l:HpQ)(a:List (Int×ByteArray×HpQ))(g:(Int×ByteArray) ⊕ ((Int×Int)×Int))(x:Int×ByteArray×HpQ):x∈onL k l a g↔x∈a∨x∈onL k l [] g:=by
 cases g with
 | inl e =>
   simp only[onL];rw[pu_mem lo_fate,pu_mem lo_fate];simp only[List.not_mem_nil,or_false];exact Or.comm
 | inr p=>exact hk _ _ _
theorem wk_mem:∀(n:Nat) (l:HpQ) (met:List Int) (a:List (Int×ByteArray×HpQ)) (x:Int×ByteArray×HpQ),x∈wkL Ls Hs As Bs n l met a↔x∈a∨x∈wkL Ls Hs As Bs n l met []
 | 0,l,met,a,x=>by simp[wkL]
 | n+1,l,met,a,x=>by
   have h1:=on_mem (k:=fun l' a'=>wkL Ls Hs As Bs n l' met a') (fun l a x=>wk_mem n l met a x) l;have h2:=on_mem (k:=fun l' a'=>wkL Ls Hs As Bs n l' (if (laH l).1.1∈met then met else met++[(laH l).1.1]) a') (fun l' a x=>wk_mem n l' _ a x) l;rw[wkL,wkL];by_cases hc:chB As Bs (laH l).1.1=true
   ·rw[if_pos hc,if_pos hc];by_cases hm:(laH l).1.1∈met
    ·simp only[hm,if_true] at h2 ⊢;exact h2 _ _ _
    simp only[hm,if_false] at h2 ⊢;rw[h2,h1,h2 (onL _ l [] _)];exact or_assoc
   rw[if_neg hc,if_neg hc];by_cases hm:(laH l).1.1∈met
   ·rw[if_pos hm,if_pos hm];simp
   rw[if_neg hm,if_neg hm];exact h1 _ _ _
def seeL (Ls:LkQ)(Hs:HoQ)(As Bs:List (List Ru))(s:Int×Int)(h:Int):List (Int×ByteArray×HpQ):=wkL Ls Hs As Bs 24 [(s,h)] [] []
end
theorem getR {L:List Ru}{k:Nat}(h:k<L.length):L.getD k zeR=L[k]:=by simp[List.getD,h]
theorem be_in {L:List Ru}{h:Int}(h0:0≤beTo L h L.length):L.getD (beTo L h L.length).toNat zeR∈L∧(L.getD (beTo L h L.length).toNat zeR).has h=true∧∀r∈L,r.has h=true→ordR r (L.getD (beTo L h L.length).toNat zeR)≤0:=by
 have hb:=be_bd L h L.length;have hl:(beTo L h L.length).toNat<L.length:=by omega
 obtain⟨d1,d2⟩:=be_yes h0;refine⟨by rw[getR hl];exact List.getElem_mem hl,d1,fun r hr hh=>?_⟩;obtain⟨j,hj,rfl⟩:=List.getElem_of_mem hr;have:=d2 j hj (by rw[getR hj];exact hh);rw[getR hj] at this;exact this
theorem be_neg {L:List Ru}{h:Int}(h0:beTo L h L.length<0):∀r∈L,r.has h=false:=by
 intro r hr;obtain⟨j,hj,rfl⟩:=List.getElem_of_mem hr;have:=be_no h0 j hj;rw[getR hj] at this;exact this
theorem be_sign {A B:List Ru}(hm:∀r,r∈A→r∈B){h:Int}(h0:0≤beTo A h A.length):0≤beTo B h B.length:=by
 obtain⟨d1,d2,_⟩:=be_in h0
 rcases Int.lt_or_le (beTo B h B.length) 0 with h1 | h1
 ·have:=be_neg h1 _ (hm _ d1);rw[d2] at this;cases this
 exact h1
theorem lu_alike {A B:List Ru}(hA:tbN A=0)(hB:tbN B=0)(hm:∀r,r∈A↔r∈B)(h:Int):(luN A h=0↔luN B h=0)∧(luN A h=0→roR A h=roR B h):=by
 have e:luN A h=0↔luN B h=0:=by
  rw[lu_0,lu_0];exact⟨fun q=>⟨hB,q.2.1,be_sign (fun r=>(hm r).1) q.2.2⟩,fun q=>⟨hA,q.2.1,be_sign (fun r=>(hm r).2) q.2.2⟩⟩
 refine⟨e,fun h0=>?_⟩;have h1:=e.1 h0;have a:=be_in (lu_0.1 h0).2.2;have b:=be_in (lu_0.1 h1).2.2;rw[roR,roR,luI,luI,if_pos h0,if_pos h1];have q1:=b.2.2 _ ((hm _).1 a.1) a.2.1;have q2:=a.2.2 _ ((hm _).2 b.1) b.2.1;exact tb_key hB ((hm _).1 a.1) b.1 (by rw[keyB,ord_as q1 q2];rfl)
theorem st_alike {A B:List Ru}(hA:tbN A=0)(hB:tbN B=0)(hm:∀r,r∈A↔r∈B)(p:(Int×Int)×Int):stT B p=stT A p:=by
 obtain⟨e1,e2⟩:=lu_alike hA hB hm p.2;unfold stT;by_cases h:luN A p.2=0
 ·rw[if_pos h,if_pos (e1.1 h),e2 h]
 rw[if_neg h,if_neg (fun q=>h (e1.2 q))]
theorem ch_alike {As Bs:List (List Ru)}{s:Int}(h:chB As Bs s=false):∀r,r∈taT As s↔r∈taT Bs s:=by
 have h1:(bey (taT As s) (taT Bs s)).length=0∧(bey (taT Bs s) (taT As s)).length=0:=by
  unfold chB at h;simp at h;constructor
  ·rw[h.1];rfl
  rw[h.2];rfl
 have sub {X Y:List Ru} (e:(bey X Y).length=0):∀r∈X,r∈Y:=by
  intro r hr;have e:=List.length_eq_zero_iff.1 e;rw[bey,List.filter_eq_nil_iff] at e;have:=e r hr;simp at this;exact in_iff.1 this
 exact fun r=>⟨sub h1.1 r,sub h1.2 r⟩
section
variable {Ls:LkQ}{Hs:HoQ}{Ts:List (List Ru)}{l:HpQ}{q:(Int×Int)×Int}
theorem fo_r (h:l.length≤24):foF Ls Hs Ts (25-l.length) l=match enE Ls Hs Ts l (laH l) with | .inl e=>(e.1,e.2,l) | .inr p=>foF Ls Hs Ts (24-l.length) (l++[p]):=by
 have e:25-l.length=(24-l.length)+1:=by omega
 rw[e];exact fo_s _ _
theorem la_app (l:HpQ)(p:(Int×Int)×Int):laH (l++[p])=p:=by
 rw[la_at];simp only[List.length_append,List.length_cons,List.length_nil,Nat.add_sub_cancel,Nat.zero_add];exact at_app l p
end
end
section
open Go.ChangeShapes Go.WideShapes Go.ChangeAt Go.RowKit Go.Joins
def hopE:Enc ((Int×Int)×Int) where
 c:=fun x=>[.int .i64 x.1.1,.int .i64 x.1.2,.int .i64 x.2]
 n:=3
 len:=fun _=>rfl
 pos:=by decide
 one:=by
  intro x u hu;simp at hu
  rcases hu with rfl | rfl | rfl <;> rfl
theorem hop_cells {w:World}{g o:Nat}{x0 x1 x2:Int}(h:VAt w g o (hopE.c ((x0,x1),x2))):w.cell? ⟨g,o,none⟩=some (.int .i64 x0)∧w.cell? ⟨g,o+1,none⟩=some (.int .i64 x1)∧w.cell? ⟨g,o+2,none⟩=some (.int .i64 x2):=
 ⟨h 0 _ rfl,h 1 _ rfl,h 2 _ rfl⟩
theorem hop_at {w:World}{g o:Nat}{L:HpQ}(h:GAt hopE w g o L){n k:Nat}(hn:L.length=n)(hk:k<n):
 ∃(x0:Int) (x1:Int) (x2:Int) (hl:k<L.length),L[k]=((x0,x1),x2)∧w.cell? ⟨g,o+k*3,none⟩=some (.int .i64 x0)∧w.cell? ⟨g,o+k*3+1,none⟩=some (.int .i64 x1)∧w.cell? ⟨g,o+k*3+2,none⟩=some (.int .i64 x2):=
 have hl:k<L.length:=by omega
 ⟨_,_,_,hl,rfl,hop_cells (h k hl)⟩
theorem hop_new (w:World)(x0 x1 x2:Int)(t:TypeId):VAt (w.alloc (Obj.cells #[.int .i64 x0,.int .i64 x1,.int .i64 x2] t)) w.heap.size 0 (hopE.c ((x0,x1),x2)):=vat_new w [.int .i64 x0,.int .i64 x1,.int .i64 x2] t
def hopB (a b:(Int×Int)×Int):Bool:=(a.1.1==b.1.1)&&((a.1.2==b.1.2)&&((a.2==b.2)))
theorem hop_ways (x0 x1 x2 y0 y1 y2:Int):
 ((x0==y0)=false∧hopB ((x0,x1),x2) ((y0,y1),y2)=false) ∨
 ((x0==y0)=true∧(x1==y1)=false∧hopB ((x0,x1),x2) ((y0,y1),y2)=false) ∨
 ((x0==y0)=true∧(x1==y1)=true∧(x2==y2)=false∧hopB ((x0,x1),x2) ((y0,y1),y2)=false) ∨
 ((x0==y0)=true∧(x1==y1)=true∧(x2==y2)=true∧hopB ((x0,x1),x2) ((y0,y1),y2)=true):=by
 have e:hopB ((x0,x1),x2) ((y0,y1),y2)=((x0==y0)&&((x1==y1)&&((x2==y2)))):=rfl;rw[e];cases h0:(x0==y0)
 ·simp
 skip;cases h1:(x1==y1)
 ·simp
 skip;cases h2:(x2==y2)
 ·simp
 skip;simp
theorem hop_eq (x0 x1 x2 y0 y1 y2:Int)(w:World):(Op.equal 101 (.agg #[.int .i64 x0,.int .i64 x1,.int .i64 x2]) (.agg #[.int .i64 y0,.int .i64 y1,.int .i64 y2])).run Tryz.prog w=.ok (hopB ((x0,x1),x2) ((y0,y1),y2)) w:=by
 unfold Op.equal Op.maxDepth;rw[run_equalIn_struct w 9999 _ _ _ (by kernel_rfl) (by kernel_rfl)]
 rcases hop_ways x0 x1 x2 y0 y1 y2 with ⟨e0,e⟩ | ⟨e0,e1,e⟩ | ⟨e0,e1,e2,e⟩ | ⟨e0,e1,e2,e⟩
 all_goals
  rw[e];go_simp
theorem hop_info:(Tryz.prog.info? 101).map (fun i=>(i.zero,i.size,i.bytes))=some (some (.agg #[.int .i64 0,.int .i64 0,.int .i64 0]),3,24):=by kernel_rfl
theorem hop_zero:(Value.agg #[.int .i64 0,.int .i64 0,.int .i64 0]).cells.size=3:=by simp[Value.cells]
end
section
open Go.RowKit
theorem nan_any (a:Int)(w:World):Calls Tryz.prog 117 #[.int .i64 a] w fun e w'=>e=.returned (.bool false)∧w'=w:=by
 go_enter Tryz.func117,Tryz.ntmps117;go_wp2;go_ret;exact⟨by simp,rfl⟩
theorem compare_any (a b:Int)(w:World):Calls Tryz.prog 116 #[.int .i64 a,.int .i64 b] w fun e w'=>e=.returned (.int .i64 (cmpN a b))∧w'=w:=by
 by_cases h1:a<b
 ·have e:cmpN a b = -1:=by simp[cmpN,h1]
  rw[e];clear e;have g1:decide (a<b)=true:=by simpa using h1
  go_enter Tryz.func116,Tryz.ntmps116
  go_wp2_with (first | (go_at_call 117;refine (nan_any _ _).mono ?_;rintro e w' ⟨rfl,rfl⟩))
  go_ret;exact⟨rfl,rfl⟩
 have g1:decide (a<b)=false:=by simpa using h1
 by_cases h2:b<a
 ·have e:cmpN a b=1:=by simp[cmpN,h1,h2]
  rw[e];clear e;have g2:decide (b<a)=true:=by simpa using h2
  go_enter Tryz.func116,Tryz.ntmps116
  go_wp2_with (first | (go_at_call 117;refine (nan_any _ _).mono ?_;rintro e w' ⟨rfl,rfl⟩))
  go_ret;exact⟨rfl,rfl⟩
 have e:cmpN a b=0:=by simp[cmpN,h1,h2]
 rw[e];clear e;have g2:decide (b<a)=false:=by simpa using h2
 go_enter Tryz.func116,Tryz.ntmps116
 go_wp2_with (first | (go_at_call 117;refine (nan_any _ _).mono ?_;rintro e w' ⟨rfl,rfl⟩))
 go_ret;exact⟨rfl,rfl⟩
theorem or_any (x y z:Int)(g:Nat)(w:World)(h0:w.cell? ⟨g,0,none⟩=some (.int .i64 x))(h1:w.cell? ⟨g,1,none⟩=some (.int .i64 y))(h2:w.cell? ⟨g,2,none⟩=some (.int .i64 z)):
 Calls Tryz.prog 115 #[.slice (some ⟨g,0,none⟩) 3 3] w fun e w'=>e=.returned (.int .i64 (orN x y z))∧w'=w:=by
 generalize hq:orN x y z=q
 have HQ:Hid ((if x=0 then (if y=0 then z else y) else x)=q):=hq;clear hq;go_enter Tryz.func115,Tryz.ntmps115;go_wp2
 go_loopw [8] (fun i wr=>∃k:Nat,k≤3∧i=.int .i64 k∧(0<k→x=0)∧(1<k→y=0)∧(2<k→z=0)∧wr=w) (fun i _=>3-(intOf i).toNat)
 case atStart=>exact⟨0,by omega,rfl,by omega,by omega,by omega,rfl⟩
 case round =>
  obtain⟨k,hk,rfl,a0,a1,a2,hw⟩:=hrel
  replace hw:=hw.symm
  subst hw
  rcases (by omega:k=0∨k=1∨k=2∨k=3) with rfl | rfl | rfl | rfl
  ·clear a0 a1 a2;by_cases hx:x=0
   ·have g1:(x==0)=true:=by simpa using hx
    have g2:(x != 0)=false:=by simpa using hx
    go_wp2;go_roundw
    case rel=>exact⟨1,by omega,rfl,fun _=>hx,by omega,by omega,trivial⟩
    case measure=>simp[intOf]
   have g1:(x==0)=false:=by simpa using hx
   have g2:(x != 0)=true:=by simpa using hx
   go_wp2;go_ret;exact⟨by rw[←HQ.out,if_neg hx];rfl,rfl⟩
  ·have hx:=a0 (by omega);clear a0 a1 a2;by_cases hy:y=0
   ·have g1:(y==0)=true:=by simpa using hy
    have g2:(y != 0)=false:=by simpa using hy
    go_wp2;go_roundw
    case rel=>exact⟨2,by omega,rfl,fun _=>hx,fun _=>hy,by omega,trivial⟩
    case measure=>simp[intOf]
   have g1:(y==0)=false:=by simpa using hy
   have g2:(y != 0)=true:=by simpa using hy
   go_wp2;go_ret;exact⟨by rw[←HQ.out,if_pos hx,if_neg hy];rfl,rfl⟩
  ·have hx:=a0 (by omega);have hy:=a1 (by omega);clear a0 a1 a2;by_cases hz:z=0
   ·have g1:(z==0)=true:=by simpa using hz
    have g2:(z != 0)=false:=by simpa using hz
    go_wp2;go_roundw
    case rel=>exact⟨3,by omega,rfl,fun _=>hx,fun _=>hy,fun _=>hz,trivial⟩
    case measure=>simp[intOf]
   have g1:(z==0)=false:=by simpa using hz
   have g2:(z != 0)=true:=by simpa using hz
   go_wp2;go_ret;exact⟨by rw[←HQ.out,if_pos hx,if_pos hy];rfl,rfl⟩
  have hx:=a0 (by omega);have hy:=a1 (by omega);have hz:=a2 (by omega);clear a0 a1 a2;go_wp2;go_ret;exact⟨by rw[←HQ.out,if_pos hx,if_pos hy,hz];rfl,rfl⟩
theorem compare_b (a b:Int)(w:World):Calls Tryz.prog 116 #[.int .i64 a,.int .i64 b] w fun e w'=>e=.returned (.int .i64 (cmpN a b))∧Below w.heap.size w w':=
 (compare_any a b w).mono fun _ w' h=>⟨h.1,by rw[h.2];exact Below.refl _ _⟩
theorem or_b (x y z:Int)(g:Nat)(w:World)(h0:w.cell? ⟨g,0,none⟩=some (.int .i64 x))(h1:w.cell? ⟨g,1,none⟩=some (.int .i64 y))(h2:w.cell? ⟨g,2,none⟩=some (.int .i64 z)):
 Calls Tryz.prog 115 #[.slice (some ⟨g,0,none⟩) 3 3] w fun e w'=>e=.returned (.int .i64 (orN x y z))∧Below w.heap.size w w':=
 (or_any x y z g w h0 h1 h2).mono fun _ w' h=>⟨h.1,by rw[h.2];exact Below.refl _ _⟩
theorem cells3 {W:World}(x y z:Value)(t:TypeId):
 (W.alloc (.cells #[x,y,z] t)).cell? ⟨W.heap.size,0,none⟩=some x∧(W.alloc (.cells #[x,y,z] t)).cell? ⟨W.heap.size,1,none⟩=some y∧(W.alloc (.cells #[x,y,z] t)).cell? ⟨W.heap.size,2,none⟩=some z:=by
 refine⟨?_,?_,?_⟩ <;> simp
def OS (w:World)(p m b p' m' b':Int)(w':World):Prop:=
 Below w.heap.size w w'∧(w'.cell? ⟨w.heap.size,0,none⟩=some (.int .i64 p)∧w'.cell? ⟨w.heap.size,1,none⟩=some (.int .i64 m)∧w'.cell? ⟨w.heap.size,2,none⟩=some (.int .i64 b)) ∧
  (w'.cell? ⟨w.heap.size+1,0,none⟩=some (.int .i64 p')∧w'.cell? ⟨w.heap.size+1,1,none⟩=some (.int .i64 m')∧w'.cell? ⟨w.heap.size+1,2,none⟩=some (.int .i64 b'))
theorem OS.later {w W W':World}{p m b p' m' b':Int}(hb:Below W.heap.size W W')(h:OS w p m b p' m' b' W):OS w p m b p' m' b' W':=by
 obtain⟨h0,⟨h1,h2,h3⟩,⟨h4,h5,h6⟩⟩:=h;exact⟨h0.trans (hb.mono h0.size),⟨cell_later hb h1,cell_later hb h2,cell_later hb h3⟩,⟨cell_later hb h4,cell_later hb h5,cell_later hb h6⟩⟩
theorem order_any (p m b o s v p' m' b' o' s' v':Int)(w:World):
 Calls Tryz.prog 112 #[.agg #[.int .i64 p,.int .i64 m,.int .i64 b,.int .i64 o,.int .i64 s,.int .i64 v],.agg #[.int .i64 p',.int .i64 m',.int .i64 b',.int .i64 o',.int .i64 s',.int .i64 v']] w fun e w'=>e=.returned (.int .i64 (ordN p m b p' m' b'))∧Below w.heap.size w w':=by
 have hS0:OS w p m b p' m' b' ((w.alloc (Obj.cells #[.int .i64 p,.int .i64 m,.int .i64 b,.int .i64 o,.int .i64 s,.int .i64 v] 37)).alloc (Obj.cells #[.int .i64 p',.int .i64 m',.int .i64 b',.int .i64 o',.int .i64 s',.int .i64 v'] 37)):=by
  refine⟨((Below.refl _ _).alloc (Nat.le_refl _) _).alloc (by simp) _,⟨?_,?_,?_⟩,⟨?_,?_,?_⟩⟩ <;> simp
 go_enter Tryz.func112,Tryz.ntmps112;go_wp2
 generalize ((w.alloc (Obj.cells #[.int .i64 p,.int .i64 m,.int .i64 b,.int .i64 o,.int .i64 s,.int .i64 v] 37)).alloc (Obj.cells #[.int .i64 p',.int .i64 m',.int .i64 b',.int .i64 o',.int .i64 s',.int .i64 v'] 37))=W0 at *
 unfold OS at hS0
 go_region_held3 (fun w'=>Below w.heap.size w w'∧(w'.cell? ⟨w.heap.size,0,none⟩=some (.int .i64 p)∧w'.cell? ⟨w.heap.size,1,none⟩=some (.int .i64 m)∧w'.cell? ⟨w.heap.size,2,none⟩=some (.int .i64 b)) ∧
  (w'.cell? ⟨w.heap.size+1,0,none⟩=some (.int .i64 p')∧w'.cell? ⟨w.heap.size+1,1,none⟩=some (.int .i64 m')∧w'.cell? ⟨w.heap.size+1,2,none⟩=some (.int .i64 b')))
  (first | assumption | exact OS.later (by assumption) (by assumption) | exact OS.later (Below.drew (Below.refl _ _)) (by assumption) | exact OS.later (Below.alloc (Below.refl _ _) (Nat.le_refl _) _) (by assumption))
  (first
   | (go_at_call 116;refine (compare_b _ _ _).mono ?_;rintro e w' ⟨rfl,hb⟩)
   | (go_at_call 115;refine (or_b (cmpN p p') (cmpN m m') (cmpN b b') _ _ (cells3 _ _ _ _).1 (cells3 _ _ _ _).2.1 (cells3 _ _ _ _).2.2).mono ?_;rintro e w' ⟨rfl,hb⟩))
 have hS:=(‹Below w.heap.size w w'∧_›).1;go_wp2;go_ret;exact⟨rfl,hS⟩
end
end Go.Proofs.YtiokpmlhmlcojaaGreat
