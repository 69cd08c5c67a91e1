/- Contracts and facts on the way to PlanLeast, joined into one text: GenTake, ChangeBN, NetMath2, NetMath3, WishMath, StWish, SlHost, HostHas, WishCon, WishCheck, PlanDiff, PlanMath, PlanMath2, PlanOnly, MixMath, MixMath2, MixMath3, MixMath4, RefPutMath, RefTopo1, RefPeer, RefCube, RuleRefMath, RefFind, RefBit, RefTurned, NetRefMath, NetMath4, StHop, RuleOrder. -/
import Derived.Test.YtiokpmlhmlcojaaGreatDoorPlanLeastP3
namespace Go.Proofs.YtiokpmlhmlcojaaGreatDoor
set_option linter.unusedSimpArgs false
set_option linter.unusedVariables false
set_option maxHeartbeats 16000000
set_option maxRecDepth 100000
open Go.Proofs.Tryz
open IntKind (i64)
section
open Go.RowKit
theorem GS.take {α:Type}{E:Enc α}{W:World}{ao:AdQ}{n cap c:Nat}{L:List α}(h:GS E W (.slice ao n cap) L)(hc:c≤n):GS E W (.slice ao c cap) (L.take c):=by
 rcases h with ⟨ao',cap',e,rfl⟩ | ⟨g,o,cap',e,h1,h2,h3⟩
 ·simp only[Value.slice.injEq] at e;obtain⟨rfl,rfl,rfl⟩:=e;obtain rfl:c=0:=by omega
  exact .inl ⟨_,_,rfl,by simp⟩
 simp only[Value.slice.injEq] at e;obtain⟨rfl,rfl,rfl⟩:=e;have e1:(L.take c).length=c:=by rw[List.length_take];omega
 exact .inr ⟨g,o,cap,by rw[e1],by rw[e1];omega,h2,h3.take c⟩
theorem GS.drop {α:Type}{E:Enc α}{W:World}{g o n cap c:Nat}{L:List α}(h:GS E W (.slice (some ⟨g,o,none⟩) n cap) L)(hc:c≤n):GS E W (.slice (some ⟨g,o+c*E.n,none⟩) (n-c) (cap-c)) (L.drop c):=by
 rcases h with ⟨ao',cap',e,rfl⟩ | ⟨g',o',cap',e,h1,h2,h3⟩
 ·simp only[Value.slice.injEq] at e;obtain⟨rfl,rfl,rfl⟩:=e;obtain rfl:c=0:=by omega
  exact .inl ⟨_,_,rfl,by simp⟩
 simp only[Value.slice.injEq,Option.some.injEq,Addr.mk.injEq,and_true] at e;obtain⟨⟨rfl,rfl⟩,rfl,rfl⟩:=e;have e1:(L.drop c).length=L.length-c:=List.length_drop;exact .inr ⟨g,o+c*E.n,cap-c,by rw[e1],by rw[e1];omega,Nat.le_trans (Nat.sub_le _ _) h2,h3.drop c⟩
structure BN (W:World)(b:Nat)(S:Int)(v1 v2 v3:Value)(Ls:LkQ)(Hs:HoQ)(Ts:TsQ):Prop where
 c:NeBox W b S v1 v2 v3
 l:GS lnkE W v1 Ls
 h:GS hstE W v2 Hs
 t:TS W v3 Ts
theorem BN.later {W W':World}{b:Nat}{S:Int}{v1 v2 v3:Value}{Ls:LkQ}{Hs:HoQ}{Ts:TsQ}(h:BN W b S v1 v2 v3 Ls Hs Ts)(hb:Below W.heap.size W W'):BN W' b S v1 v2 v3 Ls Hs Ts:=⟨h.c.later hb,h.l.later hb,h.h.later hb,h.t.later hb⟩
def PN (W:World)(p:Value)(S:Int)(Ls:LkQ)(Hs:HoQ)(Ts:TsQ):Prop:=
 ∃b ao n cap ao2 n2 cap2 ao3 n3 cap3,p=.pointer (some ⟨b,0,none⟩)∧BN W b S (.slice ao n cap) (.slice ao2 n2 cap2) (.slice ao3 n3 cap3) Ls Hs Ts
theorem bn_new {w:World}{S:Int}{v1 v2 v3:Value}{Ls:LkQ}{Hs:HoQ}{Ts:TsQ}(t:TypeId)(h1:GS lnkE w v1 Ls)(h2:GS hstE w v2 Hs)(h3:TS w v3 Ts):BN (w.alloc (.cells #[.int i64 S,v1,v2,v3] t)) w.heap.size S v1 v2 v3 Ls Hs Ts:=by
 have hb:Below w.heap.size w (w.alloc (.cells #[.int i64 S,v1,v2,v3] t)):=(bRQ _ _).alloc (nLQ _) _;exact⟨nebox_new w S v1 v2 v3 t,h1.later hb,h2.later hb,h3.later hb⟩
theorem balloc4 {w w':World}{a b c d:Value}{t:TypeId}(hb:Below (w.drew.alloc (.cells #[a,b,c,d] t)).heap.size (w.drew.alloc (.cells #[a,b,c,d] t)) w'):(w'.cell? ⟨w.heap.size,0,none⟩=some a∧w'.cell? ⟨w.heap.size,1,none⟩=some b∧w'.cell? ⟨w.heap.size,2,none⟩=some c∧w'.cell? ⟨w.heap.size,3,none⟩=some d)∧∀i,w'.frozen? ⟨w.heap.size,i,none⟩=false:=by
 have h:=vat_new w.drew [a,b,c,d] t;have hl:w.heap.size<(w.drew.alloc (.cells #[a,b,c,d] t)).heap.size:=by simp
 refine⟨⟨cell_later hb (h 0 _ rfl),cell_later hb (h 1 _ rfl),cell_later hb (h 2 _ rfl),cell_later hb (h 3 _ rfl)⟩,fun i=>(hb.frozen (p:=⟨w.heap.size,i,none⟩) hl).trans ?_⟩;have h2:=heap_alloc_new w.drew (Obj.cells #[a,b,c,d] t);have e:w.drew.heap.size=w.heap.size:=rfl;rw[e] at h2;simp only[World.frozen?,h2];simp
theorem put4_cells {W:World}{g:Nat}{a b c d u v x y:Value}(k:W.cell? ⟨g,0,none⟩=some u∧W.cell? ⟨g,1,none⟩=some v∧W.cell? ⟨g,2,none⟩=some x∧W.cell? ⟨g,3,none⟩=some y):(put4 W g a b c d).cell? ⟨g,0,none⟩=some a∧(put4 W g a b c d).cell? ⟨g,1,none⟩=some b∧(put4 W g a b c d).cell? ⟨g,2,none⟩=some c∧(put4 W g a b c d).cell? ⟨g,3,none⟩=some d:=by
 obtain⟨k0,k1,k2,k3⟩:=k;unfold put4;have o:∀(W:World) (i j:Nat) (x:Value),i≠j→(W.setCell ⟨g,i,none⟩ x).cell? ⟨g,j,none⟩=W.cell? ⟨g,j,none⟩:=fun W i j x h=>World.cell?_setCell_other _ _ _ _ (by intro e;exact h (by injection e))
 refine⟨?_,?_,?_,?_⟩
 ·rw[o _ _ _ _ (by decide),o _ _ _ _ (by decide),o _ _ _ _ (by decide)];exact World.cell?_setCell_same _ _ _ k0
 ·rw[o _ _ _ _ (by decide),o _ _ _ _ (by decide)];exact World.cell?_setCell_same _ _ _ (by rw[o _ _ _ _ (by decide)];exact k1)
 ·rw[o _ _ _ _ (by decide)];exact World.cell?_setCell_same _ _ _ (by rw[o _ _ _ _ (by decide),o _ _ _ _ (by decide)];exact k2)
 exact World.cell?_setCell_same _ _ _ (by rw[o _ _ _ _ (by decide),o _ _ _ _ (by decide),o _ _ _ _ (by decide)];exact k3)
theorem pn_new {W:World}{B:Nat}{S:Int}{a1:AdQ}{k1 d1:Nat}{a2:AdQ}{k2 d2:Nat}{a3:AdQ}{k3 d3:Nat}{Ls:LkQ}{Hs:HoQ}{Ts:TsQ}(t:TypeId)(h:NA W B (.slice a1 k1 d1) (.slice a2 k2 d2) (.slice a3 k3 d3) Ls Hs Ts):
 PN (W.alloc (.cells #[.int i64 S,.slice a1 k1 d1,.slice a2 k2 d2,.slice a3 k3 d3] t)) (.pointer (some ⟨W.heap.size,0,none⟩)) S Ls Hs Ts:=⟨_,_,_,_,_,_,_,_,_,_,rfl,bn_new t h.gs.1 h.gs.2.1 h.gs.2.2⟩
theorem pn_put {W:World}{B g:Nat}{S:Int}{a1:AdQ}{k1 d1:Nat}{a2:AdQ}{k2 d2:Nat}{a3:AdQ}{k3 d3:Nat}{Ls:LkQ}{Hs:HoQ}{Ts:TsQ}{x y z u:Value}(h:NA W B (.slice a1 k1 d1) (.slice a2 k2 d2) (.slice a3 k3 d3) Ls Hs Ts)(hg:g<B)(k:W.cell? ⟨g,0,none⟩=some u∧W.cell? ⟨g,1,none⟩=some x∧W.cell? ⟨g,2,none⟩=some y∧W.cell? ⟨g,3,none⟩=some z):
 PN (put4 W g (.int i64 S) (.slice a1 k1 d1) (.slice a2 k2 d2) (.slice a3 k3 d3)) (.pointer (some ⟨g,0,none⟩)) S Ls Hs Ts:=by
 have h2:=(h.put (grown_put4 W g (.int i64 S) (.slice a1 k1 d1) (.slice a2 k2 d2) (.slice a3 k3 d3)) hg).gs;exact⟨_,_,_,_,_,_,_,_,_,_,rfl,put4_cells k,h2.1,h2.2.1,h2.2.2⟩
def ZB (W:World)(g:Nat):Prop:=(W.cell? ⟨g,0,none⟩=some (.int i64 0)∧W.cell? ⟨g,1,none⟩=some (.slice none 0 0)∧W.cell? ⟨g,2,none⟩=some (.slice none 0 0)∧W.cell? ⟨g,3,none⟩=some (.slice none 0 0))∧∀i,W.frozen? ⟨g,i,none⟩=false
theorem ZB.lt {W:World}{g:Nat}(h:ZB W g):g<W.heap.size:=bLQ W ⟨g,0,none⟩ h.1.1
theorem ZB.later {W W':World}{g:Nat}(h:ZB W g)(hb:Below W.heap.size W W'):ZB W' g:=⟨⟨cell_later hb h.1.1,cell_later hb h.1.2.1,cell_later hb h.1.2.2.1,cell_later hb h.1.2.2.2⟩,fun i=>(hb.frozen (p:=⟨g,i,none⟩) h.lt).trans (h.2 i)⟩
theorem zb_d {w w':World}{t:TypeId}(hb:Below (w.drew.alloc (.cells #[.int i64 0,.slice none 0 0,.slice none 0 0,.slice none 0 0] t)).heap.size (w.drew.alloc (.cells #[.int i64 0,.slice none 0 0,.slice none 0 0,.slice none 0 0] t)) w'):ZB w' w.heap.size:=balloc4 hb
theorem zb_a {w w':World}{t:TypeId}(hb:Below (w.alloc (.cells #[.int i64 0,.slice none 0 0,.slice none 0 0,.slice none 0 0] t)).heap.size (w.alloc (.cells #[.int i64 0,.slice none 0 0,.slice none 0 0,.slice none 0 0] t)) w'):ZB w' w.heap.size:=
 have h:=wb_new w 0 (.slice none 0 0) (.slice none 0 0) (.slice none 0 0) t
 ZB.later (W:=w.alloc (.cells #[.int i64 0,.slice none 0 0,.slice none 0 0,.slice none 0 0] t)) ⟨h.c,h.f⟩ hb
section
variable {Ls:LkQ}{Hs:HoQ}{Ts:TsQ}
def NxH (Ls:LkQ)(Hs:HoQ)(Ts:TsQ)(p q:(Int×Int)×Int):Prop:=∃o,stO Ts p=some o∧atO Hs o.1=none∧peerO Ls o.1=some q.1∧q.2=o.2
def atH (l:HpQ)(i:Nat):(Int×Int)×Int:=l.getD i zeH
def enE (Ls:LkQ)(Hs:HoQ)(Ts:TsQ)(l:HpQ)(p:(Int×Int)×Int):(Int×ByteArray) ⊕ ((Int×Int)×Int):=goE Ls Hs (taT Ts p.1.1) l p
theorem la_at (l:HpQ):laH l=atH l (l.length-1):=rfl
theorem at_app (l:HpQ)(p:(Int×Int)×Int):atH (l++[p]) l.length=p:=by simp[atH,List.getD]
theorem en_r {l:HpQ}{p q:(Int×Int)×Int}(h:enE Ls Hs Ts l p=.inr q):NxH Ls Hs Ts p q∧l.length≠24∧q ∉ l:=by
 unfold enE goE at h;cases hs:stT (taT Ts p.1.1) p with
 | none=>rw[hs] at h;cases h
 | some o =>
   rw[hs] at h;simp only at h;cases ha:atO Hs o.1 with
   | some m=>rw[ha] at h;cases h
   | none =>
     rw[ha] at h;simp only at h;cases hp:peerO Ls o.1 with
     | none=>rw[hp] at h;cases h
     | some s =>
       rw[hp] at h;simp only at h
       split at h
       ·cases h
       next hn =>
       cases h;rw[not_or] at hn;refine⟨⟨o,hs,ha,hp,rfl⟩,hn.1,fun hm=>hn.2 ?_⟩;exact List.any_eq_true.2 ⟨_,hm,(heB_iff _ _).2 rfl⟩
theorem fo_s (n:Nat)(l:HpQ):foF Ls Hs Ts (n+1) l=match enE Ls Hs Ts l (laH l) with | .inl e=>(e.1,e.2,l) | .inr p=>foF Ls Hs Ts n (l++[p]):=rfl
end
theorem aph_fin:∀s v h:Fin 16,(bits .andNot .i64 ((v:Nat):Int) ((s:Nat):Int)==0)=true→hdrB (apV ((s:Nat):Int) ((v:Nat):Int) ((h:Nat):Int))=true:=by decide +kernel
theorem ap_hdr {p m b o s v h:Int}(hr:apN p m b o s v h=0):hdrB (apR p m b o s v h)=true:=by
 obtain⟨h1,h2,_,_⟩:=ap_yes hr;obtain⟨g1,_,g3⟩:=ru_ok h1;obtain⟨_,hs,hv⟩:=ru_in g1;obtain⟨s',rfl⟩:=small hs;obtain⟨v',rfl⟩:=small hv;obtain⟨h',rfl⟩:=small (hdr_of h2);simp only[ruSet,Bool.and_eq_true] at g3;rw[apR,if_pos hr];exact aph_fin s' v' h' g3.1
section
variable {S:Int}{Ls:LkQ}{Hs:HoQ}{Ts:TsQ}
theorem st_hdr {p o:(Int×Int)×Int}(h:stO Ts p=some o):hdrB o.2=true∧o.1.1=p.1.1:=by
 unfold stO stT at h
 split at h
 ·split at h
  ·next hr =>
   cases h;exact⟨ap_hdr hr,rfl⟩
  cases h
 cases h
theorem peer_sp (ht:tpN S Ls Hs=0){s p:Int×Int}(h:peerO Ls s=some p):spB S p=true:=(tp_0 ht).2.2.1 p (peer_in h).2
theorem nx_good (ht:tpN S Ls Hs=0){p q:(Int×Int)×Int}(h:NxH Ls Hs Ts p q):spB S q.1=true∧hdrB q.2=true:=by
 obtain⟨o,h1,_,h3,h4⟩:=h;exact⟨peer_sp ht h3,by rw[h4];exact (st_hdr h1).1⟩
end
structure Wi where
 k:Int
 f:ByteArray
 t:ByteArray
 v:Int
def zeW:Wi:=⟨0,ByteArray.empty,ByteArray.empty,0⟩
def abW (w:Wi)(n:ByteArray):Bool:=(w.k==4) || (w.f==n)
def thW (w:Wi)(F:Int×ByteArray×HpQ):Bool:=(F.1==1)&&(F.2.1==w.t)
def haW (v:Int)(l:HpQ):Bool:=l.any fun h=>h.1.1==v
def fiB (w:Wi)(n:ByteArray)(F:Int×ByteArray×HpQ):Bool:=
 if abW w n then (if w.k=1 then thW w F else if w.k=2 then !thW w F else if w.k=3 then (!thW w F || haW w.v F.2.2) else if w.k=4 then !(F.1==4) else true) else true
def wkB (k:Int):Bool:=decide (1≤k)&&decide (k≤4)
def viB (w:Wi)(S:Int):Bool:=(w.k != 3) || swB S w.v
def nlB (w:Wi):Bool:=(w.f==ByteArray.empty)&&(w.t==ByteArray.empty)
def hoB (Hs:HoQ)(n:ByteArray):Bool:=Hs.any fun h=>h.1==n
def veB (w:Wi):Bool:=(w.k != 3)&&(w.v != 0)
def woN (S:Int)(Hs:HoQ)(w:Wi):Int:=
 if !wkB w.k || (!viB w S || veB w) then 1 else if w.k=4 then (if nlB w then 0 else 3) else if hoB Hs w.f&&hoB Hs w.t then 0 else 5
def wsTo (S:Int)(Hs:HoQ)(l:List Wi):Nat→Int
 | 0=>0
 | k+1=>if wsTo S Hs l k=0 then woN S Hs (l.getD k zeW) else wsTo S Hs l k
def wsN (S:Int)(Ls:LkQ)(Hs:HoQ)(l:List Wi):Int:=
 if tpN S Ls Hs=0 then (if 8<l.length then 4 else wsTo S Hs l l.length) else tpN S Ls Hs
theorem ws_le {S:Int}{Hs:HoQ}{l:List Wi}{k:Nat}(h:wsTo S Hs l k≠0):∀{n:Nat},k≤n→wsTo S Hs l n=wsTo S Hs l k
 | 0,hn=>by
   obtain rfl:k=0:=by omega
   rfl
 | n+1,hn=>by
   by_cases e:k=n+1
   ·subst e;rfl
   have:=ws_le h (show k≤n by omega);rw[wsTo,if_neg (by rw[this];exact h),this]
theorem getW {l:List Wi}{k:Nat}(hk:k<l.length):l.getD k zeW=l[k]:=by simp[List.getD,hk]
section
variable (Ls:LkQ)(Hs:HoQ)(Ts:TsQ)
def brB (w:Wi)(x:ByteArray×(Int×Int))(h:Int):Bool := !fiB w x.1 (frF Ls Hs Ts x.2 h)
def brH (w:Wi)(x:ByteArray×(Int×Int)):Nat→Int
 | 0 => -1
 | k+1=>if brH w x k<0 then (if brB Ls Hs Ts w x (k:Int) then (k:Int) else -1) else brH w x k
def zeO:ByteArray×(Int×Int):=(ByteArray.empty,(0,0))
def brX (w:Wi)(Xs:HoQ):Nat→Option (Nat×Int)
 | 0=>none
 | k+1=>match brX w Xs k with
   | some x=>some x
   | none=>if 0≤brH Ls Hs Ts w (Xs.getD k zeO) 16 then some (k,brH Ls Hs Ts w (Xs.getD k zeO) 16) else none
def brW (l:List Wi)(Xs:HoQ):Nat→Option (Nat×Nat×Int)
 | 0=>none
 | k+1=>match brW l Xs k with
   | some x=>some x
   | none=>match brX Ls Hs Ts (l.getD k zeW) Xs Xs.length with
     | some p=>some (k,p.1,p.2)
     | none=>none
end
section
variable {Ls:LkQ}{Hs:HoQ}{Ts:TsQ}
theorem brH_le {w:Wi}{x:ByteArray×(Int×Int)}{k:Nat}(h:0≤brH Ls Hs Ts w x k):∀{n:Nat},k≤n→brH Ls Hs Ts w x n=brH Ls Hs Ts w x k
 | 0,hn=>by
   obtain rfl:k=0:=by omega
   rfl
 | n+1,hn=>by
   by_cases e:k=n+1
   ·subst e;rfl
   have:=brH_le h (show k≤n by omega);rw[brH,if_neg (by rw[this];omega),this]
theorem brH_no {w:Wi}{x:ByteArray×(Int×Int)}{k:Nat}(h:brH Ls Hs Ts w x k<0)(h2:brB Ls Hs Ts w x (k:Int)=false):brH Ls Hs Ts w x (k+1)<0:=by
 rw[brH,if_pos h,h2];simp
theorem brH_yes {w:Wi}{x:ByteArray×(Int×Int)}{k:Nat}(hk:k<16)(h:brH Ls Hs Ts w x k<0)(h2:brB Ls Hs Ts w x (k:Int)=true):brH Ls Hs Ts w x 16=k:=by
 have e:brH Ls Hs Ts w x (k+1)=k:=by
  rw[brH,if_pos h,h2];simp
 rw[brH_le (k:=k+1) (by rw[e];omega) (by omega),e]
variable {Xs:HoQ}
theorem brX_le {w:Wi}{k:Nat}{p:Nat×Int}(h:brX Ls Hs Ts w Xs k=some p):∀{n:Nat},k≤n→brX Ls Hs Ts w Xs n=some p
 | 0,hn=>by
   obtain rfl:k=0:=by omega
   exact h
 | n+1,hn=>by
   by_cases e:k=n+1
   ·subst e;exact h
   rw[brX,brX_le h (show k≤n by omega)]
theorem getO {Xs:HoQ}{k:Nat}(hk:k<Xs.length):Xs.getD k zeO=Xs[k]:=by simp[List.getD,hk]
theorem brX_no {w:Wi}{k:Nat}(hk:k<Xs.length)(h:brX Ls Hs Ts w Xs k=none)(h2:brH Ls Hs Ts w Xs[k] 16<0):brX Ls Hs Ts w Xs (k+1)=none:=by
 rw[brX,h];simp only;rw[getO hk,if_neg (by omega)]
theorem brX_yes {w:Wi}{k:Nat}(hk:k<Xs.length)(h:brX Ls Hs Ts w Xs k=none)(h2:0≤brH Ls Hs Ts w Xs[k] 16):brX Ls Hs Ts w Xs Xs.length=some (k,brH Ls Hs Ts w Xs[k] 16):=by
 refine brX_le (k:=k+1) ?_ (by omega);rw[brX,h];simp only;rw[getO hk,if_pos h2]
variable {l:List Wi}
theorem brW_le {k:Nat}{p:Nat×Nat×Int}(h:brW Ls Hs Ts l Xs k=some p):∀{n:Nat},k≤n→brW Ls Hs Ts l Xs n=some p
 | 0,hn=>by
   obtain rfl:k=0:=by omega
   exact h
 | n+1,hn=>by
   by_cases e:k=n+1
   ·subst e;exact h
   rw[brW,brW_le h (show k≤n by omega)]
theorem brW_no {k:Nat}(hk:k<l.length)(h:brW Ls Hs Ts l Xs k=none)(h2:brX Ls Hs Ts l[k] Xs Xs.length=none):brW Ls Hs Ts l Xs (k+1)=none:=by
 rw[brW,h];simp only;rw[getW hk,h2]
theorem brW_yes {k:Nat}(hk:k<l.length)(h:brW Ls Hs Ts l Xs k=none){p:Nat×Int}(h2:brX Ls Hs Ts l[k] Xs Xs.length=some p):brW Ls Hs Ts l Xs l.length=some (k,p.1,p.2):=by
 refine brW_le (k:=k+1) ?_ (by omega);rw[brW,h];simp only;rw[getW hk,h2]
end
def prV (Hs:HoQ):Option (Nat×Nat×Int)→Int×ByteArray×Int
 | none=>(0,ByteArray.empty,0)
 | some p=>((p.1:Int),(Hs.getD p.2.1 zeO).1,p.2.2)
def wiN (S:Int)(Ls:LkQ)(Hs:HoQ)(Ts:TsQ)(l:List Wi):Int:=
 if ntN S Ls Hs Ts=0 then (if wsN S Ls Hs l=0 then (if (brW Ls Hs Ts l Hs l.length).isSome then 9 else 0) else wsN S Ls Hs l) else ntN S Ls Hs Ts
def wiV (S:Int)(Ls:LkQ)(Hs:HoQ)(Ts:TsQ)(l:List Wi):Int×ByteArray×Int:=
 if ntN S Ls Hs Ts=0∧wsN S Ls Hs l=0 then prV Hs (brW Ls Hs Ts l Hs l.length) else (0,ByteArray.empty,0)
end
section
open Go.ChangeShapes Go.WideShapes Go.ChangeAt Go.RowKit Go.Joins
def wisE:Enc (Wi) where
 c:=fun x=>[.int i64 x.k,.string x.f,.string x.t,.int i64 x.v]
 n:=4
 len:=fun _=>rfl
 pos:=by decide
 one:=by
  intro x u hu;simp at hu
  rcases hu with rfl | rfl | rfl | rfl <;> rfl
theorem wis_cells {w:World}{g o:Nat}{x0:Int}{x1 x2:ByteArray}{x3:Int}(h:VAt w g o (wisE.c ⟨x0,x1,x2,x3⟩)):w.cell? ⟨g,o,none⟩=some (.int i64 x0)∧w.cell? ⟨g,o+1,none⟩=some (.string x1)∧w.cell? ⟨g,o+2,none⟩=some (.string x2)∧w.cell? ⟨g,o+3,none⟩=some (.int i64 x3):=
 ⟨h 0 _ rfl,h 1 _ rfl,h 2 _ rfl,h 3 _ rfl⟩
theorem wis_at {w:World}{g o:Nat}{L:List (Wi)}(h:GAt wisE w g o L){n k:Nat}(hn:L.length=n)(hk:k<n):
 ∃(x0:Int) (x1:ByteArray) (x2:ByteArray) (x3:Int) (hl:k<L.length),L[k]=⟨x0,x1,x2,x3⟩∧w.cell? ⟨g,o+k*4,none⟩=some (.int i64 x0)∧w.cell? ⟨g,o+k*4+1,none⟩=some (.string x1)∧w.cell? ⟨g,o+k*4+2,none⟩=some (.string x2)∧w.cell? ⟨g,o+k*4+3,none⟩=some (.int i64 x3):=
 have hl:k<L.length:=by omega
 ⟨_,_,_,_,hl,rfl,wis_cells (h k hl)⟩
theorem wis_open {H:Type}{enc:TypeId×Value→H}{W:World}{n:Nat}{cs:List Value}{x:DataW H×List MemPlace}
 (h:DataW.trod enc prog W 0 (fun _=>true) true n 80 cs=some x):∃y,cs=wisE.c y:=by
 obtain⟨xs,k,_,_,hl,hlen,hf⟩:=DataW.trod_struct underlying80 h;have hC:Tryz.prog.cellsOf 80=4:=by kernel_rfl
 have hT0:Tryz.prog.cellsOf 3=1:=by kernel_rfl
 have hT1:Tryz.prog.cellsOf 9=1:=by kernel_rfl
 rw[hC] at hl
 match cs,hl with
 | [c0,c1,c2,c3],_ =>
   match xs,hlen with
   | [z0,z1,z2,z3],_ =>
     have g0:=hf 0 _ rfl;have g1:=hf 1 _ rfl;have g2:=hf 2 _ rfl;have g3:=hf 3 _ rfl;simp[hT0,hT1] at g0 g1 g2 g3;obtain⟨v0,e0,_,_⟩:=DataW.trod_int underlying3 g0;obtain⟨v1,e1,_,_⟩:=DataW.trod_string underlying9 g1;obtain⟨v2,e2,_,_⟩:=DataW.trod_string underlying9 g2;obtain⟨v3,e3,_,_⟩:=DataW.trod_int underlying3 g3;simp[] at e0 e1 e2 e3;refine⟨⟨v0,v1,v2,v3⟩,?_⟩;simp[wisE,e0,e1,e2,e3]
theorem wiss_of {H:Type}{enc:TypeId×Value→H}{W:World}{base:Nat}{v:Value}{d:DataW H}{p:List MemPlace}
 (hv:Value.okWide prog W .any base 29 v) (h:DataW.Trod enc prog W 0 (fun _=>true) true 29 v d p):∃L,GS wisE W v L:=
 gs_of (E:=wisE) 29 80 underlying29 (by kernel_rfl) ⟨0,ByteArray.empty,ByteArray.empty,0⟩ (fun _ _ _ h=>wis_open h) hv h
end
section
open Go.RowKit
def hstAsks (w:World)(f:FuncId)(c:Value)(P:ByteArray×(Int×Int)→Bool):Prop:=
 ∀(x0:ByteArray) (x1:Int) (x2:Int) (W:World),Below w.heap.size w W→Calls prog f #[.agg #[.string x0,.int i64 x1,.int i64 x2],c] W fun e w'=>e=.returned (.bool (P (x0,(x1,x2))))∧Below W.heap.size W w'
theorem hst_idxF (ao:AdQ)(n cap:Nat)(f:FuncId)(c:Value)(P:ByteArray×(Int×Int)→Bool)(L:HoQ)(w:World)(hn:L.length=n)(hn2:n≤maxLen)(ha:0<n→∃g o,ao=some ⟨g,o,none⟩∧GAt hstE w g o L∧cap≤maxLen)(he:∀args w,(callFunc f args).run prog w=.ok (.enter f args) w)(hf:hstAsks w f c P):
 Calls prog 137 #[.slice ao n cap,.func (Fn.func f) #[] #[c]] w fun e w'=>e=.returned (.int i64 (ixG P L))∧Below w.heap.size w w':=by
 have HN:Hid (L.length=n):=hn;have HF:Hid (hstAsks w f c P):=hf;have HA:Hid (0<n→∃g o,ao=some ⟨g,o,none⟩∧GAt hstE w g o L∧cap≤maxLen):=ha;unfold maxLen at hn2;clear hn hf ha;go_enter func137,ntmps137;go_wp2
 go_loopw [8] (fun i wr=>∃k:Nat,k≤n∧i=.int i64 k∧(L.take k).any P=false∧Below w.heap.size w wr)
  (fun i _=>n-(intOf i).toNat)
 case atStart=>exact⟨0,by omega,rfl,by simp,bRQ _ _⟩
 case round =>
  obtain⟨k,hk,rfl,hno,hB⟩:=hrel;have HB:Hid (Below w.heap.size w wr):=hB;have HNO:Hid ((L.take k).any P=false):=hno;clear hno;by_cases hlt:k<n
  ·obtain⟨g,o,hao,hc,_⟩:=HA.out (by omega);subst hao;obtain⟨x0,x1,x2,hkl,hL,q0,q1,q2⟩:=hst_at (hc.later hB) HN.out hlt;have HL:Hid (L[k]=(x0,(x1,x2))):=hL;clear hL hB;cases ho:P (x0,(x1,x2))
   ·go_wp2_with fail
    refine (HF.out x0 x1 x2 _ HB.out).mono ?_;rintro e w1 ⟨rfl,hb1⟩;rw[ho];have HB1:=HB.out.trans (hb1.mono HB.out.size);clear hb1;go_wp2;go_roundw
    case rel=>exact⟨k+1,by omega,by go_num,any_nextG hkl HNO.out (by rw[HL.out];exact ho),HB1⟩
    case measure=>simp[intOf];omega
   go_wp2_with fail
   refine (HF.out x0 x1 x2 _ HB.out).mono ?_;rintro e w1 ⟨rfl,hb1⟩;rw[ho];go_wp2;go_ret;exact⟨by rw[ixG_hit hkl HNO.out (by rw[HL.out];exact ho)];rfl,HB.out.trans (hb1.mono HB.out.size)⟩
  obtain rfl:k=n:=by omega
  go_wp2;go_ret;exact⟨by have:=HNO.out;rw[←HN.out,List.take_length] at this;rw[ixG_no this];rfl,HB.out⟩
theorem hst_hasF (ao:AdQ)(n cap:Nat)(f:FuncId)(c:Value)(P:ByteArray×(Int×Int)→Bool)(L:HoQ)(w:World)(hn:L.length=n)(hn2:n≤maxLen)(ha:0<n→∃g o,ao=some ⟨g,o,none⟩∧GAt hstE w g o L∧cap≤maxLen)(he:∀args w,(callFunc f args).run prog w=.ok (.enter f args) w)(hf:hstAsks w f c P):
 Calls prog 153 #[.slice ao n cap,.func (Fn.func f) #[] #[c]] w fun e w'=>e=.returned (.bool (L.any P))∧Below w.heap.size w w':=by
 rw[←ixG_any];obtain⟨x,hx⟩:∃x,x=ixG P L:=⟨_,rfl⟩;have HX:Hid (x=ixG P L):=hx;rw[←hx];clear hx;go_enter func153,ntmps153
 go_wp2_with fail
 refine (hst_idxF ao n cap f c P L _ hn hn2 ha he hf).mono ?_;rintro e w1 ⟨rfl,hb1⟩;rw[←HX.out];go_wp2;go_ret;exact⟨rfl,hb1⟩
theorem emp_lst (s:ByteArray):s.toList.isEmpty=(s==ByteArray.empty):=by
 have e:ByteArray.empty.toList=[]:=by rw[Lib.toList_data];rfl
 rw[beq_toListBytes,e];cases h:s.toList with
 | nil=>rfl
 | cons a l=>rfl
def WiBox (W:World)(g:Nat)(k:Int)(f t:ByteArray)(v:Int):Prop:=W.cell? ⟨g,0,none⟩=some (.int i64 k)∧W.cell? ⟨g,1,none⟩=some (.string f)∧W.cell? ⟨g,2,none⟩=some (.string t)∧W.cell? ⟨g,3,none⟩=some (.int i64 v)
theorem wibox_new (w:World)(k:Int)(f t:ByteArray)(v:Int)(T:TypeId):WiBox (w.alloc (.cells #[.int i64 k,.string f,.string t,.int i64 v] T)) w.heap.size k f t v:=by
 refine⟨?_,?_,?_,?_⟩ <;> simp
theorem WiBox.later {W W':World}{g:Nat}{k:Int}{f t:ByteArray}{v:Int}(h:WiBox W g k f t v)(hb:Below W.heap.size W W'):WiBox W' g k f t v:=
 ⟨cell_later hb h.1,cell_later hb h.2.1,cell_later hb h.2.2.1,cell_later hb h.2.2.2⟩
theorem isWhat_any (k:Int)(w:World):
 Calls prog 125 #[.int i64 k] w fun e w'=>e=.returned (.bool (wkB k))∧Below w.heap.size w w':=by
 by_cases h1:1≤k
 ·by_cases h2:k≤4
  ·have e:wkB k=true:=by simp[wkB,h1,h2]
   rw[e];clear e;go_enter func125,ntmps125;go_wp2;go_ret;exact⟨rfl,bRQ _ _⟩
  have e:wkB k=false:=by simp[wkB,h2]
  rw[e];clear e;go_enter func125,ntmps125;go_wp2;go_ret;exact⟨rfl,bRQ _ _⟩
 have e:wkB k=false:=by simp[wkB,h1]
 rw[e];clear e;go_enter func125,ntmps125;go_wp2;go_ret;exact⟨rfl,bRQ _ _⟩
theorem isAbout_any (k:Int)(f t:ByteArray)(v:Int)(m:ByteArray)(w:World):
 Calls prog 93 #[.agg #[.int i64 k,.string f,.string t,.int i64 v],.string m] w fun e w'=>e=.returned (.bool (abW ⟨k,f,t,v⟩ m))∧Below w.heap.size w w':=by
 have HB0:Hid (Below w.heap.size w (w.alloc (.cells #[.int i64 k,Value.string f,Value.string t,.int i64 v] 80))):=(bRQ _ _).alloc (nLQ _) _;by_cases h:k=4
 ·subst h;rw[show abW ⟨4,f,t,v⟩ m=true from rfl];go_enter func93,ntmps93;go_wp2;go_ret;exact⟨rfl,HB0.out⟩
 have e:abW ⟨k,f,t,v⟩ m=(k==4 || f.toList==m.toList):=by rw[abW,←beq_toListBytes]
 rw[e];clear e;go_enter func93,ntmps93;go_wp2;go_ret;exact⟨rfl,HB0.out⟩
theorem isNameless_any (k:Int)(f t:ByteArray)(v:Int)(w:World):
 Calls prog 127 #[.agg #[.int i64 k,.string f,.string t,.int i64 v]] w fun e w'=>e=.returned (.bool (nlB ⟨k,f,t,v⟩))∧Below w.heap.size w w':=by
 have HB0:Hid (Below w.heap.size w (w.alloc (.cells #[.int i64 k,Value.string f,Value.string t,.int i64 v] 80))):=(bRQ _ _).alloc (nLQ _) _;cases hf:(f==ByteArray.empty)
 ·have e:nlB ⟨k,f,t,v⟩=false:=by simp[nlB,hf]
  rw[e];rw[←emp_lst] at hf;clear e;go_enter func127,ntmps127;go_wp2;go_ret;exact⟨rfl,HB0.out⟩
 have e:nlB ⟨k,f,t,v⟩=t.toList.isEmpty:=by simp[nlB,hf,emp_lst]
 rw[e];rw[←emp_lst] at hf;clear e;cases ht:t.toList.isEmpty
 ·go_enter func127,ntmps127;go_wp2;go_ret;exact⟨rfl,HB0.out⟩
 go_enter func127,ntmps127;go_wp2;go_ret;exact⟨rfl,HB0.out⟩
theorem isVia_any (k:Int)(f t:ByteArray)(v S:Int)(w:World):
 Calls prog 126 #[.agg #[.int i64 k,.string f,.string t,.int i64 v],.int i64 S] w fun e w'=>e=.returned (.bool (viB ⟨k,f,t,v⟩ S))∧Below w.heap.size w w':=by
 have HB0:Hid (Below w.heap.size w (w.alloc (.cells #[.int i64 k,Value.string f,Value.string t,.int i64 v] 80))):=(bRQ _ _).alloc (nLQ _) _;by_cases h:k=3
 ·subst h;rw[show viB ⟨3,f,t,v⟩ S=swB S v from rfl];go_enter func126,ntmps126
  go_wp2_with fail
  refine (isSwitch_any S v _).mono ?_;rintro e w1 ⟨rfl,hb1⟩;go_wp2;go_ret;exact⟨rfl,HB0.out.trans (hb1.mono HB0.out.size)⟩
 have e:viB ⟨k,f,t,v⟩ S=true:=by simp[viB,h]
 rw[e];clear e;go_enter func126,ntmps126;go_wp2;go_ret;exact⟨rfl,HB0.out⟩
theorem isHost1_any (n:ByteArray)(x0 x1:Int)(B:Nat)(m:ByteArray)(w:World)(h0:w.cell? ⟨B,0,none⟩=some (.string m)):
 Calls prog 154 #[.agg #[.string n,.int i64 x0,.int i64 x1],.pointer (some ⟨B,0,none⟩)] w fun e w'=>e=.returned (.bool (n==m))∧Below w.heap.size w w':=by
 have hlt:B<w.heap.size:=bLQ _ _ h0;have HB0:Hid (Below w.heap.size w (w.alloc (.cells #[Value.string n,.int i64 x0,.int i64 x1] 77))):=(bRQ _ _).alloc (nLQ _) _;rw[beq_toListBytes];go_enter func154,ntmps154;go_wp2;go_ret;exact⟨rfl,HB0.out⟩
theorem isHost1_asks (B:Nat)(m:ByteArray)(w:World)(h0:w.cell? ⟨B,0,none⟩=some (.string m)):hstAsks w 154 (.pointer (some ⟨B,0,none⟩)) (fun h=>h.1==m):=
 fun n x0 x1 W hW=>isHost1_any n x0 x1 B m W (cell_later hW h0)
theorem isHost_any (S:Int)(v1:Value)(ao2:AdQ)(n2 cap2:Nat)(Hs:HoQ)(m:ByteArray)(w:World)(hv1:v1.oneCell'=true)(hH:GS hstE w (.slice ao2 n2 cap2) Hs):
 Calls prog 128 #[.agg #[.int i64 S,v1,.slice ao2 n2 cap2],.string m] w fun e w'=>e=.returned (.bool (hoB Hs m))∧Below w.heap.size w w':=by
 have e1:(w.alloc (.cells #[.int i64 S,v1,.slice ao2 n2 cap2] 25)).heap.size=w.heap.size+1:=by simp
 have hb1:Below w.heap.size w (w.alloc (.cells #[.int i64 S,v1,.slice ao2 n2 cap2] 25)):=(bRQ _ _).alloc (nLQ _) _;have ht:=tbox_new w S v1 (.slice ao2 n2 cap2) 25;obtain⟨w0,hw0⟩:∃W,W=w.alloc (.cells #[.int i64 S,v1,.slice ao2 n2 cap2] 25):=⟨_,rfl⟩;rw[←hw0] at e1 hb1 ht;have hb2:Below w0.heap.size w0 (w0.alloc (.cells #[.string m] 9)):=(bRQ _ _).alloc (nLQ _) _;have hm:=vat_new w0 [.string m] 9;have ht2:=ht.later hb2;have hB2:=hb1.trans (hb2.mono hb1.size);obtain⟨w2,hw2⟩:∃W,W=w0.alloc (.cells #[.string m] 9):=⟨_,rfl⟩;have hm2:VAt w2 w0.heap.size 0 [.string m]:=by rw[hw2];exact hm
 rw[←hw2] at ht2 hB2;rw[e1] at hm2;have m0:w2.cell? ⟨w.heap.size+1,0,none⟩=some (.string m):=hm2 0 _ rfl;obtain⟨b0,b1,b2⟩:=ht2;have HW:Hid ((w.alloc (.cells #[.int i64 S,v1,.slice ao2 n2 cap2] 25)).alloc (.cells #[.string m] 9)=w2):=by
  show _=_;rw[hw2,hw0]
 have HB2:Hid (Below w.heap.size w w2):=hB2;obtain⟨_,_,_,eH,hHn,hHm,_,hHa⟩:=hH.form;cases eH;have HHN:Hid (Hs.length=n2):=hHn;have HHM:Hid (n2≤maxLen):=hHm;have HHA:Hid (0<n2→∃g o,ao2=some ⟨g,o,none⟩∧GAt hstE w2 g o Hs∧cap2≤maxLen):=fun h=>by
  obtain⟨g,o,k1,k2,k3⟩:=hHa h;exact⟨g,o,k1,k2.later hB2,k3⟩
 have HM0:Hid (w2.cell? ⟨w.heap.size+1,0,none⟩=some (.string m)):=m0;clear hb1 ht hw0 hb2 hm hw2 hm2 hB2 hHn hHm hHa hH e1 m0;go_enter func128,ntmps128;go_upto_region 1 with fail;rw[HW.out];clear HW
 go_wp2_with fail
 refine (hst_hasF ao2 n2 cap2 _ _ (fun h=>h.1==m) Hs _ HHN.out HHM.out HHA.out (enters_of func154 (by kernel_rfl) rfl) (isHost1_asks _ m _ HM0.out)).mono ?_;rintro e w3 ⟨rfl,hb3⟩;rw[show (Hs.any fun h=>h.1==m)=hoB Hs m from rfl];go_wp2;go_ret;exact⟨rfl,HB2.out.trans (hb3.mono HB2.out.size)⟩
structure CBox (w W:World)(S:Int)(v1 v2:Value)(k:Int)(f t:ByteArray)(v:Int):Prop where
 below:Below w.heap.size w W
 b:TBox W w.heap.size S v1 v2
 x:WiBox W (w.heap.size+1) k f t v
theorem cbox_new (w:World)(S:Int)(v1 v2:Value)(k:Int)(f t:ByteArray)(v:Int):CBox w ((w.alloc (.cells #[.int i64 S,v1,v2] 25)).alloc (.cells #[.int i64 k,.string f,.string t,.int i64 v] 80)) S v1 v2 k f t v:=by
 have e1:(w.alloc (.cells #[.int i64 S,v1,v2] 25)).heap.size=w.heap.size+1:=by simp
 have hb:∀(W:World) (o:Obj),Below W.heap.size W (W.alloc o):=fun W o=>(bRQ _ _).alloc (nLQ _) _
 have hn:=(tbox_new w S v1 v2 25).later (hb _ (Obj.cells #[.int i64 k,.string f,.string t,.int i64 v] 80));have hB:=((Below.refl w.heap.size w).alloc (nLQ _) (Obj.cells #[.int i64 S,v1,v2] 25)).alloc (by rw[e1];omega) (Obj.cells #[.int i64 k,.string f,.string t,.int i64 v] 80)
 generalize w.alloc (.cells #[.int i64 S,v1,v2] 25)=X at e1 hn hB
 have hr:=wibox_new X k f t v 80;rw[e1] at hr;exact⟨hB,hn,hr⟩
theorem CBox.later {w W W':World}{S:Int}{v1 v2:Value}{k:Int}{f t:ByteArray}{v:Int}(h:CBox w W S v1 v2 k f t v)(hb:Below W.heap.size W W'):CBox w W' S v1 v2 k f t v:=
 ⟨h.below.trans (hb.mono h.below.size),h.b.later hb,h.x.later hb⟩
theorem checkOne_any (S:Int)(ao:AdQ)(n cap:Nat)(ao2:AdQ)(n2 cap2:Nat)(Hs:HoQ)(k:Int)(f t:ByteArray)(v:Int)(w:World)(hH:GS hstE w (.slice ao2 n2 cap2) Hs):
 Calls prog 89 #[.agg #[.int i64 S,.slice ao n cap,.slice ao2 n2 cap2],.agg #[.int i64 k,.string f,.string t,.int i64 v]] w fun e w'=>e=.returned (noV (woN S Hs ⟨k,f,t,v⟩))∧Below w.heap.size w w':=by
 have hX:=cbox_new w S (.slice ao n cap) (.slice ao2 n2 cap2) k f t v;obtain⟨w0,hw0⟩:∃W,(w.alloc (.cells #[.int i64 S,.slice ao n cap,.slice ao2 n2 cap2] 25)).alloc (.cells #[.int i64 k,.string f,.string t,.int i64 v] 80)=W:=⟨_,rfl⟩;rw[hw0] at hX;have HX:Hid (CBox w w0 S (.slice ao n cap) (.slice ao2 n2 cap2) k f t v):=hX;have HW0:Hid ((w.alloc (.cells #[.int i64 S,.slice ao n cap,.slice ao2 n2 cap2] 25)).alloc (.cells #[.int i64 k,.string f,.string t,.int i64 v] 80)=w0):=hw0;have HH:Hid (∀W,Below w.heap.size w W→GS hstE W (.slice ao2 n2 cap2) Hs):=fun W hb=>hH.later hb
 obtain⟨R,hR⟩:∃R,R=woN S Hs ⟨k,f,t,v⟩:=⟨_,rfl⟩;rw[←hR];obtain⟨Q,hQ⟩:∃q,q=(!wkB k || (!viB ⟨k,f,t,v⟩ S || veB ⟨k,f,t,v⟩)):=⟨_,rfl⟩;have HR:Hid (R=if Q then 1 else if k=4 then (if nlB ⟨k,f,t,v⟩ then 0 else 3) else if hoB Hs f&&hoB Hs t then 0 else 5):=by
  show _=_;rw[hR,hQ];rfl
 have HQ:Hid ((!wkB k || (!viB ⟨k,f,t,v⟩ S || veB ⟨k,f,t,v⟩))=Q):=hQ.symm;clear hX hw0 hH hR hQ;go_enter func89,ntmps89;go_upto_region 1 with fail;rw[HW0.out];obtain⟨_,⟨b0,b1,b2⟩,x0,x1,x2,x3⟩:=HX.out;clear HW0
 go_cut [25] from 5 to 26 (fun c w'=>c=.bool Q∧Below w0.heap.size w0 w')
 case first =>
  go_wp2_with fail
  refine (isWhat_any k _).mono ?_;rintro e w1 ⟨rfl,hb1⟩;obtain⟨WK,hWK⟩:∃q,q=wkB k:=⟨_,rfl⟩;have HQ1:Hid ((!WK || (!viB ⟨k,f,t,v⟩ S || veB ⟨k,f,t,v⟩))=Q):=by
   show _=_;rw[hWK];exact HQ.out
  rw[←hWK];have HB1:Hid (Below w0.heap.size w0 w1):=hb1;have HX1:Hid (CBox w w1 S (.slice ao n cap) (.slice ao2 n2 cap2) k f t v):=HX.out.later hb1;clear hWK hb1 HQ b0 b1 b2 x0 x1 x2 x3;obtain⟨_,⟨b0,b1,b2⟩,x0,x1,x2,x3⟩:=HX1.out;cases WK with
  | false =>
    have hq:=HQ1.out;simp only[Bool.not_false,Bool.true_or] at hq;subst hq
    go_wp2_with fail
    go_meet
    exact⟨rfl,HB1.out⟩
  | true =>
    go_wp2_with fail
    refine (isVia_any k f t v S _).mono ?_;rintro e w2 ⟨rfl,hb2⟩;obtain⟨VI,hVI⟩:∃q,q=viB ⟨k,f,t,v⟩ S:=⟨_,rfl⟩;have HQ2:Hid ((!VI || veB ⟨k,f,t,v⟩)=Q):=by
     show _=_;rw[hVI];have:=HQ1.out;simpa using this
    rw[←hVI];have HB2:Hid (Below w0.heap.size w0 w2):=HB1.out.trans (hb2.mono HB1.out.size);have HX2:Hid (CBox w w2 S (.slice ao n cap) (.slice ao2 n2 cap2) k f t v):=HX1.out.later hb2;clear hVI hb2 HQ1 b0 b1 b2 x0 x1 x2 x3;obtain⟨_,⟨b0,b1,b2⟩,x0,x1,x2,x3⟩:=HX2.out;cases VI with
    | false =>
      have hq:=HQ2.out;simp only[Bool.not_false,Bool.true_or] at hq;subst hq
      go_wp2_with fail
      go_meet
      exact⟨rfl,HB2.out⟩
    | true =>
      by_cases k3:k=3
      ·subst k3;have hq:false=Q:=HQ2.out;subst hq
       go_wp2_with fail
       go_meet
       exact⟨rfl,HB2.out⟩
      have hq:(k != 3&&v != 0)=Q:=HQ2.out;subst hq
      go_wp2_with fail
      go_meet
      exact⟨rfl,HB2.out⟩
 case rest =>
 obtain⟨rfl,hbc⟩:=hcut;have HXc:Hid (CBox w wc S (.slice ao n cap) (.slice ao2 n2 cap2) k f t v):=HX.out.later hbc;clear hbc HX b0 b1 b2 x0 x1 x2 x3;obtain⟨hBc,⟨b0,b1,b2⟩,x0,x1,x2,x3⟩:=HXc.out;have HBc:Hid (Below w.heap.size w wc):=hBc;clear hBc;cases Q with
 | true =>
   have HR1:Hid (R=1):=by
    show _=_;rw[HR.out,if_pos rfl]
   go_wp2;go_ret;exact⟨by rw[HR1.out];rfl,HBc.out⟩
 | false =>
   by_cases k4:k=4
   ·subst k4;obtain⟨NL,hNL⟩:∃q,q=nlB ⟨4,f,t,v⟩:=⟨_,rfl⟩;have HR1:Hid (R=if NL then 0 else 3):=by
     show _=_;rw[HR.out,if_neg (by decide),if_pos rfl,hNL]
    have HNL:Hid (nlB ⟨4,f,t,v⟩=NL):=hNL.symm;clear hNL HR
    go_wp2_with fail
    refine (isNameless_any 4 f t v _).mono ?_;rintro e w2 ⟨rfl,hb2⟩;rw[HNL.out];have HB2:Hid (Below w.heap.size w w2):=HBc.out.trans (hb2.mono HBc.out.size);clear hb2;cases NL with
    | false =>
      go_wp2;go_ret;exact⟨by rw[HR1.out];rfl,HB2.out⟩
    | true =>
      go_wp2;go_ret;exact⟨by rw[HR1.out];rfl,HB2.out⟩
   obtain⟨HF,hHF⟩:∃q,q=hoB Hs f:=⟨_,rfl⟩;obtain⟨HT,hHT⟩:∃q,q=hoB Hs t:=⟨_,rfl⟩;have HR1:Hid (R=if HF&&HT then 0 else 5):=by
    show _=_;rw[HR.out,if_neg (by decide),if_neg k4,hHF,hHT]
   have HHF:Hid (hoB Hs f=HF):=hHF.symm;have HHT:Hid (hoB Hs t=HT):=hHT.symm;clear hHF hHT HR
   go_wp2_with fail
   refine (isHost_any S (.slice ao n cap) ao2 n2 cap2 Hs f _ rfl (HH.out _ HBc.out)).mono ?_;rintro e w2 ⟨rfl,hb2⟩;rw[HHF.out];have HX2:Hid (CBox w w2 S (.slice ao n cap) (.slice ao2 n2 cap2) k f t v):=HXc.out.later hb2;clear hb2 HHF HBc b0 b1 b2 x0 x1 x2 x3;obtain⟨hB2,⟨b0,b1,b2⟩,x0,x1,x2,x3⟩:=HX2.out;have HB2:Hid (Below w.heap.size w w2):=hB2;clear hB2;cases HF with
   | false =>
     go_wp2;go_ret;exact⟨by rw[HR1.out];rfl,HB2.out⟩
   | true =>
     go_wp2_with fail
     refine (isHost_any S (.slice ao n cap) ao2 n2 cap2 Hs t _ rfl (HH.out _ HB2.out)).mono ?_;rintro e w3 ⟨rfl,hb3⟩;rw[HHT.out];have HB3:Hid (Below w.heap.size w w3):=HB2.out.trans (hb3.mono HB2.out.size);clear hb3;cases HT with
     | false =>
       go_wp2;go_ret;exact⟨by rw[HR1.out];rfl,HB3.out⟩
     | true =>
       go_wp2;go_ret;exact⟨by rw[HR1.out];rfl,HB3.out⟩
theorem wcheck_any (S:Int)(ao:AdQ)(n cap:Nat)(ao2:AdQ)(n2 cap2:Nat)(a4:AdQ)(n4 c4:Nat)(Ls:LkQ)(Hs:HoQ)(l:List Wi)(w:World)
 (hL:GS lnkE w (.slice ao n cap) Ls) (hH:GS hstE w (.slice ao2 n2 cap2) Hs) (hl:GS wisE w (.slice a4 n4 c4) l):
 Calls prog 57 #[.agg #[.int i64 S,.slice ao n cap,.slice ao2 n2 cap2],.slice a4 n4 c4] w fun e w'=>e=.returned (noV (wsN S Ls Hs l))∧Below w.heap.size w w':=by
 have hX:=tbox_new w S (.slice ao n cap) (.slice ao2 n2 cap2) 25;have hB0:Below w.heap.size w (w.alloc (.cells #[.int i64 S,.slice ao n cap,.slice ao2 n2 cap2] 25)):=(bRQ _ _).alloc (nLQ _) _;obtain⟨w0,hw0⟩:∃W,w.alloc (.cells #[.int i64 S,.slice ao n cap,.slice ao2 n2 cap2] 25)=W:=⟨_,rfl⟩;rw[hw0] at hX hB0;have HX:Hid (TBox w0 w.heap.size S (.slice ao n cap) (.slice ao2 n2 cap2)):=hX;have HW0:Hid (w.alloc (.cells #[.int i64 S,.slice ao n cap,.slice ao2 n2 cap2] 25)=w0):=hw0;have HB0:Hid (Below w.heap.size w w0):=hB0;have HLW:Hid (∀W,Below w.heap.size w W→GS lnkE W (.slice ao n cap) Ls):=fun W hb=>hL.later hb
 have HHW:Hid (∀W,Below w.heap.size w W→GS hstE W (.slice ao2 n2 cap2) Hs):=fun W hb=>hH.later hb
 obtain⟨_,_,_,e5,hGn,hGm,_,hGa⟩:=hl.form;cases e5;have HGN:Hid (l.length=n4):=hGn;have HGA:Hid (0<n4→∃g o,a4=some ⟨g,o,none⟩∧GAt wisE w g o l∧c4≤maxLen):=hGa;obtain⟨R,hR⟩:∃R,R=wsN S Ls Hs l:=⟨_,rfl⟩;have HR:Hid (R=wsN S Ls Hs l):=hR;rw[←hR];have hn4:n4≤maxLen:=hGm;unfold maxLen at hn4;clear hX hB0 hw0 hL hH hl hGn hGm hGa hR;go_enter func57,ntmps57;go_upto_region 1 with fail;rw[HW0.out];obtain⟨b0,b1,b2⟩:=HX.out;clear HW0
 go_wp2_with fail
 refine (check_any S ao n cap ao2 n2 cap2 Ls Hs _ (HLW.out _ HB0.out) (HHW.out _ HB0.out)).mono ?_;rintro e w1 ⟨rfl,hb1⟩;obtain⟨T,hT⟩:∃T,T=tpN S Ls Hs:=⟨_,rfl⟩;have HT:Hid (T=tpN S Ls Hs):=hT;rw[←hT];have HB1:Hid (Below w.heap.size w w1):=HB0.out.trans (hb1.mono HB0.out.size);have HX1:Hid (TBox w1 w.heap.size S (.slice ao n cap) (.slice ao2 n2 cap2)):=HX.out.later hb1;clear hT hb1 b0 b1 b2 HX;by_cases h0:T=0
 ·have HR1:Hid (R=if 8<l.length then 4 else wsTo S Hs l l.length):=by
   show _=_;rw[HR.out,wsN,if_pos (HT.out.symm.trans h0)]
  subst h0;rw[no_ok rfl];by_cases h8:8<n4
  ·have HR2:Hid (R=4):=by
    show _=_;rw[HR1.out,if_pos (by rw[HGN.out];exact h8)]
   have h8':(8:Int)<(n4:Int):=by omega
   go_wp2;go_ret;exact⟨by rw[HR2.out];rfl,HB1.out⟩
  have HR2:Hid (R=wsTo S Hs l n4):=by
   show _=_;rw[HR1.out,if_neg (by rw[HGN.out];exact h8),HGN.out]
  have h8':¬(8:Int)<(n4:Int):=by omega
  clear HR HR1;go_wp2
  go_loopw [20] (fun i wr=>∃j:Nat,j≤n4∧i=.int i64 j∧wsTo S Hs l j=0∧Below w1.heap.size w1 wr) (fun i _=>n4-(intOf i).toNat)
  case atStart=>exact⟨0,by omega,rfl,rfl,bRQ _ _⟩
  case round =>
   obtain⟨j,hj,rfl,hno,hB⟩:=hrel;have HB:Hid (Below w1.heap.size w1 wr):=hB;have HBw:Hid (Below w.heap.size w wr):=HB1.out.trans (hB.mono HB1.out.size);have HNO:Hid (wsTo S Hs l j=0):=hno;have HXr:Hid (TBox wr w.heap.size S (.slice ao n cap) (.slice ao2 n2 cap2)):=HX1.out.later hB;clear hno hB;by_cases hlt:j<n4
   ·obtain⟨g,o,hao,hc,_⟩:=HGA.out (by omega);subst hao;obtain⟨y0,y1,y2,y3,hkl,hLk,q0,q1,q2,q3⟩:=wis_at (hc.later HBw.out) HGN.out hlt;obtain⟨N,hN⟩:∃q,q=woN S Hs ⟨y0,y1,y2,y3⟩:=⟨_,rfl⟩;have HN:Hid (woN S Hs ⟨y0,y1,y2,y3⟩=N):=hN.symm;have HST:Hid (wsTo S Hs l (j+1)=N):=by
     show _=_;rw[wsTo,if_pos HNO.out,getW hkl,hLk,←hN]
    have hba:Below wr.heap.size wr (wr.alloc (.cells #[.int i64 y0,Value.string y1,Value.string y2,.int i64 y3] 80)):=(bRQ _ _).alloc (nLQ _) _;have HBA:Hid (Below wr.heap.size wr (wr.alloc (.cells #[.int i64 y0,Value.string y1,Value.string y2,.int i64 y3] 80))):=hba;obtain⟨b0,b1,b2⟩:=HXr.out;have hlw:w.heap.size<wr.heap.size:=bLQ _ _ b0;clear hc hLk hN hba
    go_wp2_with fail
    refine (checkOne_any S ao n cap ao2 n2 cap2 Hs y0 y1 y2 y3 _ (HHW.out _ (HBw.out.trans (HBA.out.mono HBw.out.size)))).mono ?_;rintro e w3 ⟨rfl,hb3⟩;rw[HN.out];have HB3:Hid (Below w1.heap.size w1 w3):=(HB.out.trans (HBA.out.mono HB.out.size)).trans (hb3.mono (HB.out.trans (HBA.out.mono HB.out.size)).size);clear hb3 HBA b0 b1 b2 q0 q1 q2 q3 hlw HXr HB;by_cases hN0:N=0
    ·subst hN0;rw[no_ok rfl];go_wp2;go_roundw
     case rel=>exact⟨j+1,by omega,by go_num,HST.out,HB3.out⟩
     case measure=>simp[intOf];omega
    rw[no_ne hN0];have HR3:Hid (R=N):=by
     show _=_;rw[HR2.out,ws_le (k:=j+1) (by rw[HST.out];exact hN0) (by omega),HST.out]
    have HNN:Hid (N≠0):=hN0;clear hN0;go_wp2;go_ret;exact⟨by rw[HR3.out,no_ne HNN.out];rfl,HB1.out.trans (HB3.out.mono HB1.out.size)⟩
   obtain rfl:j=n4:=by omega
   have HR3:Hid (R=0):=by
    show _=_;rw[HR2.out,HNO.out]
   go_wp2;go_ret;exact⟨by rw[HR3.out,no_ok rfl];rfl,HBw.out⟩
 rw[no_ne h0];have HR1:Hid (R=T):=by
  show _=_;rw[HR.out,wsN,if_neg (by rw[←HT.out];exact h0),HT.out]
 have HNN:Hid (T≠0):=h0;clear h0;go_wp2;go_ret;exact⟨by rw[HR1.out,no_ne HNN.out];rfl,HB1.out⟩
abbrev LkT:Type:=(Int×Int)×(Int×Int)
abbrev HoT:Type:=ByteArray×(Int×Int)
structure NI (W:World)(v1 v2 v3:Value)(Ls:List LkT)(Hs:List HoT)(Ts:TsQ):Prop where
 l:GS lnkE W v1 Ls
 h:GS hstE W v2 Hs
 t:TS W v3 Ts
theorem NI.later {W W':World}{v1 v2 v3:Value}{Ls:List LkT}{Hs:List HoT}{Ts:TsQ}(h:NI W v1 v2 v3 Ls Hs Ts)(hb:Below W.heap.size W W'):NI W' v1 v2 v3 Ls Hs Ts:=⟨h.l.later hb,h.h.later hb,h.t.later hb⟩
theorem NI.form {W:World}{v1 v2 v3:Value}{Ls:List LkT}{Hs:List HoT}{Ts:TsQ}(h:NI W v1 v2 v3 Ls Hs Ts):∃ao n cap ao2 n2 cap2 ao3 n3 cap3,v1=.slice ao n cap∧v2=.slice ao2 n2 cap2∧v3=.slice ao3 n3 cap3:=by
 obtain⟨ao,n,cap,e,_⟩:=h.l.form;obtain⟨ao2,n2,cap2,e2,_⟩:=h.h.form
 rcases h.t with ⟨ao3,cap3,e3,_⟩ | ⟨g,o,cap3,e3,_⟩
 ·exact⟨ao,n,cap,ao2,n2,cap2,ao3,_,cap3,e,e2,e3⟩
 exact⟨ao,n,cap,ao2,n2,cap2,_,_,cap3,e,e2,e3⟩
def pdN (S:Int)(Ls:List LkT)(Hs:List HoT)(Ts:TsQ)(S':Int)(Ls':List LkT)(Hs':List HoT)(Ts':TsQ)(ws:List Wi):Int:=if diN S Ls Hs Ts S' Ls' Hs' Ts'=0 then wsN S Ls Hs ws else diN S Ls Hs Ts S' Ls' Hs' Ts'
def pdL (S:Int)(Ls:List LkT)(Hs:List HoT)(Ts:TsQ)(S':Int)(Ls':List LkT)(Hs':List HoT)(Ts':TsQ)(ws:List Wi):List Op8:=if pdN S Ls Hs Ts S' Ls' Hs' Ts' ws=0 then diL S Ls Hs Ts S' Ls' Hs' Ts' else []
theorem pdiff_any (S:Int)(v1 v2 v3:Value)(S':Int)(u1 u2 u3 v4:Value)(Ls:List LkT)(Hs:List HoT)(Ts:TsQ)(Ls':List LkT)(Hs':List HoT)(Ts':TsQ)(ws:List Wi)(w:World)
 (hN:NI w v1 v2 v3 Ls Hs Ts) (hM:NI w u1 u2 u3 Ls' Hs' Ts') (hw:GS wisE w v4 ws):
 Calls prog 34 #[.agg #[.int i64 S,v1,v2,v3],.agg #[.int i64 S',u1,u2,u3],v4] w fun e w'=>∃v,e=.returned (.tuple #[v,noV (pdN S Ls Hs Ts S' Ls' Hs' Ts' ws)])∧NO w' w.heap.size v (pdL S Ls Hs Ts S' Ls' Hs' Ts' ws)∧Below w.heap.size w w':=by
 obtain⟨ao,n,cap,ao2,n2,cap2,ao3,n3,cap3,rfl,rfl,rfl⟩:=hN.form;obtain⟨bo,m,dap,bo2,m2,dap2,bo3,m3,dap3,rfl,rfl,rfl⟩:=hM.form;obtain⟨a4,n4,c4,rfl,_⟩:=hw.form;obtain⟨w1,hw1⟩:∃W,W=(w.alloc (.cells #[.int i64 S,.slice ao n cap,.slice ao2 n2 cap2,.slice ao3 n3 cap3] 28)).alloc (.cells #[.int i64 S',.slice bo m dap,.slice bo2 m2 dap2,.slice bo3 m3 dap3] 28):=⟨_,rfl⟩;have hb1:Below w.heap.size w w1:=by rw[hw1];exact ((bRQ _ _).alloc (nLQ _) _).alloc (by simp) _
 have hbx:NN w1 w.heap.size S (.slice ao n cap) (.slice ao2 n2 cap2) (.slice ao3 n3 cap3) S' (.slice bo m dap) (.slice bo2 m2 dap2) (.slice bo3 m3 dap3):=by rw[hw1];exact nn_new w S _ _ _ S' _ _ _ 28
 have HNW:Hid (∀W,Below w1.heap.size w1 W→NI W (.slice ao n cap) (.slice ao2 n2 cap2) (.slice ao3 n3 cap3) Ls Hs Ts∧NI W (.slice bo m dap) (.slice bo2 m2 dap2) (.slice bo3 m3 dap3) Ls' Hs' Ts'∧GS wisE W (.slice a4 n4 c4) ws):=fun W h=>⟨(hN.later hb1).later h,(hM.later hb1).later h,(hw.later hb1).later h⟩
 have HBX:Hid (NeBox w1 w.heap.size S (.slice ao n cap) (.slice ao2 n2 cap2) (.slice ao3 n3 cap3)):=hbx.1;have HB1:Hid (Below w.heap.size w w1):=hb1;have HW1:Hid (w1=(w.alloc (.cells #[.int i64 S,.slice ao n cap,.slice ao2 n2 cap2,.slice ao3 n3 cap3] 28)).alloc (.cells #[.int i64 S',.slice bo m dap,.slice bo2 m2 dap2,.slice bo3 m3 dap3] 28)):=hw1;obtain⟨X,hX⟩:∃q,q=diN S Ls Hs Ts S' Ls' Hs' Ts':=⟨_,rfl⟩;have HX:Hid (diN S Ls Hs Ts S' Ls' Hs' Ts'=X):=hX.symm;obtain⟨U,hU⟩:∃q,q=wsN S Ls Hs ws:=⟨_,rfl⟩;have HU:Hid (wsN S Ls Hs ws=U):=hU.symm;obtain⟨E,hE⟩:∃q,q=pdN S Ls Hs Ts S' Ls' Hs' Ts' ws:=⟨_,rfl⟩;have HE:Hid (E=if X=0 then U else X):=by rw[hE,pdN,hX,hU];exact rfl
 have HPL:Hid (pdL S Ls Hs Ts S' Ls' Hs' Ts' ws=if E=0 then diL S Ls Hs Ts S' Ls' Hs' Ts' else []):=by rw[hE];exact rfl
 rw[←hE];clear hN hM hw hb1 hbx hw1 hX hU hE;go_enter func34,ntmps34
 go_wp2_with fail
 rw[←HW1.out];refine (chDiff_any S ao n cap ao2 n2 cap2 ao3 n3 cap3 S' bo m dap bo2 m2 dap2 bo3 m3 dap3 Ls Hs Ts Ls' Hs' Ts' w1 (HNW.out _ (bRQ _ _)).1.l (HNW.out _ (bRQ _ _)).1.h (HNW.out _ (bRQ _ _)).1.t (HNW.out _ (bRQ _ _)).2.1.l (HNW.out _ (bRQ _ _)).2.1.h (HNW.out _ (bRQ _ _)).2.1.t).mono ?_;rintro e w2 ⟨v,rfl,hNO,hb2⟩;rw[HX.out];have HB2:Hid (Below w1.heap.size w1 w2):=hb2;have HNO:Hid (∀W,Below w2.heap.size w2 W→NO W w.heap.size v (diL S Ls Hs Ts S' Ls' Hs' Ts')):=fun W h=>(hNO.later h).mono HB1.out.size
 obtain⟨b0,b1,b2,b3⟩:=HBX.out.later hb2;clear hNO hb2 HW1 HBX;by_cases hX0:X=0
 ·subst hX0;rw[no_ok rfl];have hEU:E=U:=HE.out.trans (if_pos rfl);subst hEU
  go_wp2_with fail
  refine (wcheck_any S ao n cap ao2 n2 cap2 a4 n4 c4 Ls Hs ws w2 (HNW.out _ HB2.out).1.l (HNW.out _ HB2.out).1.h (HNW.out _ HB2.out).2.2).mono ?_;rintro e w3 ⟨rfl,hb3⟩;rw[HU.out];have HB3:Hid (Below w2.heap.size w2 w3):=hb3;have HBW:Hid (Below w.heap.size w w3):=HB1.out.trans ((HB2.out.trans (hb3.mono HB2.out.size)).mono HB1.out.size);clear hb3 b0 b1 b2 b3;by_cases hE0:E=0
  ·have HL:Hid (pdL S Ls Hs Ts S' Ls' Hs' Ts' ws=diL S Ls Hs Ts S' Ls' Hs' Ts'):=HPL.out.trans (if_pos hE0);have HE0:Hid (E=0):=hE0;rw[no_ok hE0];clear hE0;go_wp2;refine bodyPost_ret (v:=.tuple #[v,.nilIface]) (by simp[results,results34,go_sem, *]) rfl ⟨v,by rw[no_ok HE0.out],by rw[HL.out];exact HNO.out _ HB3.out,HBW.out⟩
  have HL:Hid (pdL S Ls Hs Ts S' Ls' Hs' Ts' ws=[]):=HPL.out.trans (if_neg hE0);have HE0:Hid (E≠0):=hE0;rw[no_ne hE0];clear hE0;go_wp2;refine bodyPost_ret (v:=.tuple #[.slice none 0 0,.iface 68 (.int i64 E)]) (by simp[results,results34,go_sem, *]) rfl ⟨.slice none 0 0,by rw[no_ne HE0.out],by rw[HL.out];exact NO.nil _ _,HBW.out⟩
 have hEX:E=X:=HE.out.trans (if_neg hX0);subst hEX;have HL:Hid (pdL S Ls Hs Ts S' Ls' Hs' Ts' ws=[]):=HPL.out.trans (if_neg hX0);have HE0:Hid (E≠0):=hX0;have HBW:Hid (Below w.heap.size w w2):=HB1.out.trans (HB2.out.mono HB1.out.size);rw[no_ne hX0];clear hX0;go_wp2;refine bodyPost_ret (v:=.tuple #[.slice none 0 0,.iface 68 (.int i64 E)]) (by simp[results,results34,go_sem, *]) rfl ⟨.slice none 0 0,by rw[no_ne HE0.out],by rw[HL.out];exact NO.nil _ _,HBW.out⟩
def inS (s a:Nat):Bool:=s.testBit (6-a)
def onS (a:Nat):Nat:=2 ^ (6-a)
def mnS (s t:Nat):Nat:=s &&& (63 ^^^ t)
theorem in_or (s t a:Nat):inS (s ||| t) a=(inS s a || inS t a):=Nat.testBit_or ..
theorem in_on {a b:Nat}(ha:a≤6)(hb:b≤6):inS (onS b) a=decide (a=b):=by
 rw[inS,onS,Nat.testBit_two_pow];by_cases h:a=b
 ·rw[h];simp
 rw[decide_eq_false h,decide_eq_false (by omega)]
theorem in_mn {s t a:Nat}(h1:1≤a)(h2:a≤6):inS (mnS s t) a=(inS s a && !inS t a):=by
 have e:(63:Nat).testBit (6-a)=true:=by
  have:∀k:Fin 6,(63:Nat).testBit k=true:=by decide
  exact this ⟨6-a,by omega⟩
 rw[mnS,inS,Nat.testBit_and,Nat.testBit_xor,e,Bool.true_xor];rfl
theorem in_0 (a:Nat):inS 0 a=false:=Nat.zero_testBit _
theorem or_lt {s t:Nat}(hs:s<64)(ht:t<64):s ||| t<64:=Nat.or_lt_two_pow (n:=6) hs ht
theorem mn_lt {s t:Nat}(hs:s<64):mnS s t<64:=Nat.lt_of_le_of_lt Nat.and_le_left hs
theorem on_lt {a:Nat}(h:1≤a):onS a<64:=by
 have:onS a≤2 ^ 5:=Nat.pow_le_pow_right (by decide) (by omega);omega
theorem set_ext {s t:Nat}(hs:s<64)(ht:t<64)(h:∀a,1≤a→a≤6→inS s a=inS t a):s=t:=by
 apply Nat.eq_of_testBit_eq
 intro i;by_cases hi:i<6
 ·have:=h (6-i) (by omega) (by omega);unfold inS at this
  rwa [show 6-(6-i)=i by omega] at this
 have two:(2:Nat) ^ 6≤2 ^ i:=Nat.pow_le_pow_right (by decide) (by omega);rw[Nat.testBit_lt_two_pow (by omega),Nat.testBit_lt_two_pow (by omega)]
theorem set_0 {s:Nat}(hs:s<64)(h:∀a,1≤a→a≤6→inS s a=false):s=0:=set_ext hs (by decide) fun a h1 h2=>by rw[h a h1 h2,in_0]
theorem set_some {s:Nat}(hs:s<64)(h:s≠0):∃a,1≤a∧a≤6∧inS s a=true:=by
 by_cases hx:∃a,1≤a∧a≤6∧inS s a=true
 ·exact hx
 exact absurd (set_0 hs fun a h1 h2=>by
  cases e:inS s a
  ·rfl
  exact absurd ⟨a,h1,h2,e⟩ hx) h
theorem on_sub {s a:Nat}(h1:1≤a)(h2:a≤6):(mnS (onS a) s=0)↔inS s a=true:=by
 constructor
 ·intro h;have:=in_mn (s:=onS a) (t:=s) h1 h2;rw[h,in_0,in_on h2 h2] at this;simpa using this.symm
 intro h;refine set_0 (mn_lt (on_lt h1)) fun b k1 k2=>?_
 rw[in_mn k1 k2,in_on k2 h2];by_cases e:b=a
 ·subst e;rw[h];simp
 simp[e]
def opA (D:List Op8)(a:Int):List Op8:=D.filter fun o=>o.w==a
def rnTo (D:List Op8)(s:Nat):Nat→List Op8
 | 0=>[]
 | k+1=>rnTo D s k++(if inS s (k+1)=true then opA D ((k+1:Nat):Int) else [])
def rnL (D:List Op8)(s:Nat):List Op8:=rnTo D s 6
def bkL (As Bs:TsQ)(k:Nat):List Op8:=ofS ((k+1:Nat):Int) (dfL (As.getD k []) (Bs.getD k []))
theorem cd_succ (As Bs:TsQ)(k:Nat):cdL As Bs (k+1)=cdL As Bs k++bkL As Bs k:=by rw[cdL,bkL];rfl
theorem bk_w {As Bs:TsQ}{k:Nat}:∀o∈bkL As Bs k,o.w=((k+1:Nat):Int):=by
 intro o ho;unfold bkL ofS at ho;obtain⟨x,_,rfl⟩:=List.mem_map.1 ho;rfl
theorem cd_w {As Bs:TsQ}:∀{n:Nat},∀o∈cdL As Bs n,1≤o.w∧o.w≤(n:Int)
 | 0,o,ho=>by cases ho
 | n+1,o,ho=>by
   rw[cd_succ,List.mem_append] at ho
   rcases ho with ho | ho
   ·have:=cd_w o ho;omega
   have:=bk_w o ho;omega
theorem fil_bk (As Bs:TsQ)(k:Nat)(p:Int→Bool):(bkL As Bs k).filter (fun o=>p o.w)=if p ((k+1:Nat):Int)=true then bkL As Bs k else []:=by
 by_cases h:p ((k+1:Nat):Int)=true
 ·rw[if_pos h];exact List.filter_eq_self.2 fun o ho=>by rw[bk_w o ho];exact h
 rw[if_neg h];exact List.filter_eq_nil_iff.2 fun o ho=>by rw[bk_w o ho];exact h
theorem opA_cd (As Bs:TsQ)(k:Nat):∀n:Nat,opA (cdL As Bs n) ((k+1:Nat):Int)=if k<n then bkL As Bs k else []
 | 0=>rfl
 | n+1=>by
   have h:=opA_cd As Bs k n;unfold opA at h ⊢;rw[cd_succ,List.filter_append,h,fil_bk As Bs n (fun x=>x==((k+1:Nat):Int))];by_cases e:n=k
   ·subst e;simp
   have e2:(((n+1:Nat):Int)==((k+1:Nat):Int))=false:=by
    rw[beq_eq_false_iff_ne];omega
   rw[e2];by_cases h1:k<n
   ·simp[h1,show k<n+1 by omega]
   simp[h1,show ¬k<n+1 by omega]
theorem rd_cd (As Bs:TsQ)(n s:Nat):∀k,rnTo (cdL As Bs n) s (k+1)=rnTo (cdL As Bs n) s k++(if inS s (k+1)=true∧k<n then bkL As Bs k else []):=by
 intro k;rw[rnTo,opA_cd];by_cases h1:inS s (k+1)=true
 ·by_cases h2:k<n
  ·simp[h1,h2]
  simp[h1,h2]
 simp[h1]
theorem of_rd {As Bs:TsQ}{n s:Nat}{p:Int→Bool}(hn:n≤6)(hp:∀a:Nat,1≤a→a≤6→p (a:Int)=inS s a):(cdL As Bs n).filter (fun o=>p o.w)=rnL (cdL As Bs n) s:=by
 have h1:∀k,k≤n→(cdL As Bs k).filter (fun o=>p o.w)=rnTo (cdL As Bs n) s k:=by
  intro k
  induction k with
  | zero=>intro _;rfl
  | succ k ih =>
    intro hk;rw[cd_succ,List.filter_append,ih (by omega),fil_bk,rd_cd,hp (k+1) (by omega) (by omega)];by_cases h:inS s (k+1)=true
    ·simp[h,show k<n by omega]
    simp[h]
 have h2:∀k,n≤k→rnTo (cdL As Bs n) s k=rnTo (cdL As Bs n) s n:=by
  intro k hk
  induction k with
  | zero=>rw[show n=0 by omega]
  | succ k ih =>
    by_cases e:n=k+1
    ·rw[e]
    rw[rd_cd,ih (by omega)];simp[show ¬k<n by omega]
 rw[h1 n (nLQ _),rnL,h2 6 hn]
def nwT (As Bs:TsQ)(s:Nat):TsQ:=(List.range As.length).map fun k=>if inS s (k+1)=true then alL (As.getD k []) (dfL (As.getD k []) (Bs.getD k [])) else As.getD k []
theorem nw_len (As Bs:TsQ)(s:Nat):(nwT As Bs s).length=As.length:=by simp[nwT]
theorem nw_get {As Bs:TsQ}{s k:Nat}(h:k<As.length):(nwT As Bs s).getD k []=if inS s (k+1)=true then alL (As.getD k []) (dfL (As.getD k []) (Bs.getD k [])) else As.getD k []:=by
 simp[nwT,List.getD,h]
theorem nw_0 (As Bs:TsQ):nwT As Bs 0=As:=by
 refine List.ext_getElem (by rw[nw_len]) fun k h1 h2=>?_
 simp[nwT,in_0,h2]
theorem ca_rd {S:Int}{As Bs:TsQ}(hS:(As.length:Int)=S)(h6:As.length≤6)(ht:∀j,j<As.length→twN (As.getD j []) (Bs.getD j [])=0){s t:Nat}(hd:∀a,1≤a→a≤6→inS t a=true→inS s a=false):
 ∀k,k≤As.length→caN S (nwT As Bs s) (rnTo (cdL As Bs As.length) t k)=0∧∀j,(caT (nwT As Bs s) (rnTo (cdL As Bs As.length) t k)).getD j []=if j<k then (nwT As Bs (s ||| t)).getD j [] else (nwT As Bs s).getD j []:=by
 intro k
 induction k with
 | zero=>intro _;exact⟨rfl,fun j=>by simp[rnTo,caT]⟩
 | succ k ih =>
   intro hk;obtain⟨i1,i2⟩:=ih (by omega);rw[rd_cd];by_cases h:inS t (k+1)=true
   ·rw[if_pos ⟨h,by omega⟩];have hsk:inS s (k+1)=false:=hd (k+1) (by omega) (by omega) h;have hlen:((caT (nwT As Bs s) (rnTo (cdL As Bs As.length) t k)).length:Int)=S:=by rw[ca_len,nw_len];exact hS
    have hta:taT (caT (nwT As Bs s) (rnTo (cdL As Bs As.length) t k)) ((k+1:Nat):Int)=As.getD k []:=by
     unfold taT;rw[show (((k+1:Nat):Int)-1).toNat=k by omega,i2 k,if_neg (by omega),nw_get (by omega),if_neg (by rw[hsk];decide)]
    have hal:alN (As.getD k []) (dfL (As.getD k []) (Bs.getD k []))=0:=(al_diff (ht k (by omega))).1;have hsw:swB S ((k+1:Nat):Int)=true:=by simp[swB];omega
    obtain⟨c1,c2⟩:=ca_of hsw (l:=dfL (As.getD k []) (Bs.getD k [])) hlen (by rw[hta];exact hal);refine⟨by rw[ca_app,if_pos i1];exact c1,fun j=>?_⟩;rw[cj_app,bkL,c2,hta,show (((k+1:Nat):Int)-1).toNat=k by omega,getD_set,ca_len,nw_len];by_cases e:j=k
    ·subst e;rw[if_pos ⟨rfl,by omega⟩,if_pos (by omega),nw_get (by omega),if_pos (by rw[in_or,h];simp)]
    rw[if_neg (fun x=>e x.1),i2 j];by_cases h3:j<k
    ·rw[if_pos h3,if_pos (by omega)]
    rw[if_neg h3,if_neg (by omega)]
   rw[if_neg (fun x=>h x.1),List.append_nil];refine⟨i1,fun j=>?_⟩;rw[i2 j];by_cases e:j=k
   ·subst e;rw[if_neg (by omega),if_pos (by omega),nw_get (by omega),nw_get (by omega),in_or];simp only[Bool.not_eq_true] at h;rw[h,Bool.or_false]
   by_cases h3:j<k
   ·rw[if_pos h3,if_pos (by omega)]
   rw[if_neg h3,if_neg (by omega)]
section
variable (sf:Nat→Nat→Bool)(all:Nat)
def roO (nx:Nat→Nat):Nat→Nat→Option (List Nat)
 | 0,done=>if done=all then some [] else none
 | n+1,done=>if done=all then some [] else if nx done=0 then none else (roO nx n (done ||| nx done)).map (nx done :: ·)
end
def lfN (all done:Nat):Nat:=((List.range 6).filter fun k=>inS (mnS all done) (k+1)).length
theorem lf_le (all done:Nat):lfN all done≤6:=Nat.le_trans (List.length_filter_le _ _) (by simp)
theorem fil_lt {α:Type}{p q:α→Bool}:∀{l:List α} {a:α},(∀x,q x=true→p x=true)→a∈l→p a=true→q a=false→(l.filter q).length<(l.filter p).length
 | x :: l,a,h,ha,h1,h2=>by
   have hle:∀l:List α,(l.filter q).length≤(l.filter p).length:=by
    intro l
    induction l with
    | nil=>exact nLQ _
    | cons y l ih =>
      rw[List.filter_cons,List.filter_cons];cases hq:q y
      ·cases hp:p y
       ·simpa using ih
       simp;omega
      simp[h y hq];exact ih
   rw[List.filter_cons,List.filter_cons]
   rcases List.mem_cons.1 ha with e | e
   ·subst e;rw[h1,h2];have:=hle l;simp;omega
   have:=fil_lt h e h1 h2;cases hq:q x
   ·cases hp:p x
    ·simpa using this
    simp;omega
   simp[h x hq];exact this
theorem lf_less {all done s:Nat}(hs:s<64)(h0:s≠0)(hsub:∀a,1≤a→a≤6→inS s a=true→inS (mnS all done) a=true):lfN all (done ||| s)<lfN all done:=by
 obtain⟨a,h1,h2,h3⟩:=set_some hs h0;have hin:=hsub a h1 h2 h3;unfold lfN;obtain⟨k,rfl⟩:∃k,a=k+1:=⟨a-1,by omega⟩;have e:∀k,k∈List.range 6→inS (mnS all (done ||| s)) (k+1)=(inS (mnS all done) (k+1) && !inS s (k+1)):=fun k hk=>by
  have:=List.mem_range.1 hk;rw[in_mn (by omega) (by omega),in_mn (by omega) (by omega),in_or];cases inS all (k+1) <;> cases inS done (k+1) <;> cases inS s (k+1) <;> rfl
 rw[List.filter_congr e];exact fil_lt (a:=k) (fun x hx=>by simp only[Bool.and_eq_true] at hx;exact hx.1) (List.mem_range.2 (by omega)) hin (by rw[h3];simp)
def NxOK (all:Nat)(nx:Nat→Nat):Prop:=∀done,nx done<64∧∀a,1≤a→a≤6→inS (nx done) a=true→inS (mnS all done) a=true
theorem lf_0 {all done:Nat}(ha:all<64)(hd:done<64)(hs:∀a,1≤a→a≤6→inS done a=true→inS all a=true)(h:lfN all done=0):done=all:=by
 refine set_ext hd ha fun a h1 h2=>?_
 have hn:=List.length_eq_zero_iff.1 h;rw[List.filter_eq_nil_iff] at hn;have:=hn (a-1) (List.mem_range.2 (by omega));rw[show a-1+1=a by omega,in_mn h1 h2] at this;cases e1:inS done a
 ·cases e2:inS all a
  ·rfl
  rw[e1,e2] at this;simp at this
 exact (hs a h1 h2 e1).symm
theorem ro_more {all:Nat}{nx:Nat→Nat}(hx:NxOK all nx)(ha:all<64):∀(n m done:Nat),done<64→(∀a,1≤a→a≤6→inS done a=true→inS all a=true)→lfN all done≤n→lfN all done≤m→roO all nx n done=roO all nx m done
 | 0,m,done,hd,hs,hn,hm=>by
   have e:=lf_0 ha hd hs (by omega);cases m <;> simp[roO,e]
 | n+1,0,done,hd,hs,hn,hm=>by
   have e:=lf_0 ha hd hs (by omega);simp[roO,e]
 | n+1,m+1,done,hd,hs,hn,hm=>by
   rw[roO,roO];by_cases e:done=all
   ·rw[if_pos e,if_pos e]
   rw[if_neg e,if_neg e];by_cases e0:nx done=0
   ·rw[if_pos e0,if_pos e0]
   rw[if_neg e0,if_neg e0];have hl:=lf_less (hx done).1 e0 (hx done).2;rw[ro_more hx ha n m (done ||| nx done) (or_lt hd (hx done).1) (fun a h1 h2 h=>by
    rw[in_or] at h;by_cases e1:inS done a=true
    ·exact hs a h1 h2 e1
    have:=(hx done).2 a h1 h2 (by simpa[e1] using h);rw[in_mn h1 h2] at this;simp only[Bool.and_eq_true] at this;exact this.1) (by omega) (by omega)]
def roA (all:Nat)(nx:Nat→Nat)(done:Nat):Option (List Nat):=roO all nx 6 done
theorem ro_end {all:Nat}(nx:Nat→Nat):roA all nx all=some []:=by simp[roA,roO]
theorem ro_none {all done:Nat}{nx:Nat→Nat}(h:done≠all)(h0:nx done=0):roA all nx done=none:=by simp[roA,roO,h,h0]
theorem ro_step {all done:Nat}{nx:Nat→Nat}(hx:NxOK all nx)(ha:all<64)(hd:done<64)(hs:∀a,1≤a→a≤6→inS done a=true→inS all a=true)(h:done≠all)(h0:nx done≠0):roA all nx done=(roA all nx (done ||| nx done)).map (nx done :: ·):=by
 have hl:=lf_less (hx done).1 h0 (hx done).2;have h6:=lf_le all done;have hs':∀a,1≤a→a≤6→inS (done ||| nx done) a=true→inS all a=true:=fun a h1 h2 h=>by
  rw[in_or] at h;by_cases e1:inS done a=true
  ·exact hs a h1 h2 e1
  have:=(hx done).2 a h1 h2 (by simpa[e1] using h);rw[in_mn h1 h2] at this;simp only[Bool.and_eq_true] at this;exact this.1
 rw[roA,roO,if_neg h,if_neg h0,roA,ro_more hx ha 5 6 _ (or_lt hd (hx done).1) hs' (by omega) (by omega)]
theorem ret_num {k:IntKind}{a b:Int}(h:a=b):Ending.returned (.int k a)=.returned (.int k b):=by rw[h]
theorem or_fin:∀s t:Fin 64,bits .or .i64 ((s:Nat):Int) ((t:Nat):Int)=(((s:Nat) ||| (t:Nat):Nat):Int):=by decide +kernel
theorem mn_fin:∀s t:Fin 64,bits .andNot .i64 ((s:Nat):Int) ((t:Nat):Int)=((mnS (s:Nat) (t:Nat):Nat):Int):=by decide +kernel
theorem and_fin:∀s t:Fin 64,bits .and .i64 ((s:Nat):Int) ((t:Nat):Int)=(((s:Nat) &&& (t:Nat):Nat):Int):=by decide +kernel
theorem bits_or {s t:Nat}(hs:s<64)(ht:t<64):bits .or .i64 (s:Int) (t:Int)=((s ||| t:Nat):Int):=or_fin ⟨s,hs⟩ ⟨t,ht⟩
theorem bits_mn {s t:Nat}(hs:s<64)(ht:t<64):bits .andNot .i64 (s:Int) (t:Int)=((mnS s t:Nat):Int):=mn_fin ⟨s,hs⟩ ⟨t,ht⟩
theorem bits_and {s t:Nat}(hs:s<64)(ht:t<64):bits .and .i64 (s:Int) (t:Int)=((s &&& t:Nat):Int):=and_fin ⟨s,hs⟩ ⟨t,ht⟩
theorem only_any (a:Nat)(w:World)(h1:1≤a)(h2:a≤6):
 Calls prog 43 #[.int i64 (a:Int)] w fun e w'=>e=.returned (.int i64 (onS a:Int))∧w'=w:=by
 have h0:0≤(a:Int):=by omega
 have h3:(a:Int)≤6:=by omega
 go_enter func43,ntmps43;go_wp2;go_ret;refine⟨ret_num ?_,rfl⟩
 rcases (by omega:a=1∨a=2∨a=3∨a=4∨a=5∨a=6) with rfl | rfl | rfl | rfl | rfl | rfl <;> decide +kernel
theorem setHas_any (s x:Nat)(w:World)(hs:s<64)(hx:x<64):
 Calls prog 45 #[.int i64 (s:Int),.int i64 (x:Int)] w fun e w'=>e=.returned (.bool (decide (mnS x s=0)))∧w'=w:=by
 have HE:Hid (bits .andNot .i64 (x:Int) (s:Int)=((mnS x s:Nat):Int)):=bits_mn hx hs;go_enter func45,ntmps45;go_wp2;go_ret;refine⟨?_,rfl⟩;rw[HE.out];by_cases h:mnS x s=0
 ·rw[h];rfl
 have:(((mnS x s:Nat):Int)==0)=false:=by rw[beq_eq_false_iff_ne];omega
 simp[h,this]
theorem setHas_on (s a:Nat)(w:World)(hs:s<64)(h1:1≤a)(h2:a≤6):
 Calls prog 45 #[.int i64 (s:Int),.int i64 (onS a:Int)] w fun e w'=>e=.returned (.bool (inS s a))∧w'=w:=by
 refine (setHas_any s (onS a) w hs (on_lt h1)).mono ?_;rintro e w' ⟨rfl,rfl⟩;refine⟨?_,rfl⟩;have h:=on_sub (s:=s) h1 h2;cases hi:inS s a
 ·rw[decide_eq_false (fun h3=>by have:=h.1 h3;rw[hi] at this;cases this)]
 rw[decide_eq_true (h.2 hi)]
structure LO {α:Type}(r:α→α→Bool):Prop where
 irr:∀a,r a a=false
 tr:∀a b c,r a b=true→r b c=true→r a c=true
 tot:∀a b,r a b=false→r b a=false→a=b
theorem LO.asy {α:Type}{r:α→α→Bool}(h:LO r){a b:α}(hab:r a b=true):r b a=false:=by
 cases e:r b a
 ·rfl
 have:=h.tr a b a hab e;rw[h.irr] at this;cases this
theorem lo_int:LO (fun (a b:Int)=>decide (a<b)):=⟨by simp,fun a b c h1 h2=>by simp at *;omega,fun a b h1 h2=>by simp at *;omega⟩
theorem lo_u8:LO (fun (a b:UInt8)=>decide (a<b)):=by
 refine⟨by simp,fun a b c h1 h2=>?_,fun a b h1 h2=>?_⟩
 ·simp only[decide_eq_true_eq] at *;exact UInt8.lt_trans h1 h2
 simp only[decide_eq_false_iff_not,UInt8.not_lt] at *;exact UInt8.le_antisymm h2 h1
def lexP {α β:Type}[DecidableEq α](r:α→α→Bool)(s:β→β→Bool)(a b:α×β):Bool:=if a.1=b.1 then s a.2 b.2 else r a.1 b.1
theorem lo_pair {α β:Type}[DecidableEq α]{r:α→α→Bool}{s:β→β→Bool}(hr:LO r)(hs:LO s):LO (lexP r s):=by
 refine⟨fun a=>by simp[lexP,hs.irr],fun a b c h1 h2=>?_,fun a b h1 h2=>?_⟩
 ·unfold lexP at *;by_cases e1:a.1=b.1
  ·rw[if_pos e1] at h1;by_cases e2:b.1=c.1
   ·rw[if_pos e2] at h2;rw[if_pos (e1.trans e2)];exact hs.tr _ _ _ h1 h2
   rw[if_neg e2] at h2;rw[if_neg (by rw[e1];exact e2),e1];exact h2
  rw[if_neg e1] at h1;by_cases e2:b.1=c.1
  ·rw[if_pos e2] at h2;rw[if_neg (by rw[←e2];exact e1),←e2];exact h1
  rw[if_neg e2] at h2;have h3:=hr.tr _ _ _ h1 h2;by_cases e3:a.1=c.1
  ·rw[e3,hr.irr] at h3;cases h3
  rw[if_neg e3];exact h3
 unfold lexP at *;by_cases e1:a.1=b.1
 ·rw[if_pos e1] at h1;rw[if_pos e1.symm] at h2;exact Prod.ext e1 (hs.tot _ _ h1 h2)
 rw[if_neg e1] at h1;rw[if_neg (fun e=>e1 e.symm)] at h2;exact absurd (hr.tot _ _ h1 h2) e1
def lexL {α:Type}[DecidableEq α](r:α→α→Bool):List α→List α→Bool
 | _,[]=>false
 | [],_ :: _=>true
 | a :: x,b :: y=>if a=b then lexL r x y else r a b
theorem lo_list {α:Type}[DecidableEq α]{r:α→α→Bool}(hr:LO r):LO (lexL r):=by
 refine⟨fun l=>?_,fun a=>?_,fun a=>?_⟩
 ·induction l with
  | nil=>rfl
  | cons x l ih=>simp[lexL,ih]
 ·induction a with
  | nil =>
    intro b c h1 h2;cases b with
    | nil=>cases c <;> simp[lexL] at *
    | cons y b =>
      cases c with
      | nil=>simp[lexL] at h2
      | cons z c=>rfl
  | cons x a ih =>
    intro b c h1 h2;cases b with
    | nil=>simp[lexL] at h1
    | cons y b =>
      cases c with
      | nil=>simp[lexL] at h2
      | cons z c =>
        rw[lexL] at *;by_cases e1:x=y
        ·rw[if_pos e1] at h1;by_cases e2:y=z
         ·rw[if_pos e2] at h2;rw[if_pos (e1.trans e2)];exact ih _ _ h1 h2
         rw[if_neg e2] at h2;rw[if_neg (by rw[e1];exact e2),e1];exact h2
        rw[if_neg e1] at h1;by_cases e2:y=z
        ·rw[if_pos e2] at h2;rw[if_neg (by rw[←e2];exact e1),←e2];exact h1
        rw[if_neg e2] at h2;have h3:=hr.tr _ _ _ h1 h2;by_cases e3:x=z
        ·rw[e3,hr.irr] at h3;cases h3
        rw[if_neg e3];exact h3
 induction a with
 | nil =>
   intro b h1 h2;cases b with
   | nil=>rfl
   | cons y b=>simp[lexL] at h1
 | cons x a ih =>
   intro b h1 h2;cases b with
   | nil=>simp[lexL] at h2
   | cons y b =>
     rw[lexL] at h1 h2;by_cases e1:x=y
     ·rw[if_pos e1] at h1;rw[if_pos e1.symm] at h2;rw[e1,ih _ h1 h2]
     rw[if_neg e1] at h1;rw[if_neg (fun e=>e1 e.symm)] at h2;exact absurd (hr.tot _ _ h1 h2) e1
theorem bytes_lex:∀x y:List UInt8,Op.bytesLess x y=lexL (fun (a b:UInt8)=>decide (a<b)) x y
 | _,[]=>by simp[Op.bytesLess,lexL]
 | [],_ :: _=>by simp[Op.bytesLess,lexL]
 | a :: x,b :: y=>by
   rw[Op.bytesLess,lexL,bytes_lex x y];by_cases e:a=b
   ·subst e;simp
   rw[if_neg e];simp[e]
theorem nm_loop (b:ByteArray):∀(k i:Nat) (r:List UInt8),b.size-i=k→ByteArray.toList.loop b i r=r.reverse++b.data.toList.drop i
 | 0,i,r,h=>by
   rw[ByteArray.toList.loop,if_neg (by omega)];have e:b.data.toList.length≤i:=by rw[Array.length_toList];show b.size≤i;omega
   rw[List.drop_eq_nil_of_le e,List.append_nil]
 | k+1,i,r,h=>by
   have hi:i<b.size:=by omega
   rw[ByteArray.toList.loop,if_pos hi,nm_loop b k (i+1) _ (by omega)];have hl:i<b.data.toList.length:=by rw[Array.length_toList];exact hi
   rw[List.drop_eq_getElem_cons hl,List.reverse_cons,List.append_assoc];have e:b.get! i=b.data.toList[i]:=by
    rw[Array.getElem_toList];show b.data[i]! = b.data[i];exact getElem!_pos b.data i hi
   rw[e];rfl
theorem nm_list (b:ByteArray):b.toList=b.data.toList:=by
 show ByteArray.toList.loop b 0 []=_;rw[nm_loop b _ 0 [] rfl];simp
theorem nm_inj {a b:ByteArray}(h:a.toList=b.toList):a=b:=by
 rw[nm_list,nm_list] at h;exact ByteArray.ext (Array.toList_inj.1 h)
def nmL (a b:ByteArray):Bool:=Op.bytesLess a.toList b.toList
theorem lo_name:LO nmL:=by
 have h:=lo_list lo_u8;refine⟨fun a=>?_,fun a b c h1 h2=>?_,fun a b h1 h2=>?_⟩
 ·rw[nmL,bytes_lex];exact h.irr _
 ·rw[nmL,bytes_lex] at *;exact h.tr _ _ _ h1 h2
 rw[nmL,bytes_lex] at h1 h2;have e:=h.tot _ _ h1 h2;exact nm_inj e
def faL:(Int×ByteArray×HpQ)→(Int×ByteArray×HpQ)→Bool:=
 lexP (fun (a b:Int)=>decide (a<b)) (lexP nmL (lexL (lexP (lexP (fun (a b:Int)=>decide (a<b)) (fun (a b:Int)=>decide (a<b))) (fun (a b:Int)=>decide (a<b)))))
theorem lo_fate:LO faL:=lo_pair lo_int (lo_pair lo_name (lo_list (lo_pair (lo_pair lo_int lo_int) lo_int)))
def Ris {α:Type}(r:α→α→Bool)(l:List α):Prop:=l.Pairwise fun a b=>r a b=true
theorem ris_ext {α:Type}{r:α→α→Bool}(hr:LO r):∀{l m:List α},Ris r l→Ris r m→(∀x,x∈l↔x∈m)→l=m
 | [],[],_,_,_=>rfl
 | [],y :: m,_,_,h=>by have:=(h y).2 (by simp);simp at this
 | x :: l,[],_,_,h=>by have:=(h x).1 (by simp);simp at this
 | x :: l,y :: m,h1,h2,h=>by
   have a1:=List.pairwise_cons.1 h1;have a2:=List.pairwise_cons.1 h2;have e:x=y:=by
    rcases List.mem_cons.1 ((h x).1 (by simp)) with e | hx
    ·exact e
    rcases List.mem_cons.1 ((h y).2 (by simp)) with e | hy
    ·exact e.symm
    have b1:=a1.1 y hy;have b2:=a2.1 x hx;rw[hr.asy b1] at b2;cases b2
   subst e;rw[ris_ext hr a1.2 a2.2 (fun z=>?_)];have hz:=h z;constructor
   ·intro hm
    rcases List.mem_cons.1 (hz.1 (List.mem_cons_of_mem _ hm)) with e | e
    ·subst e;have:=a1.1 z hm;rw[hr.irr] at this;cases this
    exact e
   intro hm
   rcases List.mem_cons.1 (hz.2 (List.mem_cons_of_mem _ hm)) with e | e
   ·subst e;have:=a2.1 z hm;rw[hr.irr] at this;cases this
   exact e
def puR {α:Type}(r:α→α→Bool)(f:α):List α→List α
 | []=>[f]
 | x :: l=>if r f x=true then f :: x :: l else if r x f=true then x :: puR r f l else x :: l
theorem pu_mem {α:Type}{r:α→α→Bool}(hr:LO r)(f:α):∀{l:List α} {x:α},x∈puR r f l↔x=f∨x∈l
 | [],x=>by simp[puR]
 | y :: l,x=>by
   rw[puR];by_cases h1:r f y=true
   ·rw[if_pos h1];simp
   rw[if_neg h1];by_cases h2:r y f=true
   ·rw[if_pos h2,List.mem_cons,pu_mem hr f,List.mem_cons];constructor
    ·rintro (h | h | h)
     ·exact .inr (.inl h)
     ·exact .inl h
     exact .inr (.inr h)
    rintro (h | h | h)
    ·exact .inr (.inl h)
    ·exact .inl h
    exact .inr (.inr h)
   rw[if_neg h2];have e:y=f:=hr.tot _ _ (by simpa using h2) (by simpa using h1);subst e;simp
theorem pu_ris {α:Type}{r:α→α→Bool}(hr:LO r)(f:α):∀{l:List α},Ris r l→Ris r (puR r f l)
 | [],_=>by simp[puR,Ris]
 | y :: l,h=>by
   have a:=List.pairwise_cons.1 h;rw[puR];by_cases h1:r f y=true
   ·rw[if_pos h1];refine List.pairwise_cons.2 ⟨fun z hz=>?_,h⟩
    rcases List.mem_cons.1 hz with rfl | hz
    ·exact h1
    exact hr.tr _ _ _ h1 (a.1 z hz)
   rw[if_neg h1];by_cases h2:r y f=true
   ·rw[if_pos h2];refine List.pairwise_cons.2 ⟨fun z hz=>?_,pu_ris hr f a.2⟩
    rcases (pu_mem hr f).1 hz with rfl | hz
    ·exact h2
    exact a.1 z hz
   rw[if_neg h2];exact h
def onL (k:HpQ→List (Int×ByteArray×HpQ)→List (Int×ByteArray×HpQ))(l:HpQ)(a:List (Int×ByteArray×HpQ))(g:(Int×ByteArray) ⊕ ((Int×Int)×Int)):List (Int×ByteArray×HpQ):=
 match g with
 | .inl e=>puR faL (e.1,e.2,l) a
 | .inr p=>k (l++[p]) a
def chB (As Bs:TsQ)(s:Int):Bool:=decide (0<(bey (taT As s) (taT Bs s)).length+(bey (taT Bs s) (taT As s)).length)
section
variable (Ls:LkQ)(Hs:HoQ)(As Bs:TsQ)
def wkL:Nat→HpQ→List Int→List (Int×ByteArray×HpQ)→List (Int×ByteArray×HpQ)
 | 0,_,_,a=>a
 | n+1,l,met,a =>
   if chB As Bs (laH l).1.1=true then
    onL (fun l' a'=>wkL n l' (if (laH l).1.1∈met then met else met++[(laH l).1.1]) a') l
     (if (laH l).1.1∈met then a else onL (fun l' a'=>wkL n l' met a') l a (goE Ls Hs (taT As (laH l).1.1) l (laH l)))
     (goE Ls Hs (taT Bs (laH l).1.1) l (laH l))
   else if (laH l).1.1∈met then a else onL (fun l' a'=>wkL n l' met a') l a (goE Ls Hs (taT As (laH l).1.1) l (laH l))
variable {Ls Hs As Bs}
theorem on_mem {k:HpQ→List (Int×ByteArray×HpQ)→List (Int×ByteArray×HpQ)}(hk:∀l a x,x∈k l a↔x∈a∨x∈k l [])(l:HpQ)(a:List (Int×ByteArray×HpQ))(g:(Int×ByteArray) ⊕ ((Int×Int)×Int))(x:Int×ByteArray×HpQ):x∈onL k l a g↔x∈a∨x∈onL k l [] g:=by
 cases g with
 | inl e =>
   simp only[onL];rw[pu_mem lo_fate,pu_mem lo_fate];simp only[List.not_mem_nil,or_false];exact Or.comm
 | inr p=>exact hk _ _ _
theorem on_ris {k:HpQ→List (Int×ByteArray×HpQ)→List (Int×ByteArray×HpQ)}(hk:∀l a,Ris faL a→Ris faL (k l a))(l:HpQ){a:List (Int×ByteArray×HpQ)}(ha:Ris faL a)(g:(Int×ByteArray) ⊕ ((Int×Int)×Int)):Ris faL (onL k l a g):=by
 cases g with
 | inl e=>exact pu_ris lo_fate _ ha
 | inr p=>exact hk _ _ ha
theorem wk_mem:∀(n:Nat) (l:HpQ) (met:List Int) (a:List (Int×ByteArray×HpQ)) (x:Int×ByteArray×HpQ),x∈wkL Ls Hs As Bs n l met a↔x∈a∨x∈wkL Ls Hs As Bs n l met []
 | 0,l,met,a,x=>by simp[wkL]
 | n+1,l,met,a,x=>by
   have h1:=on_mem (k:=fun l' a'=>wkL Ls Hs As Bs n l' met a') (fun l a x=>wk_mem n l met a x) l;have h2:=on_mem (k:=fun l' a'=>wkL Ls Hs As Bs n l' (if (laH l).1.1∈met then met else met++[(laH l).1.1]) a') (fun l' a x=>wk_mem n l' _ a x) l;rw[wkL,wkL];by_cases hc:chB As Bs (laH l).1.1=true
   ·rw[if_pos hc,if_pos hc];by_cases hm:(laH l).1.1∈met
    ·simp only[hm,if_true] at h2 ⊢;exact h2 _ _ _
    simp only[hm,if_false] at h2 ⊢;rw[h2,h1,h2 (onL _ l [] _)];exact or_assoc
   rw[if_neg hc,if_neg hc];by_cases hm:(laH l).1.1∈met
   ·rw[if_pos hm,if_pos hm];simp
   rw[if_neg hm,if_neg hm];exact h1 _ _ _
theorem wk_ris:∀(n:Nat) (l:HpQ) (met:List Int) (a:List (Int×ByteArray×HpQ)),Ris faL a→Ris faL (wkL Ls Hs As Bs n l met a)
 | 0,l,met,a,h=>h
 | n+1,l,met,a,h=>by
   have h1:=fun (b:List (Int×ByteArray×HpQ)) (hb:Ris faL b)=>on_ris (k:=fun l' a'=>wkL Ls Hs As Bs n l' met a') (fun l a h=>wk_ris n l met a h) l hb
   have h2:=fun (b:List (Int×ByteArray×HpQ)) (hb:Ris faL b)=>on_ris (k:=fun l' a'=>wkL Ls Hs As Bs n l' (if (laH l).1.1∈met then met else met++[(laH l).1.1]) a') (fun l' a h=>wk_ris n l' _ a h) l hb
   rw[wkL];by_cases hc:chB As Bs (laH l).1.1=true
   ·rw[if_pos hc];by_cases hm:(laH l).1.1∈met
    ·simp only[hm,if_true] at h2 ⊢;exact h2 _ h _
    simp only[hm,if_false] at h2 ⊢;exact h2 _ (h1 _ h _) _
   rw[if_neg hc];by_cases hm:(laH l).1.1∈met
   ·rw[if_pos hm];exact h
   rw[if_neg hm];exact h1 _ h _
def seeL (Ls:LkQ)(Hs:HoQ)(As Bs:TsQ)(s:Int×Int)(h:Int):List (Int×ByteArray×HpQ):=wkL Ls Hs As Bs 24 [(s,h)] [] []
end
theorem getR {L:List Ru}{k:Nat}(h:k<L.length):L.getD k zeR=L[k]:=by simp[List.getD,h]
theorem be_in {L:List Ru}{h:Int}(h0:0≤beTo L h L.length):L.getD (beTo L h L.length).toNat zeR∈L∧(L.getD (beTo L h L.length).toNat zeR).has h=true∧∀r∈L,r.has h=true→ordR r (L.getD (beTo L h L.length).toNat zeR)≤0:=by
 have hb:=be_bd L h L.length;have hl:(beTo L h L.length).toNat<L.length:=by omega
 obtain⟨d1,d2⟩:=be_yes h0;refine⟨by rw[getR hl];exact List.getElem_mem hl,d1,fun r hr hh=>?_⟩;obtain⟨j,hj,rfl⟩:=List.getElem_of_mem hr;have:=d2 j hj (by rw[getR hj];exact hh);rw[getR hj] at this;exact this
theorem be_neg {L:List Ru}{h:Int}(h0:beTo L h L.length<0):∀r∈L,r.has h=false:=by
 intro r hr;obtain⟨j,hj,rfl⟩:=List.getElem_of_mem hr;have:=be_no h0 j hj;rw[getR hj] at this;exact this
theorem be_sign {A B:List Ru}(hm:∀r,r∈A→r∈B){h:Int}(h0:0≤beTo A h A.length):0≤beTo B h B.length:=by
 obtain⟨d1,d2,_⟩:=be_in h0
 rcases Int.lt_or_le (beTo B h B.length) 0 with h1 | h1
 ·have:=be_neg h1 _ (hm _ d1);rw[d2] at this;cases this
 exact h1
theorem lu_alike {A B:List Ru}(hA:tbN A=0)(hB:tbN B=0)(hm:∀r,r∈A↔r∈B)(h:Int):(luN A h=0↔luN B h=0)∧(luN A h=0→roR A h=roR B h):=by
 have e:luN A h=0↔luN B h=0:=by
  rw[lu_0,lu_0];exact⟨fun q=>⟨hB,q.2.1,be_sign (fun r=>(hm r).1) q.2.2⟩,fun q=>⟨hA,q.2.1,be_sign (fun r=>(hm r).2) q.2.2⟩⟩
 refine⟨e,fun h0=>?_⟩;have h1:=e.1 h0;have a:=be_in (lu_0.1 h0).2.2;have b:=be_in (lu_0.1 h1).2.2;rw[roR,roR,luI,luI,if_pos h0,if_pos h1];have q1:=b.2.2 _ ((hm _).1 a.1) a.2.1;have q2:=a.2.2 _ ((hm _).2 b.1) b.2.1;exact tb_key hB ((hm _).1 a.1) b.1 (by rw[keyB,ord_as q1 q2];rfl)
theorem st_alike {A B:List Ru}(hA:tbN A=0)(hB:tbN B=0)(hm:∀r,r∈A↔r∈B)(p:(Int×Int)×Int):stT B p=stT A p:=by
 obtain⟨e1,e2⟩:=lu_alike hA hB hm p.2;unfold stT;by_cases h:luN A p.2=0
 ·rw[if_pos h,if_pos (e1.1 h),e2 h]
 rw[if_neg h,if_neg (fun q=>h (e1.2 q))]
theorem ch_alike {As Bs:TsQ}{s:Int}(h:chB As Bs s=false):∀r,r∈taT As s↔r∈taT Bs s:=by
 have h1:(bey (taT As s) (taT Bs s)).length=0∧(bey (taT Bs s) (taT As s)).length=0:=by
  unfold chB at h;simp at h;constructor
  ·rw[h.1];rfl
  rw[h.2];rfl
 have sub {X Y:List Ru} (e:(bey X Y).length=0):∀r∈X,r∈Y:=by
  intro r hr;have e:=List.length_eq_zero_iff.1 e;rw[bey,List.filter_eq_nil_iff] at e;have:=e r hr;simp at this;exact in_iff.1 this
 exact fun r=>⟨sub h1.1 r,sub h1.2 r⟩
theorem pu_len {α:Type}{r:α→α→Bool}(f:α):∀l:List α,(puR r f l).length≤l.length+1
 | []=>by simp[puR]
 | x :: l=>by
   rw[puR];by_cases h1:r f x=true
   ·rw[if_pos h1];simp
   rw[if_neg h1];by_cases h2:r x f=true
   ·rw[if_pos h2];have:=pu_len (r:=r) f l;simp;exact this
   rw[if_neg h2];simp
section
variable {Ls:LkQ}{Hs:HoQ}{As Bs:TsQ}
variable {s0:Int}
end
section
variable {α:Type}{r:α→α→Bool}
theorem pu_in (hr:LO r){f:α}{l:List α}(hl:Ris r l)(hf:f∈l):puR r f l=l:=by
 refine ris_ext hr (pu_ris hr f hl) hl (fun x=>(pu_mem hr f).trans ⟨?_,fun h=>.inr h⟩);rintro (rfl | h)
 ·exact hf
 exact h
theorem pu_at (hr:LO r){f:α}{l:List α}(hl:Ris r l){k:Nat}(hk:k≤l.length)(h1:∀j x,k≤j→l[j]?=some x→r f x=true)(h2:∀j x,j<k→l[j]?=some x→r x f=true):puR r f l=l.take k++[f]++l.drop k:=by
 have hris:Ris r (l.take k++[f]++l.drop k):=by
  unfold Ris at hl ⊢;have hl2:=hl;rw[←List.take_append_drop k l,List.pairwise_append] at hl2;obtain⟨a1,a2,a3⟩:=hl2;have t1:∀x∈l.take k,r x f=true:=fun x hx=>by
   obtain⟨j,hj,e⟩:=List.mem_take_iff_getElem.1 hx;exact h2 j x (by omega) (by rw[←e];exact List.getElem?_eq_getElem (by omega))
  have t2:∀x∈l.drop k,r f x=true:=fun x hx=>by
   obtain⟨j,hj,e⟩:=List.mem_drop_iff_getElem.1 hx;exact h1 (k+j) x (by omega) (by rw[←e];exact List.getElem?_eq_getElem (by omega))
  rw[List.append_assoc,List.pairwise_append];refine⟨a1,?_,?_⟩
  ·rw[List.singleton_append,List.pairwise_cons];exact⟨t2,a2⟩
  intro x hx y hy
  rcases List.mem_append.1 hy with hy | hy
  ·obtain rfl:y=f:=by simpa using hy
   exact t1 x hx
  exact a3 x hx y hy
 refine ris_ext hr (pu_ris hr f hl) hris (fun x=>(pu_mem hr f).trans ?_);rw[List.mem_append,List.mem_append,List.mem_singleton];constructor
 ·rintro (h | h)
  ·exact .inl (.inr h)
  rw[←List.take_append_drop k l,List.mem_append] at h;exact h.elim (fun h=>.inl (.inl h)) .inr
 rintro ((h | h) | h)
 ·exact .inr (List.mem_of_mem_take h)
 ·exact .inl h
 exact .inr (List.mem_of_mem_drop h)
theorem ris_lt (hr:LO r){l:List α}(hl:Ris r l){i j:Nat}{x y:α}(hij:i<j)(hx:l[i]?=some x)(hy:l[j]?=some y):r x y=true:=by
 unfold Ris at hl;rw[List.pairwise_iff_getElem] at hl;obtain⟨h1,rfl⟩:=List.getElem?_eq_some_iff.1 hx;obtain⟨h2,rfl⟩:=List.getElem?_eq_some_iff.1 hy;exact hl i j h1 h2 hij
end
structure B2 (w W:World)(S:Int)(v1 v2:Value)(x y:Int):Prop where
 below:Below w.heap.size w W
 t:TBox W w.heap.size S v1 v2
 s0:W.cell? ⟨w.heap.size+1,0,none⟩=some (.int i64 x)
 s1:W.cell? ⟨w.heap.size+1,1,none⟩=some (.int i64 y)
theorem B2.later {w W W':World}{S:Int}{v1 v2:Value}{x y:Int}(h:B2 w W S v1 v2 x y)(hb:Below W.heap.size W W'):B2 w W' S v1 v2 x y:=
 ⟨h.below.trans (hb.mono h.below.size),h.t.later hb,cell_later hb h.s0,cell_later hb h.s1⟩
theorem b2_new (w:World)(S:Int)(v1 v2:Value)(x y:Int):B2 w ((w.alloc (.cells #[.int i64 S,v1,v2] 25)).alloc (.cells #[.int i64 x,.int i64 y] 75)) S v1 v2 x y:=by
 have hb1:Below w.heap.size w (w.alloc (.cells #[.int i64 S,v1,v2] 25)):=(bRQ _ _).alloc (nLQ _) _;have h:=spo_new (w.alloc (.cells #[.int i64 S,v1,v2] 25)) x y 75;have e1:(w.alloc (.cells #[.int i64 S,v1,v2] 25)).heap.size=w.heap.size+1:=by simp
 rw[e1] at h;obtain⟨s0,s1⟩:=spo_cells h;exact⟨hb1.alloc hb1.size _,(tbox_new w S v1 v2 25).later ((bRQ _ _).alloc (nLQ _) _),s0,s1⟩
theorem rspot_any (S:Int)(ao:AdQ)(n cap:Nat)(ao2:AdQ)(n2 cap2:Nat)(x y:Int)(w:World):
 Calls prog 80 #[.agg #[.int i64 S,.slice ao n cap,.slice ao2 n2 cap2],.agg #[.int i64 x,.int i64 y]] w fun e w'=>e=.returned (.bool (spB S (x,y)))∧Below w.heap.size w w':=by
 have HB:Hid (Below w.heap.size w ((w.alloc (.cells #[.int i64 S,.slice ao n cap,.slice ao2 n2 cap2] 25)).alloc (.cells #[.int i64 x,.int i64 y] 75))):=(b2_new w S _ _ x y).below;have hr:spB S (x,y)=(decide (1≤x)&&(decide (x≤S)&&(decide (1≤y)&&decide (y≤4)))):=rfl;rw[hr];clear hr;cases g1:decide (1≤x)
 ·simp only[Bool.false_and];go_enter func80,ntmps80;go_wp2;go_ret;exact⟨rfl,HB.out⟩
 cases g2:decide (x≤S)
 ·simp only[Bool.false_and,Bool.and_false];go_enter func80,ntmps80;go_wp2;go_ret;exact⟨rfl,HB.out⟩
 cases g3:decide (1≤y)
 ·simp only[Bool.false_and,Bool.and_false];go_enter func80,ntmps80;go_wp2;go_ret;exact⟨rfl,HB.out⟩
 simp only[Bool.true_and];obtain⟨r,hr⟩:∃r,r=decide (y≤4):=⟨_,rfl⟩;go_enter func80,ntmps80;go_wp2;go_ret;exact⟨rfl,HB.out⟩
theorem rhost_any (S:Int)(ao:AdQ)(n cap:Nat)(ao2:AdQ)(n2 cap2:Nat)(Hs:HoQ)(x y:Int)(w:World)(hH:GS hstE w (.slice ao2 n2 cap2) Hs):
 Calls prog 83 #[.agg #[.int i64 S,.slice ao n cap,.slice ao2 n2 cap2],.agg #[.int i64 x,.int i64 y]] w fun e w'=>e=.returned (.int i64 (atN Hs (x,y)))∧Below w.heap.size w w':=by
 obtain⟨_,_,_,e1,hHn,hHm,_,hHa⟩:=hH.form;cases e1;have HHN:Hid (Hs.length=n2):=hHn;have n63:n2≤9223372036854775807:=by unfold maxLen at hHm;omega
 have HHA:Hid (0<n2→∃g o,ao2=some ⟨g,o,none⟩∧GAt hstE w g o Hs∧cap2≤maxLen):=hHa;have hX:=b2_new w S (.slice ao n cap) (.slice ao2 n2 cap2) x y;obtain⟨w0,hw0⟩:∃W,(w.alloc (.cells #[.int i64 S,.slice ao n cap,.slice ao2 n2 cap2] 25)).alloc (.cells #[.int i64 x,.int i64 y] 75)=W:=⟨_,rfl⟩;rw[hw0] at hX;have HX:Hid (B2 w w0 S (.slice ao n cap) (.slice ao2 n2 cap2) x y):=hX;have HW0:Hid ((w.alloc (.cells #[.int i64 S,.slice ao n cap,.slice ao2 n2 cap2] 25)).alloc (.cells #[.int i64 x,.int i64 y] 75)=w0):=hw0;clear hH hHn hHm hHa hX hw0;go_enter func83,ntmps83;go_wp2;rw[HW0.out]
 go_loopw [5] (fun i wr=>∃k:Nat,k≤n2∧i=.int i64 k∧(Hs.take k).any (fun h=>sq h.2 (x,y))=false∧B2 w wr S (.slice ao n cap) (.slice ao2 n2 cap2) x y) (fun i _=>n2-(intOf i).toNat)
 case atStart=>exact⟨0,by omega,rfl,by simp,HX.out⟩
 case round =>
  obtain⟨k,hk,rfl,hno,hXr⟩:=hrel;have HX2:Hid (B2 w wr S (.slice ao n cap) (.slice ao2 n2 cap2) x y):=hXr;have HNO:Hid ((Hs.take k).any (fun h=>sq h.2 (x,y))=false):=hno;obtain⟨_,⟨b0,b1,b2⟩,s0,s1⟩:=hXr;have hlt1:w.heap.size<wr.heap.size:=bLQ _ _ b0;have hlt2:w.heap.size+1<wr.heap.size:=bLQ _ _ s0;clear hno HW0 HX;by_cases hlt:k<n2
  ·obtain⟨g,o,hao,hc,_⟩:=HHA.out (by omega);subst hao;obtain⟨y0,y1,y2,hkl,hHk,q0,q1,q2⟩:=hst_at (hc.later HX2.out.below) HHN.out hlt;have HHK:Hid (Hs[k]=(y0,(y1,y2))):=hHk;have hr:sq (y1,y2) (x,y)=(y1==x&&y2==y):=rfl;clear hHk hc;cases ho:sq (y1,y2) (x,y)
   ·rw[hr] at ho;have HN1:Hid ((Hs.take (k+1)).any (fun h=>sq h.2 (x,y))=false):=any_nextG hkl HNO.out (by rw[HHK.out];exact ho);cases g1:(y1==x) <;> cases g2:(y2==y)
    ·clear ho hr
     go_wp2_with fail
     go_region
     go_wp2;go_roundw
     case rel=>exact⟨k+1,by omega,by go_num,HN1.out,HX2.out.later (Below.drew (bRQ _ _))⟩
     case measure=>simp[intOf];omega
    ·clear ho hr
     go_wp2_with fail
     go_region
     go_wp2;go_roundw
     case rel=>exact⟨k+1,by omega,by go_num,HN1.out,HX2.out.later (Below.drew (bRQ _ _))⟩
     case measure=>simp[intOf];omega
    ·clear ho hr
     go_wp2_with fail
     go_region
     go_wp2;go_roundw
     case rel=>exact⟨k+1,by omega,by go_num,HN1.out,HX2.out.later (Below.drew (bRQ _ _))⟩
     case measure=>simp[intOf];omega
    rw[g1,g2] at ho;cases ho
   have HR:Hid (atN Hs (x,y)=k):=ixG_hit hkl HNO.out (by rw[HHK.out];exact ho);rw[hr,Bool.and_eq_true] at ho;obtain⟨g1,g2⟩:=ho;clear hr
   go_wp2_with fail
   go_region
   go_wp2;go_ret;exact⟨by rw[HR.out];rfl,(HX2.out.later (Below.drew (bRQ _ _))).below⟩
  obtain rfl:k=n2:=by omega
  have HR:Hid (atN Hs (x,y) = -1):=by
   have:=HNO.out;rw[←HHN.out,List.take_length] at this;exact ixG_no this
  go_wp2;go_ret;exact⟨by rw[HR.out];rfl,HX2.out.below⟩
structure B3 (w W:World)(S:Int)(v1 v2:Value)(x y:Int):Prop where
 b:B2 w W S v1 v2 x y
 r0:W.cell? ⟨w.heap.size+1+1,0,none⟩=some (.int i64 0)
 r1:W.cell? ⟨w.heap.size+1+1,1,none⟩=some (.int i64 0)
 f:∀i,W.frozen? ⟨w.heap.size+1+1,i,none⟩=false
theorem B3.later {w W W':World}{S:Int}{v1 v2:Value}{x y:Int}(h:B3 w W S v1 v2 x y)(hb:Below W.heap.size W W'):B3 w W' S v1 v2 x y:=
 ⟨h.b.later hb,cell_later hb h.r0,cell_later hb h.r1,fun i=>(hb.frozen (p:=⟨w.heap.size+1+1,i,none⟩) (show (⟨w.heap.size+1+1,0,none⟩:Addr).block<W.heap.size from bLQ W ⟨w.heap.size+1+1,0,none⟩ h.r0)).trans (h.f i)⟩
theorem b3_new (w:World)(S:Int)(v1 v2:Value)(x y:Int):B3 w (((w.alloc (.cells #[.int i64 S,v1,v2] 25)).alloc (.cells #[.int i64 x,.int i64 y] 75)).alloc (.cells #[.int i64 0,.int i64 0] 75)) S v1 v2 x y:=by
 have h:=b2_new w S v1 v2 x y;have e2:((w.alloc (.cells #[.int i64 S,v1,v2] 25)).alloc (.cells #[.int i64 x,.int i64 y] 75)).heap.size=w.heap.size+1+1:=by simp
 generalize (w.alloc (.cells #[.int i64 S,v1,v2] 25)).alloc (.cells #[.int i64 x,.int i64 y] 75)=X at h e2
 have hs:=vat_new X [.int i64 0,.int i64 0] 75;have hf:∀k,(X.alloc (.cells #[.int i64 0,.int i64 0] 75)).frozen? ⟨X.heap.size,k,none⟩=false:=fun k=>by simp
 rw[e2] at hs hf;exact⟨h.later ((bRQ _ _).alloc (nLQ _) _),hs 0 _ rfl,hs 1 _ rfl,hf⟩
theorem below2 {w W:World}(h:Below w.heap.size w W)(g:Nat)(hg:w.heap.size≤g)(u v:Value):Below w.heap.size w ((W.setCell ⟨g,0,none⟩ u).setCell ⟨g,1,none⟩ v):=(h.setCell (p:=⟨g,0,none⟩) hg u).setCell (p:=⟨g,1,none⟩) hg v
theorem peer_at {Ls:LkQ}{k:Nat}(hk:k<Ls.length){s:Int×Int}:peerO (Ls.drop k) s=if (Ls[k]).1==s then some (Ls[k]).2 else if (Ls[k]).2==s then some (Ls[k]).1 else peerO (Ls.drop (k+1)) s:=by
 rw[List.drop_eq_getElem_cons hk];rfl
theorem eq_ways2 {a b:Bool}(h:(a&&b)=false):(a=true∧b=false)∨a=false:=by
 cases a
 ·exact .inr rfl
 exact .inl ⟨rfl,by simpa using h⟩
theorem rpeer_any (S:Int)(ao:AdQ)(n cap:Nat)(ao2:AdQ)(n2 cap2:Nat)(Ls:LkQ)(x y:Int)(w:World)(hL:GS lnkE w (.slice ao n cap) Ls):
 Calls prog 84 #[.agg #[.int i64 S,.slice ao n cap,.slice ao2 n2 cap2],.agg #[.int i64 x,.int i64 y]] w fun e w'=>e=.returned (.tuple #[.agg #[.int i64 ((peerO Ls (x,y)).getD (0,0)).1,.int i64 ((peerO Ls (x,y)).getD (0,0)).2],.bool (peerO Ls (x,y)).isSome])∧Below w.heap.size w w':=by
 obtain⟨_,_,_,e1,hLn,hLm,_,hLa⟩:=hL.form;cases e1;have HLN:Hid (Ls.length=n):=hLn;have n63:n≤9223372036854775807:=by unfold maxLen at hLm;omega
 have HLA:Hid (0<n→∃g o,ao=some ⟨g,o,none⟩∧GAt lnkE w g o Ls∧cap≤maxLen):=hLa;obtain⟨P,hP⟩:∃P,P=peerO Ls (x,y):=⟨_,rfl⟩;have HP:Hid (P=peerO Ls (x,y)):=hP;rw[←hP];have hX:=b3_new w S (.slice ao n cap) (.slice ao2 n2 cap2) x y;obtain⟨w0,hw0⟩:∃W,((w.alloc (.cells #[.int i64 S,.slice ao n cap,.slice ao2 n2 cap2] 25)).alloc (.cells #[.int i64 x,.int i64 y] 75)).alloc (.cells #[.int i64 0,.int i64 0] 75)=W:=⟨_,rfl⟩;rw[hw0] at hX;have HX:Hid (B3 w w0 S (.slice ao n cap) (.slice ao2 n2 cap2) x y):=hX;have HW0:Hid (((w.alloc (.cells #[.int i64 S,.slice ao n cap,.slice ao2 n2 cap2] 25)).alloc (.cells #[.int i64 x,.int i64 y] 75)).alloc (.cells #[.int i64 0,.int i64 0] 75)=w0):=hw0;clear hL hLn hLm hLa hP hX hw0;go_enter func84,ntmps84;go_wp2;rw[HW0.out]
 go_loopw [6] (fun i wr=>∃k:Nat,k≤n∧i=.int i64 k∧P=peerO (Ls.drop k) (x,y)∧B3 w wr S (.slice ao n cap) (.slice ao2 n2 cap2) x y) (fun i _=>n-(intOf i).toNat)
 case atStart=>exact⟨0,by omega,rfl,HP.out,HX.out⟩
 case round =>
  obtain⟨k,hk,rfl,hpk,hXr⟩:=hrel;have HX2:Hid (B3 w wr S (.slice ao n cap) (.slice ao2 n2 cap2) x y):=hXr;have HPK:Hid (P=peerO (Ls.drop k) (x,y)):=hpk;have HB:Hid (Below w.heap.size w wr):=hXr.b.below;obtain⟨⟨_,⟨b0,b1,b2⟩,s0,s1⟩,r0,r1,f⟩:=hXr;have hlt1:w.heap.size<wr.heap.size:=bLQ _ _ b0;have hlt2:w.heap.size+1<wr.heap.size:=bLQ _ _ s0;have hlt3:w.heap.size+1+1<wr.heap.size:=bLQ _ _ r0;have f0:=f 0;have f1:=f 1;clear hpk HW0 HX HP f;by_cases hlt:k<n
  ·obtain⟨g,o,hao,hc,_⟩:=HLA.out (by omega);subst hao;obtain⟨x0,x1,x2,x3,hkl,hLk,q0,q1,q2,q3⟩:=lnk_at (hc.later HB.out) HLN.out hlt;have hgl:g<wr.heap.size:=bLQ _ _ q0;have HST:Hid (P=if (x0==x&&x1==y)=true then some (x2,x3) else if (x2==x&&x3==y)=true then some (x0,x1) else peerO (Ls.drop (k+1)) (x,y)):=by
    show _=_;rw[HPK.out,peer_at hkl,hLk];rfl
   clear hLk hc;cases ho:(x0==x&&x1==y)
   ·have HNO:Hid ((x0==x&&x1==y)=false):=ho;cases hu:(x2==x&&x3==y)
    ·have HP1:Hid (P=peerO (Ls.drop (k+1)) (x,y)):=by
      show _=_;rw[HST.out,ho,hu];rfl
     rcases eq_ways2 ho with ⟨g1,g2⟩ | g1
     ·rcases eq_ways2 hu with ⟨g3,g4⟩ | g3
      ·go_wp2_with fail
       go_region
       go_wp2_with fail
       go_region
       go_wp2;go_roundw
       case rel=>exact⟨k+1,by omega,by go_num,HP1.out,(HX2.out.later (Below.drew (bRQ _ _))).later (Below.drew (bRQ _ _))⟩
       case measure=>simp[intOf];omega
      go_wp2_with fail
      go_region
      go_wp2_with fail
      go_region
      go_wp2;go_roundw
      case rel=>exact⟨k+1,by omega,by go_num,HP1.out,(HX2.out.later (Below.drew (bRQ _ _))).later (Below.drew (bRQ _ _))⟩
      case measure=>simp[intOf];omega
     rcases eq_ways2 hu with ⟨g3,g4⟩ | g3
     ·go_wp2_with fail
      go_region
      go_wp2_with fail
      go_region
      go_wp2;go_roundw
      case rel=>exact⟨k+1,by omega,by go_num,HP1.out,(HX2.out.later (Below.drew (bRQ _ _))).later (Below.drew (bRQ _ _))⟩
      case measure=>simp[intOf];omega
     go_wp2_with fail
     go_region
     go_wp2_with fail
     go_region
     go_wp2;go_roundw
     case rel=>exact⟨k+1,by omega,by go_num,HP1.out,(HX2.out.later (Below.drew (bRQ _ _))).later (Below.drew (bRQ _ _))⟩
     case measure=>simp[intOf];omega
    have HP1:Hid (P=some (x0,x1)):=by
     show _=_;rw[HST.out,ho,hu];rfl
    rw[Bool.and_eq_true] at hu;obtain⟨g3,g4⟩:=hu
    rcases eq_ways2 ho with ⟨g1,g2⟩ | g1
    ·go_wp2_with fail
     go_region
     go_wp2_with fail
     go_region
     go_wp2;refine bodyPost_ret (v:=.tuple #[.agg #[.int i64 x0,.int i64 x1],.bool true]) (by simp[results,results84,go_sem, *]) rfl ⟨by rw[HP1.out];rfl,below2 (HB.out.trans (((Below.drew (Below.drew (bRQ _ _))).mono HB.out.size))) _ (by omega) _ _⟩
    go_wp2_with fail
    go_region
    go_wp2_with fail
    go_region
    go_wp2;refine bodyPost_ret (v:=.tuple #[.agg #[.int i64 x0,.int i64 x1],.bool true]) (by simp[results,results84,go_sem, *]) rfl ⟨by rw[HP1.out];rfl,below2 (HB.out.trans (((Below.drew (Below.drew (bRQ _ _))).mono HB.out.size))) _ (by omega) _ _⟩
   have HP1:Hid (P=some (x2,x3)):=by
    show _=_;rw[HST.out,ho];rfl
   rw[Bool.and_eq_true] at ho;obtain⟨g1,g2⟩:=ho
   go_wp2_with fail
   go_region
   go_wp2;refine bodyPost_ret (v:=.tuple #[.agg #[.int i64 x2,.int i64 x3],.bool true]) (by simp[results,results84,go_sem, *]) rfl ⟨by rw[HP1.out];rfl,below2 (HB.out.trans ((Below.drew (bRQ _ _)).mono HB.out.size)) _ (by omega) _ _⟩
  obtain rfl:k=n:=by omega
  have HPN:Hid (P=none):=by
   show _=_;rw[HPK.out,←HLN.out,List.drop_length];rfl
  go_wp2;refine bodyPost_ret (v:=.tuple #[.agg #[.int i64 0,.int i64 0],.bool false]) (by simp[results,results84,go_sem, *]) rfl ⟨by rw[HPN.out];rfl,below2 HB.out _ (by omega) _ _⟩
theorem header_yes (n:Int)(w:World)(h:hdrB n=true):
 Calls prog 52 #[.int i64 n] w fun e w'=>e=.returned (.bool true)∧w'=w:=by
 obtain⟨h1,h2⟩:=hdr_of h;clear h;go_enter func52,ntmps52;go_wp2;go_ret;exact⟨rfl,rfl⟩
theorem header_no (n:Int)(w:World)(h:hdrB n=false):
 Calls prog 52 #[.int i64 n] w fun e w'=>e=.returned (.bool false)∧w'=w:=by
 rcases hdr_no h with h1 | h1
 ·clear h;go_enter func52,ntmps52;go_wp2;go_ret;exact⟨rfl,rfl⟩
 have h2:0≤n:=by omega
 have h3:decide (n<16)=false:=by simp;omega
 clear h;go_enter func52,ntmps52;go_wp2;go_ret;exact⟨rfl,rfl⟩
theorem header_any (n:Int)(w:World):
 Calls prog 52 #[.int i64 n] w fun e w'=>e=.returned (.bool (hdrB n))∧w'=w:=by
 cases h:hdrB n
 ·exact header_no n w h
 exact header_yes n w h
theorem refCube_any (m b:Int)(w:World):
 Calls prog 53 #[.agg #[.int i64 m,.int i64 b]] w fun e w'=>e=.returned (.int i64 (refN m b))∧Below w.heap.size w w':=by
 cases hr:rngB m b
 ·rw[refN_range hr];have HH:hdrB m=false∨(hdrB m=true∧hdrB b=false):=by
   cases h1:hdrB m
   ·exact .inl rfl
   exact .inr ⟨rfl,by simpa[rngB,h1] using hr⟩
  rcases HH with hm | ⟨hm,hb⟩
  all_goals
   clear hr;go_enter func53,ntmps53
   go_wp2_with fail
   refine (header_any _ _).mono ?_;rintro e w' ⟨rfl,rfl⟩
   go_wp2_with fail
   refine (header_any _ _).mono ?_;rintro e w' ⟨rfl,rfl⟩;go_wp2;go_ret;exact⟨rfl,(bRQ _ _).alloc (nLQ _) _⟩
 have hm:hdrB m=true:=hdr_mk (rng_of hr).1;have hb:hdrB b=true:=hdr_mk (rng_of hr).2;cases ho:okB m b
 ·rw[refN_shape ho hr];have hz:(bits .and .i64 b m==b)=false:=by rw[andEq hr,ho]
  clear hr ho;go_enter func53,ntmps53
  go_wp2_with fail
  refine (header_any _ _).mono ?_;rintro e w' ⟨rfl,rfl⟩
  go_wp2_with fail
  refine (header_any _ _).mono ?_;rintro e w' ⟨rfl,rfl⟩;go_wp2;go_ret;exact⟨rfl,(bRQ _ _).alloc (nLQ _) _⟩
 rw[refN_ok ho];have hz:(bits .and .i64 b m==b)=true:=by rw[andEq hr,ho]
 clear hr ho;go_enter func53,ntmps53
 go_wp2_with fail
 refine (header_any _ _).mono ?_;rintro e w' ⟨rfl,rfl⟩
 go_wp2_with fail
 refine (header_any _ _).mono ?_;rintro e w' ⟨rfl,rfl⟩;go_wp2;go_ret;exact⟨rfl,(bRQ _ _).alloc (nLQ _) _⟩
theorem refHas_any (m b h:Int)(w:World):
 Calls prog 117 #[.agg #[.int i64 m,.int i64 b],.int i64 h] w fun e w'=>e=.returned (.bool (hasB m b h))∧Below w.heap.size w w':=by
 cases hh:hdrB h
 ·have e:hasB m b h=false:=by simp[hasB,hh]
  rw[e];clear e;go_enter func117,ntmps117
  go_wp2_with fail
  refine (header_any _ _).mono ?_;rintro e w' ⟨rfl,rfl⟩;go_wp2;go_ret;exact⟨rfl,(bRQ _ _).alloc (nLQ _) _⟩
 cases ho:okB m b
 ·have e:hasB m b h=false:=by simp[hasB,ho]
  have hz:(refN m b==0)=false:=by rw[ok_refN,ho]
  rw[e];clear e ho;go_enter func117,ntmps117
  go_wp2_with fail
  refine (header_any _ _).mono ?_;rintro e w' ⟨rfl,rfl⟩
  go_wp2_with fail
  refine (refCube_any _ _ _).mono ?_;rintro e w1 ⟨rfl,hb1⟩;go_wp2;go_ret;exact⟨rfl,((bRQ _ _).alloc (nLQ _) _).trans (hb1.mono (by simp))⟩
 have e:hasB m b h=(bits .and .i64 h m==b):=by simp[hasB,hh,ho]
 rw[e,];clear e;go_enter func117,ntmps117
 go_wp2_with fail
 refine (header_any _ _).mono ?_;rintro e w' ⟨rfl,rfl⟩
 go_wp2_with fail
 refine (refCube_any _ _ _).mono ?_;rintro e w1 ⟨rfl,hb1⟩;rw[refN_ok ho];obtain⟨hc1,hf1⟩:=bcell hb1;go_wp2;go_ret;exact⟨rfl,((bRQ _ _).alloc (nLQ _) _).trans (hb1.mono (by simp))⟩
def tuB (s v h:Int)(i:Nat):Bool:=bitB s i&&bitB v i || !bitB s i&&bitB h i
def tuTo (s v h:Int):Nat→Int
 | 0=>0
 | k+1=>if tuB s v h (3-k) then tuTo s v h k*2+1 else tuTo s v h k*2
theorem tu_bd (s v h:Int):∀k,0≤tuTo s v h k∧tuTo s v h k<2 ^ k
 | 0=>by simp[tuTo]
 | k+1=>by
   have:=tu_bd s v h k;have e:(2:Int) ^ (k+1)=2 ^ k*2:=Int.pow_succ ..;unfold tuTo
   split <;> omega
theorem tu_fin:∀(s v h:Fin 16),((bits .andNot .i64 ((v:Nat):Int) ((s:Nat):Int)==0) && !(tuTo ((s:Nat):Int) ((v:Nat):Int) ((h:Nat):Int) 4==apV ((s:Nat):Int) ((v:Nat):Int) ((h:Nat):Int)))=false:=by decide +kernel
theorem fin16 {x:Int}(h:0≤x∧x<16):∃i:Fin 16,x=((i:Nat):Int):=⟨⟨x.toNat,by omega⟩,by simp;omega⟩
theorem tu_ap {s v h:Int}(hs:0≤s∧s<16)(hv:0≤v∧v<16)(hh:0≤h∧h<16)(hz:(bits .andNot .i64 v s==0)=true):tuTo s v h 4=apV s v h:=by
 obtain⟨a,rfl⟩:=fin16 hs;obtain⟨b,rfl⟩:=fin16 hv;obtain⟨c,rfl⟩:=fin16 hh;have:=tu_fin a b c;rw[hz] at this;simpa using this
def abB (a b:Ru):Bool:=if a.p=b.p then (if a.m=b.m then decide (b.b<a.b) else decide (b.m<a.m)) else decide (b.p<a.p)
theorem ab_ord (a b:Ru):abB a b=decide (0<ordR a b):=by
 have h:ordR a b≤0↔_:=ord_le (a:=a) (b:=b);unfold abB
 split
 ·split <;> (rw[decide_eq_decide];omega)
 rw[decide_eq_decide];omega
theorem above_abB (p m b o s v p' m' b' o' s' v':Int)(w:World):
 Calls prog 118 #[.agg #[.int i64 p,.int i64 m,.int i64 b,.int i64 o,.int i64 s,.int i64 v],.agg #[.int i64 p',.int i64 m',.int i64 b',.int i64 o',.int i64 s',.int i64 v']] w fun e w'=>e=.returned (.bool (abB ⟨p,m,b,o,s,v⟩ ⟨p',m',b',o',s',v'⟩))∧Below w.heap.size w w':=by
 by_cases h1:p=p'
 ·subst h1;by_cases h2:m=m'
  ·subst h2;have e:abB ⟨p,m,b,o,s,v⟩ ⟨p,m,b',o',s',v'⟩=decide (b'<b):=by simp[abB]
   rw[e];clear e;go_enter func118,ntmps118;go_wp2;go_ret;exact⟨rfl,((bRQ _ _).alloc (nLQ _) _).alloc (by simp) _⟩
  have e:abB ⟨p,m,b,o,s,v⟩ ⟨p,m',b',o',s',v'⟩=decide (m'<m):=by simp[abB,h2]
  have h3:(m != m')=true:=by simpa using h2
  rw[e];clear e;go_enter func118,ntmps118;go_wp2;go_ret;exact⟨rfl,((bRQ _ _).alloc (nLQ _) _).alloc (by simp) _⟩
 have e:abB ⟨p,m,b,o,s,v⟩ ⟨p',m',b',o',s',v'⟩=decide (p'<p):=by simp[abB,h1]
 have h3:(p != p')=true:=by simpa using h1
 rw[e];clear e;go_enter func118,ntmps118;go_wp2;go_ret;exact⟨rfl,((bRQ _ _).alloc (nLQ _) _).alloc (by simp) _⟩
theorem above_any (p m b o s v p' m' b' o' s' v':Int)(w:World):
 Calls prog 118 #[.agg #[.int i64 p,.int i64 m,.int i64 b,.int i64 o,.int i64 s,.int i64 v],.agg #[.int i64 p',.int i64 m',.int i64 b',.int i64 o',.int i64 s',.int i64 v']] w fun e w'=>e=.returned (.bool (decide (0<ordR ⟨p,m,b,o,s,v⟩ ⟨p',m',b',o',s',v'⟩)))∧Below w.heap.size w w':=
 (above_abB p m b o s v p' m' b' o' s' v' w).mono fun e w' h=>⟨by rw[h.1,ab_ord],h.2⟩
theorem be_nextF {L:List Ru}{h:Int}{k:Nat}(x:Int)(hx:x=beTo L h k)(y:Bool)(hy:((L.getD k zeR).has h&&(decide (x<0) || decide (0<ordR (L.getD k zeR) (L.getD x.toNat zeR))))=y):beTo L h (k+1)=if y then (k:Int) else x:=by
 subst hx;rw[beTo,hy]
theorem find_some (g o cap n:Nat)(h:Int)(L:List Ru)(w:World)(hc:RAt w g o L)(hn:L.length=n)(hcap2:n≤maxLen):
 Calls prog 82 #[.slice (some ⟨g,o,none⟩) n cap,.int i64 h] w fun e w'=>e=.returned (.int i64 (beTo L h n))∧Below w.heap.size w w':=by
 have HN:Hid (L.length=n):=hn;unfold maxLen at hcap2;clear hn;go_enter func82,ntmps82;go_wp2
 go_loopw [5,6] (fun x i wr=>∃k:Nat,k≤n∧x=.int i64 (beTo L h k)∧i=.int i64 k∧Below w.heap.size w wr) (fun _ i _=>n-(intOf i).toNat)
 case atStart=>exact⟨0,by omega,rfl,rfl,bRQ _ _⟩
 case round =>
  obtain⟨k,hk,rfl,rfl,hB⟩:=hrel;have hbd:=be_bd L h k
  generalize hx:beTo L h k=x at *
  have HX:Hid (x=beTo L h k):=hx.symm;obtain⟨x0,x1⟩:=hbd;clear hx;have HB:Hid (Below w.heap.size w wr):=hB;by_cases hlt:k<n
  ·obtain⟨p,m,b,q,s,v,hkl,hL,q0,q1,q2,q3,q4,q5⟩:=(hc.later hB).at HN.out hlt;have HK:Hid (L.getD k zeR=⟨p,m,b,q,s,v⟩):=(getD_at hkl).trans hL;have HCC:Hid (RAt wr g o L):=hc.later hB;clear hL hB
   go_wp2_with fail
   refine (refHas_any _ _ _ _).mono ?_;rintro e w1 ⟨rfl,hb1⟩;have HCC1:Hid (RAt w1 g o L):=HCC.out.later hb1;have HB1:Hid (Below w.heap.size w w1):=HB.out.trans (hb1.mono HB.out.size);clear hb1 q0 q1 q2 q3 q4 q5 HCC
   generalize hY:hasB m b h=Y
   have HY:Hid (hasB m b h=Y):=hY;clear hY;go_upto_region 6 with fail;have kb0:(0:Int)≤(k:Int):=by omega
   have kb1:(k:Int)<(n:Int):=by omega
   go_cut [36] from 8 to 37 (fun c w'=>c=.bool (Y&&(decide (x<0) || decide (0<ordR (L.getD k zeR) (L.getD x.toNat zeR))))∧Below w.heap.size w w')
   case first =>
    cases Y
    ·refine wp_region_quiet (C:=fun w'=>Below w.heap.size w w') (by kernel_rfl) (by kernel_rfl) (Below.drew HB1.out) ?_;simp only[List.toList_toArray];go_big_quiet_want;refine qv (.bool false) ?_ ?_
     ·rintro w' z0;go_simp
     simp only[Act.put,AP];go_big_quiet_on;go_big_quiet_want;refine qv (.bool false) ?_ ?_
     ·rintro w' z0;go_simp
     simp only[Act.put,AP];go_big_quiet_on;go_big_quiet_skip;go_big_quiet_skip;go_big_quiet_skip;go_big_quiet_skip;go_big_quiet_skip;go_big_quiet_skip;go_big_quiet_skip;go_big_quiet_skip;go_big_quiet_skip;go_big_quiet_skip;go_big_quiet_skip;go_big_quiet_skip;go_big_quiet_skip;go_big_quiet_want;refine qv (.bool false) ?_ ?_
     ·rintro w' z0;go_simp
     simp only[Act.put,AP];go_big_quiet_on;refine wpQuiet_nil ?_;intro w' hC
     go_wp2_with fail
     go_meet
     case rel=>exact⟨rfl,hC⟩
    by_cases hx0:x<0
    ·have hx1:decide (x<0)=true:=by simpa using hx0
     refine wp_region_quiet (C:=fun w'=>Below w.heap.size w w') (by kernel_rfl) (by kernel_rfl) (Below.drew HB1.out) ?_;simp only[List.toList_toArray];go_big_quiet_want;refine qv (.bool true) ?_ ?_
     ·rintro w' z0;go_simp
     simp only[Act.put,AP];go_big_quiet_on;go_big_quiet_want;refine qv (.bool true) ?_ ?_
     ·rintro w' z0;go_simp
     simp only[Act.put,AP];go_big_quiet_on;go_big_quiet_want;refine qv (.int i64 x) ?_ ?_
     ·rintro w' z0;go_simp
     simp only[Act.put,AP];go_big_quiet_on;go_big_quiet_want;refine qv (.bool true) ?_ ?_
     ·rintro w' z0;go_simp
     simp only[Act.put,AP];go_big_quiet_on;go_big_quiet_want;refine qv (.bool true) ?_ ?_
     ·rintro w' z0;go_simp
     simp only[Act.put,AP];go_big_quiet_on;go_big_quiet_skip;go_big_quiet_skip;go_big_quiet_skip;go_big_quiet_skip;go_big_quiet_skip;go_big_quiet_skip;go_big_quiet_skip;go_big_quiet_skip;go_big_quiet_skip;go_big_quiet_want;refine qv (.bool true) ?_ ?_
     ·rintro w' z0;go_simp
     simp only[Act.put,AP];go_big_quiet_on;go_big_quiet_want;refine qv (.bool true) ?_ ?_
     ·rintro w' z0;go_simp
     simp only[Act.put,AP];go_big_quiet_on;refine wpQuiet_nil ?_;intro w' hC
     go_wp2_with fail
     go_meet
     case rel=>exact⟨by rw[hx1];rfl,hC⟩
    obtain⟨y,hy⟩:∃y:Nat,x=(y:Int):=⟨x.toNat,by omega⟩;have hx2:decide ((y:Int)<0)=false:=by simp
    subst hy;obtain⟨p2,m2,b2,q2,s2,v2,hyl,hLy,y0,y1,y2,y3,y4,y5⟩:=HCC1.out.at HN.out (show y<n by omega);obtain⟨p1,m1,b1,q1,s1,v1,hkl1,hLk,r0,r1,r2,r3,r4,r5⟩:=HCC1.out.at HN.out hlt;have E:=HK.out;rw[getD_at hkl1,hLk] at E;simp only[Ru.mk.injEq] at E;obtain⟨rfl,rfl,rfl,rfl,rfl,rfl⟩:=E;have HYL:Hid (L.getD ((y:Nat):Int).toNat zeR=⟨p2,m2,b2,q2,s2,v2⟩):=by
     show L.getD ((y:Nat):Int).toNat zeR=_;rw[Int.toNat_natCast,getD_at hyl,hLy]
    have yb0:(0:Int)≤(y:Int):=by omega
    have yb1:((y:Int))<(n:Int):=by omega
    have hS0:CD w g (o+k*6) p1 m1 b1 q1 s1 v1 g (o+y*6) p2 m2 b2 q2 s2 v2 w1:=⟨HB1.out,⟨r0,r1,r2,r3,r4,r5⟩,y0,y1,y2,y3,y4,y5⟩;clear y0 y1 y2 y3 y4 y5 r0 r1 r2 r3 r4 r5 hLy hLk;refine wp_region_quiet (C:=CD w g (o+k*6) p1 m1 b1 q1 s1 v1 g (o+y*6) p2 m2 b2 q2 s2 v2) (by kernel_rfl) (by kernel_rfl) (CD.later (W:=w1) (Below.drew (bRQ _ _)) hS0) ?_;simp only[List.toList_toArray];go_big_quiet_want;refine qv (.bool true) ?_ ?_
    ·rintro w' ⟨z0,⟨z1,z2,z3,z4,z5,z6⟩,y1,y2,y3,y4,y5,y6⟩;go_simp
    simp only[Act.put,AP];go_big_quiet_on;go_big_quiet_want;refine qv (.bool true) ?_ ?_
    ·rintro w' ⟨z0,⟨z1,z2,z3,z4,z5,z6⟩,y1,y2,y3,y4,y5,y6⟩;go_simp
    simp only[Act.put,AP];go_big_quiet_on;go_big_quiet_want;refine qv (.int i64 (y:Int)) ?_ ?_
    ·rintro w' ⟨z0,⟨z1,z2,z3,z4,z5,z6⟩,y1,y2,y3,y4,y5,y6⟩;go_simp
    simp only[Act.put,AP];go_big_quiet_on;go_big_quiet_want;refine qv (.bool false) ?_ ?_
    ·rintro w' ⟨z0,⟨z1,z2,z3,z4,z5,z6⟩,y1,y2,y3,y4,y5,y6⟩;go_simp
    simp only[Act.put,AP];go_big_quiet_on;go_big_quiet_want;refine qv (.bool false) ?_ ?_
    ·rintro w' ⟨z0,⟨z1,z2,z3,z4,z5,z6⟩,y1,y2,y3,y4,y5,y6⟩;go_simp
    simp only[Act.put,AP];go_big_quiet_on;go_big_quiet_want;refine qv (.slice (some ⟨g,o,none⟩) n cap) ?_ ?_
    ·rintro w' ⟨z0,⟨z1,z2,z3,z4,z5,z6⟩,y1,y2,y3,y4,y5,y6⟩;go_simp
    simp only[Act.put,AP];go_big_quiet_on;go_big_quiet_want;refine qv (.int i64 (k:Int)) ?_ ?_
    ·rintro w' ⟨z0,⟨z1,z2,z3,z4,z5,z6⟩,y1,y2,y3,y4,y5,y6⟩;go_simp
    simp only[Act.put,AP];go_big_quiet_on;go_big_quiet_want;refine qv (.pointer (some ⟨g,o+k*6,none⟩)) ?_ ?_
    ·rintro w' ⟨z0,⟨z1,z2,z3,z4,z5,z6⟩,y1,y2,y3,y4,y5,y6⟩;go_simp
    simp only[Act.put,AP];go_big_quiet_on;go_big_quiet_want;refine qv (.agg #[.int i64 p1,.int i64 m1,.int i64 b1,.int i64 q1,.int i64 s1,.int i64 v1]) ?_ ?_
    ·rintro w' ⟨z0,⟨z1,z2,z3,z4,z5,z6⟩,y1,y2,y3,y4,y5,y6⟩;go_simp
    simp only[Act.put,AP];go_big_quiet_on;go_big_quiet_want;refine qv (.slice (some ⟨g,o,none⟩) n cap) ?_ ?_
    ·rintro w' ⟨z0,⟨z1,z2,z3,z4,z5,z6⟩,y1,y2,y3,y4,y5,y6⟩;go_simp
    simp only[Act.put,AP];go_big_quiet_on;go_big_quiet_want;refine qv (.int i64 (y:Int)) ?_ ?_
    ·rintro w' ⟨z0,⟨z1,z2,z3,z4,z5,z6⟩,y1,y2,y3,y4,y5,y6⟩;go_simp
    simp only[Act.put,AP];go_big_quiet_on;go_big_quiet_want;refine qv (.pointer (some ⟨g,o+y*6,none⟩)) ?_ ?_
    ·rintro w' ⟨z0,⟨z1,z2,z3,z4,z5,z6⟩,y1,y2,y3,y4,y5,y6⟩;go_simp
    simp only[Act.put,AP];go_big_quiet_on;go_big_quiet_want;refine qv (.agg #[.int i64 p2,.int i64 m2,.int i64 b2,.int i64 q2,.int i64 s2,.int i64 v2]) ?_ ?_
    ·rintro w' ⟨z0,⟨z1,z2,z3,z4,z5,z6⟩,y1,y2,y3,y4,y5,y6⟩;go_simp
    simp only[Act.put,AP];go_big_quiet_on;go_big_quiet_want;refine quiet_call (f:=118) (args:=#[.agg #[.int i64 p1,.int i64 m1,.int i64 b1,.int i64 q1,.int i64 s1,.int i64 v1],.agg #[.int i64 p2,.int i64 m2,.int i64 b2,.int i64 q2,.int i64 s2,.int i64 v2]]) (v:=.bool (decide (0<ordR ⟨p1,m1,b1,q1,s1,v1⟩ ⟨p2,m2,b2,q2,s2,v2⟩))) (fun w'=>?_) (fun w' hC=>(above_any p1 m1 b1 q1 s1 v1 p2 m2 b2 q2 s2 v2 w').mono (fun e w2 h2=>⟨h2.1,CD.later h2.2 hC⟩)) ?_
    ·go_simp
    simp only[Act.put,AP];go_big_quiet_on;go_big_quiet_want;refine qv (.bool (decide (0<ordR ⟨p1,m1,b1,q1,s1,v1⟩ ⟨p2,m2,b2,q2,s2,v2⟩))) ?_ ?_
    ·rintro w' ⟨z0,⟨z1,z2,z3,z4,z5,z6⟩,y1,y2,y3,y4,y5,y6⟩;go_simp
    simp only[Act.put,AP];go_big_quiet_on;go_big_quiet_want;refine qv (.bool (decide (0<ordR ⟨p1,m1,b1,q1,s1,v1⟩ ⟨p2,m2,b2,q2,s2,v2⟩))) ?_ ?_
    ·rintro w' ⟨z0,⟨z1,z2,z3,z4,z5,z6⟩,y1,y2,y3,y4,y5,y6⟩;go_simp
    simp only[Act.put,AP];go_big_quiet_on;refine wpQuiet_nil ?_;intro w' hC
    go_wp2_with fail
    go_meet
    case rel=>exact⟨by rw[HYL.out,HK.out,hx2];rfl,hC.1⟩
   case rest =>
    obtain⟨hc2,hB2⟩:=hcut;have HYY:Hid (beTo L h (k+1)=if (Y&&(decide (x<0) || decide (0<ordR (L.getD k zeR) (L.getD x.toNat zeR)))) then (k:Int) else x):=be_nextF x HX.out _ (by rw[HK.out,←HY.out];rfl);clear HCC1
    generalize (Y&&(decide (x<0) || decide (0<ordR (L.getD k zeR) (L.getD x.toNat zeR))))=Z at *
    subst hc2;cases Z
    ·go_wp2;go_roundw
     case rel=>exact⟨k+1,by omega,by rw[HYY.out];rfl,by go_num,hB2⟩
     case measure=>simp[intOf];omega
    go_wp2;go_roundw
    case rel=>exact⟨k+1,by omega,by rw[HYY.out];rfl,by go_num,hB2⟩
    case measure=>simp[intOf];omega
  obtain rfl:k=n:=by omega
  go_wp2;go_ret;exact⟨by rw[←HX.out];rfl,HB.out⟩
theorem find_nil (ao:AdQ)(cap:Nat)(h:Int)(w:World):
 Calls prog 82 #[.slice ao 0 cap,.int i64 h] w fun e w'=>e=.returned (.int i64 (-1))∧Below w.heap.size w w':=by
 go_enter func82,ntmps82;go_wp2
 go_loopw [5,6] (fun x i wr=>x=.int i64 (-1)∧i=.int i64 0∧wr=w) (fun _ i _=>0)
 case atStart=>exact⟨rfl,rfl,rfl⟩
 case round =>
  obtain⟨rfl,rfl,rfl⟩:=hrel;go_wp2;go_ret;exact⟨rfl,bRQ _ _⟩
theorem find_any (x:Value)(L:List Ru)(h:Int)(w:World)(hs:SR w x L):
 Calls prog 82 #[x,.int i64 h] w fun e w'=>e=.returned (.int i64 (beTo L h L.length))∧Below w.heap.size w w':=by
 rcases hs with ⟨ao,cap,rfl,rfl⟩ | ⟨g,o,cap,rfl,h1,h2,hc⟩
 ·exact find_nil ao cap h w
 exact find_some g o cap _ h L w hc rfl (Nat.le_trans h1 h2)
theorem ediv_pow (x:Int)(k:Nat):x / 2 ^ k / 2=x / 2 ^ (k+1):=by
 rw[Int.ediv_ediv_of_nonneg (Int.pow_nonneg (by decide)),←Int.pow_succ]
theorem refBit_any (x i:Int)(w:World)(hx:0≤x∧x<16)(hi:0≤i∧i≤3):
 Calls prog 119 #[.int i64 x,.int i64 i] w fun e w'=>e=.returned (.bool (bitB x i.toNat))∧w'=w:=by
 obtain⟨hx0,hx1⟩:=hx;obtain⟨hi0,hi1⟩:=hi;go_enter func119,ntmps119;go_wp2
 go_loop [0,5] (fun v p=>∃k:Nat,(k:Int)≤i∧p=.int i64 k∧v=.int i64 (x / 2 ^ k)) (fun _ p=>(i-intOf p).toNat)
 case atStart=>exact⟨0,by omega,rfl,by simp⟩
 case round =>
  obtain⟨k,hk,rfl,rfl⟩:=hrel;have hE:0≤x / 2 ^ k:=Int.ediv_nonneg hx0 (Int.pow_nonneg (by decide));have hE2:x / 2 ^ k<16:=Int.lt_of_le_of_lt (Int.ediv_le_self _ hx0) hx1;have HP:Hid (x / 2 ^ k / 2=x / 2 ^ (k+1)):=ediv_pow x k;by_cases hlt:(k:Int)<i
  ·generalize x / 2 ^ k=y at *
   go_wp2
   go_round
   case rel=>exact⟨k+1,by omega,by go_num,by rw[←HP.out]⟩
   case measure=>simp[intOf];omega
  have hk2:i.toNat=k:=by omega
  have HB:Hid (bitB x i.toNat=(x / 2 ^ k % 2==1)):=by show _=_;rw[hk2];rfl
  clear hk2
  generalize x / 2 ^ k=y at *
  go_wp2;go_ret;refine⟨?_,rfl⟩;rw[HB.out];rfl
theorem turned_any (p m b o s v h:Int)(w:World)(hs:0≤s∧s<16)(hv:0≤v∧v<16)(hh:0≤h∧h<16):
 Calls prog 85 #[.agg #[.int i64 p,.int i64 m,.int i64 b,.int i64 o,.int i64 s,.int i64 v],.int i64 h] w fun e w'=>e=.returned (.int i64 (tuTo s v h 4))∧Below w.heap.size w w':=by
 go_enter func85,ntmps85;go_wp2
 go_loop [5,6] (fun t i=>∃k:Nat,k≤4∧i=.int i64 (3-k)∧t=.int i64 (tuTo s v h k)) (fun _ i=>(intOf i+1).toNat)
 case atStart=>exact⟨0,by omega,rfl,rfl⟩
 case round =>
  obtain⟨k,hk,rfl,rfl⟩:=hrel;have hbd:=tu_bd s v h k;have hp:(2:Int) ^ k≤16:=by
   rcases (by omega:k=0∨k=1∨k=2∨k=3∨k=4) with rfl | rfl | rfl | rfl | rfl <;> decide
  have b0:=hbd.1;have b1:tuTo s v h k<16:=Int.lt_of_lt_of_le hbd.2 hp;clear hp hbd;by_cases hlt:k<4
  ·have hi:(3-(k:Int)).toNat=3-k:=by omega
   have HI:Hid ((3-(k:Int)).toNat=3-k):=hi;have HT:Hid (tuTo s v h (k+1)=if (bitB s (3-k)&&bitB v (3-k) || !bitB s (3-k)&&bitB h (3-k)) then tuTo s v h k*2+1 else tuTo s v h k*2):=by
    show tuTo s v h (k+1)=_;rfl
   clear hi
   generalize tuTo s v h k=T at *
   go_wp2_with fail
   refine (refBit_any _ _ _ hs (by omega)).mono ?_;rintro e w' ⟨rfl,rfl⟩;rw[HI.out]
   go_wp2_with fail
   refine (refBit_any _ _ _ hv (by omega)).mono ?_;rintro e w' ⟨rfl,rfl⟩;rw[HI.out]
   go_wp2_with fail
   refine (refBit_any _ _ _ hh (by omega)).mono ?_;rintro e w' ⟨rfl,rfl⟩;rw[HI.out]
   generalize bitB s (3-k)=X at *
   generalize bitB v (3-k)=Y at *
   generalize bitB h (3-k)=Z at *
   cases X <;> cases Y <;> cases Z
   all_goals
    go_wp2
    go_round
    case rel=>exact⟨k+1,by omega,by go_num,by rw[HT.out];rfl⟩
    case measure=>simp[intOf];omega
  obtain rfl:k=4:=by omega
  go_wp2;go_ret;exact⟨rfl,(bRQ _ _).alloc (nLQ _) _⟩
def beR (t:List Ru)(h:Int):Ru:=t.getD (beTo t h t.length).toNat zeR
theorem ok_at {L:List Ru}(h:okR L=true){k:Nat}(hk:k<L.length):(L.getD k zeR).ok=true:=by
 rw[getD_at hk];exact List.all_eq_true.1 h _ (List.getElem_mem hk)
theorem be_ok {t:List Ru}{h:Int}(ht:tbN t=0)(hh:hdrB h=true)(hb:0≤beTo t h t.length):luN t h=0∧roR t h=beR t h∧(beR t h).ok=true∧(beR t h).has h=true∧(beTo t h t.length).toNat<t.length:=by
 have e:luN t h=0:=lu_0.2 ⟨ht,hh,hb⟩;have e2:luI t h=beTo t h t.length:=by rw[luI,if_pos e]
 have hlt:(beTo t h t.length).toNat<t.length:=by
  have:=be_bd t h t.length;omega
 exact⟨e,by rw[roR,e2];rfl,ok_at (tb_0.1 ht).2.1 hlt,(be_yes hb).1,hlt⟩
theorem st_no {t:List Ru}{p:(Int×Int)×Int}(ht:tbN t=0)(hh:hdrB p.2=true)(hb:beTo t p.2 t.length<0):stT t p=none:=by
 unfold stT;rw[if_neg];intro e;have:=(lu_0.1 e).2.2;omega
theorem ap_mk {r:Ru}{h:Int}(hr:r.ok=true)(hh:hdrB h=true)(hs:r.has h=true):r.apN h=if r.o=0 then 5 else 0:=by
 have e1:ruOk r.p r.m r.b r.o r.s r.v=true:=hr;have e2:hasB r.m r.b h=true:=hs;unfold Ru.apN apN;rw[if_pos e1,if_pos hh,e2];by_cases e:r.o=0
 ·rw[if_pos e];simp[e]
 rw[if_neg e];simp[e]
theorem st_drop {t:List Ru}{p:(Int×Int)×Int}(ht:tbN t=0)(hh:hdrB p.2=true)(hb:0≤beTo t p.2 t.length)(ho:(beR t p.2).o=0):stT t p=none:=by
 obtain⟨e1,e2,e3,e4,_⟩:=be_ok ht hh hb;unfold stT;rw[if_pos e1,e2,ap_mk e3 hh e4,if_pos ho];rfl
theorem st_yes {t:List Ru}{p:(Int×Int)×Int}(ht:tbN t=0)(hh:hdrB p.2=true)(hb:0≤beTo t p.2 t.length)(ho:(beR t p.2).o≠0):
 stT t p=some ((p.1.1,(beR t p.2).o),tuTo (beR t p.2).s (beR t p.2).v p.2 4)∧(0≤(beR t p.2).s∧(beR t p.2).s<16)∧(0≤(beR t p.2).v∧(beR t p.2).v<16):=by
 obtain⟨e1,e2,e3,e4,_⟩:=be_ok ht hh hb;have ha:=ap_mk e3 hh e4;rw[if_neg ho] at ha;have h3:ruOk (beR t p.2).p (beR t p.2).m (beR t p.2).b (beR t p.2).o (beR t p.2).s (beR t p.2).v=true:=e3;obtain⟨g1,_,g3⟩:=ru_ok h3;obtain⟨_,hs,hv⟩:=ru_in g1;simp only[ruSet,Bool.and_eq_true] at g3;refine⟨?_,hs,hv⟩;unfold stT;rw[if_pos e1,e2,if_pos ha,tu_ap hs hv (hdr_of hh) g3.1];have:(beR t p.2).apR p.2=apV (beR t p.2).s (beR t p.2).v p.2:=by
  unfold Ru.apR apR;exact if_pos ha
 rw[this]
section
variable {Ls:LkQ}{Hs:HoQ}{Ts:TsQ}{l:HpQ}{q:(Int×Int)×Int}
theorem fo_r (h:l.length≤24):foF Ls Hs Ts (25-l.length) l=match enE Ls Hs Ts l (laH l) with | .inl e=>(e.1,e.2,l) | .inr p=>foF Ls Hs Ts (24-l.length) (l++[p]):=by
 have e:25-l.length=(24-l.length)+1:=by omega
 rw[e];exact fo_s _ _
theorem la_app (l:HpQ)(p:(Int×Int)×Int):laH (l++[p])=p:=by
 rw[la_at];simp only[List.length_append,List.length_cons,List.length_nil,Nat.add_sub_cancel,Nat.zero_add];exact at_app l p
end
end
section
open Go.ChangeShapes Go.WideShapes Go.ChangeAt Go.RowKit Go.Joins
def hopE:Enc ((Int×Int)×Int) where
 c:=fun x=>[.int i64 x.1.1,.int i64 x.1.2,.int i64 x.2]
 n:=3
 len:=fun _=>rfl
 pos:=by decide
 one:=by
  intro x u hu;simp at hu
  rcases hu with rfl | rfl | rfl <;> rfl
theorem hop_cells {w:World}{g o:Nat}{x0 x1 x2:Int}(h:VAt w g o (hopE.c ((x0,x1),x2))):w.cell? ⟨g,o,none⟩=some (.int i64 x0)∧w.cell? ⟨g,o+1,none⟩=some (.int i64 x1)∧w.cell? ⟨g,o+2,none⟩=some (.int i64 x2):=
 ⟨h 0 _ rfl,h 1 _ rfl,h 2 _ rfl⟩
theorem hop_at {w:World}{g o:Nat}{L:HpQ}(h:GAt hopE w g o L){n k:Nat}(hn:L.length=n)(hk:k<n):
 ∃(x0:Int) (x1:Int) (x2:Int) (hl:k<L.length),L[k]=((x0,x1),x2)∧w.cell? ⟨g,o+k*3,none⟩=some (.int i64 x0)∧w.cell? ⟨g,o+k*3+1,none⟩=some (.int i64 x1)∧w.cell? ⟨g,o+k*3+2,none⟩=some (.int i64 x2):=
 have hl:k<L.length:=by omega
 ⟨_,_,_,hl,rfl,hop_cells (h k hl)⟩
theorem hop_new (w:World)(x0 x1 x2:Int)(t:TypeId):VAt (w.alloc (.cells #[.int i64 x0,.int i64 x1,.int i64 x2] t)) w.heap.size 0 (hopE.c ((x0,x1),x2)):=vat_new w [.int i64 x0,.int i64 x1,.int i64 x2] t
def hopB (a b:(Int×Int)×Int):Bool:=(a.1.1==b.1.1)&&((a.1.2==b.1.2)&&((a.2==b.2)))
theorem hopB_iff (a b:(Int×Int)×Int):hopB a b=true↔a=b:=by
 have e:hopB a b=((a.1.1==b.1.1)&&((a.1.2==b.1.2)&&((a.2==b.2)))):=rfl;rw[e];simp only[Bool.and_eq_true,beq_iff_eq];constructor
 ·intro h;obtain⟨⟨a0,a1⟩,a2⟩:=a;obtain⟨⟨b0,b1⟩,b2⟩:=b;simp at h ⊢;simp[h]
 intro h;subst h;simp
theorem hop_ways (x0 x1 x2 y0 y1 y2:Int):
 ((x0==y0)=false∧hopB ((x0,x1),x2) ((y0,y1),y2)=false) ∨
 ((x0==y0)=true∧(x1==y1)=false∧hopB ((x0,x1),x2) ((y0,y1),y2)=false) ∨
 ((x0==y0)=true∧(x1==y1)=true∧(x2==y2)=false∧hopB ((x0,x1),x2) ((y0,y1),y2)=false) ∨
 ((x0==y0)=true∧(x1==y1)=true∧(x2==y2)=true∧hopB ((x0,x1),x2) ((y0,y1),y2)=true):=by
 have e:hopB ((x0,x1),x2) ((y0,y1),y2)=((x0==y0)&&((x1==y1)&&((x2==y2)))):=rfl;rw[e];cases h0:(x0==y0)
 ·simp
 skip;cases h1:(x1==y1)
 ·simp
 skip;cases h2:(x2==y2)
 ·simp
 skip;simp
theorem hop_eq (x0 x1 x2 y0 y1 y2:Int)(w:World):(Op.equal 127 (.agg #[.int i64 x0,.int i64 x1,.int i64 x2]) (.agg #[.int i64 y0,.int i64 y1,.int i64 y2])).run prog w=.ok (hopB ((x0,x1),x2) ((y0,y1),y2)) w:=by
 unfold Op.equal Op.maxDepth;rw[run_equalIn_struct w 9999 _ _ _ (by kernel_rfl) (by kernel_rfl)]
 rcases hop_ways x0 x1 x2 y0 y1 y2 with ⟨e0,e⟩ | ⟨e0,e1,e⟩ | ⟨e0,e1,e2,e⟩ | ⟨e0,e1,e2,e⟩
 all_goals
  rw[e];go_simp
theorem hop_info:(Tryz.prog.info? 127).map (fun i=>(i.zero,i.size,i.bytes))=some (some (.agg #[.int i64 0,.int i64 0,.int i64 0]),3,24):=by kernel_rfl
theorem hop_zero:(Value.agg #[.int i64 0,.int i64 0,.int i64 0]).cells.size=3:=by simp[Value.cells]
end
section
open Go.RowKit
theorem nan_any (a:Int)(w:World):Calls prog 170 #[.int i64 a] w fun e w'=>e=.returned (.bool false)∧w'=w:=by
 go_enter func170,ntmps170;go_wp2;go_ret;exact⟨by simp,rfl⟩
theorem compare_any (a b:Int)(w:World):Calls prog 169 #[.int i64 a,.int i64 b] w fun e w'=>e=.returned (.int i64 (cmpN a b))∧w'=w:=by
 by_cases h1:a<b
 ·have e:cmpN a b = -1:=by simp[cmpN,h1]
  rw[e];clear e;have g1:decide (a<b)=true:=by simpa using h1
  go_enter func169,ntmps169
  go_wp2_with (first | (go_at_call 170;refine (nan_any _ _).mono ?_;rintro e w' ⟨rfl,rfl⟩))
  go_ret;exact⟨rfl,rfl⟩
 have g1:decide (a<b)=false:=by simpa using h1
 by_cases h2:b<a
 ·have e:cmpN a b=1:=by simp[cmpN,h1,h2]
  rw[e];clear e;have g2:decide (b<a)=true:=by simpa using h2
  go_enter func169,ntmps169
  go_wp2_with (first | (go_at_call 170;refine (nan_any _ _).mono ?_;rintro e w' ⟨rfl,rfl⟩))
  go_ret;exact⟨rfl,rfl⟩
 have e:cmpN a b=0:=by simp[cmpN,h1,h2]
 rw[e];clear e;have g2:decide (b<a)=false:=by simpa using h2
 go_enter func169,ntmps169
 go_wp2_with (first | (go_at_call 170;refine (nan_any _ _).mono ?_;rintro e w' ⟨rfl,rfl⟩))
 go_ret;exact⟨rfl,rfl⟩
theorem or_any (x y z:Int)(g:Nat)(w:World)(h0:w.cell? ⟨g,0,none⟩=some (.int i64 x))(h1:w.cell? ⟨g,1,none⟩=some (.int i64 y))(h2:w.cell? ⟨g,2,none⟩=some (.int i64 z)):
 Calls prog 168 #[.slice (some ⟨g,0,none⟩) 3 3] w fun e w'=>e=.returned (.int i64 (orN x y z))∧w'=w:=by
 generalize hq:orN x y z=q
 have HQ:Hid ((if x=0 then (if y=0 then z else y) else x)=q):=hq;clear hq;go_enter func168,ntmps168;go_wp2
 go_loopw [8] (fun i wr=>∃k:Nat,k≤3∧i=.int i64 k∧(0<k→x=0)∧(1<k→y=0)∧(2<k→z=0)∧wr=w) (fun i _=>3-(intOf i).toNat)
 case atStart=>exact⟨0,by omega,rfl,by omega,by omega,by omega,rfl⟩
 case round =>
  obtain⟨k,hk,rfl,a0,a1,a2,hw⟩:=hrel
  replace hw:=hw.symm
  subst hw
  rcases (by omega:k=0∨k=1∨k=2∨k=3) with rfl | rfl | rfl | rfl
  ·clear a0 a1 a2;by_cases hx:x=0
   ·have g1:(x==0)=true:=by simpa using hx
    have g2:(x != 0)=false:=by simpa using hx
    go_wp2;go_roundw
    case rel=>exact⟨1,by omega,rfl,fun _=>hx,by omega,by omega,trivial⟩
    case measure=>simp[intOf]
   have g1:(x==0)=false:=by simpa using hx
   have g2:(x != 0)=true:=by simpa using hx
   go_wp2;go_ret;exact⟨by rw[←HQ.out,if_neg hx];rfl,rfl⟩
  ·have hx:=a0 (by omega);clear a0 a1 a2;by_cases hy:y=0
   ·have g1:(y==0)=true:=by simpa using hy
    have g2:(y != 0)=false:=by simpa using hy
    go_wp2;go_roundw
    case rel=>exact⟨2,by omega,rfl,fun _=>hx,fun _=>hy,by omega,trivial⟩
    case measure=>simp[intOf]
   have g1:(y==0)=false:=by simpa using hy
   have g2:(y != 0)=true:=by simpa using hy
   go_wp2;go_ret;exact⟨by rw[←HQ.out,if_pos hx,if_neg hy];rfl,rfl⟩
  ·have hx:=a0 (by omega);have hy:=a1 (by omega);clear a0 a1 a2;by_cases hz:z=0
   ·have g1:(z==0)=true:=by simpa using hz
    have g2:(z != 0)=false:=by simpa using hz
    go_wp2;go_roundw
    case rel=>exact⟨3,by omega,rfl,fun _=>hx,fun _=>hy,fun _=>hz,trivial⟩
    case measure=>simp[intOf]
   have g1:(z==0)=false:=by simpa using hz
   have g2:(z != 0)=true:=by simpa using hz
   go_wp2;go_ret;exact⟨by rw[←HQ.out,if_pos hx,if_pos hy];rfl,rfl⟩
  have hx:=a0 (by omega);have hy:=a1 (by omega);have hz:=a2 (by omega);clear a0 a1 a2;go_wp2;go_ret;exact⟨by rw[←HQ.out,if_pos hx,if_pos hy,hz];rfl,rfl⟩
theorem compare_b (a b:Int)(w:World):Calls prog 169 #[.int i64 a,.int i64 b] w fun e w'=>e=.returned (.int i64 (cmpN a b))∧Below w.heap.size w w':=
 (compare_any a b w).mono fun _ w' h=>⟨h.1,by rw[h.2];exact bRQ _ _⟩
theorem or_b (x y z:Int)(g:Nat)(w:World)(h0:w.cell? ⟨g,0,none⟩=some (.int i64 x))(h1:w.cell? ⟨g,1,none⟩=some (.int i64 y))(h2:w.cell? ⟨g,2,none⟩=some (.int i64 z)):
 Calls prog 168 #[.slice (some ⟨g,0,none⟩) 3 3] w fun e w'=>e=.returned (.int i64 (orN x y z))∧Below w.heap.size w w':=
 (or_any x y z g w h0 h1 h2).mono fun _ w' h=>⟨h.1,by rw[h.2];exact bRQ _ _⟩
theorem cells3 {W:World}(x y z:Value)(t:TypeId):
 (W.alloc (.cells #[x,y,z] t)).cell? ⟨W.heap.size,0,none⟩=some x∧(W.alloc (.cells #[x,y,z] t)).cell? ⟨W.heap.size,1,none⟩=some y∧(W.alloc (.cells #[x,y,z] t)).cell? ⟨W.heap.size,2,none⟩=some z:=by
 refine⟨?_,?_,?_⟩ <;> simp
def OS (w:World)(p m b p' m' b':Int)(w':World):Prop:=
 Below w.heap.size w w'∧(w'.cell? ⟨w.heap.size,0,none⟩=some (.int i64 p)∧w'.cell? ⟨w.heap.size,1,none⟩=some (.int i64 m)∧w'.cell? ⟨w.heap.size,2,none⟩=some (.int i64 b)) ∧
  (w'.cell? ⟨w.heap.size+1,0,none⟩=some (.int i64 p')∧w'.cell? ⟨w.heap.size+1,1,none⟩=some (.int i64 m')∧w'.cell? ⟨w.heap.size+1,2,none⟩=some (.int i64 b'))
theorem OS.later {w W W':World}{p m b p' m' b':Int}(hb:Below W.heap.size W W')(h:OS w p m b p' m' b' W):OS w p m b p' m' b' W':=by
 obtain⟨h0,⟨h1,h2,h3⟩,⟨h4,h5,h6⟩⟩:=h;exact⟨h0.trans (hb.mono h0.size),⟨cell_later hb h1,cell_later hb h2,cell_later hb h3⟩,⟨cell_later hb h4,cell_later hb h5,cell_later hb h6⟩⟩
theorem order_any (p m b o s v p' m' b' o' s' v':Int)(w:World):
 Calls prog 165 #[.agg #[.int i64 p,.int i64 m,.int i64 b,.int i64 o,.int i64 s,.int i64 v],.agg #[.int i64 p',.int i64 m',.int i64 b',.int i64 o',.int i64 s',.int i64 v']] w fun e w'=>e=.returned (.int i64 (ordN p m b p' m' b'))∧Below w.heap.size w w':=by
 have hS0:OS w p m b p' m' b' ((w.alloc (.cells #[.int i64 p,.int i64 m,.int i64 b,.int i64 o,.int i64 s,.int i64 v] 88)).alloc (.cells #[.int i64 p',.int i64 m',.int i64 b',.int i64 o',.int i64 s',.int i64 v'] 88)):=by
  refine⟨((bRQ _ _).alloc (nLQ _) _).alloc (by simp) _,⟨?_,?_,?_⟩,⟨?_,?_,?_⟩⟩ <;> simp
 go_enter func165,ntmps165;go_wp2
 generalize ((w.alloc (.cells #[.int i64 p,.int i64 m,.int i64 b,.int i64 o,.int i64 s,.int i64 v] 88)).alloc (.cells #[.int i64 p',.int i64 m',.int i64 b',.int i64 o',.int i64 s',.int i64 v'] 88))=W0 at *
 unfold OS at hS0
 go_region_held3 (fun w'=>Below w.heap.size w w'∧(w'.cell? ⟨w.heap.size,0,none⟩=some (.int i64 p)∧w'.cell? ⟨w.heap.size,1,none⟩=some (.int i64 m)∧w'.cell? ⟨w.heap.size,2,none⟩=some (.int i64 b)) ∧
  (w'.cell? ⟨w.heap.size+1,0,none⟩=some (.int i64 p')∧w'.cell? ⟨w.heap.size+1,1,none⟩=some (.int i64 m')∧w'.cell? ⟨w.heap.size+1,2,none⟩=some (.int i64 b')))
  (first | assumption | exact OS.later (by assumption) (by assumption) | exact OS.later (Below.drew (bRQ _ _)) (by assumption) | exact OS.later (Below.alloc (bRQ _ _) (nLQ _) _) (by assumption))
  (first
   | (go_at_call 169;refine (compare_b _ _ _).mono ?_;rintro e w' ⟨rfl,hb⟩)
   | (go_at_call 168;refine (or_b (cmpN p p') (cmpN m m') (cmpN b b') _ _ (cells3 _ _ _ _).1 (cells3 _ _ _ _).2.1 (cells3 _ _ _ _).2.2).mono ?_;rintro e w' ⟨rfl,hb⟩))
 have hS:=(‹Below w.heap.size w w'∧_›).1;go_wp2;go_ret;exact⟨rfl,hS⟩
end
end Go.Proofs.YtiokpmlhmlcojaaGreatDoor
