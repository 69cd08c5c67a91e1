/- Contracts and facts on the way to PlanLeast, joined into one text: MixMath5, MixTellsMath, PlanSafe, PlanLeastMath, PlanMono, SlSet, ItLaw3, PlanSets, PlanShort, WishBroken, WishHolds. -/
import Derived.Test.YtiokpmlhmlcojaaGreatDoorPlanLeastP7
namespace Go.Proofs.YtiokpmlhmlcojaaGreatDoor
set_option linter.unusedSimpArgs false
set_option linter.unusedVariables false
set_option maxHeartbeats 16000000
set_option maxRecDepth 100000
open Go.Proofs.Tryz
open IntKind (i64)
section
open Go.RowKit
section
variable (Ls:LkQ)(Hs:HoQ)(As Bs:TsQ)
def bsB (w:Wi)(x:ByteArray×(Int×Int))(h:Int):Bool:=(seeL Ls Hs As Bs x.2 h).any fun F => !fiB w x.1 F
def bsH (w:Wi)(x:ByteArray×(Int×Int)):Nat→Int
 | 0 => -1
 | k+1=>if bsH w x k<0 then (if bsB Ls Hs As Bs w x (k:Int) then (k:Int) else -1) else bsH w x k
def bsX (w:Wi)(Xs:HoQ):Nat→Option (Nat×Int)
 | 0=>none
 | k+1=>match bsX w Xs k with
   | some x=>some x
   | none=>if 0≤bsH Ls Hs As Bs w (Xs.getD k zeO) 16 then some (k,bsH Ls Hs As Bs w (Xs.getD k zeO) 16) else none
def bsW (l:List Wi)(Xs:HoQ):Nat→Option (Nat×Nat×Int)
 | 0=>none
 | k+1=>match bsW l Xs k with
   | some x=>some x
   | none=>match bsX Ls Hs As Bs (l.getD k zeW) Xs Xs.length with
     | some p=>some (k,p.1,p.2)
     | none=>none
end
section
variable {Ls:LkQ}{Hs:HoQ}{As Bs:TsQ}
theorem bsH_le {w:Wi}{x:ByteArray×(Int×Int)}{k:Nat}(h:0≤bsH Ls Hs As Bs w x k):∀{n:Nat},k≤n→bsH Ls Hs As Bs w x n=bsH Ls Hs As Bs w x k
 | 0,hn=>by
   obtain rfl:k=0:=by omega
   rfl
 | n+1,hn=>by
   by_cases e:k=n+1
   ·subst e;rfl
   have:=bsH_le h (show k≤n by omega);rw[bsH,if_neg (by rw[this];omega),this]
theorem bsH_no {w:Wi}{x:ByteArray×(Int×Int)}{k:Nat}(h:bsH Ls Hs As Bs w x k<0)(h2:bsB Ls Hs As Bs w x (k:Int)=false):bsH Ls Hs As Bs w x (k+1)<0:=by
 rw[bsH,if_pos h,h2];simp
theorem bsH_yes {w:Wi}{x:ByteArray×(Int×Int)}{k:Nat}(hk:k<16)(h:bsH Ls Hs As Bs w x k<0)(h2:bsB Ls Hs As Bs w x (k:Int)=true):bsH Ls Hs As Bs w x 16=k:=by
 have e:bsH Ls Hs As Bs w x (k+1)=k:=by
  rw[bsH,if_pos h,h2];simp
 rw[bsH_le (k:=k+1) (by rw[e];omega) (by omega),e]
theorem bsH_none {w:Wi}{x:ByteArray×(Int×Int)}:∀{k:Nat},bsH Ls Hs As Bs w x k<0→∀j,j<k→bsB Ls Hs As Bs w x (j:Int)=false
 | 0,_,j,hj=>by omega
 | k+1,h,j,hj=>by
   by_cases e:bsH Ls Hs As Bs w x k<0
   ·cases h2:bsB Ls Hs As Bs w x (k:Int) with
    | false =>
      by_cases ej:j=k
      ·subst ej;exact h2
      exact bsH_none e j (by omega)
    | true =>
      rw[bsH,if_pos e,h2] at h;simp at h;omega
   rw[bsH,if_neg e] at h;exact absurd h e
theorem bsB_off {w:Wi}{x:ByteArray×(Int×Int)}(h:abW w x.1=false)(k:Int):bsB Ls Hs As Bs w x k=false:=by simp[bsB,fiB,h]
variable {Xs:HoQ}
theorem bsX_le {w:Wi}{k:Nat}{p:Nat×Int}(h:bsX Ls Hs As Bs w Xs k=some p):∀{n:Nat},k≤n→bsX Ls Hs As Bs w Xs n=some p
 | 0,hn=>by
   obtain rfl:k=0:=by omega
   exact h
 | n+1,hn=>by
   by_cases e:k=n+1
   ·subst e;exact h
   rw[bsX,bsX_le h (show k≤n by omega)]
theorem bsX_no {w:Wi}{k:Nat}(hk:k<Xs.length)(h:bsX Ls Hs As Bs w Xs k=none)(h2:bsH Ls Hs As Bs w Xs[k] 16<0):bsX Ls Hs As Bs w Xs (k+1)=none:=by
 rw[bsX,h];simp only;rw[getO hk,if_neg (by omega)]
theorem bsX_yes {w:Wi}{k:Nat}(hk:k<Xs.length)(h:bsX Ls Hs As Bs w Xs k=none)(h2:0≤bsH Ls Hs As Bs w Xs[k] 16):bsX Ls Hs As Bs w Xs Xs.length=some (k,bsH Ls Hs As Bs w Xs[k] 16):=by
 refine bsX_le (k:=k+1) ?_ (by omega);rw[bsX,h];simp only;rw[getO hk,if_pos h2]
theorem bsX_none {w:Wi}:∀{k:Nat},bsX Ls Hs As Bs w Xs k=none→∀j,j<k→∀h:Nat,h<16→bsB Ls Hs As Bs w (Xs.getD j zeO) (h:Int)=false
 | 0,_,j,hj=>by omega
 | k+1,h,j,hj=>by
   rw[bsX] at h;cases e:bsX Ls Hs As Bs w Xs k with
   | some q=>rw[e] at h;cases h
   | none =>
     rw[e] at h;simp only at h
     split at h
     ·cases h
     next h0 =>
     by_cases ej:j=k
     ·subst ej;exact bsH_none (by omega)
     exact bsX_none e j (by omega)
variable {l:List Wi}
theorem bsW_le {k:Nat}{p:Nat×Nat×Int}(h:bsW Ls Hs As Bs l Xs k=some p):∀{n:Nat},k≤n→bsW Ls Hs As Bs l Xs n=some p
 | 0,hn=>by
   obtain rfl:k=0:=by omega
   exact h
 | n+1,hn=>by
   by_cases e:k=n+1
   ·subst e;exact h
   rw[bsW,bsW_le h (show k≤n by omega)]
theorem bsW_no {k:Nat}(hk:k<l.length)(h:bsW Ls Hs As Bs l Xs k=none)(h2:bsX Ls Hs As Bs l[k] Xs Xs.length=none):bsW Ls Hs As Bs l Xs (k+1)=none:=by
 rw[bsW,h];simp only;rw[getW hk,h2]
theorem bsW_yes {k:Nat}(hk:k<l.length)(h:bsW Ls Hs As Bs l Xs k=none){p:Nat×Int}(h2:bsX Ls Hs As Bs l[k] Xs Xs.length=some p):bsW Ls Hs As Bs l Xs l.length=some (k,p.1,p.2):=by
 refine bsW_le (k:=k+1) ?_ (by omega);rw[bsW,h];simp only;rw[getW hk,h2]
theorem bsW_none:∀{k:Nat},bsW Ls Hs As Bs l Xs k=none→∀i,i<k→∀j,j<Xs.length→∀h:Nat,h<16→bsB Ls Hs As Bs (l.getD i zeW) (Xs.getD j zeO) (h:Int)=false
 | 0,_,i,hi=>by omega
 | k+1,h,i,hi=>by
   rw[bsW] at h;cases e:bsW Ls Hs As Bs l Xs k with
   | some q=>rw[e] at h;cases h
   | none =>
     rw[e] at h;simp only at h;cases e2:bsX Ls Hs As Bs (l.getD k zeW) Xs Xs.length with
     | some q=>rw[e2] at h;cases h
     | none =>
       by_cases ei:i=k
       ·subst ei;exact bsX_none e2
       exact bsW_none e i (by omega)
end
section
variable {Ls:LkQ}{Hs:HoQ}{As Bs:TsQ}{Xs:HoQ}{l:List Wi}
theorem bsH_neg {w:Wi}{x:ByteArray×(Int×Int)}:∀{k:Nat},(∀j,j<k→bsB Ls Hs As Bs w x (j:Int)=false)→bsH Ls Hs As Bs w x k<0
 | 0,_=>by simp[bsH]
 | k+1,h=>bsH_no (bsH_neg (fun j hj=>h j (by omega))) (h k (by omega))
theorem bsX_neg {w:Wi}:∀{k:Nat},(∀j,j<k→∀h:Nat,h<16→bsB Ls Hs As Bs w (Xs.getD j zeO) (h:Int)=false)→bsX Ls Hs As Bs w Xs k=none
 | 0,_=>rfl
 | k+1,h=>by
   rw[bsX,bsX_neg (fun j hj=>h j (by omega))];simp only;rw[if_neg];have:=bsH_neg (Ls:=Ls) (Hs:=Hs) (As:=As) (Bs:=Bs) (w:=w) (x:=Xs.getD k zeO) (k:=16) (fun j hj=>h k (by omega) j hj);omega
theorem bsW_neg:∀{k:Nat},(∀i,i<k→∀j,j<Xs.length→∀h:Nat,h<16→bsB Ls Hs As Bs (l.getD i zeW) (Xs.getD j zeO) (h:Int)=false)→bsW Ls Hs As Bs l Xs k=none
 | 0,_=>rfl
 | k+1,h=>by
   rw[bsW,bsW_neg (fun i hi=>h i (by omega))];simp only;rw[bsX_neg (h k (by omega))]
theorem any_same {α:Type}{L M:List α}(h:∀x,x∈L↔x∈M)(p:α→Bool):L.any p=M.any p:=by
 rw[Bool.eq_iff_iff,List.any_eq_true,List.any_eq_true];exact⟨fun ⟨x,h1,h2⟩=>⟨x,(h x).1 h1,h2⟩,fun ⟨x,h1,h2⟩=>⟨x,(h x).2 h1,h2⟩⟩
theorem fb_bs {S:Int}(ht:tpN S Ls Hs=0)(hA:∀s,tbN (taT As s)=0)(hB:∀s,tbN (taT Bs s)=0){held:Nat}{p:Int×ByteArray×Int}(f:Fb l Hs (fun z h=>pwS Ls Hs As Bs (Hs.getD z zeO).2 (h:Int)) Hs.length 0 held p):(bsW Ls Hs As Bs l Hs l.length).isSome=decide (held<l.length)∧prV Hs (bsW Ls Hs As Bs l Hs l.length)=p:=by
 have hb:∀w z (h:Nat),z<Hs.length→badF w (Hs.getD z zeO).1 (pwS Ls Hs As Bs (Hs.getD z zeO).2 (h:Int))=bsB Ls Hs As Bs w (Hs.getD z zeO) (h:Int):=fun w z h hz=>by
  have hsp:spB S (Hs.getD z zeO).2=true:=by
   rw[getO hz];exact ((tp_0 ht).2.2.2.2.1 _ (List.getElem_mem hz)).2
  exact any_same (ps_mem ht hA hB hsp (h:Int)) _
 by_cases hl:held<l.length
 ·obtain⟨z,h,h16,hzh,hz,rfl,hbad,hno⟩:=f.tell hl;have e1:bsH Ls Hs As Bs l[held] Hs[z] 16=(h:Int):=by
   refine bsH_yes h16 (bsH_neg fun j hj=>?_) ?_
   ·have:=hno z j (by omega) (.inr ⟨rfl,hj⟩);rw[hb _ _ _ hz,getW hl,getO hz] at this;exact this
   rw[hb _ _ _ hz,getW hl,getO hz] at hbad;exact hbad
  have e2:bsX Ls Hs As Bs l[held] Hs Hs.length=some (z,(h:Int)):=by
   rw[bsX_yes hz (bsX_neg fun j hj h' hh'=>?_) (by rw[e1];omega),e1];have:=hno j h' hh' (.inl hj);rw[hb _ _ _ (by omega),getW hl] at this;exact this
  have e3:=bsW_yes hl (bsW_neg (Ls:=Ls) (Hs:=Hs) (As:=As) (Bs:=Bs) (Xs:=Hs) fun i hi j hj h' hh'=>by
   have:=f.ok i hi j h' hh' (.inl hj);rw[hb _ _ _ hj] at this;exact this) e2
  rw[e3];exact⟨by simp[hl],rfl⟩
 have he:held=l.length:=by have:=f.le;omega
 have e3:bsW Ls Hs As Bs l Hs l.length=none:=bsW_neg fun i hi j hj h' hh'=>by
  have:=f.ok i (by omega) j h' hh' (.inl hj);rw[hb _ _ _ hj] at this;exact this
 rw[e3,f.no he];exact⟨by simp[hl],rfl⟩
end
structure PlOK (S:Int)(Ls:List LkT)(Hs:List HoT)(As Bs:TsQ)(ws:List Wi)(D:List Op8):Prop where
 nt:ntN S Ls Hs As=0
 tw:∀j,twN (As.getD j []) (Bs.getD j [])=0
 ws:wsN S Ls Hs ws=0
 d:D=cdL As Bs As.length
section
variable {S:Int}{Ls:List LkT}{Hs:List HoT}{As Bs:TsQ}{ws:List Wi}{D:List Op8}
theorem PlOK.len (h:PlOK S Ls Hs As Bs ws D):(As.length:Int)=S∧As.length≤6:=by
 obtain⟨h1,h2,_⟩:=nt_0 h.nt;have:=(tp_0 h1).1;exact⟨h2,by omega⟩
theorem PlOK.few (h:PlOK S Ls Hs As Bs ws D):D.length≤144:=by
 have h1:=cd_few h.tw As.length;have h2:=h.len.2;rw[h.d];omega
theorem PlOK.w (h:PlOK S Ls Hs As Bs ws D):∀o∈D,1≤o.w∧o.w≤6:=fun o ho=>by
 rw[h.d] at ho;have:=cd_w o ho;have:=h.len.2;omega
theorem rd_all (As Bs:TsQ)(h6:As.length≤6)(t:Nat):rnL (cdL As Bs As.length) t=rnTo (cdL As Bs As.length) t As.length:=by
 have h2:∀k,As.length≤k→rnTo (cdL As Bs As.length) t k=rnTo (cdL As Bs As.length) t As.length:=by
  intro k hk
  induction k with
  | zero=>rw[show As.length=0 by omega]
  | succ k ih =>
    by_cases e:As.length=k+1
    ·rw[e]
    rw[rd_cd,ih (by omega)];simp[show ¬k<As.length by omega]
 exact h2 6 h6
theorem PlOK.ca (h:PlOK S Ls Hs As Bs ws D){s t:Nat}(hd:∀a,1≤a→a≤6→inS t a=true→inS s a=false):caN S (nwT As Bs s) (rnL D t)=0∧caT (nwT As Bs s) (rnL D t)=nwT As Bs (s ||| t):=by
 rw[h.d,rd_all As Bs h.len.2];obtain⟨h1,h2⟩:=ca_rd h.len.1 h.len.2 (fun j _=>h.tw j) hd As.length (nLQ _);refine⟨h1,List.ext_getElem (by rw[ca_len,nw_len,nw_len]) fun i k1 k2=>?_⟩;have hi:i<As.length:=by rw[nw_len] at k2;exact k2
 have:=h2 i;rw[if_pos hi] at this;simpa[List.getD,k1,k2] using this
theorem rd_le (h6:As.length≤6)(t:Nat):(rnL (cdL As Bs As.length) t).length≤(cdL As Bs As.length).length:=by
 rw[←of_rd (As:=As) (Bs:=Bs) (n:=As.length) (s:=t) (p:=fun x=>inS t x.toNat) h6 (fun a _ _=>by simp)];exact List.length_filter_le _ _
theorem PlOK.nw (h:PlOK S Ls Hs As Bs ws D){s:Nat}:ntN S Ls Hs (nwT As Bs s)=0:=by
 obtain⟨h1,h2⟩:=h.ca (s:=0) (t:=s) (fun a _ _ _=>in_0 a);rw[nw_0] at h1 h2;rw[Nat.zero_or] at h2;rw[←h2];exact nt_ca h.nt h1
theorem PlOK.cg (h:PlOK S Ls Hs As Bs ws D){s t:Nat}(hd:∀a,1≤a→a≤6→inS t a=true→inS s a=false):cgN S Ls Hs (nwT As Bs s) (rnL D t)=0:=by
 refine cg_of h.nw ?_ (h.ca hd).1;have h1:=rd_le (Bs:=Bs) h.len.2 t;have h2:=h.few;rw[h.d] at h2 ⊢;omega
end
def sfB (Ls:List LkT)(Hs:List HoT)(As Bs:TsQ)(ws:List Wi)(done s:Nat):Bool:=(bsW Ls Hs (nwT As Bs done) (nwT As Bs (done ||| s)) ws Hs ws.length).isNone
theorem sf_none {S:Int}{Ls:List LkT}{Hs:List HoT}{Ts:TsQ}{o:List Op8}{l:List Wi}{N:Int}{p:Int×ByteArray×Int}(h:SfR S Ls Hs Ts o l N p)(h1:cgN S Ls Hs Ts o=0)(h2:wsN S Ls Hs l=0):N=if (bsW Ls Hs Ts (caT Ts o) l Hs l.length).isNone then 0 else 9:=by
 rcases h with ⟨k1,_,_⟩ | ⟨_,k2,_,_⟩ | ⟨_,_,held,hF,hN⟩
 ·exact absurd h1 k1
 ·exact absurd h2 k2
 obtain⟨ht,_,hA,hB⟩:=cg_ok h1;obtain⟨e1,e2⟩:=fb_bs ht hA hB hF;rw[hN];by_cases hh:held<l.length
 ·rw[if_pos hh];rw[decide_eq_true hh] at e1;cases hb:bsW Ls Hs Ts (caT Ts o) l Hs l.length with
  | none=>rw[hb] at e1;cases e1
  | some x=>rfl
 rw[if_neg hh];rw[decide_eq_false hh] at e1;cases hb:bsW Ls Hs Ts (caT Ts o) l Hs l.length with
 | none=>rfl
 | some x=>rw[hb] at e1;cases e1
theorem isSafe_any (S:Int)(v1 v2 v3 v4:Value)(bm:Nat)(all:Int)(done s:Nat)(Ls:List LkT)(Hs:List HoT)(As Bs:TsQ)(ws:List Wi)(D:List Op8)(w:World)
 (hT:TskOK w v1 v2 v3 v4 bm Ls Hs As ws D) (hP:PlOK S Ls Hs As Bs ws D) (hd:done<64) (hs:s<64) (hds:∀a,1≤a→a≤6→inS s a=true→inS done a=false):
 Calls prog 46 #[.agg #[.int i64 S,v1,v2,v3,v4,.map (some bm),.int i64 all],.int i64 (done:Int),.int i64 (s:Int)] w fun e w'=>e=.returned (.bool (sfB Ls Hs As Bs ws done s))∧Below w.heap.size w w':=by
 obtain⟨ao,n,cap,ao2,n2,cap2,ao3,n3,cap3,rfl,rfl,rfl⟩:=hT.n.form;obtain⟨a4,n4,c4,rfl,_⟩:=hT.w.form;obtain⟨w1,hw1⟩:∃W,W=w.alloc (.cells #[.int i64 S,.slice ao n cap,.slice ao2 n2 cap2,.slice ao3 n3 cap3,.slice a4 n4 c4,.map (some bm),.int i64 all] 63):=⟨_,rfl⟩;have hb1:Below w.heap.size w w1:=by rw[hw1];exact (bRQ _ _).alloc (nLQ _) _
 have hbx:TkB w1 w.heap.size S (.slice ao n cap) (.slice ao2 n2 cap2) (.slice ao3 n3 cap3) (.slice a4 n4 c4) (.map (some bm)) all:=by rw[hw1];exact tkb_new w S _ _ _ _ _ all 63
 have HW1:Hid (w1=w.alloc (.cells #[.int i64 S,.slice ao n cap,.slice ao2 n2 cap2,.slice ao3 n3 cap3,.slice a4 n4 c4,.map (some bm),.int i64 all] 63)):=hw1;have HB1:Hid (Below w.heap.size w w1):=hb1;have HTK:Hid (∀W,Below w1.heap.size w1 W→TskOK W (.slice ao n cap) (.slice ao2 n2 cap2) (.slice ao3 n3 cap3) (.slice a4 n4 c4) bm Ls Hs As ws D):=fun W h=>(hT.later hb1).later h
 have HCB:Hid (∀W,Below w1.heap.size w1 W→W.cell? ⟨w.heap.size,0,none⟩=some (.int i64 S)∧W.cell? ⟨w.heap.size,1,none⟩=some (.slice ao n cap)∧W.cell? ⟨w.heap.size,2,none⟩=some (.slice ao2 n2 cap2)∧W.cell? ⟨w.heap.size,3,none⟩=some (.slice ao3 n3 cap3)∧W.cell? ⟨w.heap.size,4,none⟩=some (.slice a4 n4 c4)∧W.cell? ⟨w.heap.size,5,none⟩=some (.map (some bm))∧W.cell? ⟨w.heap.size,6,none⟩=some (.int i64 all)):=fun W h=>by
  have k:=hbx.later h;exact⟨k.c0,k.c1,k.c2,k.c3,k.c4,k.c5,k.c6⟩
 have HP:Hid (PlOK S Ls Hs As Bs ws D):=hP;have HR:Hid (∀(t:Nat) W,t<64→Below w1.heap.size w1 W→Calls prog 44 #[.agg #[.int i64 S,.slice ao n cap,.slice ao2 n2 cap2,.slice ao3 n3 cap3,.slice a4 n4 c4,.map (some bm),.int i64 all],.int i64 (t:Int)] W fun e w'=>∃a5 n5 c5,e=.returned (.slice a5 n5 c5)∧(∀V,Below w'.heap.size w' V→GS opE V (.slice a5 n5 c5) (rnL D t))∧Below W.heap.size W w'):=fun t W ht hW=>by
  refine (pround_any S _ _ _ _ bm all t Ls Hs As ws D W ((hT.later hb1).later hW) ht (by have:=hP.few;omega)).mono ?_;rintro e w' ⟨v,rfl,hNO,hb⟩;obtain⟨a5,n5,c5,rfl,_⟩:=hNO.gs.form;exact⟨a5,n5,c5,rfl,fun V hV=>(hNO.later hV).gs,hb⟩
 have HAP:Hid (∀W a5 n5 c5,GS opE W (.slice a5 n5 c5) (rnL D done)→Below w1.heap.size w1 W→Calls prog 37 #[.agg #[.int i64 S,.slice ao n cap,.slice ao2 n2 cap2,.slice ao3 n3 cap3],.slice a5 n5 c5] W fun e w'=>∃b1 k1 d1 b2 k2 d2 b3 k3 d3,e=.returned (.tuple #[.agg #[.int i64 S,.slice b1 k1 d1,.slice b2 k2 d2,.slice b3 k3 d3],.nilIface])∧NA w' W.heap.size (.slice b1 k1 d1) (.slice b2 k2 d2) (.slice b3 k3 d3) Ls Hs (nwT As Bs done)∧Below W.heap.size W w'):=fun W a5 n5 c5 hG hW=>by
  have hn:=((hT.later hb1).later hW).n;have h:=chApply_own S ao n cap ao2 n2 cap2 ao3 n3 cap3 a5 n5 c5 Ls Hs As (rnL D done) W hn.l hn.h hn.t hG;have e0:=hP.cg (s:=0) (t:=done) (fun a _ _ _=>in_0 a);have e1:=(hP.ca (s:=0) (t:=done) (fun a _ _ _=>in_0 a)).2;rw[nw_0] at e0 e1;rw[Nat.zero_or] at e1;rw[e0,e1,no_ok rfl] at h;exact h
 have HDS:Hid (∀a,1≤a→a≤6→inS s a=true→inS done a=false):=hds;have HDL:Hid (done<64∧s<64):=⟨hd,hs⟩;obtain⟨T,hTT⟩:∃T,T=sfB Ls Hs As Bs ws done s:=⟨_,rfl⟩;have HT:Hid (sfB Ls Hs As Bs ws done s=T):=hTT.symm;rw[←hTT];clear hT hb1 hbx hw1 hP hd hs hds hTT;go_enter func46,ntmps46;go_upto_region 1 with fail;rw[←HW1.out]
 go_cut [7,8] from 9 (fun p e w'=>e=.nilIface∧PN w' p S Ls Hs (nwT As Bs done)∧Below w1.heap.size w1 w')
 case first =>
  go_region_held3 (fun W=>W.cell? ⟨w.heap.size,0,none⟩=some (.int i64 S)∧W.cell? ⟨w.heap.size,1,none⟩=some (.slice ao n cap)∧W.cell? ⟨w.heap.size,2,none⟩=some (.slice ao2 n2 cap2)∧W.cell? ⟨w.heap.size,3,none⟩=some (.slice ao3 n3 cap3)∧W.cell? ⟨w.heap.size,4,none⟩=some (.slice a4 n4 c4)∧W.cell? ⟨w.heap.size,5,none⟩=some (.map (some bm))∧W.cell? ⟨w.heap.size,6,none⟩=some (.int i64 all))
   (first | (with_reducible assumption) | (with_reducible exact HCB.out _ (Below.drew (bRQ _ _))) | (with_reducible exact HCB.out _ (Below.drew ((bRQ _ _).alloc (nLQ _) _))) | (with_reducible exact HCB.out _ HBY.out) | (with_reducible exact HCB.out _ (HBY.out.alloc HBY.out.size _)) | (with_reducible exact HCB.out _ HBX.out) | (with_reducible exact HCB.out _ (HBX.out.alloc HBX.out.size _)) | (exact HCB.out _ (below_pn4 HBY.out _ (by first | exact nLQ _ | exact HBX.out.size) _ _ _ _)))
   (first
    | (go_at_call 44;refine (HR.out done _ HDL.out.1 (by first | exact Below.drew (bRQ _ _) | exact (Below.drew (bRQ _ _)).alloc (nLQ _) _)).mono ?_;rintro e w' ⟨a5,n5,c5,rfl,hG,hb⟩;have HBX:Hid (Below w1.heap.size w1 w'):=(by first | exact fdrew hb | exact falloc hb);have HGX:Hid (∀V,Below w'.heap.size w' V→GS opE V (.slice a5 n5 c5) (rnL D done)):=hG;(try (have HZ:Hid (ZB w' w1.heap.size):=zb_d hb));clear hb hG)
    | (go_at_call 37;refine (HAP.out _ a5 n5 c5 (HGX.out _ (by first | exact bRQ _ _ | exact (bRQ _ _).alloc (nLQ _) _)) (by first | exact HBX.out | exact HBX.out.alloc HBX.out.size _)).mono ?_;rintro e w'' ⟨b1,k1,d1,b2,k2,d2,b3,k3,d3,rfl,hNA,hb⟩;have HNA:Hid (NA w'' _ (.slice b1 k1 d1) (.slice b2 k2 d2) (.slice b3 k3 d3) Ls Hs (nwT As Bs done)):=hNA;have HBY:Hid (Below w1.heap.size w1 w''):=(by first | exact HBX.out.trans (hb.mono HBX.out.size) | exact (HBX.out.alloc HBX.out.size _).trans (hb.mono (HBX.out.alloc HBX.out.size _).size));(try (have hz:=HZ.out.later hb;have hzl:=HZ.out.lt;obtain⟨⟨y0,y1,y2,y3⟩,yf⟩:=hz;have yf0:=yf 0;have yf1:=yf 1;have yf2:=yf 2;have yf3:=yf 3;clear yf));(try (have hz:=zb_a hb;obtain⟨⟨y0,y1,y2,y3⟩,yf⟩:=hz;have yf0:=yf 0;have yf1:=yf 1;have yf2:=yf 2;have yf3:=yf 3;clear yf));clear hb hNA))
  all_goals (go_wp2_with fail;go_meet)
  all_goals first
   | exact⟨rfl,pn_new _ HNA.out,HBY.out.alloc HBY.out.size _⟩
   | exact⟨rfl,pn_put HNA.out (by first | exact hzl | simp) ⟨y0,y1,y2,y3⟩,below_pn4 HBY.out _ (by first | exact nLQ _ | exact HBX.out.size) _ _ _ _⟩
 case rest =>
  obtain⟨rfl,⟨ba,b1,k1,d1,b2,k2,d2,b3,k3,d3,rfl,hba⟩,hbw⟩:=hcut;obtain⟨w2,hw2⟩:∃X,X=wc:=⟨_,rfl⟩;subst hw2;obtain⟨N,hN⟩:∃N:Int,N=if sfB Ls Hs As Bs ws done s then 0 else 9:=⟨_,rfl⟩
  have HN:Hid (N=if T then 0 else 9):=by rw[HT.out] at hN;exact hN
  have HB12:Hid (Below w1.heap.size w1 w2):=hbw;have HMK:Hid (∀W,Below w2.heap.size w2 W→W.cell? ⟨w.heap.size,0,none⟩=some (.int i64 S)∧W.cell? ⟨w.heap.size,1,none⟩=some (.slice ao n cap)∧W.cell? ⟨w.heap.size,2,none⟩=some (.slice ao2 n2 cap2)∧W.cell? ⟨w.heap.size,3,none⟩=some (.slice ao3 n3 cap3)∧W.cell? ⟨w.heap.size,4,none⟩=some (.slice a4 n4 c4)∧W.cell? ⟨w.heap.size,5,none⟩=some (.map (some bm))∧W.cell? ⟨w.heap.size,6,none⟩=some (.int i64 all)∧W.cell? ⟨ba,0,none⟩=some (.int i64 S)∧W.cell? ⟨ba,1,none⟩=some (.slice b1 k1 d1)∧W.cell? ⟨ba,2,none⟩=some (.slice b2 k2 d2)∧W.cell? ⟨ba,3,none⟩=some (.slice b3 k3 d3)):=fun W hW=>by
   obtain⟨x0,x1,x2,x3,x4,x5,x6⟩:=HCB.out W (hbw.trans (hW.mono hbw.size));obtain⟨y0,y1,y2,y3⟩:=(hba.later hW).c;exact⟨x0,x1,x2,x3,x4,x5,x6,y0,y1,y2,y3⟩
  have HRS:Hid (∀W,Below w2.heap.size w2 W→Calls prog 44 #[.agg #[.int i64 S,.slice ao n cap,.slice ao2 n2 cap2,.slice ao3 n3 cap3,.slice a4 n4 c4,.map (some bm),.int i64 all],.int i64 (s:Int)] W fun e w'=>∃a5 n5 c5,e=.returned (.slice a5 n5 c5)∧GS opE w' (.slice a5 n5 c5) (rnL D s)∧Below w2.heap.size w2 w'):=fun W hW=>by
   refine (HR.out s W HDL.out.2 (hbw.trans (hW.mono hbw.size))).mono ?_;rintro e w' ⟨a5,n5,c5,rfl,hG,hb⟩;exact⟨a5,n5,c5,rfl,hG _ (bRQ _ _),hW.trans (hb.mono hW.size)⟩
  have HSF:Hid (∀W a5 n5 c5,GS opE W (.slice a5 n5 c5) (rnL D s)→Below w2.heap.size w2 W→Calls prog 36 #[.agg #[.int i64 S,.slice b1 k1 d1,.slice b2 k2 d2,.slice b3 k3 d3],.slice a5 n5 c5,.slice a4 n4 c4] W fun e w'=>∃p1 p2 p3,e=.returned (.tuple #[.agg #[.int i64 p1,.string p2,.int i64 p3],noV N])∧Below w2.heap.size w2 w'):=fun W a5 n5 c5 hG hW=>by
   have hn:=hba.later hW;refine (safe_any S b1 k1 d1 b2 k2 d2 b3 k3 d3 a5 n5 c5 a4 n4 c4 Ls Hs (nwT As Bs done) (rnL D s) ws W hn.l hn.h hn.t hG (HTK.out W (hbw.trans (hW.mono hbw.size))).w).mono ?_;rintro e w' ⟨N',p,rfl,hSR,hb⟩;have e1:=sf_none hSR (HP.out.cg HDS.out) HP.out.ws;rw[(HP.out.ca HDS.out).2] at e1;have e2:N'=N:=e1.trans hN.symm;exact⟨p.1,p.2.1,p.2.2,by rw[e2],hW.trans (hb.mono hW.size)⟩
  clear hba hbw hN HCB HR HAP;go_upto_region 4 with fail
  go_cut [8] from 9 (fun e w'=>e=noV N∧Below w2.heap.size w2 w')
  case first =>
   go_region_held3 (fun W=>W.cell? ⟨w.heap.size,0,none⟩=some (.int i64 S)∧W.cell? ⟨w.heap.size,1,none⟩=some (.slice ao n cap)∧W.cell? ⟨w.heap.size,2,none⟩=some (.slice ao2 n2 cap2)∧W.cell? ⟨w.heap.size,3,none⟩=some (.slice ao3 n3 cap3)∧W.cell? ⟨w.heap.size,4,none⟩=some (.slice a4 n4 c4)∧W.cell? ⟨w.heap.size,5,none⟩=some (.map (some bm))∧W.cell? ⟨w.heap.size,6,none⟩=some (.int i64 all)∧W.cell? ⟨ba,0,none⟩=some (.int i64 S)∧W.cell? ⟨ba,1,none⟩=some (.slice b1 k1 d1)∧W.cell? ⟨ba,2,none⟩=some (.slice b2 k2 d2)∧W.cell? ⟨ba,3,none⟩=some (.slice b3 k3 d3))
    (first | (with_reducible assumption) | (with_reducible exact HMK.out _ (Below.drew (bRQ _ _))) | (with_reducible exact HMK.out _ HBY.out) | (with_reducible exact HMK.out _ HBX.out))
    (first
     | (go_at_call 44;refine (HRS.out _ (Below.drew (bRQ _ _))).mono ?_;rintro e w' ⟨a5,n5,c5,rfl,hG,hb⟩;have HBX:Hid (Below w2.heap.size w2 w'):=hb;have HGX:Hid (GS opE w' (.slice a5 n5 c5) (rnL D s)):=hG;clear hb hG)
     | (go_at_call 36;refine (HSF.out _ a5 n5 c5 HGX.out HBX.out).mono ?_;rintro e w'' ⟨p1,p2,p3,rfl,hb⟩;have HBY:Hid (Below w2.heap.size w2 w''):=hb;clear hb))
   all_goals (go_wp2_with fail;go_meet)
   all_goals exact⟨rfl,HBY.out⟩
  case rest =>
   obtain⟨rfl,hb3⟩:=hcut;have HBW:Hid (Below w.heap.size w wc):=HB1.out.trans ((HB12.out.trans (hb3.mono HB12.out.size)).mono HB1.out.size);clear hb3;cases T with
   | true =>
     have h0:N=0:=HN.out.trans (by simp);rw[no_ok h0];go_wp2;go_ret;exact⟨rfl,HBW.out⟩
   | false =>
     have h0:N=9:=HN.out.trans (by simp);rw[no_ne (by rw[h0];decide)];go_wp2;go_ret;exact⟨rfl,HBW.out⟩
theorem in_and (s t a:Nat):inS (s &&& t) a=(inS s a&&inS t a):=Nat.testBit_and ..
theorem sub_and {s t:Nat}(hs:s<64):s &&& t=s↔∀a,1≤a→a≤6→inS s a=true→inS t a=true:=by
 constructor
 ·intro h a _ _ h1;rw[←h,in_and] at h1;simp only[Bool.and_eq_true] at h1;exact h1.2
 intro h;refine set_ext (Nat.lt_of_le_of_lt Nat.and_le_left hs) hs fun a h1 h2=>?_
 rw[in_and];cases e:inS s a
 ·rfl
 rw[h a h1 h2 e];rfl
theorem down_all:((List.range 64).all fun t=>(List.range 64).all fun k=>(List.range 64).all fun m => !(k &&& t==k) || !(m &&& t==m) || Nat.ble m k || Nat.ble k ((m-1) &&& t))=true:=by decide +kernel
theorem down_le {t k m:Nat}(ht:t<64)(hk:k<64)(hm:m<64)(h:k &&& t=k)(h2:m &&& t=m)(hkm:k<m):k≤(m-1) &&& t:=by
 have h1:=List.all_eq_true.1 down_all t (List.mem_range.2 ht);have h4:=List.all_eq_true.1 h1 k (List.mem_range.2 hk);have h3:=List.all_eq_true.1 h4 m (List.mem_range.2 hm);simp only[h,h2,beq_self_eq_true,Bool.not_true,Bool.false_or,Bool.or_eq_true,Nat.ble_eq] at h3
 rcases h3 with h3 | h3
 ·omega
 exact h3
def seqL (p:Nat→Bool):Nat→List Nat
 | 0=>[]
 | n+1=>if p n=true then n :: seqL p n else seqL p n
theorem seq_mem {p:Nat→Bool}{x:Nat}:∀{n:Nat},x∈seqL p n↔x<n∧p x=true
 | 0=>by simp[seqL]
 | n+1=>by
   rw[seqL];by_cases h:p n=true
   ·rw[if_pos h,List.mem_cons,seq_mem];constructor
    ·rintro (e | ⟨h1,h2⟩)
     ·subst e;exact⟨Nat.lt_succ_self _,h⟩
     exact⟨by omega,h2⟩
    rintro⟨h1,h2⟩;by_cases e:x=n
    ·exact .inl e
    exact .inr ⟨by omega,h2⟩
   rw[if_neg h,seq_mem];constructor
   ·rintro⟨h1,h2⟩;exact⟨by omega,h2⟩
   rintro⟨h1,h2⟩;refine⟨?_,h2⟩;by_cases e:x=n
   ·subst e;exact absurd h2 h
   omega
theorem seq_fall (p:Nat→Bool):∀n:Nat,(seqL p n).Pairwise (fun a b=>b<a)
 | 0=>List.Pairwise.nil
 | n+1=>by
   rw[seqL];by_cases h:p n=true
   ·rw[if_pos h];exact List.pairwise_cons.2 ⟨fun a ha=>(seq_mem.1 ha).1,seq_fall p n⟩
   rw[if_neg h];exact seq_fall p n
theorem seq_skip {p:Nat→Bool}{m:Nat}:∀{n:Nat},m≤n→(∀k,m≤k→k<n→p k=false)→seqL p n=seqL p m
 | 0,h,_=>by rw[show m=0 by omega]
 | n+1,h,hp=>by
   by_cases e:m=n+1
   ·rw[e]
   rw[seqL,if_neg (by rw[hp n (by omega) (by omega)];decide)];exact seq_skip (by omega) fun k h1 h2=>hp k h1 (by omega)
section
variable (sf:Nat→Nat→Bool)(all:Nat)
def ysB (done s:Nat):Bool:=decide (s≠0)&&decide (s &&& mnS all done=s)&&sf done s
def ysL (done:Nat):List Nat:=seqL (ysB sf all done) 64
def nxB (f:Nat→Nat)(s:Nat)(b:Nat×Nat):Nat×Nat:=if f s<b.1 then (f s,s) else b
def bsF (f:Nat→Nat):List Nat→Nat×Nat→Nat×Nat
 | [],b=>b
 | s :: l,b=>if (nxB f s b).1≤2 then nxB f s b else bsF f l (nxB f s b)
def shF:Nat→Nat→Nat×Nat
 | 0,done=>if done=all then (0,0) else (7,0)
 | n+1,done=>if done=all then (0,0) else bsF (fun s=>(shF n (done ||| s)).1+1) (ysL sf all done) (7,0)
def shC (done:Nat):Nat×Nat:=shF sf all 6 done
def DnOK (done:Nat):Prop:=done<64∧∀a,1≤a→a≤6→inS done a=true→inS all a=true
def CrO:Nat→List Nat→Prop
 | done,[]=>done=all
 | done,s :: cs=>s∈ysL sf all done∧CrO (done ||| s) cs
variable {sf all}
theorem ys_mem {done s:Nat}:s∈ysL sf all done↔s<64∧s≠0∧(∀a,1≤a→a≤6→inS s a=true→inS (mnS all done) a=true)∧sf done s=true:=by
 rw[ysL,seq_mem,ysB];simp only[Bool.and_eq_true,decide_eq_true_eq];constructor
 ·rintro⟨h1,⟨h2,h3⟩,h4⟩;exact⟨h1,h2,(sub_and h1).1 h3,h4⟩
 rintro⟨h1,h2,h3,h4⟩;exact⟨h1,⟨h2,(sub_and h1).2 h3⟩,h4⟩
theorem ys_le {done s:Nat}(h:s∈ysL sf all done):s≤mnS all done:=by
 obtain⟨h1,h2,h3,_⟩:=ys_mem.1 h;rw[←(sub_and h1).2 h3];exact Nat.and_le_right
theorem DnOK.next {done s:Nat}(h:DnOK all done)(hs:s∈ysL sf all done):DnOK all (done ||| s):=by
 obtain⟨h1,_,h3,_⟩:=ys_mem.1 hs;refine⟨or_lt h.1 h1,fun a k1 k2 k=>?_⟩;rw[in_or] at k;by_cases e:inS done a=true
 ·exact h.2 a k1 k2 e
 have:=h3 a k1 k2 (by simpa[e] using k);rw[in_mn k1 k2] at this;simp only[Bool.and_eq_true] at this;exact this.1
theorem ys_less {done s:Nat}(hs:s∈ysL sf all done):lfN all (done ||| s)<lfN all done:=by
 obtain⟨h1,h2,h3,_⟩:=ys_mem.1 hs;exact lf_less h1 h2 h3
theorem bs_congr {f g:Nat→Nat}:∀{l:List Nat} {b:Nat×Nat},(∀s∈l,f s=g s)→bsF f l b=bsF g l b
 | [],b,_=>rfl
 | s :: l,b,h=>by
   have e:nxB f s b=nxB g s b:=by rw[nxB,nxB,h s (List.mem_cons_self ..)]
   rw[bsF,bsF,e,bs_congr fun x hx=>h x (List.mem_cons_of_mem _ hx)]
theorem sh_more (ha:all<64):∀(n m done:Nat),DnOK all done→lfN all done≤n→lfN all done≤m→shF sf all n done=shF sf all m done
 | 0,m,done,hd,hn,hm=>by
   have e:=lf_0 ha hd.1 hd.2 (by omega);cases m <;> simp[shF,e]
 | n+1,0,done,hd,hn,hm=>by
   have e:=lf_0 ha hd.1 hd.2 (by omega);simp[shF,e]
 | n+1,m+1,done,hd,hn,hm=>by
   rw[shF,shF];by_cases e:done=all
   ·rw[if_pos e,if_pos e]
   rw[if_neg e,if_neg e];refine bs_congr fun s hs=>?_
   have hl:=ys_less hs;rw[sh_more ha n m (done ||| s) (hd.next hs) (by omega) (by omega)]
theorem sh_all:shC sf all all=(0,0):=by simp[shC,shF]
theorem sh_step (ha:all<64){done:Nat}(hd:DnOK all done)(h:done≠all):shC sf all done=bsF (fun s=>(shC sf all (done ||| s)).1+1) (ysL sf all done) (7,0):=by
 rw[shC,shF,if_neg h];refine bs_congr fun s hs=>?_
 have hl:=ys_less hs;have h6:=lf_le all done;rw[shC,sh_more ha 5 6 (done ||| s) (hd.next hs) (by omega) (by omega)]
theorem bs_two {f:Nat→Nat}:∀{l:List Nat} {b:Nat×Nat},(∀s∈l,2≤f s)→2≤b.1 →
 (∀s∈l,(bsF f l b).1≤f s)∧(bsF f l b).1≤b.1∧(bsF f l b=b∨∃pre s post,l=pre++s :: post∧bsF f l b=(f s,s)∧f s<b.1∧∀x∈pre,f s<f x)
 | [],b,_,_=>⟨(fun s h=>by cases h),nLQ _,.inl rfl⟩
 | s :: l,b,h,hb=>by
   have hs:=h s (List.mem_cons_self ..);have hl:∀x∈l,2≤f x:=fun x hx=>h x (List.mem_cons_of_mem _ hx)
   rw[bsF];by_cases c:f s<b.1
   ·have e:nxB f s b=(f s,s):=by rw[nxB,if_pos c]
    rw[e];by_cases c2:f s≤2
    ·rw[if_pos c2];refine⟨fun x hx=>?_,by show f s≤b.1;omega,.inr ⟨[],s,l,rfl,rfl,c,fun x hx=>by cases hx⟩⟩;show f s≤f x
     rcases List.mem_cons.1 hx with e | hx
     ·rw[e];exact nLQ _
     have:=hl x hx;omega
    rw[if_neg c2];obtain⟨i1,i2,i3⟩:=bs_two (b:=(f s,s)) hl hs;refine⟨fun x hx=>?_,by have:(f s,s).1=f s:=rfl;omega,.inr ?_⟩
    ·rcases List.mem_cons.1 hx with e | hx
     ·rw[e];exact i2
     exact i1 x hx
    rcases i3 with i3 | ⟨pre,x,post,j1,j2,j3,j4⟩
    ·exact⟨[],s,l,rfl,i3,c,fun x hx=>by cases hx⟩
    have j5:f x<f s:=j3;refine⟨s :: pre,x,post,by rw[j1];rfl,j2,by omega,fun y hy=>?_⟩
    rcases List.mem_cons.1 hy with e | hy
    ·rw[e];exact j5
    exact j4 y hy
   have e:nxB f s b=b:=by rw[nxB,if_neg c]
   rw[e];by_cases c2:b.1≤2
   ·rw[if_pos c2];refine⟨fun x hx=>?_,nLQ _,.inl rfl⟩
    rcases List.mem_cons.1 hx with e | hx
    ·rw[e];omega
    have:=hl x hx;omega
   rw[if_neg c2];obtain⟨i1,i2,i3⟩:=bs_two (b:=b) hl hb;refine⟨fun x hx=>?_,i2,i3.imp id ?_⟩
   ·rcases List.mem_cons.1 hx with e | hx
    ·rw[e];omega
    exact i1 x hx
   rintro⟨pre,x,post,j1,j2,j3,j4⟩;refine⟨s :: pre,x,post,by rw[j1];rfl,j2,j3,fun y hy=>?_⟩
   rcases List.mem_cons.1 hy with e | hy
   ·rw[e];omega
   exact j4 y hy
theorem bs_one {f:Nat→Nat}{l:List Nat}{b:Nat×Nat}(h1:∀s∈l,1≤f s)(h2:∀s∈l.tail,2≤f s)(hb:2<b.1):
 (∀s∈l,(bsF f l b).1≤f s)∧(bsF f l b).1≤b.1∧(bsF f l b=b∨∃pre s post,l=pre++s :: post∧bsF f l b=(f s,s)∧f s<b.1∧∀x∈pre,f s<f x):=by
 cases l with
 | nil=>exact⟨(fun s h=>by cases h),nLQ _,.inl rfl⟩
 | cons s l =>
   have hs:=h1 s (List.mem_cons_self ..);by_cases c:f s=1
   ·have e:nxB f s b=(f s,s):=by rw[nxB,if_pos (by omega)]
    rw[bsF,e,if_pos (show f s≤2 by omega)];refine⟨fun x hx=>?_,by show f s≤b.1;omega,.inr ⟨[],s,l,rfl,rfl,by omega,fun x hx=>by cases hx⟩⟩;have:=h1 x hx;show f s≤f x;omega
   refine bs_two (fun x hx=>?_) (by omega)
   rcases List.mem_cons.1 hx with e | hx
   ·rw[e];omega
   exact h2 x hx
theorem sh_in (n done:Nat):(shF sf all n done).2=0∨(shF sf all n done).2∈ysL sf all done:=by
 have go:∀(f:Nat→Nat) (l:List Nat) (b:Nat×Nat),(b.2=0∨b.2∈ysL sf all done)→(∀s∈l,s∈ysL sf all done)→(bsF f l b).2=0∨(bsF f l b).2∈ysL sf all done:=by
  intro f l
  induction l with
  | nil=>exact fun b hb _=>hb
  | cons s l ih =>
    intro b hb hl;have hx:(nxB f s b).2=0∨(nxB f s b).2∈ysL sf all done:=by
     rw[nxB];by_cases c:f s<b.1
     ·rw[if_pos c];exact .inr (hl s (List.mem_cons_self ..))
     rw[if_neg c];exact hb
    rw[bsF];by_cases c:(nxB f s b).1≤2
    ·rw[if_pos c];exact hx
    rw[if_neg c];exact ih _ hx fun x h=>hl x (List.mem_cons_of_mem _ h)
 cases n with
 | zero =>
   rw[shF];by_cases e:done=all
   ·rw[if_pos e];exact .inl rfl
   rw[if_neg e];exact .inl rfl
 | succ n =>
   rw[shF];by_cases e:done=all
   ·rw[if_pos e];exact .inl rfl
   rw[if_neg e];exact go _ _ _ (.inl rfl) fun _ h=>h
theorem nx_sh:NxOK all fun d=>(shC sf all d).2:=fun done=>by
 rcases sh_in (sf:=sf) (all:=all) 6 done with h | h
 ·refine⟨by show (shF sf all 6 done).2<64;rw[h];decide,fun a _ _ k=>?_⟩;have:inS (shF sf all 6 done).2 a=true:=k;rw[h,in_0] at this;cases this
 obtain⟨h1,_,h3,_⟩:=ys_mem.1 h;exact⟨h1,h3⟩
theorem or_all (ha:all<64){done s:Nat}(hs:s∈ysL sf all done)(h:done ||| s=all):s=mnS all done:=by
 obtain⟨h1,_,h3,_⟩:=ys_mem.1 hs;refine set_ext h1 (mn_lt ha) fun a k1 k2=>?_
 cases e:inS s a
 ·rw[in_mn k1 k2,←h,in_or,e];cases inS done a <;> rfl
 exact (h3 a k1 k2 e).symm
theorem sh_pos (ha:all<64){done:Nat}(hd:DnOK all done)(h:done≠all):1≤(shC sf all done).1:=by
 rw[sh_step ha hd h];have go:∀(l:List Nat) (b:Nat×Nat),1≤b.1→1≤(bsF (fun s=>(shC sf all (done ||| s)).1+1) l b).1:=by
  intro l
  induction l with
  | nil=>exact fun b hb=>hb
  | cons s l ih =>
    intro b hb;have hx:1≤(nxB (fun s=>(shC sf all (done ||| s)).1+1) s b).1:=by
     rw[nxB];by_cases c:(shC sf all (done ||| s)).1+1<b.1
     ·rw[if_pos c];show 1≤_+1;omega
     rw[if_neg c];exact hb
    rw[bsF];by_cases c:(nxB (fun s=>(shC sf all (done ||| s)).1+1) s b).1≤2
    ·rw[if_pos c];exact hx
    rw[if_neg c];exact ih _ hx
 exact go _ _ (by decide)
theorem sh_spec (ha:all<64){done:Nat}(hd:DnOK all done)(h:done≠all):
 (∀s∈ysL sf all done,(shC sf all done).1≤(shC sf all (done ||| s)).1+1)∧(shC sf all done).1≤7 ∧
 (shC sf all done=(7,0)∨∃pre s post,ysL sf all done=pre++s :: post∧shC sf all done=((shC sf all (done ||| s)).1+1,s)∧(shC sf all (done ||| s)).1+1<7∧∀x∈pre,(shC sf all (done ||| s)).1+1<(shC sf all (done ||| x)).1+1):=by
 rw[sh_step ha hd h];refine bs_one (f:=fun s=>(shC sf all (done ||| s)).1+1) (fun s _=>by show 1≤_+1;omega) (fun s hs=>?_) (by decide);have hm:s∈ysL sf all done:=List.mem_of_mem_tail hs;have hne:done ||| s≠all:=fun e=>by
  have e1:=or_all ha hm e;cases hy:ysL sf all done with
  | nil=>rw[hy] at hs;cases hs
  | cons x l =>
    have hp:=seq_fall (ysB sf all done) 64;rw[show seqL (ysB sf all done) 64=ysL sf all done from rfl,hy] at hp;rw[hy] at hs;have:=(List.pairwise_cons.1 hp).1 s hs;have:=ys_le (sf:=sf) (all:=all) (done:=done) (s:=x) (by rw[hy];exact List.mem_cons_self ..);omega
 have:=sh_pos (sf:=sf) ha (hd.next hm) hne;show 2≤_+1;omega
theorem cr_len:∀{cs:List Nat} {done:Nat},CrO sf all done cs→cs.length≤lfN all done
 | [],done,h=>Nat.zero_le _
 | s :: cs,done,h=>by
   obtain⟨h1,h2⟩:=h;have i:=cr_len h2;have:=ys_less h1;rw[List.length_cons];omega
theorem sh_course (ha:all<64):∀(k:Nat) {done:Nat},DnOK all done→(shC sf all done).1=k→k<7→∃cs,roA all (fun d=>(shC sf all d).2) done=some cs∧CrO sf all done cs∧cs.length=k
 | 0,done,hd,h,hk=>by
   by_cases e:done=all
   ·subst e;exact⟨[],ro_end _,rfl,rfl⟩
   have:=sh_pos (sf:=sf) ha hd e;omega
 | k+1,done,hd,h,hk=>by
   by_cases e:done=all
   ·subst e;rw[sh_all] at h;exact absurd h (by show ¬(0=k+1);omega)
   obtain⟨_,_,h3⟩:=sh_spec (sf:=sf) ha hd e
   rcases h3 with h3 | ⟨pre,s,post,j1,j2,j3,j4⟩
   ·rw[h3] at h;exact absurd h (by show ¬(7=k+1);omega)
   have hs:s∈ysL sf all done:=by rw[j1];simp
   have e2:(shC sf all done).2=s:=by rw[j2]
   have e1:(shC sf all (done ||| s)).1=k:=by
    rw[j2] at h;have:(shC sf all (done ||| s)).1+1=k+1:=h;omega
   obtain⟨cs,i1,i2,i3⟩:=sh_course ha k (hd.next hs) e1 (by omega);refine⟨s :: cs,?_,⟨hs,i2⟩,by rw[List.length_cons,i3]⟩;have hstep:=ro_step (nx:=fun d=>(shC sf all d).2) nx_sh ha hd.1 hd.2 e (by show (shC sf all done).2≠0;rw[e2];exact (ys_mem.1 hs).2.1);rw[hstep];show (roA all (fun d=>(shC sf all d).2) (done ||| (shC sf all done).2)).map ((shC sf all done).2 :: ·)=_;rw[e2,i1];rfl
theorem sh_none (ha:all<64){done:Nat}(hd:DnOK all done)(h:7≤(shC sf all done).1):roA all (fun d=>(shC sf all d).2) done=none:=by
 by_cases e:done=all
 ·subst e;rw[sh_all] at h;exact absurd h (by decide)
 obtain⟨_,_,h3⟩:=sh_spec (sf:=sf) ha hd e
 rcases h3 with h3 | ⟨pre,s,post,j1,j2,j3,j4⟩
 ·exact ro_none e (by show (shC sf all done).2=0;rw[h3])
 rw[j2] at h;exact absurd h (by show ¬(7≤(shC sf all (done ||| s)).1+1);omega)
theorem dn_0:DnOK all 0:=⟨by decide,fun a _ _ h=>by rw[in_0] at h;cases h⟩
end
section
variable {Ls:LkQ}{Hs:HoQ}{As Bs Cs:TsQ}
theorem ch_self {s:Int}(h:taT Bs s=taT As s):chB As Bs s=false:=by
 have e:∀t:List Ru,bey t t=[]:=fun t=>List.filter_eq_nil_iff.2 fun r hr=>by rw[in_iff.2 hr];decide
 unfold chB;rw[h,e];rfl
theorem wk_sub (hC:∀s,taT Bs s=taT Cs s∨taT Bs s=taT As s):∀(n:Nat) (l:HpQ) (met:List Int) (x:Int×ByteArray×HpQ),x∈wkL Ls Hs As Bs n l met []→x∈wkL Ls Hs As Cs n l met []:=by
 intro n
 induction n with
 | zero=>intro l met x h;rw[wkL] at h ⊢;exact h
 | succ n ih =>
   intro l met x h;have on:∀(met2:List Int) (g:(Int×ByteArray) ⊕ ((Int×Int)×Int)),x∈onL (fun l' a'=>wkL Ls Hs As Bs n l' met2 a') l [] g→x∈onL (fun l' a'=>wkL Ls Hs As Cs n l' met2 a') l [] g:=by
    intro met2 g hx;cases g with
    | inl e=>exact (pu_mem lo_fate _).2 ((pu_mem lo_fate _).1 hx)
    | inr p=>exact ih _ _ _ hx
   rw[wkL] at h ⊢;by_cases hc:chB As Bs (laH l).1.1=true
   ·have hb:taT Bs (laH l).1.1=taT Cs (laH l).1.1:=by
     rcases hC (laH l).1.1 with e | e
     ·exact e
     rw[ch_self e] at hc;cases hc
    have hc2:chB As Cs (laH l).1.1=true:=by
     have e:chB As Cs (laH l).1.1=chB As Bs (laH l).1.1:=by simp only[chB,hb]
     exact e.trans hc
    rw[if_pos hc] at h;rw[if_pos hc2]
    rcases (on_mem (fun l' a x=>wk_mem n l' _ a x) l _ _ _).1 h with h | h
    ·refine (on_mem (fun l' a x=>wk_mem n l' _ a x) l _ _ _).2 (.inl ?_);by_cases hm:(laH l).1.1∈met
     ·rw[if_pos hm] at h;simp at h
     rw[if_neg hm] at h ⊢;exact on _ _ h
    refine (on_mem (fun l' a x=>wk_mem n l' _ a x) l _ _ _).2 (.inr ?_);rw[←hb];exact on _ _ h
   rw[if_neg hc] at h;by_cases hm:(laH l).1.1∈met
   ·rw[if_pos hm] at h;simp at h
   rw[if_neg hm] at h;by_cases hc2:chB As Cs (laH l).1.1=true
   ·rw[if_pos hc2];refine (on_mem (fun l' a x=>wk_mem n l' _ a x) l _ _ _).2 (.inl ?_);rw[if_neg hm];exact on _ _ h
   rw[if_neg hc2,if_neg hm];exact on _ _ h
theorem bsw_sub (hC:∀s,taT Bs s=taT Cs s∨taT Bs s=taT As s){ws:List Wi}(h:bsW Ls Hs As Cs ws Hs ws.length=none):bsW Ls Hs As Bs ws Hs ws.length=none:=by
 refine bsW_neg fun i hi j hj k hk=>?_
 have:=bsW_none h i hi j hj k hk;unfold bsB at this ⊢;rw[List.any_eq_false] at this ⊢;exact fun x hx=>this x (wk_sub hC _ _ _ _ hx)
end
def MoOK (sf:Nat→Nat→Bool)(all:Nat):Prop:=∀done s t,s<64→t<64→(∀a,1≤a→a≤6→inS s a=true→inS t a=true)→sf done t=true→sf done s=true
theorem sf_mono {S:Int}{Ls:List LkT}{Hs:List HoT}{As Bs:TsQ}{ws:List Wi}{D:List Op8}(hP:PlOK S Ls Hs As Bs ws D)(all:Nat):MoOK (sfB Ls Hs As Bs ws) all:=by
 intro done s t hs ht hst h;unfold sfB at h ⊢;rw[Option.isNone_iff_eq_none] at h ⊢;refine bsw_sub (fun i=>?_) h;unfold taT;obtain⟨k,hk⟩:∃k,k=(i-1).toNat:=⟨_,rfl⟩;rw[←hk];by_cases hl:k<As.length
 ·have h6:=hP.len.2;rw[nw_get hl,nw_get hl,nw_get hl,in_or,in_or];cases e1:inS s (k+1)
  ·right;cases inS done (k+1) <;> rfl
  left;rw[hst (k+1) (by omega) (by omega) e1]
 left;simp[List.getD,nw_len,show ¬k<As.length from hl]
def psetE:Enc (Int) where
 c:=fun x=>[.int i64 x]
 n:=1
 len:=fun _=>rfl
 pos:=by decide
 one:=by
  intro x u hu;simp at hu;subst hu;rfl
theorem set_at {w:World}{g o:Nat}{L:List (Int)}(h:GAt psetE w g o L){n k:Nat}(hn:L.length=n)(hk:k<n):∃(x:Int) (hl:k<L.length),L[k]=x∧w.cell? ⟨g,o+k,none⟩=some (.int i64 x):=by
 have hl:k<L.length:=by omega
 have:=h k hl 0 _ rfl;refine⟨_,hl,rfl,?_⟩;have e:o+k*psetE.n+0=o+k:=by show o+k*1+0=o+k;omega
 rw[e] at this;exact this
def setAsks (w:World)(f:FuncId)(c:Value)(P:Int→Bool):Prop:=
 ∀(x:Int) (W:World),Below w.heap.size w W→Calls prog f #[.int i64 x,c] W fun e w'=>e=.returned (.bool (P x))∧Below W.heap.size W w'
theorem set_idxF (ao:AdQ)(n cap:Nat)(f:FuncId)(c:Value)(P:Int→Bool)(L:List (Int))(w:World)(hn:L.length=n)(hn2:n≤maxLen)(ha:0<n→∃g o,ao=some ⟨g,o,none⟩∧GAt psetE w g o L∧cap≤maxLen)(he:∀args w,(callFunc f args).run prog w=.ok (.enter f args) w)(hf:setAsks w f c P):
 Calls prog 147 #[.slice ao n cap,.func (Fn.func f) #[] #[c]] w fun e w'=>e=.returned (.int i64 (ixG P L))∧Below w.heap.size w w':=by
 have HN:Hid (L.length=n):=hn;have HF:Hid (setAsks w f c P):=hf;have HA:Hid (0<n→∃g o,ao=some ⟨g,o,none⟩∧GAt psetE w g o L∧cap≤maxLen):=ha;unfold maxLen at hn2;clear hn hf ha;go_enter func147,ntmps147;go_wp2
 go_loopw [8] (fun i wr=>∃k:Nat,k≤n∧i=.int i64 k∧(L.take k).any P=false∧Below w.heap.size w wr)
  (fun i _=>n-(intOf i).toNat)
 case atStart=>exact⟨0,by omega,rfl,by simp,bRQ _ _⟩
 case round =>
  obtain⟨k,hk,rfl,hno,hB⟩:=hrel;have HB:Hid (Below w.heap.size w wr):=hB;have HNO:Hid ((L.take k).any P=false):=hno;clear hno;by_cases hlt:k<n
  ·obtain⟨g,o,hao,hc,_⟩:=HA.out (by omega);subst hao;obtain⟨x,hkl,hL,q0⟩:=set_at (hc.later hB) HN.out hlt;have HL:Hid (L[k]=x):=hL;clear hL hB;cases ho:P x
   ·go_wp2_with fail
    refine (HF.out x _ HB.out).mono ?_;rintro e w1 ⟨rfl,hb1⟩;rw[ho];have HB1:=HB.out.trans (hb1.mono HB.out.size);clear hb1;go_wp2;go_roundw
    case rel=>exact⟨k+1,by omega,by go_num,any_nextG hkl HNO.out (by rw[HL.out];exact ho),HB1⟩
    case measure=>simp[intOf];omega
   go_wp2_with fail
   refine (HF.out x _ HB.out).mono ?_;rintro e w1 ⟨rfl,hb1⟩;rw[ho];go_wp2;go_ret;exact⟨by rw[ixG_hit hkl HNO.out (by rw[HL.out];exact ho)];rfl,HB.out.trans (hb1.mono HB.out.size)⟩
  obtain rfl:k=n:=by omega
  go_wp2;go_ret;exact⟨by have:=HNO.out;rw[←HN.out,List.take_length] at this;rw[ixG_no this];rfl,HB.out⟩
theorem set_hasF (ao:AdQ)(n cap:Nat)(f:FuncId)(c:Value)(P:Int→Bool)(L:List (Int))(w:World)(hn:L.length=n)(hn2:n≤maxLen)(ha:0<n→∃g o,ao=some ⟨g,o,none⟩∧GAt psetE w g o L∧cap≤maxLen)(he:∀args w,(callFunc f args).run prog w=.ok (.enter f args) w)(hf:setAsks w f c P):
 Calls prog 112 #[.slice ao n cap,.func (Fn.func f) #[] #[c]] w fun e w'=>e=.returned (.bool (L.any P))∧Below w.heap.size w w':=by
 rw[←ixG_any];obtain⟨x,hx⟩:∃x,x=ixG P L:=⟨_,rfl⟩;have HX:Hid (x=ixG P L):=hx;rw[←hx];clear hx;go_enter func112,ntmps112
 go_wp2_with fail
 refine (set_idxF ao n cap f c P L _ hn hn2 ha he hf).mono ?_;rintro e w1 ⟨rfl,hb1⟩;rw[←HX.out];go_wp2;go_ret;exact⟨rfl,hb1⟩
end
section
open Go.RowKit Go.Shelf
def ItQ {α:Type}(P:Program)(g:Nat)(lb:Array Value)(Vl:World→Array Value→α→Prop)(st:World→Prop)(p:Nat→Prop)(L:List α):Prop:=
 ∀ (l:Nat) (J:Nat→(Nat→Prop)→World→Prop) (Jx:World→Prop) (W:World),st W →
   J 0 (fun _=>False) W →
   (∀k X A,J k X A→∀b,X b→b<A.heap.size) →
   (∀k X A A',J k X A→Kb (fun b=>b<W.heap.size∨X b) A A'→J k X A') →
   (∀A A',Jx A→Kb (fun _=>True) A A'→Jx A') →
   (∀k X A args x (Y:Nat→Prop),J k X A→L[k]?=some x→Vl A args x→W.heap.size≤A.heap.size→(∀b,Y b→W.heap.size≤b∧¬X b)→YieldAt Fence.wide 0 P l args A fun e A' =>
    (e=.returned (.bool true)∧(∃X',J (k+1) X' A'∧∀b,X' b→X b∨A.heap.size≤b)∧Kb (fun b=>p b∨Y b) A A')∨(e=.returned (.bool false)∧Jx A'∧Kb (fun b=>p b∨Y b) A A')) →
   Calls P g (#[.func (.yield l) #[] #[]]++lb) W fun e W'=>(∃v,e=.returned v)∧((∃X,J L.length X W')∨Jx W')
theorem wpIn_rangeFunc_itQ {P:Program}{n:Nat}{α:Type}{g:Operand}{ps:Array Tmp}{assign body:Code}{Q:Exit→Act→World→Prop}{a:Act}{w:World}
 (h1:1≤n) {gf:Nat} {lb:Array Value} (hg:a.eval g=.func (.func gf) #[] lb) (eg:∀args w,(callFunc gf args).run P w=.ok (.enter gf args) w)
 {Vl:World→Array Value→α→Prop} {st:World→Prop} {p:Nat→Prop} {L:List α} (hseq:ItQ P gf lb Vl st p L) (hst:∀W,Below w.heap.size w W→st W) (hpw:∀b,p b→b<w.heap.size) (hps:∀A args x,Vl A args x→args.size=ps.size)
 (I:Nat→(Nat→Prop)→World→Prop) (Ix:Code→World→Prop)
 (hlt:∀k X A,I k X A→∀b,X b→w.heap.size+2≤b∧b<A.heap.size)
 (hI:∀k X A A',I k X A→Kb (fun b=>b<w.heap.size∨X b) A A'→I k X A')
 (hIx:∀c A A',Ix c A→Kb (fun b=>b<w.heap.size∨w.heap.size+2≤b) A A'→Ix c A')
 (h0:I 0 (fun _=>False) w)
 (hround:∀(l k:Nat) (X Y:Nat→Prop) (x:α) (args:Array Value) (W:World),l=w.heap.size+1→w.heap.size+2≤W.heap.size→I k X W→L[k]?=some x→Vl W args x→(∀b,Y b→w.heap.size+2≤b∧¬X b)→(∀q:Addr,q.block=l→W.cell? q=none) →
  assign.wpIn (Fence.wide.inRound l) (n-1-1) P (Exit.then (fun a' Wa=>Kb (fun b=>p b∨b=w.heap.size∨b=l∨Y b) W Wa∧∀W2,Kb (fun b=>b≠l) Wa W2→body.wpIn (Fence.wide.inRound l) (n-1-1) P (itPost (fun b=>p b∨b=w.heap.size∨b=l∨Y b) (fun W'=>∃X',I (k+1) X' W'∧∀b,X' b→X b∨W.heap.size≤b) Ix W2) a' W2) (fun _ _ _=>False)) { tmps:=(ps.zip args).foldl (fun t (p,v)=>t.setIfInBounds p v) a.tmps,defers:=[] } W)
 (hdone:∀(X:Nat→Prop) (W:World),I L.length X W→W.heap[w.heap.size]?=some (.deferred (some []))→Q .normal { a with defers:={ target:=.collected w.heap.size,args:=#[] } :: a.defers } W)
 (hstop:∀(c:Code) (W:World),Ix c W→W.heap[w.heap.size]?=some (.deferred (some []))→c.wpIn Fence.wide n P Q { a with defers:={ target:=.collected w.heap.size,args:=#[] } :: a.defers } W):
 (Code.rangeFunc g ps assign body).wpIn Fence.wide n P Q a w:=by
 refine wpIn_rangeFunc ?_;intro fn hfn;rw[show Fence.wide.round=none from rfl];obtain⟨rec,hrec⟩:∃rec:LoopState→Option Code→Loop,rec=fun st pe=>{ state:=st,pending:=pe,fn,tmps:=a.tmps,params:=ps,assign,body,defers:=w.heap.size }:=⟨_,rfl⟩
 obtain⟨W1,hW1⟩:∃W1,(w.alloc (.deferred (some []))).alloc (.loop (rec .ready none))=W1:=⟨_,rfl⟩;have hL1:W1.heap[w.heap.size+1]?=some (.loop (rec .ready none)):=by
  rw[←hW1];have:=World.alloc_heap_new (w.alloc (.deferred (some []))) (.loop (rec .ready none));rwa [World.size_alloc] at this
 have hK1:W1.heap[w.heap.size]?=some (.deferred (some [])):=by
  rw[←hW1];exact (Below.heap_alloc _ _ _ (by simp)).trans (World.alloc_heap_new w _)
 have hS1:W1.heap.size=w.heap.size+2:=by rw[←hW1];simp
 have hB1:Below w.heap.size w W1:=by
  rw[←hW1];exact ((Below.refl _ w).alloc (nLQ _) _).alloc (by simp) _
 have hb1:st W1:=hst W1 hB1;refine⟨w.heap.size+1,[{ target:=.collected w.heap.size,args:=#[] }],W1,{ target:=.fn (.func gf) lb,args:=#[.func (.yield (w.heap.size+1)) #[] #[]] },W1,gf,
  #[.func (.yield (w.heap.size+1)) #[] #[]]++lb,W1,?_,?_,?_,?_,fun _=>h1,?_⟩
 ·rw[←hW1,hrec];exact run_enterLoop_outer _ _ _ _ _
 ·simp only[resolve,hg];simp[go_sem]
 ·intro f' hf';trivial
 ·simp[invoke,go_sem,eg]
 have hI1:∀{k:Nat} {X:Nat→Prop} {A:World} (o:Obj),I k X A→I k X (A.putObj (w.heap.size+1) o):=fun o h=>hI _ _ _ _ h ((Kb.refl _ _).putObj (fun _ hp=>hp.elim (fun h=>by omega) (fun hx=>by have:=(hlt _ _ _ h _ hx).1;omega)) o)
 refine (callsIn_wide.2 (hseq (w.heap.size+1)
  (fun k X W=>I k X W∧W.heap[w.heap.size+1]?=some (.loop (rec .ready none))∧W.heap[w.heap.size]?=some (.deferred (some [])))
  (fun W=>∃c,Ix c W∧W.heap[w.heap.size+1]?=some (.loop (rec .done (some c)))∧W.heap[w.heap.size]?=some (.deferred (some [])))
  W1 hb1 ?_ ?_ ?_ ?_ ?_)).mono ?_
 ·exact⟨hI _ _ _ _ h0 (Kb.of_below hB1 (fun b _ h=>h.elim id False.elim)),hL1,hK1⟩
 ·exact fun k X A h b hx=>(hlt _ _ _ h.1 b hx).2
 ·rintro k X A A' ⟨hi,hl,hd⟩ hk;rw[hS1] at hk;have hlt':w.heap.size+1<A.heap.size:=(Array.getElem?_eq_some_iff.1 hl).1;exact⟨hI k X A A' hi (hk.mono (fun b _ h=>h.imp (fun h=>by omega) id)),(hk.block _ hlt' (.inl (by omega))).trans hl,(hk.block _ (by omega) (.inl (by omega))).trans hd⟩
 ·rintro A A' ⟨c,hi,hl,hd⟩ hk;have hlt':w.heap.size+1<A.heap.size:=(Array.getElem?_eq_some_iff.1 hl).1;exact⟨c,hIx c A A' hi (hk.mono (fun _ _ _=>trivial)),(hk.block _ hlt' trivial).trans hl,(hk.block _ (by omega) trivial).trans hd⟩
 ·rintro k X W args x Y ⟨hi,hl,hd⟩ hx hv hWW hY;rw[hS1] at hY hWW;have hlt':w.heap.size+1<W.heap.size:=(Array.getElem?_eq_some_iff.1 hl).1;have hy:=run_yield (P:=P) (args:=args) hl (by rw[hrec];exact hps _ _ _ hv);rw[hrec] at hy;refine yield_any (m:=n-1-1) ⟨fn,_,assign,body,hy,roundIn_of_wpIn hfn (wpIn_mono (hround _ k X Y x args W rfl hWW hi hx hv hY (fun q hq=>by simp[World.cell?,hq,hl])) ?_)⟩;clear hy;intro e1 a' Wa hp;cases e1 with
  | normal =>
    obtain⟨hka,hbody⟩:=hp;have hl2:=(hka.block _ hlt' (.inr (.inr (.inl rfl)))).trans hl;have hd2:=(hka.block w.heap.size (by omega) (.inr (.inl rfl))).trans hd;have hlta:w.heap.size+1<Wa.heap.size:=(Array.getElem?_eq_some_iff.1 hl2).1;refine⟨_,run_beginRound hl2 (by rw[hrec]),?_⟩;have hkb:Kb (fun b=>b≠w.heap.size+1) Wa (Wa.putObj (w.heap.size+1) (.loop { rec .ready none with state:=.busy })):=(Kb.refl _ _).putObj (fun _ h=>h rfl) _;have hl3:(Wa.putObj (w.heap.size+1) (.loop { rec .ready none with state:=.busy })).heap[w.heap.size+1]?=some (.loop { rec .ready none with state:=.busy }):=World.putObj_heap_same hlta;have hd3:=(hkb.block w.heap.size (by omega) (by omega)).trans hd2;refine wpIn_mono (hbody _ hkb) ?_
    generalize Wa.putObj (w.heap.size+1) (.loop { rec .ready none with state:=.busy })=W2 at hkb hl3 hd3
    have hlt2:w.heap.size+1<W2.heap.size:=(Array.getElem?_eq_some_iff.1 hl3).1;have fin:∀(jump:Option Code) (W3:World),Kb (fun b=>p b∨b=w.heap.size∨b=w.heap.size+1∨Y b) W2 W3 →
     (Instr.endRound (w.heap.size+1) jump).run P W3=.ok (.bool jump.isNone) (W3.putObj (w.heap.size+1) (.loop (rec (if jump.isNone then .ready else .done) jump))) ∧
     W3.heap[w.heap.size+1]?=some (.loop { rec .ready none with state:=.busy }) ∧
     (W3.putObj (w.heap.size+1) (.loop (rec (if jump.isNone then .ready else .done) jump))).heap[w.heap.size+1]?=some (.loop (rec (if jump.isNone then .ready else .done) jump)) ∧
     (W3.putObj (w.heap.size+1) (.loop (rec (if jump.isNone then .ready else .done) jump))).heap[w.heap.size]?=some (.deferred (some [])):=fun jump W3 hk3=>by
     have hl4:=(hk3.block _ hlt2 (.inr (.inr (.inl rfl)))).trans hl3;have hd4:=(hk3.block w.heap.size (by omega) (.inr (.inl rfl))).trans hd3;have:=run_endRound (P:=P) jump hl4;rw[hrec] at this ⊢;exact⟨this,by rw[hrec] at hl4;exact hl4,World.putObj_heap_same (Array.getElem?_eq_some_iff.1 hl4).1,(World.putObj_heap_other (by omega)).trans hd4⟩
    rintro e a3 W3 hp;have hny:∀b,p b∨Y b→b≠w.heap.size+1:=fun b h e=>h.elim (fun h=>by have:=hpw b h;omega) (fun h=>by have:=(hY b h).1;omega)
    have hall:∀(W3:World) (o:Obj),Kb (fun b=>p b∨b=w.heap.size∨b=w.heap.size+1∨Y b) W2 W3→Kb (fun b=>p b∨Y b) W (W3.putObj (w.heap.size+1) o):=fun W3 o hk3=>(((hka.mono (fun b _ h=>h.imp id (fun h=>.inr (.inr h)))).trans ((hkb.mono (fun b _ h=>hny b h)).trans (hk3.mono (fun b _ h=>h.imp id (fun h=>.inr (.inr h)))))).trans ((Kb.refl _ _).putObj (fun _ h=>hny _ h rfl) _))
    cases e with
    | normal =>
      obtain⟨hk3,X',hi3,hX'⟩:=hp;obtain⟨hr,hl4,hl5,hd5⟩:=fin none W3 hk3;exact⟨_,_,hr,.inl ⟨rfl,⟨X',⟨hI1 _ hi3,hl5,hd5⟩,hX'⟩,hall _ _ hk3⟩⟩
    | ret =>
      obtain⟨hk3,hi3⟩:=hp;obtain⟨hr,hl4,hl5,hd5⟩:=fin (some .ret) W3 hk3;exact⟨_,_,hr,.inr ⟨rfl,⟨.ret,hIx _ W3 _ hi3 ((Kb.refl _ _).putObj (fun _ h=>by omega) _),hl5,hd5⟩,hall _ _ hk3⟩⟩
    | exit id =>
      obtain⟨hk3,hi3⟩:=hp;obtain⟨hr,hl4,hl5,hd5⟩:=fin (some (.exit id)) W3 hk3;exact⟨_,_,hr,.inr ⟨rfl,⟨.exit id,hIx _ W3 _ hi3 ((Kb.refl _ _).putObj (fun _ h=>by omega) _),hl5,hd5⟩,hall _ _ hk3⟩⟩
    | goto t =>
      obtain⟨hk3,hi3⟩:=hp;obtain⟨hr,hl4,hl5,hd5⟩:=fin (some (.goto t)) W3 hk3;exact⟨_,_,hr,.inr ⟨rfl,⟨.goto t,hIx _ W3 _ hi3 ((Kb.refl _ _).putObj (fun _ h=>by omega) _),hl5,hd5⟩,hall _ _ hk3⟩⟩
    | panic ch=>exact hp.elim
    | outgrown=>exact hp.elim
  | ret=>exact hp.elim
  | exit id=>exact hp.elim
  | goto t=>exact hp.elim
  | panic ch=>exact hp.elim
  | outgrown=>exact hp.elim
 rintro e W2 ⟨⟨v,rfl⟩,(⟨X,hi,hl,hd⟩ | ⟨c,hi,hl,hd⟩)⟩
 ·refine⟨none,_,by have:=run_endLoop (P:=P) hl (by rw[hrec];simp);rw[hrec] at this;exact this,?_⟩;exact hdone X _ (hI1 _ hi) ((World.putObj_heap_other (by omega)).trans hd)
 refine⟨some c,_,by have:=run_endLoop (P:=P) hl (by rw[hrec];simp);rw[hrec] at this;exact this,?_⟩;exact hstop c _ (hIx c W2 _ hi ((Kb.refl _ _).putObj (fun _ h=>by omega) _)) ((World.putObj_heap_other (by omega)).trans hd)
attribute [local go_sem] Oper.semAt_some
theorem setStop {p:Prop}(h:Hid p):p:=h
theorem setGo {p:Prop}(h:p):Hid p:=h
theorem setHas_gen (s x:Int)(w:World):
 Calls prog 45 #[.int i64 x,.int i64 s] w fun e w'=>e=.returned (.bool (decide (bits .andNot .i64 s x=0)))∧w'=w:=by
 obtain⟨B,hB⟩:∃B,B=bits .andNot .i64 s x:=⟨_,rfl⟩;have HE:Hid (bits .andNot .i64 s x=B):=hB.symm;rw[←hB];clear hB;go_enter func45,ntmps45;go_wp2;go_ret;refine⟨?_,rfl⟩;rw[HE.out];by_cases h:B=0
 ·simp[h]
 simp[h]
theorem part_asks (gs:Nat)(s:Int)(w:World)(hc:w.cell? ⟨gs,0,none⟩=some (.int i64 s)):setAsks w 113 (.pointer (some ⟨gs,0,none⟩)) (fun x=>decide (bits .andNot .i64 s x=0)):=by
 intro x W hb;have hc1:=cell_later hb hc;have HB:Hid (Below W.heap.size W W):=bRQ _ _;clear hc;go_enter func113,ntmps113
 go_wp2_with fail
 refine (setHas_gen s x _).mono ?_;rintro e w' ⟨rfl,rfl⟩;go_wp2;go_ret;exact⟨rfl,HB.out⟩
def bxN (w:World)(q:Value):Nat:=match q with
 | .pointer (some a)=>(match w.cell? a with | some (.int _ i)=>i.toNat | _=>0)
 | _=>0
theorem bxN_of {w:World}{g s:Nat}(h:w.cell? ⟨g,0,none⟩=some (.int i64 (s:Int))):bxN w (.pointer (some ⟨g,0,none⟩))=s:=by
 unfold bxN;simp only[h];omega
structure SS (w0:World)(gt gd:Nat)(S:Int)(v1 v2 v3 v4 v5:Value)(all done:Nat)(A:World):Prop where
 below:Below w0.heap.size w0 A
 tk:TkB A gt S v1 v2 v3 v4 v5 (all:Int)
 dn:A.cell? ⟨gd,0,none⟩=some (.int i64 (done:Int))
def ssP (w0:World)(gt gd b:Nat):Prop:=b<w0.heap.size∨b=gt∨b=gd
section
variable {w0:World}{gt gd:Nat}{S:Int}{v1 v2 v3 v4 v5:Value}{all done:Nat}{A A':World}
theorem TkB.kb {p:Nat→Prop}(h:TkB A gt S v1 v2 v3 v4 v5 (all:Int))(hk:Kb p A A')(hp:p gt):TkB A' gt S v1 v2 v3 v4 v5 (all:Int):=
 ⟨hk.at h.c0 hp,hk.at h.c1 hp,hk.at h.c2 hp,hk.at h.c3 hp,hk.at h.c4 hp,hk.at h.c5 hp,hk.at h.c6 hp,fun i=>by rw[hk.frozen (q:=⟨gt,i,none⟩) h.lt hp];exact h.f i⟩
theorem SS.kb {p:Nat→Prop}(h:SS w0 gt gd S v1 v2 v3 v4 v5 all done A)(hk:Kb p A A')(hp:∀b,ssP w0 gt gd b→p b):SS w0 gt gd S v1 v2 v3 v4 v5 all done A':=
 ⟨h.below.trans (hk.below h.below.size fun b hb=>hp b (.inl hb)),h.tk.kb hk (hp _ (.inr (.inl rfl))),hk.at h.dn (hp _ (.inr (.inr rfl)))⟩
theorem SS.later (h:SS w0 gt gd S v1 v2 v3 v4 v5 all done A)(hb:Below A.heap.size A A'):SS w0 gt gd S v1 v2 v3 v4 v5 all done A':=
 h.kb (p:=fun _=>True) (Kb.of_below hb fun _ h _=>h) fun _ _=>trivial
theorem SS.lt (h:SS w0 gt gd S v1 v2 v3 v4 v5 all done A){b:Nat}(hb:ssP w0 gt gd b):b<A.heap.size:=by
 rcases hb with hb | hb | hb
 ·exact Nat.lt_of_lt_of_le hb h.below.size
 ·rw[hb];exact h.tk.lt
 rw[hb];exact bLQ A ⟨gd,0,none⟩ h.dn
end
def prI (l:List Nat):List Int:=l.map fun s:Nat=>(s:Int)
theorem pr_len (l:List Nat):(prI l).length=l.length:=List.length_map ..
theorem pr_app (l:List Nat)(s:Nat):prI (l++[s])=prI l++[(s:Int)]:=by simp[prI]
theorem set_info:(Tryz.prog.info? 61).map (fun i=>(i.zero,i.size,i.bytes))=some (some (.int i64 0),1,8):=by kernel_rfl
theorem seq_len (p:Nat→Bool):∀n,(seqL p n).length≤n
 | 0=>nLQ _
 | n+1=>by
   have:=seq_len p n;rw[seqL];by_cases h:p n=true
   ·rw[if_pos h,List.length_cons];omega
   rw[if_neg h];omega
theorem ys_next {sf:Nat→Nat→Bool}{all done s:Nat}(ha:all<64)(h0:0<s)(hs:s &&& mnS all done=s):seqL (ysB sf all done) s=seqL (ysB sf all done) (((s-1) &&& mnS all done)+1):=by
 have hl:=mn_lt (t:=done) ha;have h64:s<64:=by rw[←hs];exact Nat.lt_of_le_of_lt Nat.and_le_right hl
 refine seq_skip (by have:(s-1) &&& mnS all done≤s-1:=Nat.and_le_left;omega) fun k h1 h2=>?_
 cases e:ysB sf all done k
 ·rfl
 unfold ysB at e;simp only[Bool.and_eq_true,decide_eq_true_eq] at e;have:=down_le hl (by omega) h64 e.1.2 hs (by omega);omega
theorem part_any {s:Nat}(hs:s<64):∀{l:List Nat},(∀x∈l,x<64)→(prI l).any (fun x=>decide (bits .andNot .i64 (s:Int) x=0))=l.any (fun x=>decide (mnS s x=0))
 | [],_=>rfl
 | x :: l,h=>by
   have ih:=part_any hs (l:=l) fun y hy=>h y (List.mem_cons_of_mem _ hy)
   have e:bits .andNot .i64 (s:Int) (x:Int)=((mnS s x:Nat):Int):=bits_mn hs (h x (List.mem_cons_self ..));rw[prI,List.map_cons,List.any_cons,List.any_cons,e,←prI,ih]
   congr 1
   by_cases c:mnS s x=0
   ·simp[c]
   simp[c]
theorem part_safe {sf:Nat→Nat→Bool}{all done s:Nat}(hM:MoOK sf all){pre rest:List Nat}(hy:ysL sf all done=pre++rest)(hs:s<64)(h:pre.any (fun x=>decide (mnS s x=0))=true):sf done s=true:=by
 obtain⟨x,hx,h0⟩:=List.any_eq_true.1 h;have hm:x∈ysL sf all done:=by rw[hy];exact List.mem_append.2 (.inl hx)
 obtain⟨h1,_,_,h4⟩:=ys_mem.1 hm;refine hM done s x hs h1 (fun a k1 k2 k=>?_) h4;have e:=in_mn (s:=s) (t:=x) k1 k2;rw[of_decide_eq_true h0,in_0,k] at e;simpa using e.symm
def seV1 (_:World)(args:Array Value)(x:Nat):Prop:=args=#[.int i64 (x:Int)]
structure SI (w0:World)(gt gd:Nat)(S:Int)(v1 v2 v3 v4 v5:Value)(all done:Nat)(sf:Nat→Nat→Bool)(J:Nat→(Nat→Prop)→World→Prop)(lo:Nat)(v:Value)(s gs:Nat)(pre:List Nat)(X:Nat→Prop)(A:World):Prop where
 ss:SS w0 gt gd S v1 v2 v3 v4 v5 all done A
 bx:Boxed A gs 61 (.int i64 (s:Int))
 sub:s &&& mnS all done=s
 ys:ysL sf all done=pre++seqL (ysB sf all done) (s+1)
 ow:A.ownsRow lo 61 psetE.n v (prI pre).length (cellsG psetE (prI pre))
 j:J pre.length X A
 l1:lo≤gs
 l2:lo≤A.heap.size
 xs:¬X gs
 xo:∀b,v.ownBlock=some b→¬X b∧b≠gs
section
variable {w0:World}{gt gd:Nat}{S:Int}{v1 v2 v3 v4 v5:Value}{all done:Nat}{sf:Nat→Nat→Bool}{J:Nat→(Nat→Prop)→World→Prop}{lo:Nat}{v:Value}{s gs:Nat}{pre:List Nat}{X:Nat→Prop}{A A':World}
theorem SI.later (hJ:∀k X A A',J k X A→Kb (fun b=>b<lo∨X b) A A'→J k X A')(h:SI w0 gt gd S v1 v2 v3 v4 v5 all done sf J lo v s gs pre X A)(hb:Below A.heap.size A A'):SI w0 gt gd S v1 v2 v3 v4 v5 all done sf J lo v s gs pre X A':=
 ⟨h.ss.later hb,h.bx.kept (grown_below hb) (by simp),h.sub,h.ys,h.ow.kept (grown_below hb) (none_or _),hJ _ _ _ _ h.j (Kb.of_below hb fun b h _=>h),h.l1,Nat.le_trans h.l2 hb.size,h.xs,h.xo⟩
theorem SI.next (hJ:∀k X A A',J k X A→Kb (fun b=>b<lo∨X b) A A'→J k X A')(hX:∀k X A,J k X A→∀b,X b→b<A.heap.size)(ha:all<64)(h0:0<s)
 (ss:SS w0 gt gd S v1 v2 v3 v4 v5 all done A) (sub:s &&& mnS all done=s) (ys:ysL sf all done=pre++seqL (ysB sf all done) s) (ow:A.ownsRow lo 61 psetE.n v (prI pre).length (cellsG psetE (prI pre))) (j:J pre.length X A) (lo2:lo≤A.heap.size) (xo:∀b,v.ownBlock=some b→¬X b) {N:Nat} (hN:N=(s-1) &&& mnS all done):
 SI w0 gt gd S v1 v2 v3 v4 v5 all done sf J lo v N A.heap.size pre X (A.alloc (.cells #[.int i64 (N:Int)] 61)):=by
 have hxn:¬X A.heap.size:=fun e=>by have:=hX _ _ _ j _ e;omega
 have hb:Below A.heap.size A (A.alloc (.cells #[.int i64 (N:Int)] 61)):=(Below.refl _ A).alloc (nLQ _) _;refine⟨ss.later hb,Boxed.new A 61 (.int i64 (N:Int)),by rw[hN,Nat.and_assoc,Nat.and_self],by rw[ys,ys_next ha h0 sub,hN],ow.kept (grown_below hb) (none_or _),hJ _ _ _ _ j (Kb.of_below hb fun b h _=>h),lo2,Nat.le_trans lo2 hb.size,hxn,fun b e=>⟨xo b e,fun e2=>?_⟩⟩;have:=(ow.lt b e).2;omega
structure SP (w0:World)(gt gd:Nat)(S:Int)(v1 v2 v3 v4 v5:Value)(all done:Nat)(sf:Nat→Nat→Bool)(J:Nat→(Nat→Prop)→World→Prop)(lo:Nat)(v:Value)(s gs:Nat)(pre:List Nat)(X:Nat→Prop)(A:World):Prop where
 ss:SS w0 gt gd S v1 v2 v3 v4 v5 all done A
 bx:Boxed A gs 61 (.int i64 (s:Int))
 sub:s &&& mnS all done=s
 ys:ysL sf all done=(pre++[s])++seqL (ysB sf all done) s
 ow:A.ownsRow lo 61 psetE.n v (prI (pre++[s])).length (cellsG psetE (prI (pre++[s])))
 j:J pre.length X A
 l1:lo≤gs
 l2:lo≤A.heap.size
 xs:¬X gs
 xo:∀b,v.ownBlock=some b→¬X b∧b≠gs∧lo≤b
theorem SI.push (hJ:∀k X A A',J k X A→Kb (fun b=>b<lo∨X b) A A'→J k X A')(hX:∀k X A,J k X A→∀b,X b→b<A.heap.size)(hp:∀b,ssP w0 gt gd b→b<lo)(h0:0<s)(hsf:sf done s=true)
 (h:SI w0 gt gd S v1 v2 v3 v4 v5 all done sf J lo v s gs pre X A) (o:Obj) {v':Value} {n:Nat} (hn:(prI pre).length=n) (hown:A'.ownsRow lo 61 psetE.n v' (n+1) (cellsG psetE (prI pre)++[.int i64 (s:Int)])) (hg:(A.alloc o).grownBy A' v.ownBlock) (hat:v'.ownBlock=v.ownBlock∨v'.ownBlock=some (A.heap.size+1)):
 SP w0 gt gd S v1 v2 v3 v4 v5 all done sf J lo v' s gs pre X A':=by
 have hrow:∀b,v.ownBlock=some b→lo≤b∧b<A.heap.size:=fun b e=>h.ow.lt b e
 have hk:Kb (fun b=>b<lo∨X b∨b=gs) A A':=((Kb.refl _ A).alloc o).grown hg fun b e _ hx=>by
  rcases hx with hx | hx | hx
  ·have:=(hrow b e).1;omega
  ·exact (h.xo b e).1 hx
  exact (h.xo b e).2 hx
 refine⟨h.ss.kb hk fun b hb=>.inl (hp b hb),hk.boxed h.bx (.inr (.inr rfl)),h.sub,?_,?_,hJ _ _ _ _ h.j (hk.mono fun b _ hb=>hb.imp id .inl),h.l1,Nat.le_trans h.l2 hk.size,h.xs,fun b e=>?_⟩
 ·rw[h.ys,seqL,if_pos (by unfold ysB;rw[hsf,decide_eq_true h.sub,decide_eq_true (show s≠0 by omega)];rfl),List.append_assoc];rfl
 ·rw[pr_app,List.length_append,cellsG_app,cellsG_one,hn];exact hown
 rcases hat with hat | hat
 ·rw[hat] at e;exact⟨(h.xo b e).1,(h.xo b e).2,(hrow b e).1⟩
 rw[hat] at e;cases e;have hgs:=h.bx.lt;have:=h.l2;exact⟨fun hx=>by have:=hX _ _ _ h.j _ hx;omega,by omega,by omega⟩
end
section
variable {w0:World}{gt gd:Nat}{S:Int}{v1 v2 v3 v4:Value}{bm all done:Nat}{Ls:List LkT}{Hs:List HoT}{As Bs:TsQ}{ws:List Wi}{D:List Op8}
theorem sets_in (nn:Nat)(hnn:1≤nn)(hT:TskOK w0 v1 v2 v3 v4 bm Ls Hs As ws D)(hP:PlOK S Ls Hs As Bs ws D)(ha:all<64)(hd:done<64)(l:Nat)(J:Nat→(Nat→Prop)→World→Prop)(Jx:World→Prop)(W:World)
 (hss:SS w0 gt gd S v1 v2 v3 v4 (.map (some bm)) all done W) (h0:J 0 (fun _=>False) W) (hX:∀k X A,J k X A→∀b,X b→b<A.heap.size)
 (hJ:∀k X A A',J k X A→Kb (fun b=>b<W.heap.size∨X b) A A'→J k X A') (hJx:∀A A',Jx A→Kb (fun _=>True) A A'→Jx A')
 (hY:∀k X A args x (Y:Nat→Prop),J k X A→(ysL (sfB Ls Hs As Bs ws) all done)[k]?=some x→seV1 A args x→W.heap.size≤A.heap.size→(∀b,Y b→W.heap.size≤b∧¬X b)→YieldAt Fence.wide 0 prog l args A fun e A' =>
  (e=.returned (.bool true)∧(∃X',J (k+1) X' A'∧∀b,X' b→X b∨A.heap.size≤b)∧Kb (fun b=>ssP w0 gt gd b∨Y b) A A')∨(e=.returned (.bool false)∧Jx A'∧Kb (fun b=>ssP w0 gt gd b∨Y b) A A')):
 CallsIn Fence.wide nn prog 111 #[.func (.yield l) #[] #[],.pointer (some ⟨gt,0,none⟩),.pointer (some ⟨gd,0,none⟩)] W fun e W'=>(∃v,e=.returned v)∧((∃X,J (ysL (sfB Ls Hs As Bs ws) all done).length X W')∨Jx W'):=by
 obtain⟨ao,n,cap,ao2,n2,cap2,ao3,n3,cap3,rfl,rfl,rfl⟩:=hT.n.form;obtain⟨a4,n4,c4,rfl,_⟩:=hT.w.form;obtain⟨sf,hsf⟩:∃f,f=sfB Ls Hs As Bs ws:=⟨_,rfl⟩;have HM:Hid (MoOK sf all):=by show MoOK sf all;rw[hsf];exact sf_mono hP all
 have HIS:Hid (∀(s:Nat) A,s<64→(∀a,1≤a→a≤6→inS s a=true→inS done a=false)→Below w0.heap.size w0 A→Calls prog 46 #[.agg #[.int i64 S,.slice ao n cap,.slice ao2 n2 cap2,.slice ao3 n3 cap3,.slice a4 n4 c4,.map (some bm),.int i64 (all:Int)],.int i64 (done:Int),.int i64 (s:Int)] A fun e w'=>e=.returned (.bool (sf done s))∧Below A.heap.size A w'):=fun s A hs hds hA=>by
  rw[hsf];exact isSafe_any S _ _ _ _ bm all done s Ls Hs As Bs ws D A (hT.later hA) hP hd hs hds
 rw[←hsf] at hY ⊢;clear hsf hT hP;obtain⟨lo,hlo⟩:∃lo,lo=W.heap.size:=⟨_,rfl⟩;rw[←hlo] at hJ hY;have HP:Hid (∀b,ssP w0 gt gd b→b<lo):=fun b h=>by rw[hlo];exact hss.lt h
 have HJ:Hid (∀k X A A',J k X A→Kb (fun b=>b<lo∨X b) A A'→J k X A'):=hJ;have HX:Hid (∀k X A,J k X A→∀b,X b→b<A.heap.size):=hX;have HY:Hid (∀k X A args x (Y:Nat→Prop),J k X A→(ysL sf all done)[k]?=some x→seV1 A args x→lo≤A.heap.size→(∀b,Y b→lo≤b∧¬X b)→YieldAt Fence.wide 0 prog l args A fun e A' =>
  (e=.returned (.bool true)∧(∃X',J (k+1) X' A'∧∀b,X' b→X b∨A.heap.size≤b)∧Kb (fun b=>ssP w0 gt gd b∨Y b) A A')∨(e=.returned (.bool false)∧Jx A'∧Kb (fun b=>ssP w0 gt gd b∨Y b) A A')):=hY
 have HA:Hid (all<64∧done<64):=⟨ha,hd⟩;obtain⟨Lf,hLf⟩:∃L,L=mnS all done:=⟨_,rfl⟩;have HLf:Hid (mnS all done=Lf):=hLf.symm;have hm:bits .andNot .i64 (all:Int) (done:Int)=(Lf:Int):=by rw[hLf];exact bits_mn ha hd
 have HL64:Hid (Lf<64):=by show _<_;rw[hLf];exact mn_lt ha
 obtain⟨i0,hi,hz0,hz1,hz2⟩:=info_parts set_info;have HI:Hid (Tryz.prog.info? 61=some i0∧i0.zero=some (.int i64 0)∧i0.size=psetE.n∧i0.bytes=8):=⟨hi,hz0,hz1,hz2⟩;have HS0:Hid (SI w0 gt gd S (.slice ao n cap) (.slice ao2 n2 cap2) (.slice ao3 n3 cap3) (.slice a4 n4 c4) (.map (some bm)) all done sf J lo (.slice none 0 0) Lf W.heap.size [] (fun _=>False) (W.alloc (.cells #[.int i64 (Lf:Int)] 61))):=by
  have hb:Below W.heap.size W (W.alloc (.cells #[.int i64 (Lf:Int)] 61)):=(Below.refl _ W).alloc (nLQ _) _;refine⟨hss.later hb,Boxed.new W 61 (.int i64 (Lf:Int)),by rw[hLf,Nat.and_self],?_,World.ownsRow_nil _ _ _ _,hJ _ _ _ _ h0 (Kb.of_below hb fun b h _=>h),by rw[hlo];exact nLQ _,by rw[hlo];simp,fun h=>h,fun b h=>by cases h⟩;rw[List.nil_append,ysL];refine (seq_skip (by have:=HL64.out;omega) fun k h1 h2=>?_);cases e:ysB sf all done k
  ·rfl
  unfold ysB at e;simp only[Bool.and_eq_true,decide_eq_true_eq] at e;have e2:=e.1.2;rw[←hLf] at e2;have:k &&& Lf≤Lf:=Nat.and_le_right;omega
 have c6:=hss.tk.c6;have cd:=hss.dn;clear hss h0 hX hJ hY ha hd hLf hi hz0 hz1 hz2 hlo;refine callsIn_of_wp func111 rfl trivial ?_ rfl;simp only[ntmps111,List.size_toArray,List.length_cons,List.length_nil,Nat.reduceAdd,Nat.reduceSub,Array.replicate_succ,Array.replicate_zero,List.push_toArray,List.append_toArray,List.nil_append,List.cons_append]
 gi_wp2
 clear c6 cd hm
 gi_loopw [4,6] (fun v q wr=>∃(s gs:Nat) (pre:List Nat) (X:Nat→Prop),q=.pointer (some ⟨gs,0,none⟩)∧SI w0 gt gd S (.slice ao n cap) (.slice ao2 n2 cap2) (.slice ao3 n3 cap3) (.slice a4 n4 c4) (.map (some bm)) all done sf J lo v s gs pre X wr) (fun _ q wr=>bxN wr q)
 case atStart=>exact⟨Lf,_,[],_,rfl,HS0.out⟩
 case round =>
  obtain⟨s,gs,pre,X,rfl,hS⟩:=hrel;have HS:Hid (SI w0 gt gd S (.slice ao n cap) (.slice ao2 n2 cap2) (.slice ao3 n3 cap3) (.slice a4 n4 c4) (.map (some bm)) all done sf J lo u4 s gs pre X wr):=hS;have cs:=hS.bx.cell;clear hS HS0;by_cases hs0:0<s
  ·have hs1:(0:Int)<(s:Int):=by omega
   obtain⟨ao5,n5,cap5,rfl,hn5,hm5,_,ha5⟩:=(own_GS HS.out.ow).form;have HN5:Hid ((prI pre).length=n5):=hn5;have H64:Hid (s<64):=by
    show s<64;rw[←HS.out.sub,HLf.out];exact Nat.lt_of_le_of_lt Nat.and_le_right HL64.out
   have HLN:Hid (n5≤64):=by
    show n5≤64;have h1:=congrArg List.length HS.out.ys;have h2:=seq_len (ysB sf all done) 64;rw[List.length_append] at h1;rw[ysL] at h1;rw[←hn5,pr_len];omega
   obtain⟨r,hr⟩:∃r,r=s-1:=⟨_,rfl⟩;obtain⟨N,hN⟩:∃N,N=r &&& Lf:=⟨_,rfl⟩;have HNN:Hid (N=(s-1) &&& mnS all done):=by show N=_;rw[HLf.out,←hr];exact hN
   have HNS:Hid (N<s):=by
    show N<s;have:r &&& Lf≤r:=Nat.and_le_left;omega
   have hw1:IntKind.i64.wrap ((s:Int)-1)=(r:Int):=by rw[IntKind.wrap_i64];have:=H64.out;omega
   have hw2:wrap64 ((s:Int)-1)=(r:Int):=by unfold wrap64;have:=H64.out;omega
   have hw3:bits .and .i64 (r:Int) (Lf:Int)=(N:Int):=by
    rw[hN];exact bits_and (by have:=H64.out;omega) HL64.out
   have HDS:Hid (∀a,1≤a→a≤6→inS s a=true→inS done a=false):=fun a h1 h2 h3=>by
    have:=(sub_and H64.out).1 HS.out.sub a h1 h2 h3;rw[in_mn h1 h2] at this;simp only[Bool.and_eq_true,Bool.not_eq_true'] at this;exact this.2
   clear hr hN hn5
   gi_wp2_with fail
   refine⟨trivial,(callsIn_wide.2 (set_hasF ao5 n5 cap5 _ _ (fun x=>decide (bits .andNot .i64 (s:Int) x=0)) (prI pre) _ HN5.out hm5 ha5 (enters_of func113 (by kernel_rfl) rfl) (part_asks gs s wr HS.out.bx.cell))).mono ?_⟩;rintro e w2 ⟨rfl,hb2⟩;rw[part_any H64.out (fun x hx=>(ys_mem.1 (show x∈ysL sf all done by rw[HS.out.ys];exact List.mem_append.2 (.inl hx))).1)];have hS2:=HS.out.later HJ.out hb2;have HS2:Hid (SI w0 gt gd S (.slice ao n cap) (.slice ao2 n2 cap2) (.slice ao3 n3 cap3) (.slice a4 n4 c4) (.map (some bm)) all done sf J lo (.slice ao5 n5 cap5) s gs pre X w2):=hS2;obtain⟨T,hT⟩:∃T,T=sf done s:=⟨_,rfl⟩;have HT:Hid (sf done s=T):=hT.symm;obtain⟨PA,hPA⟩:∃P,P=pre.any (fun x=>decide (mnS s x=0)):=⟨_,rfl⟩;have HPA:Hid (PA=true→T=true):=fun h=>by rw[hT];exact part_safe HM.out HS.out.ys H64.out (by rw[←hPA];exact h)
   rw[←hPA];clear hPA hT hb2 hm5 ha5 cs;cases PA with
   | true =>
     have HTT:Hid (sf done s=true):=HT.out.trans (HPA.out rfl);have HS3:Hid (SI w0 gt gd S (.slice ao n cap) (.slice ao2 n2 cap2) (.slice ao3 n3 cap3) (.slice a4 n4 c4) (.map (some bm)) all done sf J lo (.slice ao5 n5 cap5) s gs pre X w2):=hS2;have cs:=HS3.out.bx.cell;clear hS2
     gi_wp2_with fail
     refine⟨trivial,?_⟩
     go_at_K
     gi_wp2_with (gi_at_builtin;refine wpListIn_append_own_at _ rfl _ _ 212 rfl lo 61 i0 (.int i64 0) psetE.n 8 underlying212 HI.out.1 HI.out.2.1 HI.out.2.2.1 HI.out.2.2.2 (by simp[Value.cells];rfl) (by decide) _ n5 (cellsG psetE (prI pre)) rfl ?o1 ⟨w2.heap.size,0,none⟩ 1 1 [.int i64 (s:Int)] rfl rfl ?c1 ?c2 ?c3 ?c4 ?c5 (setStop ?k))
     case o1=>exact (by have:=HS3.out.ow;rw[HN5.out] at this;exact this.alloc _)
     case c1=>exact cell_one_new _ _ _
     case c2=>simp[Value.oneCell']
     case c3=>have:=HLN.out;unfold maxLen;omega
     case c4=>have:=HLN.out;omega
     case c5=>have:=HS3.out.l2;simp;omega
     case k =>
      refine setGo ?_;intro v5 w4 hown5 hg5 _ hat5;have hP:=HS3.out.push HJ.out HX.out HP.out hs0 HTT.out _ HN5.out hown5 hg5 hat5;have HPP:Hid (SP w0 gt gd S (.slice ao n cap) (.slice ao2 n2 cap2) (.slice ao3 n3 cap3) (.slice a4 n4 c4) (.map (some bm)) all done sf J lo v5 s gs pre X w4):=hP;have hy:=yield_any (m':=nn-1) (HY.out pre.length X w4 #[.int i64 (s:Int)] s (fun b=>b=gs∨v5.ownBlock=some b) hP.j (by rw[hP.ys,List.append_assoc];simp) rfl hP.l2 (fun b hb=>by rcases hb with rfl | hb;exact⟨hP.l1,hP.xs⟩;exact⟨(hP.xo b hb).2.2,(hP.xo b hb).1⟩));obtain⟨fn,tmps,assign,body,hyr,hR⟩:=hy;have cs:=hP.bx.cell;clear hP hown5 hg5 hat5
      gi_wp2
      refine hR.mono ?_;rintro e5 w5 (⟨rfl,⟨X',hj5,hX5⟩,hk5⟩ | ⟨rfl,hjx,hk5⟩)
      ·have HN6:Hid (SI w0 gt gd S (.slice ao n cap) (.slice ao2 n2 cap2) (.slice ao3 n3 cap3) (.slice a4 n4 c4) (.map (some bm)) all done sf J lo v5 N w5.heap.size (pre++[s]) X' (w5.alloc (.cells #[.int i64 (N:Int)] 61))):=by
        have hP:=HPP.out;have h4:=hP.l2;refine SI.next HJ.out HX.out HA.out.1 hs0 (hP.ss.kb hk5 fun b h=>.inl h) hP.sub hP.ys (own_kb hP.ow hk5 fun b h=>.inr (.inr h)) (by rw[List.length_append];exact hj5) (Nat.le_trans h4 hk5.size) (fun b e hx=>?_) HNN.out
        rcases hX5 b hx with h | h
        ·exact (hP.xo b e).1 h
        have:=(hP.ow.lt b e).2;omega
       have cs:=hk5.at HPP.out.bx.cell (.inr (.inl rfl));clear hj5 hX5 hk5
       gi_wp2
       go_roundw
       case rel=>exact⟨N,_,_,_,rfl,HN6.out⟩
       case measure =>
        show bxN _ _<bxN _ _;rw[bxN_of HS.out.bx.cell,bxN_of (s:=N) (by simp)];exact HNS.out
      clear hk5
      gi_wp2
      refine bodyPost_ret (results_none rfl _ _ _) rfl ?_;exact⟨⟨_,rfl⟩,.inr hjx⟩
   | false =>
     have c0:=hS2.ss.tk.c0;have c1:=hS2.ss.tk.c1;have c2:=hS2.ss.tk.c2;have c3:=hS2.ss.tk.c3;have c4':=hS2.ss.tk.c4;have c5:=hS2.ss.tk.c5;have c6:=hS2.ss.tk.c6;have cd:=hS2.ss.dn;have cs:=hS2.bx.cell;clear hS2
     gi_wp2_with fail
     refine⟨trivial,(callsIn_wide.2 (HIS.out s _ H64.out HDS.out HS2.out.ss.below)).mono ?_⟩;rintro e w3 ⟨rfl,hb3⟩;rw[HT.out];have hS3:=HS2.out.later HJ.out hb3;clear hb3 c0 c1 c2 c3 c4' c5 c6 cd cs;cases T with
     | true =>
       have HTT:Hid (sf done s=true):=HT.out;have HS3:Hid (SI w0 gt gd S (.slice ao n cap) (.slice ao2 n2 cap2) (.slice ao3 n3 cap3) (.slice a4 n4 c4) (.map (some bm)) all done sf J lo (.slice ao5 n5 cap5) s gs pre X w3):=hS3;have cs:=HS3.out.bx.cell;clear hS3
       gi_wp2_with (gi_at_builtin;refine wpListIn_append_own_at _ rfl _ _ 212 rfl lo 61 i0 (.int i64 0) psetE.n 8 underlying212 HI.out.1 HI.out.2.1 HI.out.2.2.1 HI.out.2.2.2 (by simp[Value.cells];rfl) (by decide) _ n5 (cellsG psetE (prI pre)) rfl ?o1 ⟨w3.heap.size,0,none⟩ 1 1 [.int i64 (s:Int)] rfl rfl ?c1 ?c2 ?c3 ?c4 ?c5 (setStop ?k))
       case o1=>exact (by have:=HS3.out.ow;rw[HN5.out] at this;exact this.alloc _)
       case c1=>exact cell_one_new _ _ _
       case c2=>simp[Value.oneCell']
       case c3=>have:=HLN.out;unfold maxLen;omega
       case c4=>have:=HLN.out;omega
       case c5=>have:=HS3.out.l2;simp;omega
       case k =>
        refine setGo ?_;intro v5 w4 hown5 hg5 _ hat5;have hP:=HS3.out.push HJ.out HX.out HP.out hs0 HTT.out _ HN5.out hown5 hg5 hat5;have HPP:Hid (SP w0 gt gd S (.slice ao n cap) (.slice ao2 n2 cap2) (.slice ao3 n3 cap3) (.slice a4 n4 c4) (.map (some bm)) all done sf J lo v5 s gs pre X w4):=hP;have hy:=yield_any (m':=nn-1) (HY.out pre.length X w4 #[.int i64 (s:Int)] s (fun b=>b=gs∨v5.ownBlock=some b) hP.j (by rw[hP.ys,List.append_assoc];simp) rfl hP.l2 (fun b hb=>by rcases hb with rfl | hb;exact⟨hP.l1,hP.xs⟩;exact⟨(hP.xo b hb).2.2,(hP.xo b hb).1⟩));obtain⟨fn,tmps,assign,body,hyr,hR⟩:=hy;have cs:=hP.bx.cell;clear hP hown5 hg5 hat5
        gi_wp2
        refine hR.mono ?_;rintro e5 w5 (⟨rfl,⟨X',hj5,hX5⟩,hk5⟩ | ⟨rfl,hjx,hk5⟩)
        ·have HN6:Hid (SI w0 gt gd S (.slice ao n cap) (.slice ao2 n2 cap2) (.slice ao3 n3 cap3) (.slice a4 n4 c4) (.map (some bm)) all done sf J lo v5 N w5.heap.size (pre++[s]) X' (w5.alloc (.cells #[.int i64 (N:Int)] 61))):=by
          have hP:=HPP.out;have h4:=hP.l2;refine SI.next HJ.out HX.out HA.out.1 hs0 (hP.ss.kb hk5 fun b h=>.inl h) hP.sub hP.ys (own_kb hP.ow hk5 fun b h=>.inr (.inr h)) (by rw[List.length_append];exact hj5) (Nat.le_trans h4 hk5.size) (fun b e hx=>?_) HNN.out
          rcases hX5 b hx with h | h
          ·exact (hP.xo b e).1 h
          have:=(hP.ow.lt b e).2;omega
         have cs:=hk5.at HPP.out.bx.cell (.inr (.inl rfl));clear hj5 hX5 hk5
         gi_wp2
         go_roundw
         case rel=>exact⟨N,_,_,_,rfl,HN6.out⟩
         case measure =>
          show bxN _ _<bxN _ _;rw[bxN_of HS.out.bx.cell,bxN_of (s:=N) (by simp)];exact HNS.out
        clear hk5
        gi_wp2
        refine bodyPost_ret (results_none rfl _ _ _) rfl ?_;exact⟨⟨_,rfl⟩,.inr hjx⟩
     | false =>
       have HN6:Hid (SI w0 gt gd S (.slice ao n cap) (.slice ao2 n2 cap2) (.slice ao3 n3 cap3) (.slice a4 n4 c4) (.map (some bm)) all done sf J lo (.slice ao5 n5 cap5) N w3.heap.size pre X (w3.alloc (.cells #[.int i64 (N:Int)] 61))):=by
        refine SI.next HJ.out HX.out HA.out.1 hs0 hS3.ss hS3.sub ?_ hS3.ow hS3.j hS3.l2 (fun b e=>(hS3.xo b e).1) HNN.out;rw[hS3.ys,seqL,if_neg (by unfold ysB;rw[HT.out];simp)]
       have cs:=hS3.bx.cell;clear hS3
       gi_wp2
       go_roundw
       case rel=>exact⟨N,_,_,_,rfl,HN6.out⟩
       case measure =>
        show bxN _ _<bxN _ _;rw[bxN_of HS.out.bx.cell,bxN_of (s:=N) (by simp)];exact HNS.out
  have e0:s=0:=by omega
  subst e0
  gi_wp2
  go_end0
  refine⟨⟨_,rfl⟩,.inl ⟨X,?_⟩⟩;have hy:=HS.out.ys;have e1:seqL (ysB sf all done) (0+1)=[]:=by
   show (if ysB sf all done 0=true then 0 :: seqL _ 0 else seqL _ 0)=[];rw[if_neg (by unfold ysB;simp)];rfl
  rw[e1,List.append_nil] at hy;rw[hy];exact HS.out.j
end
end
section
open Go.RowKit Go.Shelf
attribute [local go_sem] Oper.semAt_some
def setKey:KeyE prog 61 Int:=
 KeyE.now (fun k=>.int i64 k) qI qI_iff (fun e k w=>Go.MapKept.run_checkKey underlying61 (by simp[Go.MapKept.IsKey]) e 9999) _ underlying61 (fun a b=>by simp[Instr.sameNow,qI]) (fun k=>by simp[Instr.sameBits])
def crV (c:Nat×Nat):Value:=.agg #[.int i64 (c.1:Int),.int i64 (c.2:Int)]
def KN (sf:Nat→Nat→Bool)(all bk:Nat)(W:World):Prop:=∃M,MAt setKey crV W bk M∧∀d:Nat,DnOK all d→∀c,mget setKey.q (d:Int) M=some c→c=shC sf all d
theorem KN.kb {sf:Nat→Nat→Bool}{all bk:Nat}{W W':World}{p:Nat→Prop}(h:KN sf all bk W)(hk:Kb p W W')(hp:p bk):KN sf all bk W':=by
 obtain⟨M,⟨es,cl,h1,h2⟩,h3⟩:=h;exact⟨M,⟨es,cl,(hk.block bk (Array.getElem?_eq_some_iff.1 h1).1 hp).trans h1,h2⟩,h3⟩
theorem KN.lt {sf:Nat→Nat→Bool}{all bk:Nat}{W:World}(h:KN sf all bk W):bk<W.heap.size:=by
 obtain⟨M,h1,_⟩:=h;exact h1.lt
theorem sets_val (S:Int)(ao:AdQ)(n cap:Nat)(ao2:AdQ)(n2 cap2:Nat)(ao3:AdQ)(n3 cap3:Nat)(a4:AdQ)(n4 c4 bm all done:Nat)(w:World):
 Calls prog 75 #[.agg #[.int i64 S,.slice ao n cap,.slice ao2 n2 cap2,.slice ao3 n3 cap3,.slice a4 n4 c4,.map (some bm),.int i64 (all:Int)],.int i64 (done:Int)] w fun e w'=>e=.returned (.func (.func 111) #[] #[.pointer (some ⟨w.heap.size,0,none⟩),.pointer (some ⟨w.heap.size+1,0,none⟩)]) ∧
  w'=(w.alloc (.cells #[.int i64 S,.slice ao n cap,.slice ao2 n2 cap2,.slice ao3 n3 cap3,.slice a4 n4 c4,.map (some bm),.int i64 (all:Int)] 63)).alloc (.cells #[.int i64 (done:Int)] 61):=by
 go_enter func75,ntmps75;go_wp2;go_ret;exact⟨rfl,rfl⟩
theorem sets_it {w0:World}{gt gd:Nat}{S:Int}{v1 v2 v3 v4:Value}{bm all done:Nat}{Ls:List LkT}{Hs:List HoT}{As Bs:TsQ}{ws:List Wi}{D:List Op8}
 (hT:TskOK w0 v1 v2 v3 v4 bm Ls Hs As ws D) (hP:PlOK S Ls Hs As Bs ws D) (ha:all<64) (hd:done<64):
 ItQ prog 111 #[.pointer (some ⟨gt,0,none⟩),.pointer (some ⟨gd,0,none⟩)] seV1 (SS w0 gt gd S v1 v2 v3 v4 (.map (some bm)) all done) (ssP w0 gt gd) (ysL (sfB Ls Hs As Bs ws) all done):=
 fun l J Jx W hss h0 hX hJ hJx hY=>(callsIn_wide (n:=4)).1 (sets_in 4 (by omega) hT hP ha hd l J Jx W hss h0 hX hJ hJx hY)
structure C2 (A:World)(g:Nat)(x y:Value):Prop where
 c0:A.cell? ⟨g,0,none⟩=some x
 c1:A.cell? ⟨g,1,none⟩=some y
 f:∀i,A.frozen? ⟨g,i,none⟩=false
section
variable {A A':World}{g:Nat}{x y:Value}
theorem C2.lt (h:C2 A g x y):g<A.heap.size:=bLQ A ⟨g,0,none⟩ h.c0
theorem C2.kb {p:Nat→Prop}(h:C2 A g x y)(hk:Kb p A A')(hp:p g):C2 A' g x y:=⟨hk.at h.c0 hp,hk.at h.c1 hp,fun i=>by rw[hk.frozen (q:=⟨g,i,none⟩) h.lt hp];exact h.f i⟩
theorem c2_new (A:World)(x y:Value)(t:TypeId):C2 (A.alloc (.cells #[x,y] t)) A.heap.size x y:=⟨by simp,by simp,fun i=>by simp⟩
theorem C2.put (h:C2 A g x y)(x' y':Value):C2 ((A.setCell ⟨g,0,none⟩ x').setCell ⟨g,1,none⟩ y') g x' y':=
 ⟨cellOff (by decide) (cellSame h.c0),cellSame (cellOff (by decide) h.c1),fun i=>by rw[frozSet,frozSet];exact h.f i⟩
theorem kb_put {p:Nat→Prop}(hp:g<A.heap.size→¬p g)(x y:Value):Kb p A ((A.setCell ⟨g,0,none⟩ x).setCell ⟨g,1,none⟩ y):=
 ((Kb.refl p A).setCell (q:=⟨g,0,none⟩) hp x).setCell (q:=⟨g,1,none⟩) hp y
end
structure SB (W:World)(bk:Nat)(S:Int)(v1 v2 v3 v4 v5:Value)(sf:Nat→Nat→Bool)(all done:Nat)(b:Nat×Nat)(A:World):Prop where
 kb:Kb (fun x=>x≠bk) W A
 sz:W.heap.size+6≤A.heap.size
 kn:KN sf all bk A
 tk:TkB A W.heap.size S v1 v2 v3 v4 v5 (all:Int)
 dn:Boxed A (W.heap.size+1) 61 (.int i64 (done:Int))
 kc:Boxed A (W.heap.size+1+1) 110 (.map (some bk))
 rs:C2 A (W.heap.size+1+1+1) (.int i64 0) (.int i64 0)
 bs:C2 A (W.heap.size+1+1+1+1+1) (.int i64 (b.1:Int)) (.int i64 (b.2:Int))
section
variable {W:World}{bk:Nat}{S:Int}{v1 v2 v3 v4 v5:Value}{sf:Nat→Nat→Bool}{all done:Nat}{b:Nat×Nat}{A A':World}
theorem SB.keep (h:SB W bk S v1 v2 v3 v4 v5 sf all done b A){p:Nat→Prop}(hk:Kb p A A')(hp:∀x,x<W.heap.size+6→p x)(hbk:bk<W.heap.size):SB W bk S v1 v2 v3 v4 v5 sf all done b A':=by
 have hz:=h.sz;exact⟨⟨hk.os.trans h.kb.os,hk.tape.trans h.kb.tape,hk.output.trans h.kb.output,Nat.le_trans h.kb.size hk.size,fun k h1 h2=>(hk.block k (by omega) (hp k (by omega))).trans (h.kb.block k h1 h2)⟩,Nat.le_trans hz hk.size,h.kn.kb hk (hp _ (by omega)),h.tk.kb hk (hp _ (by omega)),hk.boxed h.dn (hp _ (by omega)),hk.boxed h.kc (hp _ (by omega)),h.rs.kb hk (hp _ (by omega)),h.bs.kb hk (hp _ (by omega))⟩
theorem SB.know (h:SB W bk S v1 v2 v3 v4 v5 sf all done b A)(hk:Kb (fun x=>x≠bk) A A')(hn:KN sf all bk A')(hbk:bk<W.heap.size):SB W bk S v1 v2 v3 v4 v5 sf all done b A':=by
 have hz:=h.sz;exact⟨h.kb.trans hk,Nat.le_trans hz hk.size,hn,h.tk.kb hk (show _≠_ by omega),hk.boxed h.dn (show _≠_ by omega),hk.boxed h.kc (show _≠_ by omega),h.rs.kb hk (show _≠_ by omega),h.bs.kb hk (show _≠_ by omega)⟩
theorem SB.put (h:SB W bk S v1 v2 v3 v4 v5 sf all done b A)(hbk:bk<W.heap.size)(c:Nat×Nat):SB W bk S v1 v2 v3 v4 v5 sf all done c ((A.setCell ⟨W.heap.size+1+1+1+1+1,0,none⟩ (.int i64 (c.1:Int))).setCell ⟨W.heap.size+1+1+1+1+1,1,none⟩ (.int i64 (c.2:Int))):=by
 have hz:=h.sz;have hk:Kb (fun x=>x≠W.heap.size+1+1+1+1+1) A ((A.setCell ⟨W.heap.size+1+1+1+1+1,0,none⟩ (.int i64 (c.1:Int))).setCell ⟨W.heap.size+1+1+1+1+1,1,none⟩ (.int i64 (c.2:Int))):=kb_put (fun _ hx=>hx rfl) _ _;exact⟨⟨hk.os.trans h.kb.os,hk.tape.trans h.kb.tape,hk.output.trans h.kb.output,Nat.le_trans h.kb.size hk.size,fun k h1 h2=>(hk.block k (by omega) (show _≠_ by omega)).trans (h.kb.block k h1 h2)⟩,Nat.le_trans hz hk.size,h.kn.kb hk (show _≠_ by omega),h.tk.kb hk (show _≠_ by omega),hk.boxed h.dn (show _≠_ by omega),hk.boxed h.kc (show _≠_ by omega),h.rs.kb hk (show _≠_ by omega),h.bs.put _ _⟩
end
structure S4 (W:World)(bk:Nat)(S:Int)(v1 v2 v3 v4 v5:Value)(sf:Nat→Nat→Bool)(all done:Nat)(A:World):Prop where
 below:Below W.heap.size W A
 sz:A.heap.size=W.heap.size+4
 kn:KN sf all bk A
 tk:TkB A W.heap.size S v1 v2 v3 v4 v5 (all:Int)
 dn:Boxed A (W.heap.size+1) 61 (.int i64 (done:Int))
 kc:Boxed A (W.heap.size+1+1) 110 (.map (some bk))
 rs:C2 A (W.heap.size+1+1+1) (.int i64 0) (.int i64 0)
section
variable {W:World}{bk:Nat}{S:Int}{v1 v2 v3 v4 v5:Value}{sf:Nat→Nat→Bool}{all done:Nat}{A:World}
theorem s4_new (h:KN sf all bk W):S4 W bk S v1 v2 v3 v4 v5 sf all done ((((W.alloc (.cells #[.int i64 S,v1,v2,v3,v4,v5,.int i64 (all:Int)] 63)).alloc (.cells #[.int i64 (done:Int)] 61)).alloc (.cells #[.map (some bk)] 110)).alloc (.cells #[.int i64 0,.int i64 0] 112)):=by
 have hb:∀(W:World) (o:Obj),Below W.heap.size W (W.alloc o):=fun W o=>(bRQ _ _).alloc (nLQ _) _
 have k1:=tkb_new W S v1 v2 v3 v4 v5 (all:Int) 63;have b1:=hb W (.cells #[.int i64 S,v1,v2,v3,v4,v5,.int i64 (all:Int)] 63);have e1:=World.size_alloc W (.cells #[.int i64 S,v1,v2,v3,v4,v5,.int i64 (all:Int)] 63)
 generalize W.alloc (.cells #[.int i64 S,v1,v2,v3,v4,v5,.int i64 (all:Int)] 63)=A1 at *
 have k2:=Boxed.new A1 61 (.int i64 (done:Int));have b2:=hb A1 (.cells #[.int i64 (done:Int)] 61);have e2:=World.size_alloc A1 (.cells #[.int i64 (done:Int)] 61)
 generalize A1.alloc (.cells #[.int i64 (done:Int)] 61)=A2 at *
 have k3:=Boxed.new A2 110 (.map (some bk));have b3:=hb A2 (.cells #[.map (some bk)] 110);have e3:=World.size_alloc A2 (.cells #[.map (some bk)] 110)
 generalize A2.alloc (.cells #[.map (some bk)] 110)=A3 at *
 have k4:=c2_new A3 (.int i64 0) (.int i64 0) 112;have b4:=hb A3 (.cells #[.int i64 0,.int i64 0] 112);have e4:=World.size_alloc A3 (.cells #[.int i64 0,.int i64 0] 112)
 generalize A3.alloc (.cells #[.int i64 0,.int i64 0] 112)=A4 at *
 rw[e1] at k2;rw[e2,e1] at k3;rw[e3,e2,e1] at k4;have b14:Below W.heap.size W A4:=((b1.trans (b2.mono (by omega))).trans (b3.mono (by omega))).trans (b4.mono (by omega));refine⟨b14,by omega,h.kb (p:=fun _=>True) (Kb.of_below b14 fun _ h _=>h) trivial,((k1.later b2).later b3).later b4,(k2.kept (grown_below b3) (by simp)).kept (grown_below b4) (by simp),k3.kept (grown_below b4) (by simp),k4⟩
theorem S4.sb (h:S4 W bk S v1 v2 v3 v4 v5 sf all done A)(hbk:bk<W.heap.size)(x y:Value)(b:Nat×Nat):SB W bk S v1 v2 v3 v4 v5 sf all done b ((A.alloc (.cells #[x,y] 112)).alloc (.cells #[.int i64 (b.1:Int),.int i64 (b.2:Int)] 112)):=by
 have hb:∀(W:World) (o:Obj),Below W.heap.size W (W.alloc o):=fun W o=>(bRQ _ _).alloc (nLQ _) _
 have b1:=hb A (.cells #[x,y] 112);have e1:=World.size_alloc A (.cells #[x,y] 112)
 generalize A.alloc (.cells #[x,y] 112)=A1 at *
 have k2:=c2_new A1 (.int i64 (b.1:Int)) (.int i64 (b.2:Int)) 112;have b2:=hb A1 (.cells #[.int i64 (b.1:Int),.int i64 (b.2:Int)] 112);have e2:=World.size_alloc A1 (.cells #[.int i64 (b.1:Int),.int i64 (b.2:Int)] 112)
 generalize A1.alloc (.cells #[.int i64 (b.1:Int),.int i64 (b.2:Int)] 112)=A2 at *
 have hz:=h.sz;have b12:Below A.heap.size A A2:=b1.trans (b2.mono (by omega));have hk:Kb (fun _=>True) A A2:=Kb.of_below b12 fun _ h _=>h
 rw[e1,hz] at k2;exact⟨(Kb.of_below (h.below.trans (b12.mono (by omega))) fun _ h _=>h),by omega,h.kn.kb hk trivial,h.tk.kb hk trivial,hk.boxed h.dn trivial,hk.boxed h.kc trivial,h.rs.kb hk trivial,k2⟩
end
theorem below5 (W:World)(a b c d e:Obj):Below W.heap.size W (((((W.alloc a).alloc b).alloc c).alloc d).alloc e):=
 (((((Below.refl _ W).alloc (nLQ _) a).alloc (by simp) b).alloc (by simp;omega) c).alloc (by simp;omega) d).alloc (by simp;omega) e
theorem below_pair (W:World)(a b:Obj):Below W.heap.size W ((W.alloc a).alloc b):=((Below.refl _ W).alloc (nLQ _) a).alloc (by simp) b
theorem sh_7 {sf:Nat→Nat→Bool}{all d:Nat}(ha:all<64)(hd:DnOK all d):(shC sf all d).1≤7∧(shC sf all d).2<64:=by
 refine⟨?_,(nx_sh (sf:=sf) (all:=all) d).1⟩;by_cases e:d=all
 ·rw[e,sh_all];exact Nat.zero_le _
 exact (sh_spec ha hd e).2.1
section
variable {w0:World}{bk:Nat}{S:Int}{v1 v2 v3 v4:Value}{bm all:Nat}{Ls:List LkT}{Hs:List HoT}{As Bs:TsQ}{ws:List Wi}{D:List Op8}
theorem short_step (hT:TskOK w0 v1 v2 v3 v4 bm Ls Hs As ws D)(hP:PlOK S Ls Hs As Bs ws D)(ha:all<64)(h0:w0.heap.size≤bk)(done:Nat)(hd:DnOK all done)
 (ih:∀d,DnOK all d→lfN all d<lfN all done→∀W,Below w0.heap.size w0 W→KN (sfB Ls Hs As Bs ws) all bk W→Calls prog 41 #[.agg #[.int i64 S,v1,v2,v3,v4,.map (some bm),.int i64 (all:Int)],.int i64 (d:Int),.map (some bk)] W fun e W'=>e=.returned (crV (shC (sfB Ls Hs As Bs ws) all d))∧KN (sfB Ls Hs As Bs ws) all bk W'∧Kb (fun x=>x≠bk) W W')
 (W:World) (hW:Below w0.heap.size w0 W) (hK:KN (sfB Ls Hs As Bs ws) all bk W):
 Calls prog 41 #[.agg #[.int i64 S,v1,v2,v3,v4,.map (some bm),.int i64 (all:Int)],.int i64 (done:Int),.map (some bk)] W fun e W'=>e=.returned (crV (shC (sfB Ls Hs As Bs ws) all done))∧KN (sfB Ls Hs As Bs ws) all bk W'∧Kb (fun x=>x≠bk) W W':=by
 obtain⟨ao,n,cap,ao2,n2,cap2,ao3,n3,cap3,rfl,rfl,rfl⟩:=hT.n.form;obtain⟨a4,n4,c4,rfl,_⟩:=hT.w.form;have HIT:Hid (∀gt gd,ItQ prog 111 #[.pointer (some ⟨gt,0,none⟩),.pointer (some ⟨gd,0,none⟩)] seV1 (SS w0 gt gd S (.slice ao n cap) (.slice ao2 n2 cap2) (.slice ao3 n3 cap3) (.slice a4 n4 c4) (.map (some bm)) all done) (ssP w0 gt gd) (ysL (sfB Ls Hs As Bs ws) all done)):=fun gt gd=>sets_it hT hP ha hd.1
 have HC:Hid (done≠all→shC (sfB Ls Hs As Bs ws) all done=bsF (fun s=>(shC (sfB Ls Hs As Bs ws) all (done ||| s)).1+1) (ysL (sfB Ls Hs As Bs ws) all done) (7,0)):=fun h=>sh_step ha hd h
 have HCA:Hid (done=all→shC (sfB Ls Hs As Bs ws) all done=(0,0)):=fun h=>by rw[h];exact sh_all
 clear hT hP
 generalize sfB Ls Hs As Bs ws=sf at *
 have HBK:Hid (bk<W.heap.size∧w0.heap.size≤bk):=⟨hK.lt,h0⟩;have HA:Hid (all<64):=ha;have HD:Hid (DnOK all done):=hd;have HIH:Hid (∀d,DnOK all d→lfN all d<lfN all done→∀W,Below w0.heap.size w0 W→KN sf all bk W→Calls prog 41 #[.agg #[.int i64 S,.slice ao n cap,.slice ao2 n2 cap2,.slice ao3 n3 cap3,.slice a4 n4 c4,.map (some bm),.int i64 (all:Int)],.int i64 (d:Int),.map (some bk)] W fun e W'=>e=.returned (crV (shC sf all d))∧KN sf all bk W'∧Kb (fun x=>x≠bk) W W'):=ih;obtain⟨r1,r2,hR⟩:∃r1 r2,shC sf all done=(r1,r2):=⟨_,_,rfl⟩;have HR:Hid (shC sf all done=(r1,r2)):=hR;rw[hR] at HC HCA ⊢;have hS4:=s4_new (S:=S) (v1:=.slice ao n cap) (v2:=.slice ao2 n2 cap2) (v3:=.slice ao3 n3 cap3) (v4:=.slice a4 n4 c4) (v5:=.map (some bm)) (done:=done) hK;obtain⟨W1,hW1⟩:∃X,X=(((W.alloc (.cells #[.int i64 S,.slice ao n cap,.slice ao2 n2 cap2,.slice ao3 n3 cap3,.slice a4 n4 c4,.map (some bm),.int i64 (all:Int)] 63)).alloc (.cells #[.int i64 (done:Int)] 61)).alloc (.cells #[.map (some bk)] 110)).alloc (.cells #[.int i64 0,.int i64 0] 112):=⟨_,rfl⟩;rw[←hW1] at hS4;have HW1:Hid (W1=(((W.alloc (.cells #[.int i64 S,.slice ao n cap,.slice ao2 n2 cap2,.slice ao3 n3 cap3,.slice a4 n4 c4,.map (some bm),.int i64 (all:Int)] 63)).alloc (.cells #[.int i64 (done:Int)] 61)).alloc (.cells #[.map (some bk)] 110)).alloc (.cells #[.int i64 0,.int i64 0] 112)):=hW1;have HWB:Hid (Below w0.heap.size w0 W):=hW;have HKW:Hid (KN sf all bk W):=hK;have HS4:Hid (S4 W bk S (.slice ao n cap) (.slice ao2 n2 cap2) (.slice ao3 n3 cap3) (.slice a4 n4 c4) (.map (some bm)) sf all done W1):=hS4;clear ih ha hd h0 hR hW1 hW hK hS4;unfold crV
 dsimp only
 refine (callsIn_wide (n:=6)).1 ?_;refine callsIn_of_wp_marks func41 rfl trivial ?_ rfl;simp only[ntmps41,List.size_toArray,List.length_cons,List.length_nil,Nat.reduceAdd,Nat.reduceSub,Array.replicate_succ,Array.replicate_zero,List.push_toArray,List.append_toArray,List.nil_append,List.cons_append];by_cases hda:done=all
 ·have hq:((done:Int)==(all:Int))=true:=by rw[hda];simp
  have he:=HCA.out hda;cases he;clear hda
  gi_wp2
  rw[←HW1.out];have q0:=HS4.out.rs.c0;have q1:=HS4.out.rs.c1;have qs:=HS4.out.sz;refine⟨_,by simp[results,results41,go_sem, *],rfl,HS4.out.kn,Kb.of_below HS4.out.below fun _ h _=>h⟩
 have hq:((done:Int)==(all:Int))=false:=by rw[beq_eq_false_iff_ne];omega
 obtain⟨M,hM,hMs⟩:=HS4.out.kn;have HM:Hid (∀d:Nat,DnOK all d→∀c,mget setKey.q (d:Int) M=some c→c=shC sf all d):=hMs;have hz:∀w,(zeroValue 112).run prog w=.ok (.agg #[.int i64 0,.int i64 0]) w:=fun w=>by kernel_rfl
 have hlk:=run_lookup_M hM 110 112 underlying110 (.agg #[.int i64 0,.int i64 0]) hz (done:Int) true;have HCC:=HC.out hda;clear hM hMs hz;cases hmg:mget setKey.q (done:Int) M with
 | some c =>
   have hc:=HM.out done HD.out c hmg;rw[HR.out] at hc;subst hc;rw[hmg] at hlk;have hlk2:(Instr.lookup 110 (.map (some bk)) (.int i64 (done:Int)) true).run prog W1=.ok (.tuple #[.agg #[.int i64 (r1:Int),.int i64 (r2:Int)],.bool true]) W1:=hlk;rw[HW1.out] at hlk2;clear hlk hmg;have HK0:Hid (KN sf all bk W∧Below W.heap.size W W):=⟨HKW.out,bRQ _ _⟩
   gi_wp2
   refine⟨_,by simp[results,results41,go_sem, *],rfl,HK0.out.1.kb (p:=fun _=>True) (Kb.of_below (below5 W _ _ _ _ _) fun _ h _=>h) trivial,Kb.of_below (below5 W _ _ _ _ _) fun _ h _=>h⟩
 | none =>
   rw[hmg] at hlk;have hlk2:(Instr.lookup 110 (.map (some bk)) (.int i64 (done:Int)) true).run prog W1=.ok (.tuple #[.agg #[.int i64 0,.int i64 0],.bool false]) W1:=hlk;rw[HW1.out] at hlk2;clear hlk hmg
   gi_wp2_with fail
   rw[←HW1.out];have hS2:=HS4.out.sb HBK.out.1 (.int i64 0) (.int i64 0) (7,0);obtain⟨W2,hW2⟩:∃X,X=(W1.alloc (.cells #[.int i64 0,.int i64 0] 112)).alloc (.cells #[.int i64 7,.int i64 0] 112):=⟨_,rfl⟩
   change SB _ _ _ _ _ _ _ _ _ _ _ _ ((W1.alloc (.cells #[.int i64 0,.int i64 0] 112)).alloc (.cells #[.int i64 7,.int i64 0] 112)) at hS2
   rw[←hW2] at hS2 ⊢;refine⟨trivial,(callsIn_wide.2 (sets_val S ao n cap ao2 n2 cap2 ao3 n3 cap3 a4 n4 c4 bm all done W2)).mono ?_⟩;rintro e W3 ⟨rfl,hW3⟩;have hb23:Below W2.heap.size W2 W3:=by rw[hW3];exact below_pair _ _ _
   have hs3:W3.heap.size=W2.heap.size+2:=by rw[hW3];simp
   have hS3:=hS2.keep (p:=fun _=>True) (Kb.of_below hb23 fun _ h _=>h) (fun _ _=>trivial) HBK.out.1;have hz2:=hS2.sz;have hk3:=hS3.kb;have hB3:Below w0.heap.size w0 W3:=HWB.out.trans (hk3.below HWB.out.size fun b hb=>by show b≠bk;have:=HBK.out.2;omega);have hSS:SS w0 W2.heap.size (W2.heap.size+1) S (.slice ao n cap) (.slice ao2 n2 cap2) (.slice ao3 n3 cap3) (.slice a4 n4 c4) (.map (some bm)) all done W3:=by
    have hw02:w0.heap.size≤W2.heap.size:=by have:=HWB.out.size;omega
    refine⟨hB3,?_,?_⟩
    ·rw[hW3];exact (tkb_new W2 S _ _ _ _ _ (all:Int) 63).later ((bRQ _ _).alloc (nLQ _) _)
    rw[hW3];simp
   have HZ:Hid (W.heap.size+8≤W3.heap.size∧W3.heap.size=W2.heap.size+2∧W.heap.size+6≤W2.heap.size):=⟨by omega,hs3,hz2⟩;clear hlk2 hW2 hW3 hS2
   gi_wp2
   refine wpIn_rangeFunc_itQ (by omega) (gf:=111) (lb:=#[.pointer (some ⟨W2.heap.size,0,none⟩),.pointer (some ⟨W2.heap.size+1,0,none⟩)]) rfl (enters_of func111 (by kernel_rfl) rfl) (HIT.out _ _) (fun W' h=>hSS.later h) (fun b h=>hSS.lt h) (fun A args x hx=>by rw[hx];rfl)
    (fun k X A=>(∃b,SB W bk S (.slice ao n cap) (.slice ao2 n2 cap2) (.slice ao3 n3 cap3) (.slice a4 n4 c4) (.map (some bm)) sf all done b A∧(r1,r2)=bsF (fun s=>(shC sf all (done ||| s)).1+1) ((ysL sf all done).drop k) b∧b.1≤7∧b.2<64)∧∀x,¬X x)
    (fun c A=>c=.exit 0∧SB W bk S (.slice ao n cap) (.slice ao2 n2 cap2) (.slice ao3 n3 cap3) (.slice a4 n4 c4) (.map (some bm)) sf all done (r1,r2) A)
    (fun k X A h b hx=>absurd hx (h.2 b))
    (fun k X A A' h hk=>⟨h.1.imp fun b hb=>⟨hb.1.keep hk (fun x hx=>.inl (by omega)) HBK.out.1,hb.2⟩,h.2⟩)
    (fun c A A' h hk=>⟨h.1,h.2.keep hk (fun x hx=>.inl (by omega)) HBK.out.1⟩)
    ⟨⟨(7,0),hS3,HCC,by decide,by decide⟩,fun b h=>h⟩ ?round ?done ?stop
   case round =>
    rintro l' k X Y x args A hl' hBW ⟨⟨⟨b1,b2⟩,hS,hb,hb7,hb64⟩,hX⟩ hLk hV hY hnl;unfold seV1 at hV;subst hV;have hxm:x∈ysL sf all done:=List.mem_of_getElem? hLk;obtain⟨hx64,hx0,hxs,hxf⟩:=ys_mem.1 hxm;obtain⟨d,hd⟩:∃d,d=done ||| x:=⟨_,rfl⟩
    have hDx:DnOK all d:=by rw[hd];exact HD.out.next hxm
    have hlx:lfN all d<lfN all done:=by rw[hd];exact ys_less hxm
    have hor:bits .or .i64 (done:Int) (x:Int)=(d:Int):=by rw[hd];exact bits_or HD.out.1 hx64
    obtain⟨q,q2,hq'⟩:∃q q2,shC sf all d=(q,q2):=⟨_,_,rfl⟩;have hq7:q≤7:=by have:=(sh_7 (sf:=sf) HA.out hDx).1;rw[hq'] at this;exact this
    obtain⟨Q,hQ⟩:∃Q,Q=q+1:=⟨_,rfl⟩;have hQ8:Q≤8:=by rw[hQ];exact Nat.succ_le_succ hq7
    have hwr:IntKind.i64.wrap ((q:Int)+1)=(Q:Int):=by rw[IntKind.wrap_i64];omega
    have hwr2:wrap64 ((q:Int)+1)=(Q:Int):=by unfold wrap64;omega
    have HST:Hid ((r1,r2)=if (if Q<b1 then (Q,x) else (b1,b2)).1≤2 then (if Q<b1 then (Q,x) else (b1,b2)) else bsF (fun s=>(shC sf all (done ||| s)).1+1) ((ysL sf all done).drop (k+1)) (if Q<b1 then (Q,x) else (b1,b2))):=by
     show _=_;obtain⟨hkl,hkx⟩:=List.getElem?_eq_some_iff.1 hLk;rw[hb,List.drop_eq_getElem_cons hkl,hkx,bsF];have e:nxB (fun s=>(shC sf all (done ||| s)).1+1) x (b1,b2)=if Q<b1 then (Q,x) else (b1,b2):=by
      show (if (shC sf all (done ||| x)).1+1<b1 then ((shC sf all (done ||| x)).1+1,x) else (b1,b2))=_;rw[←hd,hq',←hQ]
     rw[e]
    have HQB:Hid (Q≤8∧b1≤7∧b2<64∧x<64):=⟨hQ8,hb7,hb64,hx64⟩;have HNP:Hid (∀b,(ssP w0 W2.heap.size (W2.heap.size+1) b∨b=W3.heap.size∨b=l'∨Y b)→b≠bk∧b≠W.heap.size+1+1+1+1+1):=by
     have h1:=HBK.out;have h2:=HWB.out.size;rintro b ((h | h | h) | h | h | h)
     ·omega
     ·omega
     ·omega
     ·omega
     ·omega
     have:=(hY b h).1;omega
    have HXN:Hid (∀I:Prop,I→∃X':Nat→Prop,(I∧∀b,¬X' b)∧∀b,X' b→X b∨A.heap.size≤b):=fun I h=>⟨fun _=>False,⟨h,fun _ h=>h⟩,fun _ h=>h.elim⟩
    have HSA:Hid (SB W bk S (.slice ao n cap) (.slice ao2 n2 cap2) (.slice ao3 n3 cap3) (.slice a4 n4 c4) (.map (some bm)) sf all done (b1,b2) A):=hS;have HL':Hid (l'=W3.heap.size+1):=hl';clear hb hLk hxm hxs hxf hx0 hd hS hX hY hnl hQ hQ8 hb7 hb64 hx64 hq7 HIT HCC hSS hS3 hk3 hB3 hb23 hs3 hz2 hl'
    gi_wp2
    refine⟨Kb.refl _ _,fun A2 hk2=>?_⟩;have hS2:=HSA.out.keep hk2 (fun y hy=>by show y≠l';have:=HL'.out;have:=HZ.out;omega) HBK.out.1;have HS2:Hid (SB W bk S (.slice ao n cap) (.slice ao2 n2 cap2) (.slice ao3 n3 cap3) (.slice a4 n4 c4) (.map (some bm)) sf all done (b1,b2) A2):=hS2;have HB2:Hid (Below w0.heap.size w0 A2):=HWB.out.trans (hS2.kb.below HWB.out.size fun b hb=>by show b≠bk;have:=HBK.out.2;omega);have t0:=hS2.tk.c0;have t1:=hS2.tk.c1;have t2:=hS2.tk.c2;have t3:=hS2.tk.c3;have t4:=hS2.tk.c4;have t5:=hS2.tk.c5;have t6:=hS2.tk.c6;have t7:=hS2.dn.cell;have t8:=hS2.kc.cell;clear hS2 hk2
    gi_wp2_with fail
    refine⟨trivial,(CallsIn.inRound _ (callsIn_wide.2 (HIH.out d hDx hlx _ HB2.out HS2.out.kn))).mono ?_⟩;rintro e A3 ⟨rfl,hkn,hkb⟩;rw[hq'];unfold crV
    dsimp only
    have hS3:=HS2.out.know hkb hkn HBK.out.1;have HS3:Hid (SB W bk S (.slice ao n cap) (.slice ao2 n2 cap2) (.slice ao3 n3 cap3) (.slice a4 n4 c4) (.map (some bm)) sf all done (b1,b2) A3):=hS3;have HK3:Hid (Kb (fun b=>ssP w0 W2.heap.size (W2.heap.size+1) b∨b=W3.heap.size∨b=l'∨Y b) A2 A3):=hkb.mono fun b _ h=>(HNP.out b h).1
    have c0:=hS3.bs.c0;have c1:=hS3.bs.c1;have f0:=hS3.bs.f 0;have f1:=hS3.bs.f 1
    dsimp only at c0 c1
    clear hS3 hkb hkn t0 t1 t2 t3 t4 t5 t6 t7 t8;have hfd:∀w,(Instr.field 112 (.agg #[.int i64 (q:Int),.int i64 (q2:Int)]) 0).run prog w=.ok (.int i64 (q:Int)) w:=fun w=>by kernel_rfl
    by_cases hlt:Q<b1
    ·have hi:(Q:Int)<(b1:Int):=Int.ofNat_lt.2 hlt;have HP:Hid (SB W bk S (.slice ao n cap) (.slice ao2 n2 cap2) (.slice ao3 n3 cap3) (.slice a4 n4 c4) (.map (some bm)) sf all done (Q,x) ((A3.setCell ⟨W.heap.size+1+1+1+1+1,0,none⟩ (.int i64 (Q:Int))).setCell ⟨W.heap.size+1+1+1+1+1,1,none⟩ (.int i64 (x:Int)))):=HS3.out.put HBK.out.1 (Q,x);have HKP:Hid (Kb (fun b=>ssP w0 W2.heap.size (W2.heap.size+1) b∨b=W3.heap.size∨b=l'∨Y b) A2 ((A3.setCell ⟨W.heap.size+1+1+1+1+1,0,none⟩ (.int i64 (Q:Int))).setCell ⟨W.heap.size+1+1+1+1+1,1,none⟩ (.int i64 (x:Int)))):=HK3.out.trans (kb_put (fun _ h=>(HNP.out _ h).2 rfl) _ _);by_cases h2:Q≤2
     ·have hi2:(Q:Int)≤2:=Int.ofNat_le.2 h2;have HE:Hid ((r1,r2)=(Q,x)):=by
       have:=HST.out;rw[if_pos hlt,if_pos h2] at this;exact this
      clear hlt h2
      gi_wp2
      exact⟨HKP.out,rfl,by rw[HE.out];exact HP.out⟩
     have hi2:¬(Q:Int)≤2:=fun h=>h2 (Int.ofNat_le.1 h)
     have HE:Hid ((r1,r2)=bsF (fun s=>(shC sf all (done ||| s)).1+1) ((ysL sf all done).drop (k+1)) (Q,x)):=by
      have:=HST.out;rw[if_pos hlt,if_neg h2] at this;exact this
     have HQ7:Hid (Q≤7):=Nat.le_trans (Nat.le_of_lt hlt) HQB.out.2.1;clear hlt h2
     gi_wp2
     exact⟨HKP.out,HXN.out _ ⟨Q,x,HP.out,HE.out,HQ7.out,HQB.out.2.2.2⟩⟩
    have hi:¬(Q:Int)<(b1:Int):=fun h=>hlt (Int.ofNat_lt.1 h)
    by_cases h2:b1≤2
    ·have hi2:(b1:Int)≤2:=Int.ofNat_le.2 h2;have HE:Hid ((r1,r2)=(b1,b2)):=by
      have:=HST.out;rw[if_neg hlt,if_pos h2] at this;exact this
     clear hlt h2
     gi_wp2
     exact⟨HK3.out,rfl,by rw[HE.out];exact HS3.out⟩
    have hi2:¬(b1:Int)≤2:=fun h=>h2 (Int.ofNat_le.1 h)
    have HE:Hid ((r1,r2)=bsF (fun s=>(shC sf all (done ||| s)).1+1) ((ysL sf all done).drop (k+1)) (b1,b2)):=by
     have:=HST.out;rw[if_neg hlt,if_neg h2] at this;exact this
    clear hlt h2
    gi_wp2
    exact⟨HK3.out,HXN.out _ ⟨b1,b2,HS3.out,HE.out,HQB.out.2.1,HQB.out.2.2.1⟩⟩
   case' done =>
    rintro X A ⟨⟨b,hS',hb,hb7,hb64⟩,hX⟩ hK;have hS:SB W bk S (.slice ao n cap) (.slice ao2 n2 cap2) (.slice ao3 n3 cap3) (.slice a4 n4 c4) (.map (some bm)) sf all done (r1,r2) A:=by
     rw[List.drop_length] at hb;have e:(r1,r2)=b:=hb;rw[e];exact hS'
    clear hS' hb hb7 hb64 hX hSS hS3 hk3 hB3 hb23 HIT HCC
   case' stop =>
    rintro c A ⟨rfl,hS⟩ hK;clear hSS hS3 hk3 hB3 hb23 HIT HCC
   all_goals
    obtain⟨M2,hM2,hMs2⟩:=hS.kn;obtain⟨w1,hup,hM3,hg3⟩:=run_update_M hM2 110 112 underlying110 (done:Int) (r1,r2);have hup2:(Instr.mapUpdate 110 (.map (some bk)) (.int i64 (done:Int)) (.agg #[.int i64 (r1:Int),.int i64 (r2:Int)])).run prog A=_:=hup;have hk3:Kb (fun x=>x≠bk) A w1:=(Kb.refl _ A).grown hg3 fun r e _ hx=>hx (by cases e;rfl)
    have hn3:KN sf all bk w1:=⟨_,hM3,fun d hd c hc=>by
     rw[mget_put setKey.qeq] at hc;by_cases e:setKey.q (d:Int) (done:Int)=true
     ·rw[if_pos e] at hc;have e2:=(setKey.qeq _ _).1 e;have e3:d=done:=by omega
      cases hc;rw[e3,HR.out]
     rw[if_neg e] at hc;exact hMs2 d hd c hc⟩
    have hS5:=hS.know hk3 hn3 HBK.out.1;have HS5:Hid (SB W bk S (.slice ao n cap) (.slice ao2 n2 cap2) (.slice ao3 n3 cap3) (.slice a4 n4 c4) (.map (some bm)) sf all done (r1,r2) w1):=hS5;have HDF:Hid (w1.heap[W3.heap.size]?=some (.deferred (some []))):=(hk3.block _ (Array.getElem?_eq_some_iff.1 hK).1 (show _≠_ by have:=HBK.out.1;have:=HZ.out;omega)).trans hK;have a0:=hS.bs.c0;have a1:=hS.bs.c1;have a2:=hS.kc.cell;have a3:=hS.dn.cell;have d0:=hS5.bs.c0;have d1:=hS5.bs.c1;have d2:=hS5.rs.c0;have d3:=hS5.rs.c1;have d4:=hS5.rs.f 0;have d5:=hS5.rs.f 1
    dsimp only at a0 a1 d0 d1
    clear hM2 hMs2 hM3 hg3 hup hk3 hn3 hS5 hS hK
    gi_wp2
    have hP:=HS5.out.rs.put (.int i64 (r1:Int)) (.int i64 (r2:Int));have hkb:Kb (fun x=>x≠W.heap.size+1+1+1) w1 ((w1.setCell ⟨W.heap.size+1+1+1,0,none⟩ (.int i64 (r1:Int))).setCell ⟨W.heap.size+1+1+1,1,none⟩ (.int i64 (r2:Int))):=kb_put (fun _ h=>h rfl) _ _
    generalize (w1.setCell ⟨W.heap.size+1+1+1,0,none⟩ (.int i64 (r1:Int))).setCell ⟨W.heap.size+1+1+1,1,none⟩ (.int i64 (r2:Int))=w5 at *
    have hz5:=HS5.out.sz;have hZ:=HZ.out;have hBk:=HBK.out.1;have hdf:=(hkb.block _ (Array.getElem?_eq_some_iff.1 HDF.out).1 (show _≠_ by omega)).trans HDF.out;have hkq:Kb (fun x=>x≠W3.heap.size) w5 (w5.putObj W3.heap.size (.deferred none)):=(Kb.refl _ _).putObj (fun _ h=>h rfl) _;have hP2:=hP.kb hkq (show _≠_ by omega);have hkn:KN sf all bk (w5.putObj W3.heap.size (.deferred none)):=(HS5.out.kn.kb hkb (show _≠_ by omega)).kb hkq (show _≠_ by omega);have hkw:Kb (fun x=>x≠bk) W (w5.putObj W3.heap.size (.deferred none)):=⟨hkq.os.trans (hkb.os.trans HS5.out.kb.os),hkq.tape.trans (hkb.tape.trans HS5.out.kb.tape),hkq.output.trans (hkb.output.trans HS5.out.kb.output),Nat.le_trans HS5.out.kb.size (Nat.le_trans hkb.size hkq.size),fun k h1 h2=>(hkq.block k (by have:=HS5.out.kb.size;have:=hkb.size;omega) (show _≠_ by omega)).trans ((hkb.block k (by have:=HS5.out.kb.size;omega) (show _≠_ by omega)).trans (HS5.out.kb.block k h1 h2))⟩;refine⟨by simp,.inl ⟨_,_,rfl,run_takeDeferred hdf,?_⟩⟩;have q0:=hP2.c0;have q1:=hP2.c1;clear hs3 hZ hz5 hBk hdf hkb hkq hP hP2 hz2;exact⟨_,(by simp[results,results41,go_sem, *]),rfl,hkn,hkw⟩
end
end
section
open Go.RowKit
def FwAsks (w:World)(g:Nat)(Hs:HoQ)(Fs:Nat→Nat→List Ft):Prop:=
 ∀ (z:Nat) (hz:z<Hs.length) (h:Nat),h<16→∀W:World,Below w.heap.size w W→Calls prog 60 #[.agg #[.string Hs[z].1,.int i64 Hs[z].2.1,.int i64 Hs[z].2.2],.int i64 h,.pointer (some ⟨g,0,none⟩)] W fun e W' =>
   ∃gi lb,e=.returned (.func (Fn.func gi) #[] lb)∧(∀args w,(callFunc gi args).run prog w=.ok (.enter gi args) w)∧ItF prog gi lb FtV W'.heap.size (Fs z h) W'∧Below W.heap.size W W'
theorem fwbrk_any (g:Nat)(ao2:AdQ)(n2 cap2:Nat)(a4:AdQ)(n4 c4:Nat)(Hs:HoQ)(Fs:Nat→Nat→List Ft)(l:List Wi)(w:World)
 (hH:GS hstE w (.slice ao2 n2 cap2) Hs) (hl:GS wisE w (.slice a4 n4 c4) l) (hnm:∀h∈Hs,h.1.size≤1000000) (hfc:FwAsks w g Hs Fs):
 Calls prog 59 #[.slice ao2 n2 cap2,.slice a4 n4 c4,.func (Fn.func 60) #[] #[.pointer (some ⟨g,0,none⟩)]] w fun e w'=>∃held p,e=.returned (.tuple #[.agg #[.int i64 p.1,.string p.2.1,.int i64 p.2.2],.bool (decide (held<l.length))])∧Fb l Hs Fs Hs.length 0 held p∧Below w.heap.size w w':=by
 have hX:=rbx_new w;obtain⟨w0,hw0⟩:∃W,(w.alloc (.cells #[.int i64 0,.string ⟨#[]⟩,.int i64 0] 43)).alloc (.cells #[.int i64 0,.string ⟨#[]⟩,.int i64 0] 43)=W:=⟨_,rfl⟩;rw[hw0] at hX;have HW0:Hid ((w.alloc (.cells #[.int i64 0,.string ⟨#[]⟩,.int i64 0] 43)).alloc (.cells #[.int i64 0,.string ⟨#[]⟩,.int i64 0] 43)=w0):=hw0;have HX:Hid (Rbx w w0 (0,ByteArray.empty,0)):=hX;have HLW:Hid (∀W,Below w.heap.size w W→GS wisE W (.slice a4 n4 c4) l):=fun W hb=>hl.later hb
 have HFC:Hid (FwAsks w g Hs Fs):=hfc;have HNM:Hid (∀h∈Hs,h.1.size≤1000000):=hnm;obtain⟨_,_,_,e5,hGn,hGm,hGc,hGa⟩:=hl.form;cases e5;obtain⟨_,_,_,e6,hHn,hHm,_,hHa⟩:=hH.form;cases e6;have HGN:Hid (l.length=n4):=hGn;have HCAP:Hid (n4≤c4):=hGc;have HHN:Hid (Hs.length=n2):=hHn;have HHA:Hid (0<n2→∃g o,ao2=some ⟨g,o,none⟩∧GAt hstE w g o Hs∧cap2≤maxLen):=hHa;have hn4:n4≤maxLen:=hGm;have hn2:n2≤maxLen:=hHm;unfold maxLen at hn4 hn2;have HF0:Hid (Fb l Hs Fs 0 0 n4 (0,ByteArray.empty,0)):=by
  have h:=fb_0 (l:=l) (Hs:=Hs) (Fs:=Fs);rw[hGn] at h;exact h
 clear hX hw0 hl hH hfc hnm hGn hGm hGc hGa hHn hHm hHa;go_enter func59,ntmps59;go_upto_region 2 with fail;rw[HW0.out];clear HW0;go_wp2
 go_loopw [9,18] (fun hv i wr=>∃(z hd:Nat) (p:Int×ByteArray×Int),z≤n2∧hv=.int i64 hd∧i=.int i64 z∧Fb l Hs Fs z 0 hd p∧Rbx w wr p) (fun _ i _=>n2-(intOf i).toNat)
 case atStart=>exact⟨0,n4,(0,ByteArray.empty,0),by omega,rfl,rfl,HF0.out,HX.out⟩
 case round =>
  obtain⟨z,hd,p,hz,rfl,rfl,hF,hR⟩:=hrel;have HF:Hid (Fb l Hs Fs z 0 hd p):=hF;have HR:Hid (Rbx w wr p):=hR;have hdle:hd≤n4:=by rw[←HGN.out];exact hF.le
  clear hF hR;by_cases hlt:z<n2
  ·obtain⟨g2,o2,hao2,hc2,_⟩:=HHA.out (by omega);subst hao2;obtain⟨z0,z1,z2,hzl,hZk,p0,p1,p2⟩:=hst_at (hc2.later HR.out.below) HHN.out hlt;have HZK:Hid (Hs[z]=(z0,(z1,z2))):=hZk;have HZD:Hid (Hs.getD z zeO=(z0,(z1,z2))):=by
    show _=_;rw[getO hzl,hZk]
   have HSZ:Hid (z0.size≤1000000):=by
    have:=HNM.out Hs[z] (List.getElem_mem hzl);rw[hZk] at this;exact this
   have hba:Below wr.heap.size wr (wr.alloc (.cells #[Value.string z0,.int i64 z1,.int i64 z2] 77)):=(bRQ _ _).alloc (nLQ _) _;have hhb:=hsbox_new wr z0 z1 z2 77;have hR2:=HR.out.later hba;obtain⟨w2,hw2⟩:∃W,wr.alloc (.cells #[Value.string z0,.int i64 z1,.int i64 z2] 77)=W:=⟨_,rfl⟩;obtain⟨gh,hgh⟩:∃q,q=wr.heap.size:=⟨_,rfl⟩;rw[hw2] at hhb hR2;rw[←hgh] at hhb;have HW2:Hid (wr.alloc (.cells #[Value.string z0,.int i64 z1,.int i64 z2] 77)=w2):=hw2;have HGH:Hid (wr.heap.size=gh):=hgh.symm;have HHB:Hid (HsBox w2 gh z0 z1 z2):=hhb;have HR2:Hid (Rbx w w2 p):=hR2;have HLG:Hid (w.heap.size+1<gh):=by
    show _<_;rw[hgh];exact HR.out.p.lt
   clear hc2 hZk hba hhb hR2 hw2 hgh HR;go_upto_region 6 with fail;rw[HW2.out,HGH.out];clear HW2 HGH p0 p1 p2;go_wp2
   go_loopw [9,22] (fun hv i wr=>∃(h hd:Nat) (p:Int×ByteArray×Int),h≤16∧hv=.int i64 hd∧i=.int i64 h∧Fb l Hs Fs z h hd p∧Rbx w wr p∧HsBox wr gh z0 z1 z2) (fun _ i _=>16-(intOf i).toNat)
   case atStart=>exact⟨0,hd,p,by omega,rfl,rfl,HF.out,HR2.out,HHB.out⟩
   case round =>
    clear HF HR2 HHB hdle;obtain⟨h,hd,p,hh,rfl,rfl,hF,hR,hS⟩:=hrel;have HF:Hid (Fb l Hs Fs z h hd p):=hF;have HR:Hid (Rbx w wr p):=hR;have HS:Hid (HsBox wr gh z0 z1 z2):=hS;have hdle:hd≤n4:=by rw[←HGN.out];exact hF.le
    clear hF hR hS;by_cases hlt16:h<16
    ·have HGT:Hid (∀W,Below wr.heap.size wr W→GS wisE W (.slice a4 hd c4) (l.take hd)):=fun W hb=>(HLW.out W (HR.out.below.trans (hb.mono HR.out.below.size))).take hdle
     obtain⟨_,_,_,e7,hTn,hTm,_,hTa⟩:=(HGT.out wr (bRQ _ _)).form;cases e7;have HTN:Hid ((l.take hd).length=hd):=hTn;have HTM:Hid (hd≤maxLen):=hTm;have HTA:Hid (0<hd→∃g o,a4=some ⟨g,o,none⟩∧GAt wisE wr g o (l.take hd)∧c4≤maxLen):=hTa;have HASK:Hid (wisAsks wr 92 (.pointer (some ⟨gh,0,none⟩)) (fun u=>abW u z0)):=fun y0 y1 y2 y3 W hb=>first1_any y0 y1 y2 y3 gh z0 z1 z2 W (HS.out.later hb)
     obtain⟨c,hc⟩:∃c,c=(l.take hd).any (fun u=>abW u z0):=⟨_,rfl⟩;have HC:Hid ((l.take hd).any (fun u=>abW u z0)=c):=hc.symm;obtain⟨s0,s1,s2⟩:=HS.out;have hcap:=HCAP.out;have nb0:(0:Int)≤(hd:Int):=by omega
     have nb1:(hd:Int)≤(c4:Int):=by omega
     have nb2:(hd:Int)≤(n4:Int):=by omega
     clear hc hTn hTm hTa
     go_wp2_with fail
     refine (wis_hasF a4 hd c4 _ _ (fun u=>abW u z0) (l.take hd) _ HTN.out HTM.out HTA.out (enters_of func92 (by kernel_rfl) rfl) HASK.out).mono ?_;rintro e w3 ⟨rfl,hb3⟩;rw[HC.out];have HR3:Hid (Rbx w w3 p):=HR.out.later hb3;have HS3:Hid (HsBox w3 gh z0 z1 z2):=HS.out.later hb3;have HGT3:Hid (∀W,Below w3.heap.size w3 W→GS wisE W (.slice a4 hd c4) (l.take hd)):=fun W hb=>HGT.out W (hb3.trans (hb.mono hb3.size))
     clear hb3 s0 s1 s2 HTN HTM HTA HASK HGT HR HS;cases c with
     | false =>
       have HFO:Hid (Fb l Hs Fs (z+1) 0 hd p):=HF.out.off (by rw[HZD.out];exact HC.out);go_wp2;go_roundw
       case rel=>exact⟨z+1,hd,p,by omega,rfl,by go_num,HFO.out,HR3.out⟩
       case measure=>simp[intOf];omega
     | true =>
       obtain⟨N,hN⟩:∃N,N=hwN (l.take hd) z0 (Fs z h):=⟨_,rfl⟩;have HN:Hid (hwN (l.take hd) z0 (Fs z h)=N):=hN.symm;have HFCW:Hid (∀W,Below w3.heap.size w3 W→Calls prog 60 #[.agg #[.string z0,.int i64 z1,.int i64 z2],.int i64 h,.pointer (some ⟨g,0,none⟩)] W fun e W' =>
        ∃gi lb,e=.returned (.func (Fn.func gi) #[] lb)∧(∀args w,(callFunc gi args).run prog w=.ok (.enter gi args) w)∧ItF prog gi lb FtV W'.heap.size (Fs z h) W'∧Below W.heap.size W W'):=fun W hb=>by
        have h:=HFC.out z hzl h hlt16 W (HR3.out.below.trans (hb.mono HR3.out.below.size));rw[HZK.out] at h;exact h
       have HHOL:Hid (∀(gi:Nat) (lb:Array Value) (W:World),(∀args w,(callFunc gi args).run prog w=.ok (.enter gi args) w)→ItF prog gi lb FtV W.heap.size (Fs z h) W→Below w3.heap.size w3 W→Calls prog 94 #[.slice a4 hd c4,.string z0,.func (Fn.func gi) #[] lb] W fun e W'=>e=.returned (.int i64 N)∧Below W.heap.size W W'):=fun gi lb W eg hit hb=>by
        rw[hN];exact holding_any a4 hd c4 (l.take hd) z0 gi lb (Fs z h) W.heap.size W (HGT3.out W hb) eg hit (nLQ _)
       have HSW:Hid (∀W,Below w3.heap.size w3 W→W.cell? ⟨gh,0,none⟩=some (.string z0)∧W.cell? ⟨gh,1,none⟩=some (.int i64 z1)∧W.cell? ⟨gh,2,none⟩=some (.int i64 z2)):=fun W hb=>HS3.out.later hb
       obtain⟨s0,s1,s2⟩:=HS3.out;clear hN;go_upto_region 10 with fail
       go_cut [13] from 23 to 51 (fun v w'=>v=.int i64 N∧Below w3.heap.size w3 w')
       case first =>
        go_region_held3 (fun W=>W.cell? ⟨gh,0,none⟩=some (.string z0)∧W.cell? ⟨gh,1,none⟩=some (.int i64 z1)∧W.cell? ⟨gh,2,none⟩=some (.int i64 z2))
         (first | (with_reducible assumption) | (with_reducible exact HSW.out _ (Below.drew (bRQ _ _))) | (with_reducible exact HSW.out _ HBX.out) | (with_reducible exact HSW.out _ HBY.out))
         (first
          | (go_at_call 60;refine (HFCW.out _ (Below.drew (bRQ _ _))).mono ?_;rintro e w' ⟨gi,lb,rfl,eg,hit,hb⟩;have HBX:Hid (Below w3.heap.size w3 w'):=bdrew hb;have HEG:Hid (∀args w,(callFunc gi args).run prog w=.ok (.enter gi args) w):=eg;have HIT:Hid (ItF prog gi lb FtV w'.heap.size (Fs z h) w'):=hit;clear hb eg hit)
          | (go_at_call 94;refine (HHOL.out _ _ _ HEG.out HIT.out HBX.out).mono ?_;rintro e w'' ⟨rfl,hb⟩;have HBY:Hid (Below w3.heap.size w3 w''):=HBX.out.trans (hb.mono HBX.out.size);clear hb))
        all_goals (go_wp2_with fail;go_meet)
        all_goals exact⟨rfl,HBY.out⟩
       case rest =>
        obtain⟨rfl,hbw⟩:=hcut;have HR4:Hid (Rbx w wc p):=HR3.out.later hbw;have HS4:Hid (HsBox wc gh z0 z1 z2):=HS3.out.later hbw;clear hbw HR3 HS3 HGT3 HFCW HHOL HSW s0 s1 s2;obtain⟨s0,s1,s2⟩:=HS4.out;by_cases hNl:N<hd
        ·have HFL:Hid (Fb l Hs Fs z (h+1) N ((N:Int),z0,(h:Int))):=by
          have:=HF.out.less hlt16 hzl (by rw[HZD.out];exact HN.out) hNl;rw[HZD.out] at this;exact this
         have dN:decide ((N:Int)<(hd:Int))=true:=by simp;omega
         go_wp2_with fail
         refine (clone_any z0 _ HSZ.out).mono ?_;rintro e w6 ⟨rfl,hb6⟩;have HR6:Hid (Rbx w w6 p):=HR4.out.later hb6;have HS6:Hid (HsBox w6 gh z0 z1 z2):=HS4.out.later hb6;obtain⟨r0,r1,r2,rf⟩:=HR6.out.p;have f0:=rf 0;have f1:=rf 1;have f2:=rf 2;have HSP:Hid (∀a b c,HsBox (put3 w6 (w.heap.size+1) a b c) gh z0 z1 z2):=fun a b c=>by
          have o:∀(W:World) (i j:Nat) (x:Value),(W.setCell ⟨w.heap.size+1,i,none⟩ x).cell? ⟨gh,j,none⟩=W.cell? ⟨gh,j,none⟩:=fun W i j x=>World.cell?_setCell_other _ _ _ _ (by intro e;injection e with e1;have:=HLG.out;omega)
          unfold put3;obtain⟨x0,x1,x2⟩:=HS6.out;exact⟨by rw[o,o,o];exact x0,by rw[o,o,o];exact x1,by rw[o,o,o];exact x2⟩
         clear hb6 rf s0 s1 s2 hNl;go_wp2;go_roundw
         case rel=>exact⟨h+1,N,((N:Int),z0,(h:Int)),by omega,rfl,by go_num,HFL.out,HR6.out.put ((N:Int),z0,(h:Int)),HSP.out _ _ _⟩
         case measure=>simp[intOf];omega
        have HFS:Hid (Fb l Hs Fs z (h+1) hd p):=HF.out.same (by rw[HZD.out,HN.out];exact hNl);have dN:decide ((N:Int)<(hd:Int))=false:=by simp;omega
        have hNl2:hd≤N:=by omega
        go_wp2;go_roundw
        case rel=>exact⟨h+1,hd,p,by omega,rfl,by go_num,HFS.out,HR4.out,HS4.out⟩
        case measure=>simp[intOf];omega
    obtain rfl:h=16:=by omega
    have HFO:Hid (Fb l Hs Fs (z+1) 0 hd p):=HF.out.host;go_wp2;go_roundw
    case rel=>exact⟨z+1,hd,p,by omega,rfl,by go_num,HFO.out,HR.out⟩
    case measure=>simp[intOf];omega
  obtain rfl:z=n2:=by omega
  obtain⟨P1,P2,P3⟩:=p;obtain⟨q0,q1,q2,_⟩:=HR.out.p;obtain⟨r0,r1,r2,rf⟩:=HR.out.r;have f0:=rf 0;have f1:=rf 1;have f2:=rf 2;have HB:Hid (Below w.heap.size w wr):=HR.out.below;have HFE:Hid (Fb l Hs Fs Hs.length 0 hd (P1,P2,P3)):=by
   have h:=HF.out;rw[←HHN.out] at h;exact h
  dsimp only at q0 q1 q2
  clear rf;go_wp2;refine bodyPost_ret (v:=.tuple #[.agg #[.int i64 P1,.string P2,.int i64 P3],.bool (decide ((hd:Int)<(n4:Int)))]) (by simp[results,results59,go_sem, *]) rfl ⟨hd,(P1,P2,P3),?_,HFE.out,below_put3 HB.out _ (nLQ _) _ _ _⟩;rw[show decide (hd<l.length)=decide ((hd:Int)<(n4:Int)) by rw[HGN.out];simp]
end
section
open Go.RowKit Go.Shelf
attribute [local go_sem] Oper.semAt_some
theorem nm_small {a:ByteArray}(h:nmB a=true):a.size≤6:=by
 simp only[nmB,Bool.and_eq_true,decide_eq_true_eq] at h;exact h.2.1
structure NIn (w:World)(g:Nat)(S:Int)(v1 v2 v3:Value)(Ls:LkQ)(Hs:HoQ)(Ts:TsQ):Prop where
 box:NeBox w g S v1 v2 v3
 l:GS lnkE w v1 Ls
 h:GS hstE w v2 Hs
 t:TS w v3 Ts
theorem NIn.later {w w':World}{g:Nat}{S:Int}{v1 v2 v3:Value}{Ls:LkQ}{Hs:HoQ}{Ts:TsQ}(k:NIn w g S v1 v2 v3 Ls Hs Ts)(hb:Below w.heap.size w w'):NIn w' g S v1 v2 v3 Ls Hs Ts:=
 ⟨k.box.later hb,k.l.later hb,k.h.later hb,k.t.later hb⟩
theorem values1_in (n:Nat)(h3:3≤n)(l n₀:Nat)(F:Ft)(b Bs:Nat)(ao4:AdQ)(n4 cap4:Nat)(J:Nat→(Nat→Prop)→World→Prop)(Jx:World→Prop)(W:World)(hB:Boxed W Bs 96 (.slice (some ⟨b,0,none⟩) 1 1))(hf:FaBox W b F.1 F.2.1 (.slice ao4 n4 cap4))(hG:GS hopE W (.slice ao4 n4 cap4) F.2.2)
 (h0:J 0 (fun _=>False) W) (hab:∀k X A A',J k X A→Kb (fun b=>b<W.heap.size∨X b) A A'→J k X A')
 (hY:∀k X A args x (Y:Nat→Prop),J k X A→[F][k]?=some x→FtV A args x→W.heap.size≤A.heap.size→(∀b,Y b→W.heap.size≤b∧¬X b)→YieldAt Fence.wide 0 prog l args A fun e A' =>
  (e=.returned (.bool true)∧(∃X',J (k+1) X' A'∧∀b,X' b→X b∨A.heap.size≤b)∧Kb (fun b=>b<n₀∨Y b) A A')∨(e=.returned (.bool false)∧Jx A'∧Kb (fun b=>b<n₀∨Y b) A A')):
 CallsIn Fence.wide n prog 96 #[.func (.yield l) #[] #[],.pointer (some ⟨Bs,0,none⟩)] W fun e W'=>(∃v,e=.returned v)∧((∃X,J 1 X W')∨Jx W'):=by
 have h1:1≤n:=by omega
 obtain⟨F1,F2,F3⟩:=F
 dsimp only at hf hG
 have hBA:Below W.heap.size W (W.alloc (.cells #[.int i64 F1,.string F2,.slice ao4 n4 cap4] 83)):=(bRQ _ _).alloc (nLQ _) _;have hJ0:=hab _ _ _ _ h0 (Kb.of_below hBA (fun b hb _=>hb));have hy0:=yield_any (m':=n-1) (hY 0 _ (W.alloc (.cells #[.int i64 F1,.string F2,.slice ao4 n4 cap4] 83)) #[.agg #[.int i64 F1,.string F2,.slice ao4 n4 cap4]] (F1,F2,F3) (fun _=>False) hJ0 rfl ⟨ao4,n4,cap4,rfl,hG.later hBA⟩ hBA.size (fun _ h=>h.elim));obtain⟨fn,tmps,assign,body,hy,hR⟩:=hy0;have HR:Hid (RoundIn Fence.wide (n-1) prog l fn tmps assign body (W.alloc (.cells #[.int i64 F1,.string F2,.slice ao4 n4 cap4] 83)) _):=hR;obtain⟨f0,f1,f2⟩:=hf;have hc0:=hB.cell;refine callsIn_of_wp func96 rfl trivial ?_ rfl;simp only[ntmps96,List.size_toArray,List.length_cons,List.length_nil,Nat.reduceAdd,Nat.reduceSub,Array.replicate_succ,Array.replicate_zero,List.push_toArray,List.append_toArray,List.nil_append,List.cons_append];clear hY hBA hJ0 hB hG hR h0 hab
 gi_wp2
 gi_loopw [7] (fun i wr=>∃k:Nat,k≤1∧i=.int i64 k∧(k=0→wr=W)∧(k=1→∃X,J 1 X wr)) (fun i _=>1-(intOf i).toNat)
 case atStart=>exact⟨0,by omega,rfl,fun _=>rfl,fun h=>by omega⟩
 case round =>
  obtain⟨k,hk,rfl,hk0,hk1⟩:=hrel;by_cases hlt:k<1
  ·obtain rfl:k=0:=by omega
   have hw:=hk0 rfl;subst hw;clear hk0 hk1
   gi_wp2
   refine HR.out.mono ?_;rintro e W3 (⟨rfl,⟨X',hJ3,_⟩,hk3⟩ | ⟨rfl,hJx3,_⟩)
   ·have HJ3:Hid (∃X,J 1 X W3):=⟨X',hJ3⟩;clear hJ3 hk3
    gi_wp2
    go_roundw
    case rel=>exact⟨1,by omega,by go_num,fun h=>by omega,fun _=>HJ3.out⟩
    case measure=>simp[intOf]
   gi_wp2
   refine bodyPost_ret (results_none rfl _ _ _) rfl ?_;exact⟨⟨_,rfl⟩,.inr hJx3⟩
  obtain rfl:k=1:=by omega
  have HJ:Hid (∃X,J 1 X wr):=hk1 rfl;clear hk0 hk1
  gi_wp2
  go_end0
  exact⟨⟨_,rfl⟩,.inl HJ.out⟩
theorem values_it (F:Ft)(b Bs:Nat)(ao4:AdQ)(n4 cap4:Nat)(w:World)(hB:Boxed w Bs 96 (.slice (some ⟨b,0,none⟩) 1 1))(hf:FaBox w b F.1 F.2.1 (.slice ao4 n4 cap4))(hG:GS hopE w (.slice ao4 n4 cap4) F.2.2):
 ItF prog 96 #[.pointer (some ⟨Bs,0,none⟩)] FtV w.heap.size [F] w:=by
 intro l J Jx W hW hn h0 hlt hab hax hY;exact (callsIn_wide (n:=3)).1 (values1_in 3 (by omega) l w.heap.size F b Bs ao4 n4 cap4 J Jx W ((Kb.of_below hW (fun b hb _=>hb):Kb (fun _=>True) w W).boxed hB trivial) (hf.later hW) (hG.later hW) h0 hab hY)
theorem values_any (a:AdQ)(len cap:Nat)(w:World):
 Calls prog 61 #[.slice a len cap] w fun e w'=>e=.returned (.func (Fn.func 96) #[] #[.pointer (some ⟨w.heap.size,0,none⟩)])∧w'=w.alloc (.cells #[.slice a len cap] 96):=by
 go_enter func61,ntmps61;go_wp2;go_ret;exact⟨rfl,rfl⟩
theorem fates_any (m:ByteArray)(x y h:Int)(g:Nat)(S:Int)(ao:AdQ)(n cap:Nat)(ao2:AdQ)(n2 cap2:Nat)(ao3:AdQ)(n3 cap3:Nat)(Ls:LkQ)(Hs:HoQ)(Ts:TsQ)(w:World)
 (hI:NIn w g S (.slice ao n cap) (.slice ao2 n2 cap2) (.slice ao3 n3 cap3) Ls Hs Ts) (hN:ntN S Ls Hs Ts=0) (hx:spB S (x,y)=true):
 Calls prog 60 #[.agg #[.string m,.int i64 x,.int i64 y],.int i64 h,.pointer (some ⟨g,0,none⟩)] w fun e w'=>∃gi lb,e=.returned (.func (Fn.func gi) #[] lb)∧(∀args w,(callFunc gi args).run prog w=.ok (.enter gi args) w)∧ItF prog gi lb FtV w'.heap.size [frF Ls Hs Ts (x,y) h] w'∧Below w.heap.size w w':=by
 have hb0:Below w.heap.size w (w.alloc (.cells #[.string m,.int i64 x,.int i64 y] 77)):=(bRQ _ _).alloc (nLQ _) _;have hI0:=hI.later hb0;have hs:=hsbox_new w m x y 77;obtain⟨w0,hw0⟩:∃W,w.alloc (.cells #[.string m,.int i64 x,.int i64 y] 77)=W:=⟨_,rfl⟩;rw[hw0] at hb0 hI0 hs;have HW0:Hid (w.alloc (.cells #[.string m,.int i64 x,.int i64 y] 77)=w0):=hw0;have HB0:Hid (Below w.heap.size w w0):=hb0;have HI0:Hid (NIn w0 g S (.slice ao n cap) (.slice ao2 n2 cap2) (.slice ao3 n3 cap3) Ls Hs Ts):=hI0;have HN:Hid (ntN S Ls Hs Ts=0):=hN;have HSP:Hid (spB S (x,y)=true):=hx;obtain⟨F,hF⟩:∃F,F=frF Ls Hs Ts (x,y) h:=⟨_,rfl⟩;have HF:Hid (frF Ls Hs Ts (x,y) h=F):=hF.symm;rw[←hF];obtain⟨b0,b1,b2,b3⟩:=hI0.box;obtain⟨s0,s1,s2⟩:=hs;clear hb0 hI0 hI hN hx hw0 hF;go_enter func60,ntmps60;go_upto_region 1 with fail;rw[HW0.out];clear HW0
 go_wp2_with fail
 refine (follow_any S ao n cap ao2 n2 cap2 ao3 n3 cap3 Ls Hs Ts x y h _ HI0.out.l HI0.out.h HI0.out.t HN.out HSP.out).mono ?_;rintro e w1 ⟨ao4,n4,cap4,rfl,hown,hb1⟩;rw[HF.out] at hown;rw[HF.out];have hG:GS hopE w1 (.slice ao4 n4 cap4) F.2.2:=own_GS (E:=hopE) hown;have HB1:Hid (Below w.heap.size w w1):=HB0.out.trans (hb1.mono HB0.out.size);have HG:Hid (GS hopE w1 (.slice ao4 n4 cap4) F.2.2):=hG;obtain⟨F1,hF1⟩:∃q,q=F.1:=⟨_,rfl⟩;obtain⟨F2,hF2⟩:∃q,q=F.2.1:=⟨_,rfl⟩;rw[←hF1,←hF2];have HFV:Hid (F.1=F1∧F.2.1=F2):=⟨hF1.symm,hF2.symm⟩;clear hF1 hF2 hown hb1 hG b0 b1 b2 b3 s0 s1 s2
 go_wp2_with fail
 refine (values_any _ _ _ _).mono ?_;rintro e w2 ⟨rfl,hw2⟩;have hal:Below w1.heap.size w1 (w1.alloc (.cells #[.int i64 F1,.string F2,.slice ao4 n4 cap4] 83)):=(bRQ _ _).alloc (nLQ _) _;have hal2:Below (w1.alloc (.cells #[.int i64 F1,.string F2,.slice ao4 n4 cap4] 83)).heap.size (w1.alloc (.cells #[.int i64 F1,.string F2,.slice ao4 n4 cap4] 83)) w2:=by rw[hw2];exact (bRQ _ _).alloc (nLQ _) _
 have hbx:Boxed w2 (w1.alloc (.cells #[.int i64 F1,.string F2,.slice ao4 n4 cap4] 83)).heap.size 96 (.slice (some ⟨w1.heap.size,0,none⟩) 1 1):=by rw[hw2];exact Boxed.new _ _ _
 have hfb:FaBox w2 w1.heap.size F.1 F.2.1 (.slice ao4 n4 cap4):=by rw[HFV.out.1,HFV.out.2];exact (fabox_new w1 F1 F2 _ 83).later hal2
 have HIT:Hid (ItF prog 96 #[.pointer (some ⟨(w1.alloc (.cells #[.int i64 F1,.string F2,.slice ao4 n4 cap4] 83)).heap.size,0,none⟩)] FtV w2.heap.size [F] w2):=values_it F _ _ ao4 n4 cap4 w2 hbx hfb ((HG.out.later hal).later hal2);have HB2:Hid (Below w.heap.size w w2):=HB1.out.trans ((hal.trans (hal2.mono hal.size)).mono HB1.out.size);clear hw2 hal hal2 hbx hfb;go_wp2;go_ret;refine⟨_,_,rfl,enters_of func96 (by kernel_rfl) rfl,?_,HB2.out⟩;have h:=HIT.out;rw[World.size_alloc] at h;exact h
theorem broken_any (g:Nat)(S:Int)(ao:AdQ)(n cap:Nat)(ao2:AdQ)(n2 cap2:Nat)(ao3:AdQ)(n3 cap3:Nat)(a4:AdQ)(n4 c4:Nat)(Ls:LkQ)(Hs:HoQ)(Ts:TsQ)(l:List Wi)(w:World)
 (hI:NIn w g S (.slice ao n cap) (.slice ao2 n2 cap2) (.slice ao3 n3 cap3) Ls Hs Ts) (hN:ntN S Ls Hs Ts=0) (hl:GS wisE w (.slice a4 n4 c4) l):
 Calls prog 59 #[.slice ao2 n2 cap2,.slice a4 n4 c4,.func (Fn.func 60) #[] #[.pointer (some ⟨g,0,none⟩)]] w fun e w'=>e=.returned (.tuple #[.agg #[.int i64 (prV Hs (brW Ls Hs Ts l Hs l.length)).1,.string (prV Hs (brW Ls Hs Ts l Hs l.length)).2.1,.int i64 (prV Hs (brW Ls Hs Ts l Hs l.length)).2.2],.bool (brW Ls Hs Ts l Hs l.length).isSome])∧Below w.heap.size w w':=by
 have hHG:=(tp_0 (nt_0 hN).1).2.2.2.2.1;refine (fwbrk_any g ao2 n2 cap2 a4 n4 c4 Hs (fun z h=>[frF Ls Hs Ts (Hs.getD z zeO).2 (h:Int)]) l w hI.h hl (fun h hh=>?_) ?_).mono ?_
 ·have:=nm_small (hHG h hh).1;omega
 ·intro z hz h h16 W hW;have e:Hs.getD z zeO=Hs[z]:=getO hz
  dsimp only
  rw[e];exact fates_any Hs[z].1 Hs[z].2.1 Hs[z].2.2 h g S ao n cap ao2 n2 cap2 ao3 n3 cap3 Ls Hs Ts W (hI.later hW) hN (hHG _ (List.getElem_mem hz)).2
 rintro e w' ⟨held,p,rfl,hF,hb⟩;obtain⟨e1,e2⟩:=fb_br hF;rw[e1,e2];exact⟨rfl,hb⟩
structure HoBox (w W:World)(S:Int)(v1 v2 v3:Value):Prop where
 below:Below w.heap.size w W
 n:NeBox W w.heap.size S v1 v2 v3
 p:PrBox w W (w.heap.size+1) 0 ⟨#[]⟩ 0
theorem hobox_new (w:World)(S:Int)(v1 v2 v3:Value):HoBox w ((w.alloc (.cells #[.int i64 S,v1,v2,v3] 28)).alloc (.cells #[.int i64 0,.string ⟨#[]⟩,.int i64 0] 43)) S v1 v2 v3:=by
 have e1:(w.alloc (.cells #[.int i64 S,v1,v2,v3] 28)).heap.size=w.heap.size+1:=by simp
 have hb:∀(W:World) (o:Obj),Below W.heap.size W (W.alloc o):=fun W o=>(bRQ _ _).alloc (nLQ _) _
 have hn:=(nebox_new w S v1 v2 v3 28).later (hb _ (Obj.cells #[.int i64 0,.string ⟨#[]⟩,.int i64 0] 43));have hB:=((Below.refl w.heap.size w).alloc (nLQ _) (Obj.cells #[.int i64 S,v1,v2,v3] 28)).alloc (by rw[e1];omega) (Obj.cells #[.int i64 0,.string ⟨#[]⟩,.int i64 0] 43)
 generalize w.alloc (.cells #[.int i64 S,v1,v2,v3] 28)=X at e1 hn hB
 have hr:=prbox_new X w 0 ⟨#[]⟩ 0;rw[e1] at hr;exact⟨hB,hn,hr⟩
theorem HoBox.later {w W W':World}{S:Int}{v1 v2 v3:Value}(k:HoBox w W S v1 v2 v3)(hb:Below W.heap.size W W'):HoBox w W' S v1 v2 v3:=
 ⟨k.below.trans (hb.mono k.below.size),k.n.later hb,k.p.later hb⟩
theorem holds_any (S:Int)(ao:AdQ)(n cap:Nat)(ao2:AdQ)(n2 cap2:Nat)(ao3:AdQ)(n3 cap3:Nat)(a4:AdQ)(n4 c4:Nat)(Ls:LkQ)(Hs:HoQ)(Ts:TsQ)(l:List Wi)(w:World)
 (hL:GS lnkE w (.slice ao n cap) Ls) (hH:GS hstE w (.slice ao2 n2 cap2) Hs) (hT:TS w (.slice ao3 n3 cap3) Ts) (hl:GS wisE w (.slice a4 n4 c4) l):
 Calls prog 35 #[.agg #[.int i64 S,.slice ao n cap,.slice ao2 n2 cap2,.slice ao3 n3 cap3],.slice a4 n4 c4] w fun e w'=>e=.returned (.tuple #[.agg #[.int i64 (wiV S Ls Hs Ts l).1,.string (wiV S Ls Hs Ts l).2.1,.int i64 (wiV S Ls Hs Ts l).2.2],noV (wiN S Ls Hs Ts l)])∧Below w.heap.size w w':=by
 obtain⟨R,hR⟩:∃R,R=wiN S Ls Hs Ts l:=⟨_,rfl⟩;obtain⟨V,hV⟩:∃V,V=wiV S Ls Hs Ts l:=⟨_,rfl⟩;have HR:Hid (R=wiN S Ls Hs Ts l):=hR;have HV:Hid (V=wiV S Ls Hs Ts l):=hV;rw[←hR,←hV];have HLW:Hid (∀W,Below w.heap.size w W→GS lnkE W (.slice ao n cap) Ls):=fun W hb=>hL.later hb
 have HHW:Hid (∀W,Below w.heap.size w W→GS hstE W (.slice ao2 n2 cap2) Hs):=fun W hb=>hH.later hb
 have HTW:Hid (∀W,Below w.heap.size w W→TS W (.slice ao3 n3 cap3) Ts):=fun W hb=>hT.later hb
 have HlW:Hid (∀W,Below w.heap.size w W→GS wisE W (.slice a4 n4 c4) l):=fun W hb=>hl.later hb
 have hX:=hobox_new w S (.slice ao n cap) (.slice ao2 n2 cap2) (.slice ao3 n3 cap3);obtain⟨w0,hw0⟩:∃W,(w.alloc (.cells #[.int i64 S,.slice ao n cap,.slice ao2 n2 cap2,.slice ao3 n3 cap3] 28)).alloc (.cells #[.int i64 0,.string ⟨#[]⟩,.int i64 0] 43)=W:=⟨_,rfl⟩;rw[hw0] at hX;have HX:Hid (HoBox w w0 S (.slice ao n cap) (.slice ao2 n2 cap2) (.slice ao3 n3 cap3)):=hX;have HW0:Hid ((w.alloc (.cells #[.int i64 S,.slice ao n cap,.slice ao2 n2 cap2,.slice ao3 n3 cap3] 28)).alloc (.cells #[.int i64 0,.string ⟨#[]⟩,.int i64 0] 43)=w0):=hw0;clear hL hH hT hl hR hV hX hw0;go_enter func35,ntmps35;go_upto_region 1 with fail;rw[HW0.out];obtain⟨_,⟨b0,b1,b2,b3⟩,_⟩:=HX.out;clear HW0
 go_wp2_with fail
 refine (ncheck_any S ao n cap ao2 n2 cap2 ao3 n3 cap3 Ls Hs Ts _ (HLW.out _ HX.out.below) (HHW.out _ HX.out.below) (HTW.out _ HX.out.below)).mono ?_;rintro e w1 ⟨rfl,hb1⟩;obtain⟨T,hT⟩:∃T,T=ntN S Ls Hs Ts:=⟨_,rfl⟩;have HT:Hid (T=ntN S Ls Hs Ts):=hT;rw[←hT];have HX1:Hid (HoBox w w1 S (.slice ao n cap) (.slice ao2 n2 cap2) (.slice ao3 n3 cap3)):=HX.out.later hb1;clear hT hb1 HX b0 b1 b2 b3;by_cases h0:T=0
 ·have HN0:Hid (ntN S Ls Hs Ts=0):=HT.out.symm.trans h0;subst h0;rw[no_ok rfl];obtain⟨_,⟨b0,b1,b2,b3⟩,_⟩:=HX1.out
  go_wp2_with fail
  refine (wcheck_any S ao n cap ao2 n2 cap2 a4 n4 c4 Ls Hs l _ (HLW.out _ HX1.out.below) (HHW.out _ HX1.out.below) (HlW.out _ HX1.out.below)).mono ?_;rintro e w2 ⟨rfl,hb2⟩;obtain⟨U,hU⟩:∃U,U=wsN S Ls Hs l:=⟨_,rfl⟩;have HU:Hid (U=wsN S Ls Hs l):=hU;rw[←hU];have HX2:Hid (HoBox w w2 S (.slice ao n cap) (.slice ao2 n2 cap2) (.slice ao3 n3 cap3)):=HX1.out.later hb2;clear hU hb2 HX1 b0 b1 b2 b3;by_cases h5:U=0
  ·have HU0:Hid (wsN S Ls Hs l=0):=HU.out.symm.trans h5;subst h5;rw[no_ok rfl];obtain⟨_,⟨b0,b1,b2,b3⟩,_⟩:=HX2.out;have hlw:w.heap.size<w2.heap.size:=bLQ _ _ b0
   go_wp2_with fail
   refine (broken_any w.heap.size S ao n cap ao2 n2 cap2 ao3 n3 cap3 a4 n4 c4 Ls Hs Ts l _ ⟨HX2.out.n,HLW.out _ HX2.out.below,HHW.out _ HX2.out.below,HTW.out _ HX2.out.below⟩ HN0.out (HlW.out _ HX2.out.below)).mono ?_;rintro e w3 ⟨rfl,hb3⟩;obtain⟨O,hO⟩:∃O,O=brW Ls Hs Ts l Hs l.length:=⟨_,rfl⟩;have HRO:Hid (R=if O.isSome then 9 else 0):=by
    show _=_;rw[HR.out,wiN,if_pos HN0.out,if_pos HU0.out,hO]
   have HVO:Hid (V=prV Hs O):=by
    show _=_;rw[HV.out,wiV,if_pos ⟨HN0.out,HU0.out⟩,hO]
   rw[←hO,←HVO.out];have HX3:Hid (HoBox w w3 S (.slice ao n cap) (.slice ao2 n2 cap2) (.slice ao3 n3 cap3)):=HX2.out.later hb3;obtain⟨V1,hV1⟩:∃q,q=V.1:=⟨_,rfl⟩;obtain⟨V2,hV2⟩:∃q,q=V.2.1:=⟨_,rfl⟩;obtain⟨V3,hV3⟩:∃q,q=V.2.2:=⟨_,rfl⟩;have HVV:Hid (V.1=V1∧V.2.1=V2∧V.2.2=V3):=⟨hV1.symm,hV2.symm,hV3.symm⟩;rw[←hV1,←hV2,←hV3];have hal:Below w3.heap.size w3 (w3.alloc (.cells #[.int i64 V1,.string V2,.int i64 V3] 43)):=(bRQ _ _).alloc (nLQ _) _;have hpr:=prbox_new w3 w V1 V2 V3;have hX4:=HX3.out.later hal;obtain⟨w4,hw4⟩:∃W,w3.alloc (.cells #[.int i64 V1,.string V2,.int i64 V3] 43)=W:=⟨_,rfl⟩;obtain⟨gp,hgp⟩:∃q,q=w3.heap.size:=⟨_,rfl⟩;rw[hw4] at hal hpr hX4;rw[←hgp] at hpr;have HW4:Hid (w3.alloc (.cells #[.int i64 V1,.string V2,.int i64 V3] 43)=w4):=hw4;have HGP:Hid (w3.heap.size=gp):=hgp.symm;have HLP:Hid (w.heap.size+1<gp):=by
    show _<_;rw[hgp];have h1:=bLQ _ _ HX3.out.p.c0;simpa using h1
   have HPR:Hid (PrBox w w4 gp V1 V2 V3):=hpr;have HX4:Hid (HoBox w w4 S (.slice ao n cap) (.slice ao2 n2 cap2) (.slice ao3 n3 cap3)):=hX4;clear hb3 hO hV1 hV2 hV3 hal hpr hX4 hw4 hgp b0 b1 b2 b3 HX2;obtain⟨B,hB⟩:∃B,B=O.isSome:=⟨_,rfl⟩;have HBO:Hid (O.isSome=B):=hB.symm;rw[←hB];clear hB;go_upto_region 8 with fail;rw[HW4.out,HGP.out];clear HW4 HGP;obtain⟨hB4,_,⟨r0,r1,r2,rf⟩⟩:=HX4.out;have f0:=rf 0;have f1:=rf 1;have f2:=rf 2;have HB4:Hid (Below w.heap.size w w4):=hB4;obtain⟨p0,p1,p2,_⟩:=HPR.out;clear hB4 rf;cases B with
   | true =>
     have HR9:Hid (R=9):=by
      show _=_;rw[HRO.out,HBO.out,if_pos rfl]
     go_wp2;refine bodyPost_ret (v:=.tuple #[.agg #[.int i64 V1,.string V2,.int i64 V3],.iface 68 (.int i64 9)]) (by simp[results,results35,go_sem, *]) rfl ⟨by rw[HR9.out,HVV.out.1,HVV.out.2.1,HVV.out.2.2];rfl,below_put3 HB4.out _ (by omega) _ _ _⟩
   | false =>
     have HR9:Hid (R=0):=by
      show _=_;rw[HRO.out,HBO.out,if_neg (by decide)]
     have HVZ:Hid (V=(0,ByteArray.empty,0)):=by
      show _=_;rw[HVO.out];cases O with
      | none=>rfl
      | some p=>have:=HBO.out;simp at this
     go_wp2;refine bodyPost_ret (v:=.tuple #[.agg #[.int i64 0,.string ⟨#[]⟩,.int i64 0],.nilIface]) (by simp[results,results35,go_sem, *]) rfl ⟨by rw[HR9.out,HVZ.out];rfl,below_put3 HB4.out _ (by omega) _ _ _⟩
  rw[no_ne h5];have HNE:Hid (U≠0):=h5;have HR1:Hid (R=U):=by
   show _=_;rw[HR.out,wiN,if_pos HN0.out,if_neg (by rw[←HU.out];exact h5),HU.out]
  have HV1:Hid (V=(0,ByteArray.empty,0)):=by
   show _=_;rw[HV.out,wiV,if_neg (fun h=>h5 (HU.out.trans h.2))]
  obtain⟨hB2,_,⟨r0,r1,r2,rf⟩⟩:=HX2.out;have f0:=rf 0;have f1:=rf 1;have f2:=rf 2;have HB2:Hid (Below w.heap.size w w2):=hB2;clear h5 hB2 rf;go_wp2;refine bodyPost_ret (v:=.tuple #[.agg #[.int i64 0,.string ⟨#[]⟩,.int i64 0],.iface 68 (.int i64 U)]) (by simp[results,results35,go_sem, *]) rfl ⟨by rw[HR1.out,HV1.out,no_ne HNE.out];rfl,below_put3 HB2.out _ (by omega) _ _ _⟩
 rw[no_ne h0];have HNE:Hid (T≠0):=h0;have HR1:Hid (R=T):=by
  show _=_;rw[HR.out,wiN,if_neg (by rw[←HT.out];exact h0),HT.out]
 have HV1:Hid (V=(0,ByteArray.empty,0)):=by
  show _=_;rw[HV.out,wiV,if_neg (fun h=>h0 (HT.out.trans h.1))]
 obtain⟨hB2,_,⟨r0,r1,r2,rf⟩⟩:=HX1.out;have f0:=rf 0;have f1:=rf 1;have f2:=rf 2;have HB2:Hid (Below w.heap.size w w1):=hB2;clear h0 hB2 rf;go_wp2;refine bodyPost_ret (v:=.tuple #[.agg #[.int i64 0,.string ⟨#[]⟩,.int i64 0],.iface 68 (.int i64 T)]) (by simp[results,results35,go_sem, *]) rfl ⟨by rw[HR1.out,HV1.out,no_ne HNE.out];rfl,below_put3 HB2.out _ (by omega) _ _ _⟩
end
end Go.Proofs.YtiokpmlhmlcojaaGreatDoor
