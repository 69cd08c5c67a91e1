/- Contracts and facts on the way to TextTells, joined into one text: RefReadN. -/
import Derived.Test.YtgddlpcacnolfaaGreatDoorTextTellsP11
namespace Go.Proofs.YtgddlpcacnolfaaGreatDoor
set_option linter.unusedSimpArgs false
set_option linter.unusedVariables false
set_option maxHeartbeats 16000000
set_option maxRecDepth 100000
open Go.Proofs.Tryz
open IntKind (i64)
section
open Go.RowKit
theorem word_at {W:World}{g:Nat}{q:List ByteArray}(h:WAt W g 0 q){j:Nat}(hj:j<q.length):W.cell? ⟨g,j,none⟩=some (.string q[j]):=by
 have:=h j hj;simpa using this
def RgS (gb g3 g M d3:Nat)(x0 x1 x2 x3 x4 x5:Int)(W:World):Prop:=
 W.cell? ⟨gb,3,none⟩=some (.slice (some ⟨g,0,none⟩) M d3)∧W.cell? ⟨g3,0,none⟩=some (.int i64 x0)∧W.cell? ⟨g3,1,none⟩=some (.int i64 x1)∧W.cell? ⟨g3,2,none⟩=some (.int i64 x2)∧W.cell? ⟨g3,3,none⟩=some (.int i64 x3)∧W.cell? ⟨g3,4,none⟩=some (.int i64 x4)∧W.cell? ⟨g3,5,none⟩=some (.int i64 x5)
def RQ (w:World)(g8 c8:Nat)(s:ByteArray)(e:RdT)(ln:ByteArray)(v7 okv kv:Value)(W:World):Prop:=
 ∃ (ok:Bool) (k:Int) (f:RdT) (v1 v2 v3:Value) (vs:List SlT),okv=.bool ok∧kv=.int i64 k∧0≤k∧k≤4∧RdM W (w.heap.size+1) (w.heap.size+1+1) f v1 v2 v3 v7 vs∧RR w g8 c8 s W ∧
   lnO e ln=if (ok&&(!(decide (k<e.ph)) && !(decide (e.ph<0)&&decide (0<k))))=true then some { f with ph:=k } else none
section
variable {w W:World}{g8 c8:Nat}{s ln:ByteArray}{e f g:RdT}{v1 v2 v3 v7:Value}{vs:List SlT}
theorem RQ.no (k:Int)(h0:0≤k)(h4:k≤4)(m:RdM W (w.heap.size+1) (w.heap.size+1+1) f v1 v2 v3 v7 vs)(r:RR w g8 c8 s W)(h:lnO e ln=none):RQ w g8 c8 s e ln v7 (.bool false) (.int i64 k) W:=
 ⟨false,k,f,v1,v2,v3,vs,rfl,rfl,h0,h4,m,r,by rw[h];rfl⟩
theorem ph_cond (e:RdT){k:Int}(hk:1≤k):phB e k=(!(decide (k<e.ph)) && !(decide (e.ph<0)&&decide (0<k))):=by
 unfold phB;rw[Bool.eq_iff_iff];simp;omega
theorem RQ.yes (k:Int)(h0:1≤k)(h4:k≤4){ok:Bool}(m:RdM W (w.heap.size+1) (w.heap.size+1+1) f v1 v2 v3 v7 vs)(r:RR w g8 c8 s W)(h:lnO e ln=if (ok&&phB e k)=true then some g else none)(hg:g={ f with ph:=k }):RQ w g8 c8 s e ln v7 (.bool ok) (.int i64 k) W:=
 ⟨ok,k,f,v1,v2,v3,vs,rfl,rfl,by omega,h4,m,r,by rw[h,hg,ph_cond e h0]⟩
theorem RQ.sw (hp:e.ph<0){ok:Bool}(m:RdM W (w.heap.size+1) (w.heap.size+1+1) f v1 v2 v3 v7 vs)(r:RR w g8 c8 s W)(h:lnO e ln=if ok=true then some g else none)(hg:g={ f with ph:=0 }):RQ w g8 c8 s e ln v7 (.bool ok) (.int i64 0) W:=
 ⟨ok,0,f,v1,v2,v3,vs,rfl,rfl,by decide,by decide,m,r,by rw[h,hg,decide_eq_false (by omega:¬0<e.ph)];simp⟩
end
theorem rt_z {s:ByteArray}{e:RdT}(h1:s.size≤3000)(h0:s.size≠0)(h:lsO rd0 (rtL s)=.inl e)(hz:(rtZ s).size≠0):rtN s=2∧rtK s=(rtL s).length∧rxE s=rd0:=by
 have e1:rtN s=2:=by
  rw[rtN,if_neg (by omega),if_neg h0,h];show (if (rtZ s).size=0 then rtC e else 2)=2;rw[if_neg hz]
 refine⟨e1,?_,by rw[rxE,e1];rfl⟩;rw[rtK,if_neg (by omega),if_neg h0,h];show (if (rtZ s).size=0 then 0 else (rtL s).length)=_;rw[if_neg hz]
theorem rt_c {s:ByteArray}{e:RdT}(h1:s.size≤3000)(h0:s.size≠0)(h:lsO rd0 (rtL s)=.inl e)(hz:(rtZ s).size=0):rtN s=rtC e∧rtK s=0∧(rtC e=0→rxE s={ e with Ts:=fiT e.S e.Ts })∧(rtC e≠0→rxE s=rd0):=by
 have e1:rtN s=rtC e:=by
  rw[rtN,if_neg (by omega),if_neg h0,h];show (if (rtZ s).size=0 then rtC e else 2)=_;rw[if_pos hz]
 have e2:rtE s=e:=by rw[rtE,h]
 refine⟨e1,?_,fun hc=>?_,fun hc=>?_⟩
 ·rw[rtK,if_neg (by omega),if_neg h0,h];show (if (rtZ s).size=0 then 0 else (rtL s).length)=_;rw[if_pos hz]
 ·rw[rxE,e1,if_pos hc,e2]
 rw[rxE,e1,if_neg hc]
theorem fi_j {S:Int}{Ts:TsQ}{j:Nat}(hj:j≤S.toNat-Ts.length)(h6:6<S→j=0)(hx:¬((Ts.length+j:Nat):Int)<S∨6<S):Ts++List.replicate j []=fiT S Ts:=by
 unfold fiT;by_cases h:S≤6
 ·rw[if_pos h,show j=S.toNat-Ts.length by omega]
 rw[if_neg h,h6 (by omega)];simp
theorem rd_out {W:World}{gb B g:Nat}{d:RdT}{v1 v2 v3 v7:Value}{vs:List SlT}(m:RdM W gb B d v1 v2 v3 v7 vs)(hg:g<B)(x y z u:Value):
 GS lnkE ((((W.setCell ⟨g,0,none⟩ x).setCell ⟨g,1,none⟩ y).setCell ⟨g,2,none⟩ z).setCell ⟨g,3,none⟩ u) v1 d.Ls∧GS hstE ((((W.setCell ⟨g,0,none⟩ x).setCell ⟨g,1,none⟩ y).setCell ⟨g,2,none⟩ z).setCell ⟨g,3,none⟩ u) v2 d.Hs∧TS ((((W.setCell ⟨g,0,none⟩ x).setCell ⟨g,1,none⟩ y).setCell ⟨g,2,none⟩ z).setCell ⟨g,3,none⟩ u) v3 d.Ts∧GS wisE ((((W.setCell ⟨g,0,none⟩ x).setCell ⟨g,1,none⟩ y).setCell ⟨g,2,none⟩ z).setCell ⟨g,3,none⟩ u) v7 d.ws:=by
 have hk:Kb (fun b=>b≠g) W ((((W.setCell ⟨g,0,none⟩ x).setCell ⟨g,1,none⟩ y).setCell ⟨g,2,none⟩ z).setCell ⟨g,3,none⟩ u):=kb_box (fun h=>h rfl) _ _ (kb_box (fun h=>h rfl) _ _ (kb_box (fun h=>h rfl) _ _ (kb_box (fun h=>h rfl) _ _ (Kb.refl _ _))));have key:∀b,DrX v1 v2 v3 v7 vs b→b≠g:=fun b hb=>by
  have:=(m.xlt hb).1;omega
 refine⟨own_GS (ownKb m.l hk fun b e=>key b (.inl e)),own_GS (ownKb m.h hk fun b e=>key b (.inr (.inl e))),(m.t.kb hk (fun b e=>key b (.inr (.inr (.inl e)))) (fun y hy b e=>key b (.inr (.inr (.inr (.inr ⟨y,hy,e⟩)))))).ts,own_GS (ownKb m.w hk fun b e=>key b (.inr (.inr (.inr (.inl e)))))⟩
theorem rreadN_any (s:ByteArray)(w:World):
 Calls prog 9 #[.string s] w fun e w'=>∃v1 v2 v3 v4,e=.returned (.tuple #[.agg #[.int i64 (rxE s).S,v1,v2,v3],v4,.int i64 (rtK s:Int),.int i64 (rtN s)])∧GS lnkE w' v1 (rxE s).Ls∧GS hstE w' v2 (rxE s).Hs∧TS w' v3 (rxE s).Ts∧GS wisE w' v4 (rxE s).ws∧Below w.heap.size w w':=by
 have HNIL:Hid (∀W (k:Nat) (n:Int),rtN s=n→rtK s=k→rxE s=rd0→Below w.heap.size w W→∃v1 v2 v3 v4,Ending.returned (.tuple #[.agg #[.int i64 0,.slice none 0 0,.slice none 0 0,.slice none 0 0],.slice none 0 0,.int i64 (k:Int),.int i64 n])=.returned (.tuple #[.agg #[.int i64 (rxE s).S,v1,v2,v3],v4,.int i64 (rtK s:Int),.int i64 (rtN s)])∧GS lnkE W v1 (rxE s).Ls∧GS hstE W v2 (rxE s).Hs∧TS W v3 (rxE s).Ts∧GS wisE W v4 (rxE s).ws∧Below w.heap.size w W):=fun W k n h1 h2 h3 h4=>by
  rw[h1,h2,h3];exact⟨_,_,_,_,rfl,GS.nil _,GS.nil _,.inl ⟨none,0,rfl,rfl⟩,GS.nil _,h4⟩
 have HP4:Hid (∀W (x y z u:Value),Below w.heap.size w W→Below w.heap.size w ((((W.setCell ⟨w.heap.size,0,none⟩ x).setCell ⟨w.heap.size,1,none⟩ y).setCell ⟨w.heap.size,2,none⟩ z).setCell ⟨w.heap.size,3,none⟩ u)):=fun W x y z u h=>below_put4 h w.heap.size (nLQ _) x y z u
 by_cases h3:3000<s.size
 ·have h3i:(3000:Int)<(s.size:Int):=by omega
  have HN:Hid (rtN s=4∧rtK s=0∧rxE s=rd0):=by
   have e1:rtN s=4:=by rw[rtN,if_pos h3]
   exact⟨e1,by rw[rtK,if_pos h3],by rw[rxE,e1];rfl⟩
  clear h3;go_enter func9,ntmps9;go_wp2;refine bodyPost_ret (v:=.tuple #[.agg #[.int i64 0,.slice none 0 0,.slice none 0 0,.slice none 0 0],.slice none 0 0,.int i64 0,.int i64 4]) (by simp[results,results9,go_sem, *]) rfl ?_;exact HNIL.out _ 0 4 HN.out.1 HN.out.2.1 HN.out.2.2 ((bRQ _ _).alloc (nLQ _) _)
 have h3i:¬(3000:Int)<(s.size:Int):=by omega
 by_cases h0:s.size=0
 ·have HN:Hid (rtN s=2∧rtK s=0∧rxE s=rd0):=by
   have e1:rtN s=2:=by rw[rtN,if_neg h3,if_pos h0]
   exact⟨e1,by rw[rtK,if_neg h3,if_pos h0],by rw[rxE,e1];rfl⟩
  have e:=sz_0 h0;subst e;clear h3 h0;go_enter func9,ntmps9;go_wp2;refine bodyPost_ret (v:=.tuple #[.agg #[.int i64 0,.slice none 0 0,.slice none 0 0,.slice none 0 0],.slice none 0 0,.int i64 0,.int i64 2]) (by simp[results,results9,go_sem, *]) rfl ?_;exact HNIL.out _ 0 2 HN.out.1 HN.out.2.1 HN.out.2.2 ((bRQ _ _).alloc (nLQ _) _)
 have he:s.toList.isEmpty=false:=by
  rw[Lib.toList_data];cases h:s.data.toList with
  | nil =>
    exfalso
    have:=Lib.size_eq s;rw[h] at this;exact h0 this
  | cons a b=>rfl
 have HS:Hid (s.size≤3000∧s.size≠0):=⟨by omega,h0⟩;have HSL:Hid (s.size≤1048576):=by show _≤_;omega
 obtain⟨w0,hw0⟩:∃W,(w.alloc (.cells #[.int i64 0,.slice none 0 0,.slice none 0 0,.slice none 0 0] 28)).alloc (.cells #[.int i64 0,.slice none 0 0,.slice none 0 0,.slice none 0 0] 28)=W:=⟨_,rfl⟩;have hb0:Below w.heap.size w w0:=by rw[←hw0];exact ((bRQ _ _).alloc (nLQ _) _).alloc (by simp) _
 have hs0:w0.heap.size=w.heap.size+1+1:=by rw[←hw0];simp
 have hr0:NeBox w0 w.heap.size 0 (.slice none 0 0) (.slice none 0 0) (.slice none 0 0)∧∀i,w0.frozen? ⟨w.heap.size,i,none⟩=false:=by rw[←hw0];exact⟨⟨by simp,by simp,by simp,by simp⟩,fun i=>by simp⟩
 have hn0:NeBox w0 (w.heap.size+1) 0 (.slice none 0 0) (.slice none 0 0) (.slice none 0 0)∧∀i,w0.frozen? ⟨w.heap.size+1,i,none⟩=false:=by rw[←hw0];exact⟨⟨by simp,by simp,by simp,by simp⟩,fun i=>by simp⟩
 have HM0:Hid (RdM w0 (w.heap.size+1) (w.heap.size+1+1) rd0 (.slice none 0 0) (.slice none 0 0) (.slice none 0 0) (.slice none 0 0) []):=⟨Nat.lt_succ_self _,hn0.1,hn0.2,World.ownsRow_nil _ _ _ _,World.ownsRow_nil _ _ _ _,oo_nil _ _,World.ownsRow_nil _ _ _ _⟩;have HR0:Hid (NeBox w0 w.heap.size 0 (.slice none 0 0) (.slice none 0 0) (.slice none 0 0)∧(∀i,w0.frozen? ⟨w.heap.size,i,none⟩=false)∧Below w.heap.size w w0∧w0.heap.size=w.heap.size+1+1):=⟨hr0.1,hr0.2,hb0,hs0⟩;have HW0:Hid ((w.alloc (.cells #[.int i64 0,.slice none 0 0,.slice none 0 0,.slice none 0 0] 28)).alloc (.cells #[.int i64 0,.slice none 0 0,.slice none 0 0,.slice none 0 0] 28)=w0):=hw0;obtain⟨L,hL⟩:∃L,L=(rtL s).length:=⟨_,rfl⟩;have HL:Hid ((cutC 10 s).length=L+1∧(rtL s).length=L):=⟨by rw[rt_cut,List.length_append,hL];rfl,hL.symm⟩;have HL3:Hid (L≤3000):=by
  show _≤_;have h1:=(cc_len 10 s).2;have:=HL.out.1;have:=HS.out.1;omega
 have hL3:L≤3000:=HL3.out;have HBAD:Hid (∀{i:Nat} (W:World) {g8 c8:Nat} {x y z u:Value},RR w g8 c8 s W→lsO rd0 (rtL s)=.inr i→∃v1 v2 v3 v4,Ending.returned (.tuple #[.agg #[.int i64 0,.slice none 0 0,.slice none 0 0,.slice none 0 0],.slice none 0 0,.int i64 (i:Int),.int i64 2])=.returned (.tuple #[.agg #[.int i64 (rxE s).S,v1,v2,v3],v4,.int i64 (rtK s:Int),.int i64 (rtN s)])∧GS lnkE ((((W.setCell ⟨w.heap.size,0,none⟩ x).setCell ⟨w.heap.size,1,none⟩ y).setCell ⟨w.heap.size,2,none⟩ z).setCell ⟨w.heap.size,3,none⟩ u) v1 (rxE s).Ls∧GS hstE ((((W.setCell ⟨w.heap.size,0,none⟩ x).setCell ⟨w.heap.size,1,none⟩ y).setCell ⟨w.heap.size,2,none⟩ z).setCell ⟨w.heap.size,3,none⟩ u) v2 (rxE s).Hs∧TS ((((W.setCell ⟨w.heap.size,0,none⟩ x).setCell ⟨w.heap.size,1,none⟩ y).setCell ⟨w.heap.size,2,none⟩ z).setCell ⟨w.heap.size,3,none⟩ u) v3 (rxE s).Ts∧GS wisE ((((W.setCell ⟨w.heap.size,0,none⟩ x).setCell ⟨w.heap.size,1,none⟩ y).setCell ⟨w.heap.size,2,none⟩ z).setCell ⟨w.heap.size,3,none⟩ u) v4 (rxE s).ws∧Below w.heap.size w ((((W.setCell ⟨w.heap.size,0,none⟩ x).setCell ⟨w.heap.size,1,none⟩ y).setCell ⟨w.heap.size,2,none⟩ z).setCell ⟨w.heap.size,3,none⟩ u)):=fun {i} W {g8 c8 x y z u} hr hn=>by
  obtain⟨e1,e2,e3⟩:=rt_bad HS.out.1 HS.out.2 hn;exact HNIL.out _ i 2 e1 e2 e3 (HP4.out _ _ _ _ _ hr.below)
 clear h3 h0 hw0 hb0 hs0 hr0 hn0 hL;go_enter func9,ntmps9
 go_wp2_with fail
 rw[HW0.out];refine (cutc_any 10 10 rfl s w0 HSL.out).mono ?_;rintro e w1 ⟨v8,rfl,hown,hb1⟩;obtain⟨g8,c8,hv8,hB8,hcap8,hcm8,hWA⟩:=own_words hown (cc_len 10 s).1;have HRR:Hid (RR w g8 c8 s w1):=by
  refine⟨HR0.out.1.later hb1,fun i=>?_,?_,HR0.out.2.2.1.trans (hb1.mono HR0.out.2.2.1.size)⟩
  ·rw[hb1.frozen (p:=⟨w.heap.size,i,none⟩) (by show w.heap.size<_;rw[HR0.out.2.2.2];omega)];exact HR0.out.2.1 i
  rw[HR0.out.2.2.2,hv8] at hown;exact hown
 have HRL:Hid (RL w g8 c8 s rd0 (.slice none 0 0) (.slice none 0 0) (.slice none 0 0) (.slice none 0 0) [] 0 w1):=⟨rfl,ph_0,⟨Nat.zero_le _,Nat.zero_le _,Nat.zero_le _,fun T h=>by cases h⟩,HM0.out.later hb1,HRR.out⟩;rw[HL.out.1] at hv8;subst hv8;have hcap:L+1≤c8:=by rw[←HL.out.1];exact hcap8
 clear hown hb1 hWA hB8 hcap8 hcm8;go_wp2
 go_loopw [7,10,11] (fun v7 ph i wr=>∃(k:Nat) (e:RdT) (v1 v2 v3:Value) (vs:List SlT),k≤L∧i=.int i64 (k:Int)∧ph=.int i64 e.ph∧RL w g8 c8 s e v1 v2 v3 v7 vs k wr) (fun _ _ i _=>L-(intOf i).toNat)
 case atStart=>exact⟨0,rd0,_,_,_,[],Nat.zero_le _,rfl,rfl,HRL.out⟩
 case round =>
  obtain⟨i,e,v1,v2,v3,vs,hi,rfl,rfl,hRL⟩:=hrel;obtain⟨wi,hwi⟩:∃Y,Y=wr:=⟨_,rfl⟩;subst hwi;clear HRL HRR HM0;have HRL:Hid (RL w g8 c8 s e v1 v2 v3 u7 vs i wi):=hRL;obtain⟨a7,m7,c7,rfl⟩:∃a n c,u7=.slice a n c:=by obtain⟨a,c,h⟩:=own_form hRL.m.w;exact⟨a,_,c,h⟩
  by_cases hlt:i<L
  ·have hli:i<(rtL s).length:=by rw[HL.out.2];exact hlt
   obtain⟨ln,hln⟩:∃x,x=(rtL s)[i]:=⟨_,rfl⟩;have hlx:(rtL s)[i]?=some ln:=by rw[List.getElem?_eq_getElem hli,hln]
   have hcx:(cutC 10 s)[i]?=some ln:=by rw[rt_cut,List.getElem?_append_left hli];exact hlx
   have HLN:Hid ((∀f,lnO e ln=some f→lsO rd0 ((rtL s).take (i+1))=.inl f)∧(lnO e ln=none→lsO rd0 (rtL s)=.inr i)):=ls_step hlx hRL.ls;have HLS:Hid (ln.size≤1048576):=by
    show _≤_;have h1:=ck_size 10 _ s ln (List.mem_of_getElem? hcx);have:=HS.out.1;omega
   have HCX:Hid (∀W,RR w g8 c8 s W→W.cell? ⟨g8,i,none⟩=some (.string ln)):=fun W h=>h.at hcx
   have y0:=HCX.out wi hRL.rr;have i0:(0:Int)≤(i:Int):=by omega
   have i1:(i:Int)<(L:Int)+1:=by omega
   have i2:(i:Int)<(L:Int):=by omega
   have hi3:i≤3000:=by omega
   have HBI:Hid (BdI e 3000):=⟨Nat.le_trans hRL.bd.1 hi3,Nat.le_trans hRL.bd.2.1 hi3,Nat.le_trans hRL.bd.2.2.1 hi3,fun T hT=>Nat.le_trans (hRL.bd.2.2.2 T hT) hi3⟩;clear hli hln hlx hcx hRL
   go_wp2_with fail
   refine (cutc_any 32 32 rfl ln wi HLS.out).mono ?_;rintro ee w2 ⟨vp,rfl,hown,hb2⟩;obtain⟨q,hq⟩:∃q,q=cutC 32 ln:=⟨_,rfl⟩;have HQ:Hid (cutA ln=q):=by show _=_;rw[a_c,hq]
   have hq1:1≤q.length:=by rw[hq];exact (cc_len 32 ln).1
   have hqm:q.length≤1048577:=by
    have h1:=(cc_len 32 ln).2;rw[←hq] at h1;have:=HLS.out;omega
   rw[←hq] at hown;obtain⟨gp,cp,hvp,hBp,hcpp,hcpm,hWP⟩:=own_words hown hq1;have HR2:Hid (RL w g8 c8 s e v1 v2 v3 (.slice a7 m7 c7) vs i w2):=HRL.out.later hb2;have HWP:Hid (∀W,Below w2.heap.size w2 W→WAt W gp 0 q):=fun W h j hj=>by
    have:=hWP j hj;exact cell_later h this
   obtain⟨a,r,hqr⟩:∃a r,q=a :: r:=by
    match q,hq1 with
    | a :: r,_=>exact⟨a,r,rfl⟩
   subst hvp;have HQS:Hid (∀x∈q,x.size≤1048576):=fun x hx=>by
    rw[hq] at hx;exact Nat.le_trans (ck_size 32 _ ln x hx) HLS.out
   clear hq hown hb2 hBp hcpm y0;have hw0:w2.cell? ⟨gp,0,none⟩=some (.string a):=by
    have h:=word_at hWP hq1;rw[show q[0]=a by simp[hqr]] at h;exact h
   obtain⟨N,hN⟩:∃N,N=q.length:=⟨_,rfl⟩;have HN:Hid (q.length=N):=hN.symm;have hN1:1≤N:=by rw[hN];exact hq1
   have hNm:N≤1048577:=by rw[hN];exact hqm
   rw[←hN] at hcpp ⊢;have hcp1:(0:Int)<(N:Int):=by omega
   have key:∀b:ByteArray,(a.toList==b.data.toList)=decide (a=b):=fun b=>by
    rw[←Lib.toList_data,str_eq]
   have k1:(a.toList==[115,119,105,116,99,104,101,115])=decide (a=swcS):=key swcS;have k2:(a.toList==[108,105,110,107])=decide (a=lnkS):=key lnkS;have k3:(a.toList==[104,111,115,116])=decide (a=hosS):=key hosS;have k4:(a.toList==[114,117,108,101])=decide (a=rulS):=key rulS;clear key hWP hq1 hqm hN;have HQR:Hid (q=a :: r):=hqr;have hph1:=HR2.out.ph.1;obtain⟨PH,hPH⟩:∃p,p=e.ph:=⟨_,rfl⟩;have HPH:Hid (e.ph=PH):=hPH.symm;rw[←hPH];rw[←hPH] at hph1;clear hPH hqr;clear hph1
   go_upto_block 2 with fail
   go_cut [7,13,14,15,16,17,18,19,20,21,22,23,24,25,26,27,28,29] from 43 to 246 (fun v7 okv kv _ _ _ _ _ _ _ _ _ _ _ _ _ _ _ w'=>RQ w g8 c8 s e ln v7 okv kv w')
   case first =>
    by_cases e1:a=swcS
    ·rw[decide_eq_true e1] at k1;have HCA:Hid (cutA ln=swcS :: r):=by show _=_;rw[HQ.out,HQR.out,e1]
     clear k2 k3 k4 e1
     as_aux_lemma =>
      by_cases h2:N=2
      ·obtain⟨x,hx⟩:∃x,r=[x]:=by
        have:=HN.out;rw[HQR.out,h2] at this
        match r,this with
        | [x],_=>exact⟨x,rfl⟩
       subst hx;subst h2;by_cases hp:PH<0
       ·have hw1:w2.cell? ⟨gp,1,none⟩=some (.string x):=by
         have h:=word_at (HWP.out w2 (bRQ _ _)) (j:=1) (by rw[HN.out];decide);rw[show q[1]'(by rw[HN.out];decide)=x by simp[HQR.out]] at h;exact h
        obtain⟨n,hn⟩:∃n,n=dcN x:=⟨_,rfl⟩;obtain⟨ok,hok⟩:∃k,k=dcOk x:=⟨_,rfl⟩;have HX:Hid (dcN x=n∧dcOk x=ok):=⟨hn.symm,hok.symm⟩;clear hn hok
        go_wp2_with fail
        refine (num_any x w2).mono ?_;rintro ee w' ⟨rfl,hw'⟩;have hw'':=hw'.symm;subst hw'';clear hw';rw[HX.out.1,HX.out.2];obtain⟨q0,q1,q2,q3⟩:=HR2.out.m.c;have g0:=HR2.out.m.f 0;have hgl:=HR2.out.m.lt;have HF:Hid (lnO e ln=if ok=true then some { e with S:=n,ph:=0 } else none):=by
         show _=_;rw[lq_sw1 HCA.out,HX.out.1,HX.out.2,HPH.out,decide_eq_true hp,Bool.true_and]
        have HRW:Hid (RR w g8 c8 s (w2.setCell ⟨w.heap.size+1,0,none⟩ (.int i64 n))):=HR2.out.rr.step HR2.out.m (kb_box (fun h=>h.1 rfl) _ _ (Kb.refl _ _));have hpe:e.ph<0:=by rw[HPH.out];exact hp
        go_wp2_with fail
        go_meet
        exact RQ.sw hpe (HR2.out.m.setS n) HRW.out HF.out rfl
       have hp2:¬PH<0:=hp;have HNO:Hid (lnO e ln=none):=(by
        rw[lq_sw1 HCA.out,HPH.out,decide_eq_false hp];rfl)
       have HRW:Hid (RR w g8 c8 s w2):=HR2.out.rr;have HRC:Hid (RR w g8 c8 s w2):=HR2.out.rr
       go_wp2_with fail
       go_meet
       exact RQ.no 0 (by decide) (by decide) HR2.out.m HRW.out HNO.out
      have hne:((N:Int)==2)=false:=by rw[beq_eq_false_iff_ne];omega
      have HNO:Hid (lnO e ln=none):=(lq_sw0 HCA.out (fun h=>h2 (by rw[←HN.out,HQR.out,List.length_cons,h])));have HRW:Hid (RR w g8 c8 s w2):=HR2.out.rr;have HRC:Hid (RR w g8 c8 s w2):=HR2.out.rr
      go_wp2_with fail
      go_meet
      exact RQ.no 0 (by decide) (by decide) HR2.out.m HRW.out HNO.out
    by_cases e2:a=lnkS
    ·as_aux_lemma =>
      rw[decide_eq_false e1] at k1;rw[decide_eq_true e2] at k2;have HCA:Hid (cutA ln=lnkS :: r):=by show _=_;rw[HQ.out,HQR.out,e2]
      clear k3 k4 e1 e2;by_cases h2:N=3
      ·obtain⟨x,y,hx⟩:∃x y,r=[x,y]:=by
        have:=HN.out;rw[HQR.out,h2] at this
        match r,this with
        | [x,y],_=>exact⟨x,y,rfl⟩
       subst hx;subst h2;have hw1:w2.cell? ⟨gp,1,none⟩=some (.string x):=by
        have h:=word_at (HWP.out w2 (bRQ _ _)) (j:=1) (by rw[HN.out];decide);rw[show q[1]'(by rw[HN.out];decide)=x by simp[HQR.out]] at h;exact h
       have hw2:w2.cell? ⟨gp,2,none⟩=some (.string y):=by
        have h:=word_at (HWP.out w2 (bRQ _ _)) (j:=2) (by rw[HN.out];decide);rw[show q[2]'(by rw[HN.out];decide)=y by simp[HQR.out]] at h;exact h
       have HXS:Hid (x.size≤1048576∧y.size≤1048576):=⟨HQS.out x (by rw[HQR.out];simp),HQS.out y (by rw[HQR.out];simp)⟩;obtain⟨x1,x2,hx⟩:∃a b,spA x=(a,b):=⟨_,_,rfl⟩;obtain⟨y1,y2,hy⟩:∃a b,spA y=(a,b):=⟨_,_,rfl⟩;obtain⟨ka,hka⟩:∃k,k=spK x:=⟨_,rfl⟩;obtain⟨kb,hkb⟩:∃k,k=spK y:=⟨_,rfl⟩;have HV:Hid (spA x=(x1,x2)∧spA y=(y1,y2)∧spK x=ka∧spK y=kb):=⟨hx,hy,hka.symm,hkb.symm⟩;clear hx hy hka hkb
       go_wp2_with fail
       refine (rreadSpot_any x w2 HXS.out.1).mono ?_;rintro ee w3 ⟨rfl,hb3⟩;rw[HV.out.1,HV.out.2.2.1];have hw2':=cell_later hb3 hw2;have HR3:Hid (RL w g8 c8 s e v1 v2 v3 (.slice a7 m7 c7) vs i w3):=HR2.out.later hb3;clear hb3 hw1 hw2
       dsimp only
       go_upto_region 30 with fail;obtain⟨w4,hw4⟩:∃V,w3.alloc (.cells #[.int i64 x1,.int i64 x2] 55)=V:=⟨_,rfl⟩;have hb34:Below w3.heap.size w3 w4:=by rw[←hw4];exact (bRQ _ _).alloc (nLQ _) _
       have hA:=spo_new w3 x1 x2 55;rw[hw4] at hA;rw[hw4];have hw2'':=cell_later hb34 hw2';clear hw2' hw4
       go_wp2_with fail
       refine (rreadSpot_any y w4 HXS.out.2).mono ?_;rintro ee w5 ⟨rfl,hb5⟩;rw[HV.out.2.1,HV.out.2.2.2]
       dsimp only
       go_upto_region 31 with fail;obtain⟨w6,hw6⟩:∃V,w5.alloc (.cells #[.int i64 y1,.int i64 y2] 55)=V:=⟨_,rfl⟩;rw[hw6];have hb56:Below w5.heap.size w5 w6:=by rw[←hw6];exact (bRQ _ _).alloc (nLQ _) _
       have hC:=spo_new w5 y1 y2 55;rw[hw6] at hC;have hb46:Below w4.heap.size w4 w6:=hb5.trans (hb56.mono hb5.size);have HR6:Hid (RL w g8 c8 s e v1 v2 v3 (.slice a7 m7 c7) vs i w6):=HR3.out.later (hb34.trans (hb46.mono hb34.size));obtain⟨s0,s1⟩:=spo_cells (hA.later hb46);obtain⟨t0,t1⟩:=spo_cells hC;simp only[Nat.zero_add] at s0 s1 t0 t1;obtain⟨a1,n1,c1,hv1⟩:∃a n c,v1=.slice a n c:=by obtain⟨a,c,h⟩:=own_form HR6.out.m.l;exact⟨a,_,c,h⟩
       subst hv1;obtain⟨q0,q1,q2,q3⟩:=HR6.out.m.c;have g1:=HR6.out.m.f 1;have hgl:=HR6.out.m.lt;obtain⟨j1,hj,hy0,hy1,hy2⟩:=info_parts lnk_info;have HI1:Hid (Tryz.prog.info? 57=some j1):=hj;have HI2:Hid (j1.zero=some (.agg #[.int i64 0,.int i64 0,.int i64 0,.int i64 0])):=hy0;have HI3:Hid (j1.size=4):=hy1;have HI4:Hid (j1.bytes=32):=hy2;have HLV1:Hid (e.Ls.length+1≤maxLen):=by
        have:=HBI.out.1;show _≤_;unfold maxLen;omega
       have HLV2:Hid ((e.Ls.length+1)*32≤140737488355328):=by
        have:=HBI.out.1;show _≤_;omega
       have HBB:Hid (w.heap.size+1+1≤w6.heap.size):=by
        show _≤_;have:=(HR6.out.rr.l.lt g8 rfl);omega
       have s0l:=bLQ w6 _ s0;have t0l:=bLQ w6 _ t0;clear hA hC hb34 hb46 hb56 hb5 hw6 hw2'' hj hy0 hy1 hy2;obtain⟨ok,hok⟩:∃k,k=(ka&&kb):=⟨_,rfl⟩;have HOK:Hid (ok=(ka&&kb)):=hok;clear hok
       go_cut [13] from 108 to 111 (fun o w'=>o=.bool ok∧w'=w6)
       case first =>
        cases ka
        ·go_wp2_with fail
         go_meet
         exact⟨by rw[HOK.out];rfl,rfl⟩
        go_wp2_with fail
        go_meet
        exact⟨by rw[HOK.out];rfl,rfl⟩
       case rest =>
        obtain⟨rfl,rfl⟩:=hcut
        go_wp2_with (at_builtin;refine wpList_append_blk (E:=lnkE) _ rfl _ _ 22 57 rfl underlying22 j1 _ 32 HI1.out HI2.out HI3.out HI4.out lnk_zero (w.heap.size+1+1) (.slice a1 n1 c1) rfl e.Ls (HR6.out.m.l.alloc _) wc.heap.size 0 1 rfl ((x1,x2),(y1,y2)) (lnk_new _ x1 x2 y1 y2 _) HLV1.out HLV2.out ?mz ?_)
        case mz =>
         have:=HBB.out;simp;omega
        intro v' w9 ho9 hg9 hb9
        replace ho9:w9.ownsRow (w.heap.size+1+1) 57 lnkE.n v' (e.Ls++[((x1,x2),(y1,y2))]).length (cellsG lnkE (e.Ls++[((x1,x2),(y1,y2))])):=by
         rw[List.length_append];exact ho9
        have hba:Below wc.heap.size wc (wc.alloc (.cells #[.int i64 x1,.int i64 x2,.int i64 y1,.int i64 y2] 57)):=(bRQ _ _).alloc (nLQ _) _;have m7':=HR6.out.m.later hba;have hne:=row_ne m7'.l m7'.gB;have z1:=hg9.cell m7'.c.2.1 hne;have zf1:=fz_grown m7'.lt m7'.f hg9 hne 1;obtain⟨a9,n9,c9,hv9⟩:∃a n c,v'=.slice a n c:=by obtain⟨a,c,h⟩:=own_form ho9;exact⟨a,_,c,h⟩
        subst hv9;have HM9:Hid (RdM (w9.setCell ⟨w.heap.size+1,1,none⟩ (.slice a9 n9 c9)) (w.heap.size+1) (w.heap.size+1+1) { e with Ls:=e.Ls++[((x1,x2),(y1,y2))] } (.slice a9 n9 c9) v2 v3 (.slice a7 m7 c7) vs):=m7'.addL dr_types.1.1 hg9 ho9;have HR9:Hid (RR w g8 c8 s (w9.setCell ⟨w.heap.size+1,1,none⟩ (.slice a9 n9 c9))):=(HR6.out.rr.later hba).step m7' (kb_box (fun h=>h.1 rfl) _ _ ((Kb.refl _ _).grown hg9 fun b hb _ h=>h.2 (.inl hb)));have HRC:Hid (RR w g8 c8 s w9):=(HR6.out.rr.later hba).step m7' ((Kb.refl _ _).grown hg9 fun b hb _ h=>h.2 (.inl hb));have z1l:=bLQ w9 _ z1;clear ho9 hg9 hb9 hba m7' hne q0 q1 q2 q3 g1 hgl s0 s1 t0 t1 s0l t0l;have HF:Hid (lnO e ln=if (ok&&phB e 1)=true then some { e with Ls:=e.Ls++[((x1,x2),(y1,y2))],ph:=1 } else none):=by
         show _=_;rw[lq_lk2 HCA.out,HV.out.2.2.1,HV.out.2.2.2,←HOK.out,HV.out.1,HV.out.2.1]
        go_wp2_with fail
        go_meet
        exact RQ.yes 1 (by decide) (by decide) HM9.out HR9.out HF.out rfl
      have hne:((N:Int)==3)=false:=by rw[beq_eq_false_iff_ne];omega
      have HNO:Hid (lnO e ln=none):=(lq_lk0 HCA.out (fun h=>h2 (by rw[←HN.out,HQR.out,List.length_cons,h])));have HRW:Hid (RR w g8 c8 s w2):=HR2.out.rr;have HRC:Hid (RR w g8 c8 s w2):=HR2.out.rr
      go_wp2_with fail
      go_meet
      exact RQ.no 1 (by decide) (by decide) HR2.out.m HRW.out HNO.out
    by_cases e3:a=hosS
    ·as_aux_lemma =>
      rw[decide_eq_false e1] at k1;rw[decide_eq_false e2] at k2;rw[decide_eq_true e3] at k3;have HCA:Hid (cutA ln=hosS :: r):=by show _=_;rw[HQ.out,HQR.out,e3]
      clear k4 e1 e2 e3;by_cases h2:N=3
      ·obtain⟨x,y,hx⟩:∃x y,r=[x,y]:=by
        have:=HN.out;rw[HQR.out,h2] at this
        match r,this with
        | [x,y],_=>exact⟨x,y,rfl⟩
       subst hx;subst h2;have hw1:w2.cell? ⟨gp,1,none⟩=some (.string x):=by
        have h:=word_at (HWP.out w2 (bRQ _ _)) (j:=1) (by rw[HN.out];decide);rw[show q[1]'(by rw[HN.out];decide)=x by simp[HQR.out]] at h;exact h
       have hw2:w2.cell? ⟨gp,2,none⟩=some (.string y):=by
        have h:=word_at (HWP.out w2 (bRQ _ _)) (j:=2) (by rw[HN.out];decide);rw[show q[2]'(by rw[HN.out];decide)=y by simp[HQR.out]] at h;exact h
       have HXS:Hid (x.size≤1048576∧y.size≤1048576):=⟨HQS.out x (by rw[HQR.out];simp),HQS.out y (by rw[HQR.out];simp)⟩;obtain⟨y1,y2,hy⟩:∃a b,spA y=(a,b):=⟨_,_,rfl⟩;obtain⟨ok,hok⟩:∃k,k=spK y:=⟨_,rfl⟩;have HV:Hid (spA y=(y1,y2)∧spK y=ok):=⟨hy,hok.symm⟩;clear hy hok
       go_wp2_with fail
       refine (rreadSpot_any y w2 HXS.out.2).mono ?_;rintro ee w5 ⟨rfl,hb5⟩;rw[HV.out.1,HV.out.2]
       dsimp only
       go_upto_region 37 with fail;obtain⟨w6,hw6⟩:∃V,w5.alloc (.cells #[.int i64 y1,.int i64 y2] 55)=V:=⟨_,rfl⟩;rw[hw6];have hb56:Below w5.heap.size w5 w6:=by rw[←hw6];exact (bRQ _ _).alloc (nLQ _) _
       have hC:=spo_new w5 y1 y2 55;rw[hw6] at hC;have hb26:Below w2.heap.size w2 w6:=hb5.trans (hb56.mono hb5.size);have HR6:Hid (RL w g8 c8 s e v1 v2 v3 (.slice a7 m7 c7) vs i w6):=HR2.out.later hb26;obtain⟨a1,n1,c1,hv1⟩:∃a n c,v2=.slice a n c:=by obtain⟨a,c,h⟩:=own_form HR6.out.m.h;exact⟨a,_,c,h⟩
       subst hv1;have HSA:Hid (∀V,Below w6.heap.size w6 V→(V.cell? ⟨w5.heap.size,0,none⟩=some (.int i64 y1)∧V.cell? ⟨w5.heap.size,1,none⟩=some (.int i64 y2))∧V.cell? ⟨gp,1,none⟩=some (.string x)):=fun V hV=>by
        have h2:=spo_cells (hC.later hV);simp only[Nat.zero_add] at h2;exact⟨h2,cell_later hV (cell_later hb26 hw1)⟩
       have HK6:Hid (∀V,Below w6.heap.size w6 V→RdM V (w.heap.size+1) (w.heap.size+1+1) e v1 (.slice a1 n1 c1) v3 (.slice a7 m7 c7) vs∧RR w g8 c8 s V):=fun V hV=>⟨HR6.out.m.later hV,HR6.out.rr.later hV⟩
       have HST:Hid (∀V V2,Below w6.heap.size w6 V→V.grownBy V2 (Value.slice a1 n1 c1).ownBlock→V2.cell? ⟨w.heap.size+1,2,none⟩=some (.slice a1 n1 c1)∧V2.frozen? ⟨w.heap.size+1,2,none⟩=false):=fun V V2 hV hg=>by
        have m:=(HK6.out V hV).1;have hne:=row_ne m.h m.gB;exact⟨hg.cell m.c.2.2.1 hne,fz_grown m.lt m.f hg hne 2⟩
       have HFX:Hid (∀V V2 u,Below w6.heap.size w6 V→V.grownBy V2 (Value.slice a1 n1 c1).ownBlock→V2.ownsRow (w.heap.size+1+1) 59 hstE.n u (e.Hs++[(x,(y1,y2))]).length (cellsG hstE (e.Hs++[(x,(y1,y2))]))→RdM (V2.setCell ⟨w.heap.size+1,2,none⟩ u) (w.heap.size+1) (w.heap.size+1+1) { e with Hs:=e.Hs++[(x,(y1,y2))] } v1 u v3 (.slice a7 m7 c7) vs∧RR w g8 c8 s (V2.setCell ⟨w.heap.size+1,2,none⟩ u)∧RR w g8 c8 s V2):=fun V V2 u hV hg ho=>by
        obtain⟨m,rr⟩:=HK6.out V hV;have hk:Kb (fun b=>b≠w.heap.size+1∧¬DrX v1 (.slice a1 n1 c1) v3 (.slice a7 m7 c7) vs b) V V2:=(Kb.refl _ _).grown hg fun b hb _ h=>h.2 (.inr (.inl hb))
        exact⟨m.addH dr_types.1.2 hg ho,rr.step m (kb_box (fun h=>h.1 rfl) _ _ hk),rr.step m hk⟩
       obtain⟨j1,hj,hy0,hy1,hy2⟩:=info_parts hst_info;have HI1:Hid (Tryz.prog.info? 59=some j1):=hj;have HI2:Hid (j1.zero=some (.agg #[.string ByteArray.empty,.int i64 0,.int i64 0])):=hy0;have HI3:Hid (j1.size=3):=hy1;have HI4:Hid (j1.bytes=32):=hy2;have HLV1:Hid (e.Hs.length+1≤maxLen):=by
        have:=HBI.out.2.1;show _≤_;unfold maxLen;omega
       have HLV2:Hid ((e.Hs.length+1)*32≤140737488355328):=by
        have:=HBI.out.2.1;show _≤_;omega
       have HBB:Hid (w.heap.size+1+1≤w6.heap.size):=by
        show _≤_;have:=(HR6.out.rr.l.lt g8 rfl);omega
       clear hC hb56 hb5 hw6 hj hy0 hy1 hy2 hw1 hw2 hb26;obtain⟨⟨t0,t1⟩,hw1⟩:=HSA.out w6 (bRQ _ _);have q2:=(HK6.out w6 (bRQ _ _)).1.c.2.2.1;have hgl:=(HK6.out w6 (bRQ _ _)).1.lt;go_upto_region 38 with fail;have HF:Hid (lnO e ln=if (ok&&phB e 2)=true then some { e with Hs:=e.Hs++[(x,(y1,y2))],ph:=2 } else none):=by
        show _=_;rw[lq_ho2 HCA.out,HV.out.2,HV.out.1]
       go_region_law ((refine step_append_blk (E:=hstE) _ (by rfl) _ _ 23 59 (by rfl) underlying23 j1 _ 32 HI1.out HI2.out HI3.out HI4.out hst_zero (w.heap.size+1+1) (.slice a1 n1 c1) (by rfl) e.Hs (HK6.out _ (by first | exact (bRQ _ _).drew.alloc (nLQ _) _ | exact ((bRQ _ _).alloc (nLQ _) _).drew | exact (bRQ _ _).alloc (nLQ _) _)).1.h w6.heap.size 0 1 (by rfl) (x,(y1,y2)) (hst_new _ x y1 y2 59) HLV1.out HLV2.out ?_ ?_;(focus (have:=HBB.out;simp;omega));intro v5 w9 ho5 hg5 hb5;obtain⟨z1,zf1⟩:=HST.out _ _ (by first | exact (bRQ _ _).drew.alloc (nLQ _) _ | exact ((bRQ _ _).alloc (nLQ _) _).drew | exact (bRQ _ _).alloc (nLQ _) _) hg5;have HG:Hid _:=HFX.out _ _ _ (by first | exact (bRQ _ _).drew.alloc (nLQ _) _ | exact ((bRQ _ _).alloc (nLQ _) _).drew | exact (bRQ _ _).alloc (nLQ _) _) hg5 ho5;obtain⟨a9,n9,c9,rfl⟩:∃b1 m1 d1,v5=Value.slice b1 m1 d1:=(by obtain⟨a,c,h⟩:=own_form ho5;exact⟨a,_,c,h⟩);clear ho5 hg5 hb5))
       all_goals clear t0 t1 hw1 q2 hgl
       all_goals
        go_wp2_with fail
        go_meet
        exact RQ.yes 2 (by decide) (by decide) HG.out.1 HG.out.2.1 HF.out rfl
      have hne:((N:Int)==3)=false:=by rw[beq_eq_false_iff_ne];omega
      have HNO:Hid (lnO e ln=none):=(lq_ho0 HCA.out (fun h=>h2 (by rw[←HN.out,HQR.out,List.length_cons,h])));have HRW:Hid (RR w g8 c8 s w2):=HR2.out.rr;have HRC:Hid (RR w g8 c8 s w2):=HR2.out.rr
      go_wp2_with fail
      go_meet
      exact RQ.no 2 (by decide) (by decide) HR2.out.m HRW.out HNO.out
    by_cases e4:a=rulS
    ·as_aux_lemma =>
      rw[decide_eq_false e1] at k1;rw[decide_eq_false e2] at k2;rw[decide_eq_false e3] at k3;rw[decide_eq_true e4] at k4;have HCA:Hid (cutA ln=rulS :: r):=by show _=_;rw[HQ.out,HQR.out,e4]
      have y0:=HCX.out w2 HR2.out.rr;clear e1 e2 e3 e4;by_cases h2:2≤N
      ·obtain⟨x,t,hx⟩:∃x t,r=x :: t:=by
        have:=HN.out;rw[HQR.out,List.length_cons] at this
        match r,this with
        | [],h=>simp at h;omega
        | x :: t,_=>exact⟨x,t,rfl⟩
       subst hx;have hw1:w2.cell? ⟨gp,1,none⟩=some (.string x):=by
        have h:=word_at (HWP.out w2 (bRQ _ _)) (j:=1) (by rw[HN.out];omega);rw[show q[1]'(by rw[HN.out];omega)=x by simp[HQR.out]] at h;exact h
       have hN2:¬(N:Int)<2:=by omega
       have hN3:(1:Int)<(N:Int):=by omega
       obtain⟨n,hn⟩:∃n,n=dcN x:=⟨_,rfl⟩;obtain⟨ok,hok⟩:∃k,k=dcOk x:=⟨_,rfl⟩;have HX:Hid (dcN x=n∧dcOk x=ok):=⟨hn.symm,hok.symm⟩;have HXS:Hid (x.size≤1048576):=HQS.out x (by rw[HQR.out];simp);have hxs:x.size≤1048576:=HXS.out;have hls:ln.size≤1048576:=HLS.out;obtain⟨a3,N3,c3,hv3⟩:∃a n c,v3=.slice a n c:=by obtain⟨a,c,h⟩:=own_form HR2.out.m.t.ov;exact⟨a,_,c,h⟩
       have HN3:Hid (N3=e.Ts.length):=by
        show _=_;obtain⟨a,c,h⟩:=own_form HR2.out.m.t.ov;rw[hv3] at h;have h':N3=vs.length:=by injection h
        rw[h',HR2.out.m.t.lv]
       subst hv3;clear hn hok
       go_wp2_with fail
       refine (num_any x w2).mono ?_;rintro ee w' ⟨rfl,hw'⟩;have hw'':=hw'.symm;subst hw'';clear hw';rw[HX.out.1,HX.out.2];obtain⟨q0,q1,q2,q3⟩:=HR2.out.m.c;have hgl:=HR2.out.m.lt;have HRW:Hid (RR w g8 c8 s w2):=HR2.out.rr;have HRC:Hid (RR w g8 c8 s w2):=HR2.out.rr;cases ok with
       | false =>
         have HNO:Hid (lnO e ln=none):=(lq_rl1 HCA.out (by unfold raB;rw[HX.out.2];rfl))
         go_wp2_with fail
         go_meet
         exact RQ.no 3 (by decide) (by decide) HR2.out.m HRW.out HNO.out
       | true =>
         by_cases hm:1≤n∧n≤6∧(N3:Int)≤n
         ·obtain⟨hm1,hm2,hm3⟩:=hm;by_cases hfr:6+x.size≤ln.size
          ·have hfi:(6:Int)+(x.size:Int)≤(ln.size:Int):=by omega
           have hfi2:¬(ln.size:Int)<(6:Int)+(x.size:Int):=by omega
           have hm1':¬n<1:=by omega
           have hm2':¬6<n:=by omega
           have hm3':¬n<(N3:Int):=by omega
           obtain⟨tl,htl⟩:∃b,b=ln.extract (6+x.size) ln.size:=⟨_,rfl⟩;have HTL:Hid (cutA tl=t∧tl.size≤1048576):=by
            refine⟨?_,?_⟩
            ·rcases rl_rest HCA.out with ⟨_,h⟩ | ⟨_,h⟩
             ·exfalso;omega
             rw[htl];exact h
            rw[htl,ByteArray.size_extract];omega
           have HTE:Hid (ln.extract (6+x.size) ln.size=tl):=htl.symm;clear htl
           go_wp2_with fail
           rw[HTE.out];refine (readRule_any tl w2 HTL.out.2).mono ?_;rintro ee w3 ⟨rfl,hb3⟩;rw[HTL.out.1];have HR3:Hid (RL w g8 c8 s e v1 v2 (.slice a3 N3 c3) (.slice a7 m7 c7) vs i w3):=HR2.out.later hb3;clear hb3 q0 q1 q2 q3 hgl y0 hw0 hw1 HRW HRC;by_cases h0:paN t=0
           ·rw[paV_yes h0,h0];obtain⟨x0,hx0⟩:∃x,x=rP t:=⟨_,rfl⟩;obtain⟨x1,hx1⟩:∃x,x=rM t:=⟨_,rfl⟩;obtain⟨x2,hx2⟩:∃x,x=rB t:=⟨_,rfl⟩;obtain⟨x3,hx3⟩:∃x,x=rO t:=⟨_,rfl⟩;obtain⟨x4,hx4⟩:∃x,x=rS t:=⟨_,rfl⟩;obtain⟨x5,hx5⟩:∃x,x=rV t:=⟨_,rfl⟩;have HRU:Hid (rlO t=some ⟨x0,x1,x2,x3,x4,x5⟩):=by
             show _=_;unfold rlO;rw[if_pos h0,hx0,hx1,hx2,hx3,hx4,hx5]
            rw[←hx0,←hx1,←hx2,←hx3,←hx4,←hx5];clear hx0 hx1 hx2 hx3 hx4 hx5 h0;obtain⟨m,rfl⟩:∃m:Nat,n=(m:Int):=⟨n.toNat,by omega⟩;have HM:Hid (1≤m∧m≤6):=⟨by omega,by omega⟩;have HAT:Hid (RdM (w3.alloc (.cells #[.int i64 x0,.int i64 x1,.int i64 x2,.int i64 x3,.int i64 x4,.int i64 x5] 64)) (w.heap.size+1) (w.heap.size+1+1) e v1 v2 (.slice a3 N3 c3) (.slice a7 m7 c7) vs∧RR w g8 c8 s (w3.alloc (.cells #[.int i64 x0,.int i64 x1,.int i64 x2,.int i64 x3,.int i64 x4,.int i64 x5] 64))∧VAt (w3.alloc (.cells #[.int i64 x0,.int i64 x1,.int i64 x2,.int i64 x3,.int i64 x4,.int i64 x5] 64)) w3.heap.size 0 (rlE.c ⟨x0,x1,x2,x3,x4,x5⟩)):=
             ⟨HR3.out.m.later ((bRQ _ _).alloc (nLQ _) _),HR3.out.rr.later ((bRQ _ _).alloc (nLQ _) _),rl_new w3 x0 x1 x2 x3 x4 x5 64⟩
            go_wp2
            go_loopw [] (fun wr=>∃(u3:Value) (us:List SlT) (j:Nat),j≤m-e.Ts.length∧RdM wr (w.heap.size+1) (w.heap.size+1+1) { e with Ts:=e.Ts++List.replicate j [] } v1 v2 u3 (.slice a7 m7 c7) us∧(∀b,DrX v1 v2 u3 (.slice a7 m7 c7) us b→b≠w3.heap.size)∧RR w g8 c8 s wr∧VAt wr w3.heap.size 0 (rlE.c ⟨x0,x1,x2,x3,x4,x5⟩)∧w3.heap.size+1≤wr.heap.size) (fun wr=>m-tbK wr (w.heap.size+1))
            case atStart =>
             refine⟨.slice a3 N3 c3,vs,0,Nat.zero_le _,?_,fun b hb=>?_,HAT.out.2.1,HAT.out.2.2,by simp⟩
             ·have h:=HAT.out.1;simpa using h
             have:=(HR3.out.m.xlt hb).2;omega
            case round =>
             obtain⟨u3,us,j,hj,hDB,hNB,hRR,hV,hsz⟩:=hrel;have hul:us.length=e.Ts.length+j:=by
              have:=hDB.t.lv;simpa using this
             obtain⟨b3,d3,hu3⟩:=own_form hDB.t.ov;obtain⟨M,hM⟩:∃M,M=us.length:=⟨_,rfl⟩;rw[←hM] at hu3;subst hu3;have hc3:=hDB.c.2.2.2;have hf3:=hDB.f 3;have hgl:=hDB.lt;have HDB:Hid (RdM wr (w.heap.size+1) (w.heap.size+1+1) { e with Ts:=e.Ts++List.replicate j [] } v1 v2 (.slice b3 M d3) (.slice a7 m7 c7) us):=hDB;have HNB:Hid (∀b,DrX v1 v2 (.slice b3 M d3) (.slice a7 m7 c7) us b→b≠w3.heap.size):=hNB;have HRR:Hid (RR w g8 c8 s wr):=hRR;have HV:Hid (VAt wr w3.heap.size 0 (rlE.c ⟨x0,x1,x2,x3,x4,x5⟩)):=hV;have HSZ:Hid (w3.heap.size+1≤wr.heap.size):=hsz;have HGB:Hid (w.heap.size+1<w3.heap.size):=HR3.out.m.lt;have HBR:Hid (w.heap.size+1+1≤wr.heap.size):=hgl;have HT0:Hid (tbK wr (w.heap.size+1)=M):=by
              show _=_;unfold tbK;rw[hc3]
             have HUN:Hid (M=e.Ts.length+j∧us.length=M∧j≤m-e.Ts.length):=⟨by omega,hM.symm,hj⟩;clear hDB hNB hRR hV hul hM hj hsz;by_cases hNm:M<m
             ·have hNi:(M:Int)<(m:Int):=by omega
              obtain⟨j1,hj1,hy0,hy1,hy2⟩:=info_parts tab_info;have HI1:Hid (Tryz.prog.info? 48=some j1):=hj1;have HI2:Hid (j1.zero=some (.slice none 0 0)):=hy0;have HI3:Hid (j1.size=1):=hy1;have HI4:Hid (j1.bytes=24):=hy2;have HLV1:Hid (us.length+1≤maxLen):=by
               have:=HUN.out;have:=HM.out;show _≤_;unfold maxLen;omega
              have HLV2:Hid ((us.length+1)*24≤140737488355328):=by
               have:=HUN.out;have:=HM.out;show _≤_;omega
              clear hj1 hy0 hy1 hy2
              go_wp2_with (at_builtin;refine wpList_append_blk (E:=slE) _ rfl _ _ 26 48 rfl underlying26 j1 (.slice none 0 0) 24 HI1.out HI2.out HI3.out HI4.out (by rfl) (w.heap.size+1+1) (.slice b3 M d3) rfl us (HDB.out.t.ov.alloc _) wr.heap.size 0 1 rfl ((none,0,0):SlT) (vat_new wr [.slice none 0 0] _) HLV1.out HLV2.out ?m3 ?_)
              case m3 =>
               have:=HBR.out;simp;omega
              intro v' w6 ho6 hg6 hb6
              replace ho6:w6.ownsRow (w.heap.size+1+1) 48 slE.n v' (us++[((none,0,0):SlT)]).length (cellsG slE (us++[((none,0,0):SlT)])):=by
               rw[List.length_append];exact ho6
              have m1:=HDB.out.later ((Below.refl wr.heap.size wr).alloc (nLQ _) (Obj.cells #[.slice none 0 0] 48));have m2:=m1.addT dr_types.2.1.2 hg6 ho6;have hne:=row_ne m1.t.ov m1.gB;have z3:=hg6.cell m1.c.2.2.2 hne;have zf3:=fz_grown m1.lt m1.f hg6 hne 3;have zl:=bLQ w6 ⟨w.heap.size+1,3,none⟩ z3;obtain⟨a6,c6,hv6⟩:=own_form ho6;obtain⟨N6,hN6⟩:∃n,n=(us++[((none,0,0):SlT)]).length:=⟨_,rfl⟩;rw[←hN6] at hv6;subst hv6;have HN6:Hid (N6=M+1):=by
               show _=_;rw[hN6,List.length_append,HUN.out.2.1];rfl
              have hw6:wr.heap.size+1≤w6.heap.size:=by
               have:=hg6.size;simpa using this
              have HFIN:Hid (RdM (w6.setCell ⟨w.heap.size+1,3,none⟩ (.slice a6 N6 c6)) (w.heap.size+1) (w.heap.size+1+1) { e with Ts:=e.Ts++List.replicate (j+1) [] } v1 v2 (.slice a6 N6 c6) (.slice a7 m7 c7) (us++[(none,0,0)])∧(∀b,DrX v1 v2 (.slice a6 N6 c6) (.slice a7 m7 c7) (us++[(none,0,0)]) b→b≠w3.heap.size)∧RR w g8 c8 s (w6.setCell ⟨w.heap.size+1,3,none⟩ (.slice a6 N6 c6))∧VAt (w6.setCell ⟨w.heap.size+1,3,none⟩ (.slice a6 N6 c6)) w3.heap.size 0 (rlE.c ⟨x0,x1,x2,x3,x4,x5⟩)∧w3.heap.size+1≤(w6.setCell ⟨w.heap.size+1,3,none⟩ (.slice a6 N6 c6)).heap.size):=by
               have hs1:=HSZ.out;have hs2:=HGB.out;refine⟨?_,fun b hb=>?_,?_,?_,?_⟩
               ·have e':e.Ts++List.replicate (j+1) []=(e.Ts++List.replicate j [])++[[]]:=by
                 rw[List.replicate_succ',List.append_assoc]
                rw[e'];exact m2
               ·rcases hb with hb | hb | hb | hb | ⟨x,hx,hb⟩
                ·exact HNB.out b (.inl hb)
                ·exact HNB.out b (.inr (.inl hb))
                ·rcases hb6 with h6 | h6
                 ·exact HNB.out b (.inr (.inr (.inl (h6 ▸ hb))))
                 rw[h6] at hb;cases hb;simp;omega
                ·exact HNB.out b (.inr (.inr (.inr (.inl hb))))
                rw[List.mem_append,List.mem_singleton] at hx
                rcases hx with hx | hx
                ·exact HNB.out b (.inr (.inr (.inr (.inr ⟨x,hx,hb⟩))))
                rw[hx] at hb;cases hb
               ·exact (HRR.out.later ((Below.refl wr.heap.size wr).alloc (nLQ _) (Obj.cells #[.slice none 0 0] 48))).step m1 (kb_box (fun h=>h.1 rfl) _ _ ((Kb.refl _ _).grown hg6 fun b hb _ h=>h.2 (.inr (.inr (.inl hb)))))
               ·have hv:=(HV.out.later ((Below.refl wr.heap.size wr).alloc (nLQ _) (Obj.cells #[.slice none 0 0] 48)));intro q u hu;rw[World.cell?_setCell_other _ _ _ _ (by
                 intro e;have e2:w.heap.size+1=w3.heap.size:=congrArg Addr.block e;omega)]
                refine hg6.cell (hv q u hu) fun e=>?_
                exact HNB.out _ (.inr (.inr (.inl e.symm))) rfl
               have:(w6.setCell ⟨w.heap.size+1,3,none⟩ (.slice a6 N6 c6)).heap.size=w6.heap.size:=by simp
               omega
              have HT1:Hid (tbK (w6.setCell ⟨w.heap.size+1,3,none⟩ (.slice a6 N6 c6)) (w.heap.size+1)=N6):=by
               show _=_;unfold tbK;rw[World.cell?_setCell_same _ _ _ z3]
              clear ho6 hg6 hb6 m1 m2 hne hN6 hw6;go_wp2;go_roundw
              case rel=>exact⟨_,_,j+1,by have:=HUN.out;omega,HFIN.out⟩
              case measure =>
               rw[HT1.out,HT0.out];have:=HN6.out;omega
             have hNi:¬(M:Int)<(m:Int):=by omega
             obtain⟨k,hmi⟩:∃k:Nat,(m:Int)-1=(k:Int):=⟨m-1,by have:=HM.out;omega⟩;have hk0:(0:Int)≤(k:Int):=by omega
             have hwr:IntKind.i64.wrap (k:Int)=(k:Int):=by
              have:=HM.out;rw[IntKind.wrap_i64];omega
             have hk1:(k:Int)<(M:Int):=by omega
             have HI:Hid (k=m-1∧k<M∧j=m-e.Ts.length):=⟨by omega,by omega,by have:=HUN.out;omega⟩;obtain⟨g,hg3⟩:∃g,b3=some ⟨g,0,none⟩:=by
              rcases HDB.out.t.ov.2 with ⟨h1,h2⟩ | ⟨g,cap,cur,h1,_⟩
              ·exfalso
               have:=HUN.out;omega
              cases h1;exact⟨g,rfl⟩
             subst hg3;obtain⟨⟨ax,nx,cx⟩,hx⟩:=cut_at (vs:=us) (i:=k) (by have:=HUN.out.2.1;omega);have hil:k<(e.Ts++List.replicate j ([]:List Ru)).length:=by
              rw[←HDB.out.t.lv,HUN.out.2.1];omega
             obtain⟨LR,hL⟩:∃LR,(e.Ts++List.replicate j ([]:List Ru))[k]?=some LR:=⟨_,List.getElem?_eq_getElem hil⟩;have HLL:Hid (LR.length≤1000000):=by
              show _≤_;have hm:=List.mem_of_getElem? hL;rw[List.mem_append,List.mem_replicate] at hm
              rcases hm with hm | hm
              ·exact Nat.le_trans (HBI.out.2.2.2 LR hm) (by decide)
              rw[hm.2];exact Nat.zero_le _
             have HXU:Hid (us[k]?=some (ax,nx,cx)∧(e.Ts++List.replicate j ([]:List Ru))[k]?=some LR):=⟨hx,hL⟩;have HUT:Hid ((e.Ts++List.replicate j ([]:List Ru)).set k (LR++[(⟨x0,x1,x2,x3,x4,x5⟩:Ru)])=tbP e.Ts m ⟨x0,x1,x2,x3,x4,x5⟩):=by
              show _=_;rw[tbP,←HI.out.2.2,←HI.out.1,List.getD_eq_getElem?_getD,hL];rfl
             have HKD:Hid (∀V,Below wr.heap.size wr V→RdM V (w.heap.size+1) (w.heap.size+1+1) { e with Ts:=e.Ts++List.replicate j [] } v1 v2 (.slice (some ⟨g,0,none⟩) M d3) (.slice a7 m7 c7) us):=fun V hV=>HDB.out.later hV
             have HKC:Hid (∀V,Below wr.heap.size wr V→V.cell? ⟨g,k,none⟩=some (.slice ax nx cx)∧V.cell? ⟨w.heap.size+1,3,none⟩=some (.slice (some ⟨g,0,none⟩) M d3)):=fun V hV=>by
              have m1:=HKD.out V hV;refine⟨?_,m1.c.2.2.2⟩;have h:=World.ownsRow.cells m1.t.ov (g:=g) rfl k (slV (ax,nx,cx)) (by rw[sl_cells,List.getElem?_map,HXU.out.1];rfl);by_cases h0:k=0 <;> simpa[Addr.add,h0,slV] using h
             have HKR:Hid (∀V,Below wr.heap.size wr V→V.cell? ⟨w3.heap.size,0,none⟩=some (.int i64 x0)∧V.cell? ⟨w3.heap.size,1,none⟩=some (.int i64 x1)∧V.cell? ⟨w3.heap.size,2,none⟩=some (.int i64 x2)∧V.cell? ⟨w3.heap.size,3,none⟩=some (.int i64 x3)∧V.cell? ⟨w3.heap.size,4,none⟩=some (.int i64 x4)∧V.cell? ⟨w3.heap.size,5,none⟩=some (.int i64 x5)):=fun V hV=>by
              have h:=rl_cells (HV.out.later hV);simpa only[Nat.zero_add] using h
             have HST:Hid (∀V V2,Below wr.heap.size wr V→V.grownBy V2 (slV (ax,nx,cx)).ownBlock→(V2.cell? ⟨g,k,none⟩=some (.slice ax nx cx)∧V2.cell? ⟨w.heap.size+1,3,none⟩=some (.slice (some ⟨g,0,none⟩) M d3))∧V2.frozen? ⟨g,k,none⟩=false):=fun V V2 hV hg=>by
              have m1:=HKD.out V hV;have hrx:=m1.t.rv k _ LR HXU.out.1 HXU.out.2;have hov:=m1.t.ov.kept hg (oo_apart m1.t.ov hrx dr_types.2.1.2.2);have h:=World.ownsRow.cells hov (g:=g) rfl k (slV (ax,nx,cx)) (by rw[sl_cells,List.getElem?_map,HXU.out.1];rfl);have hne:=row_ne hrx m1.gB;refine⟨⟨by by_cases h0:k=0 <;> simpa[Addr.add,h0,slV] using h,hg.cell m1.c.2.2.2 hne⟩,?_⟩;rw[HUN.out.2.1] at hov;exact hov.frozenAt k
             have HFX:Hid (∀V V2 (y:SlT),Below wr.heap.size wr V→V.grownBy V2 (slV (ax,nx,cx)).ownBlock→V2.ownsRow (w.heap.size+1+1) 64 rlE.n (slV y) (LR++[(⟨x0,x1,x2,x3,x4,x5⟩:Ru)]).length (cellsG rlE (LR++[(⟨x0,x1,x2,x3,x4,x5⟩:Ru)]))→((slV y).ownBlock=(slV (ax,nx,cx)).ownBlock∨(slV y).ownBlock=some V.heap.size) →
              RdM (V2.setCell ⟨g,k,none⟩ (slV y)) (w.heap.size+1) (w.heap.size+1+1) { e with Ts:=tbP e.Ts m ⟨x0,x1,x2,x3,x4,x5⟩ } v1 v2 (.slice (some ⟨g,0,none⟩) M d3) (.slice a7 m7 c7) (us.set k y)∧RR w g8 c8 s (V2.setCell ⟨g,k,none⟩ (slV y))∧RR w g8 c8 s V2):=fun V V2 y hV hg ho hb=>by
              have m1:=HKD.out V hV;have rr:=HRR.out.later hV;have hxm:(ax,nx,cx)∈us:=List.mem_of_getElem? HXU.out.1;have hk:Kb (fun b=>b≠w.heap.size+1∧¬DrX v1 v2 (.slice (some ⟨g,0,none⟩) M d3) (.slice a7 m7 c7) us b) V V2:=(Kb.refl _ _).grown hg fun r hr _ h=>h.2 (.inr (.inr (.inr (.inr ⟨_,hxm,hr⟩))))
              refine⟨?_,rr.step m1 (hk.setCell (q:=⟨g,k,none⟩) (fun _ h=>h.2 (.inr (.inr (.inl rfl)))) _),rr.step m1 hk⟩;rw[←HUT.out];exact m1.addR dr_types.2.2 HXU.out.1 HXU.out.2 hg ho hb
             obtain⟨j1,hj1,hy0,hy1,hy2⟩:=info_parts rl_info;have HI1:Hid (Tryz.prog.info? 64=some j1):=hj1;have HI2:Hid (j1.zero=some (.agg #[.int i64 0,.int i64 0,.int i64 0,.int i64 0,.int i64 0,.int i64 0])):=hy0;have HI3:Hid (j1.size=6):=hy1;have HI4:Hid (j1.bytes=48):=hy2;have HLV1:Hid (LR.length+1≤maxLen):=by
              have:=HLL.out;show _≤_;unfold maxLen;omega
             have HLV2:Hid ((LR.length+1)*48≤140737488355328):=by
              have:=HLL.out;show _≤_;omega
             have HRA:Hid (raB e x=true):=by
              show _=_;unfold raB;rw[HX.out.1,HX.out.2,←HN3.out,decide_eq_true hm1,decide_eq_true hm2,decide_eq_true hm3];rfl
             have HF:Hid (lnO e ln=if (true&&phB e 3)=true then some { e with Ts:=tbP e.Ts m ⟨x0,x1,x2,x3,x4,x5⟩,ph:=3 } else none):=by
              show _=_;rw[Bool.true_and];by_cases h:phB e 3=true
              ·rw[if_pos h];have h':=lq_rl3 HCA.out (d:=e) (by rw[HRA.out,h];rfl) HRU.out;rw[HX.out.1] at h';exact h'
              rw[if_neg h];exact lq_rl1 HCA.out (by rw[HRA.out];simpa using h)
             obtain⟨k0',k3'⟩:=HKC.out wr (bRQ _ _);obtain⟨i0',i1',i2',i3',i4',i5'⟩:=HKR.out wr (bRQ _ _);have hgl2:=bLQ wr ⟨g,k,none⟩ k0';have hrl2:=bLQ wr ⟨w3.heap.size,0,none⟩ i0';clear hj1 hy0 hy1 hy2 hx hL hil hc3;go_upto_region 50 with fail;have HSA:Hid (∀V,Below wr.heap.size wr V→RgS (w.heap.size+1) w3.heap.size g M d3 x0 x1 x2 x3 x4 x5 V):=fun V hV=>⟨(HKC.out V hV).2,HKR.out V hV⟩
             have HSF:Hid (∀V V2 (y:SlT),Below wr.heap.size wr V→V.grownBy V2 (slV (ax,nx,cx)).ownBlock→V2.ownsRow (w.heap.size+1+1) 64 rlE.n (slV y) (LR++[(⟨x0,x1,x2,x3,x4,x5⟩:Ru)]).length (cellsG rlE (LR++[(⟨x0,x1,x2,x3,x4,x5⟩:Ru)]))→((slV y).ownBlock=(slV (ax,nx,cx)).ownBlock∨(slV y).ownBlock=some V.heap.size) →
              RgS (w.heap.size+1) w3.heap.size g M d3 x0 x1 x2 x3 x4 x5 V2∧RgS (w.heap.size+1) w3.heap.size g M d3 x0 x1 x2 x3 x4 x5 (V2.setCell ⟨g,k,none⟩ (slV y))):=fun V V2 y hV hg ho hb=>by
              have hxm:(ax,nx,cx)∈us:=List.mem_of_getElem? HXU.out.1;obtain⟨r0,r1,r2,r3,r4,r5⟩:=HKR.out V hV;have hne:(slV (ax,nx,cx)).ownBlock≠some w3.heap.size:=fun e=>HNB.out _ (.inr (.inr (.inr (.inr ⟨_,hxm,e⟩)))) rfl
              have hng:g≠w3.heap.size:=HNB.out g (.inr (.inr (.inl rfl)));have key:∀j u,V.cell? ⟨w3.heap.size,j,none⟩=some u→V2.cell? ⟨w3.heap.size,j,none⟩=some u:=fun j u h=>hg.cell h (Ne.symm hne)
              have key2:∀j u,V2.cell? ⟨w3.heap.size,j,none⟩=some u→(V2.setCell ⟨g,k,none⟩ (slV y)).cell? ⟨w3.heap.size,j,none⟩=some u:=fun j u h=>by
               rw[World.cell?_setCell_other _ _ _ _ (fun e=>hng (congrArg Addr.block e))];exact h
              have b1:=(HST.out V V2 hV hg).1.2;have b2:=(HFX.out V V2 y hV hg ho hb).1.c.2.2.2;exact⟨⟨b1,key _ _ r0,key _ _ r1,key _ _ r2,key _ _ r3,key _ _ r4,key _ _ r5⟩,b2,key2 _ _ (key _ _ r0),key2 _ _ (key _ _ r1),key2 _ _ (key _ _ r2),key2 _ _ (key _ _ r3),key2 _ _ (key _ _ r4),key2 _ _ (key _ _ r5)⟩
             rename_i qq2 kk4 aa5 qq1 kk3 aa4 hNmX kk2 aa3 jj kkp aa2 aa1 hX kk1 qq kk aa
             (try clear aa)
             (try clear aa3)
             (try clear aa4)
             (try clear aa5)
             clear i0 i1 i2 hi3 hcpp hN1 hNmX hcp1 k1 k2 k3 k4 h2 hN3 hxs hls hN2 hfr hfi hfi2 hm1 hm2 hm3 hm1' hm2' hm3' hlt hi h3i hcap hL3 he hNm hNi hX;refine wp_region_held_drew (S:=RgS (w.heap.size+1) w3.heap.size g M d3 x0 x1 x2 x3 x4 x5) (by kernel_rfl) (HSA.out _ (Below.drew (bRQ _ _))) (fun hHeld=>?_);refine wpAnyH_take (i:=0) (oi:=⟨_,_,_,_,_,_⟩) (v:=.pointer (some ⟨w.heap.size+1,3,none⟩)) rfl (by kernel_rfl) (by kernel_rfl) (by kernel_rfl) (fun _ _ _ h=>h) (Or.inl ⟨by rfl,?_⟩) hHeld ?_
             ·intro V hV;obtain⟨v0,v1,v2,v3,v4,v5,v6⟩:=hV;go_simp
             try simp only[Act.put,AP]
             refine wpAnyH_take (i:=1) (oi:=⟨_,_,_,_,_,_⟩) (v:=.slice (some ⟨g,0,none⟩) M d3) rfl (by kernel_rfl) (by kernel_rfl) (by kernel_rfl) (fun _ _ _ h=>h) (Or.inl ⟨by rfl,?_⟩) hHeld ?_
             ·intro V hV;obtain⟨v0,v1,v2,v3,v4,v5,v6⟩:=hV;go_simp
             try simp only[Act.put,AP]
             refine wpAnyH_take (i:=2) (oi:=⟨_,_,_,_,_,_⟩) (v:=.int i64 (m:Int)) rfl (by kernel_rfl) (by kernel_rfl) (by kernel_rfl) (fun _ _ _ h=>h) (Or.inl ⟨by rfl,?_⟩) hHeld ?_
             ·intro V hV;obtain⟨v0,v1,v2,v3,v4,v5,v6⟩:=hV;go_simp
             try simp only[Act.put,AP]
             refine wpAnyH_take (i:=3) (oi:=⟨_,_,_,_,_,_⟩) (v:=.int i64 (k:Int)) rfl (by kernel_rfl) (by kernel_rfl) (by kernel_rfl) (fun _ _ _ h=>h) (Or.inl ⟨by rfl,?_⟩) hHeld ?_
             ·intro V hV;obtain⟨v0,v1,v2,v3,v4,v5,v6⟩:=hV;go_simp
             try simp only[Act.put,AP]
             refine wpAnyH_take (i:=4) (oi:=⟨_,_,_,_,_,_⟩) (v:=.pointer (some ⟨w.heap.size+1,3,none⟩)) rfl (by kernel_rfl) (by kernel_rfl) (by kernel_rfl) (fun _ _ _ h=>h) (Or.inl ⟨by rfl,?_⟩) hHeld ?_
             ·intro V hV;obtain⟨v0,v1,v2,v3,v4,v5,v6⟩:=hV;go_simp
             try simp only[Act.put,AP]
             refine wpAnyH_take (i:=5) (oi:=⟨_,_,_,_,_,_⟩) (v:=.slice (some ⟨g,0,none⟩) M d3) rfl (by kernel_rfl) (by kernel_rfl) (by kernel_rfl) (fun _ _ _ h=>h) (Or.inl ⟨by rfl,?_⟩) hHeld ?_
             ·intro V hV;obtain⟨v0,v1,v2,v3,v4,v5,v6⟩:=hV;go_simp
             try simp only[Act.put,AP]
             refine wpAnyH_take (i:=6) (oi:=⟨_,_,_,_,_,_⟩) (v:=.int i64 (m:Int)) rfl (by kernel_rfl) (by kernel_rfl) (by kernel_rfl) (fun _ _ _ h=>h) (Or.inl ⟨by rfl,?_⟩) hHeld ?_
             ·intro V hV;obtain⟨v0,v1,v2,v3,v4,v5,v6⟩:=hV;go_simp
             try simp only[Act.put,AP]
             refine wpAnyH_take (i:=7) (oi:=⟨_,_,_,_,_,_⟩) (v:=.int i64 (k:Int)) rfl (by kernel_rfl) (by kernel_rfl) (by kernel_rfl) (fun _ _ _ h=>h) (Or.inl ⟨by rfl,?_⟩) hHeld ?_
             ·intro V hV;obtain⟨v0,v1,v2,v3,v4,v5,v6⟩:=hV;go_simp
             try simp only[Act.put,AP]
             refine wpAnyH_take (i:=8) (oi:=⟨_,_,_,_,_,_⟩) (v:=.pointer (some ⟨g,k,none⟩)) rfl (by kernel_rfl) (by kernel_rfl) (by kernel_rfl) (fun _ _ _ h=>h) (Or.inl ⟨by rfl,?_⟩) hHeld ?_
             ·intro V hV;obtain⟨v0,v1,v2,v3,v4,v5,v6⟩:=hV;go_simp
             try simp only[Act.put,AP]
             refine wpAnyH_take (i:=10) (oi:=⟨_,_,_,_,_,_⟩) (v:=.agg #[.int i64 x0,.int i64 x1,.int i64 x2,.int i64 x3,.int i64 x4,.int i64 x5]) rfl (by kernel_rfl) (by kernel_rfl) (by kernel_rfl) (fun _ _ _ h=>h) (Or.inl ⟨by rfl,?_⟩) hHeld ?_
             ·intro V hV;obtain⟨v0,v1,v2,v3,v4,v5,v6⟩:=hV;go_simp
             try simp only[Act.put,AP]
             refine wpAnyH_ready (rs:=[9,11]) (by kernel_rfl) (by simp) ?_;refine AllReadyH.cons (o:=⟨_,_,_,_,_,_⟩) rfl (fun K hK=>?_) (AllReadyH.cons (o:=⟨_,_,_,_,_,_⟩) rfl (fun K hK=>?_) AllReadyH.nil)
             ·skip;have cq:=(HKC.out (wr.drew) (Below.drew (bRQ _ _))).1;rw[if_pos (by rfl)];refine op_run (rt_run _ _ _ _ _ _ _ ⟨g,k,none⟩ ax nx cx (by rfl) cq) ?_;refine hK.out _ _ hHeld (fun hHeld=>?_);clear hK K cq
              try simp only[Act.put,AP]
              refine wpAnyH_ready (rs:=[11]) (by kernel_rfl) (by simp) ?_;refine AllReadyH.cons (o:=⟨_,_,_,_,_,_⟩) rfl (fun K hK=>?_) AllReadyH.nil;rw[if_pos (by rfl)];refine op_run (rb_run _ _ _ _ _ _ x0 x1 x2 x3 x4 x5 (by rfl)) ?_;refine hK.out _ _ (HSA.out _ ((Below.drew (bRQ _ _)).alloc (nLQ _) _)) (fun hHeld=>?_);clear hK K
              try simp only[Act.put,AP]
              refine wpAnyH_ready (rs:=[12]) (by kernel_rfl) (by simp) ?_;refine AllReadyH.cons (o:=⟨_,_,_,_,_,_⟩) rfl (fun K hK=>?_) AllReadyH.nil;refine step_append_blk (E:=rlE) _ (by rfl) _ _ 48 64 (by rfl) underlying48 j1 _ 48 HI1.out HI2.out HI3.out HI4.out rl_zero (w.heap.size+1+1) (.slice ax nx cx) (by rfl) LR ((HKD.out _ ((Below.drew (bRQ _ _)).alloc (nLQ _) _)).t.rv k _ LR HXU.out.1 HXU.out.2) wr.heap.size 0 1 (by rfl) (⟨x0,x1,x2,x3,x4,x5⟩:Ru) (rl_new _ x0 x1 x2 x3 x4 x5 64) HLV1.out HLV2.out ?_ ?_
              ·have:=HBR.out;simp;omega
              intro v5 w6 ho5 hg5 hb5;obtain⟨a6,m6,c6,rfl⟩:∃b1 m1 d1,v5=Value.slice b1 m1 d1:=(by obtain⟨a,c,h⟩:=own_form ho5;exact⟨a,_,c,h⟩);obtain⟨⟨z1,z3⟩,zf1⟩:=HST.out _ _ ((Below.drew (bRQ _ _)).alloc (nLQ _) _) hg5;have HG:Hid _:=HFX.out _ _ (a6,m6,c6) ((Below.drew (bRQ _ _)).alloc (nLQ _) _) hg5 ho5 hb5;have HS2:Hid _:=HSF.out _ _ (a6,m6,c6) ((Below.drew (bRQ _ _)).alloc (nLQ _) _) hg5 ho5 hb5;refine hK.out _ _ HS2.out.1 (fun hHeld=>?_);clear hK K ho5 hg5 hb5
              try simp only[Act.put,AP]
              refine wpAnyH_take (i:=13) (oi:=⟨_,_,_,_,_,_⟩) (v:=.pointer (some ⟨g,k,none⟩)) rfl (by kernel_rfl) (by kernel_rfl) (by kernel_rfl) (fun _ _ _ h=>h) (Or.inl ⟨by rfl,?_⟩) hHeld ?_
              ·intro V hV;obtain⟨v0,v1,v2,v3,v4,v5,v6⟩:=hV;go_simp
              try simp only[Act.put,AP]
              refine wpAnyH_ready (rs:=[14]) (by kernel_rfl) (by simp) ?_;refine AllReadyH.cons (o:=⟨_,_,_,_,_,_⟩) rfl (fun K hK=>?_) AllReadyH.nil;rw[if_pos (by rfl)];refine op_skip (rs_run _ _ _ _ _ _ _ _ ⟨g,k,none⟩ a6 m6 c6 _ (by rfl) (by rfl) z1 zf1) ?_;refine hK.out _ _ HS2.out.2 (fun hHeld=>?_);clear hK K
              try simp only[Act.put,AP]
              refine wpAnyH_done (by kernel_rfl) ?_ _;clear k0' k3' i0' i1' i2' i3' i4' i5' hHeld z1 z3 zf1
              go_wp2_with fail
              go_meet
              exact RQ.yes 3 (by decide) (by decide) HG.out.1 HG.out.2.1 HF.out rfl
             skip;rw[if_pos (by rfl)];refine op_run (rb_run _ _ _ _ _ _ x0 x1 x2 x3 x4 x5 (by rfl)) ?_;refine hK.out _ _ (HSA.out _ ((Below.drew (bRQ _ _)).alloc (nLQ _) _)) (fun hHeld=>?_);clear hK K
             try simp only[Act.put,AP]
             refine wpAnyH_ready (rs:=[9]) (by kernel_rfl) (by simp) ?_;refine AllReadyH.cons (o:=⟨_,_,_,_,_,_⟩) rfl (fun K hK=>?_) AllReadyH.nil;have cq:=(HKC.out (wr.drew.alloc (.cells #[.int i64 x0,.int i64 x1,.int i64 x2,.int i64 x3,.int i64 x4,.int i64 x5] 64)) ((Below.drew (bRQ _ _)).alloc (nLQ _) _)).1;rw[if_pos (by rfl)];refine op_run (rt_run _ _ _ _ _ _ _ ⟨g,k,none⟩ ax nx cx (by rfl) cq) ?_;refine hK.out _ _ hHeld (fun hHeld=>?_);clear hK K cq
             try simp only[Act.put,AP]
             refine wpAnyH_ready (rs:=[12]) (by kernel_rfl) (by simp) ?_;refine AllReadyH.cons (o:=⟨_,_,_,_,_,_⟩) rfl (fun K hK=>?_) AllReadyH.nil;refine step_append_blk (E:=rlE) _ (by rfl) _ _ 48 64 (by rfl) underlying48 j1 _ 48 HI1.out HI2.out HI3.out HI4.out rl_zero (w.heap.size+1+1) (.slice ax nx cx) (by rfl) LR ((HKD.out _ ((Below.drew (bRQ _ _)).alloc (nLQ _) _)).t.rv k _ LR HXU.out.1 HXU.out.2) wr.heap.size 0 1 (by rfl) (⟨x0,x1,x2,x3,x4,x5⟩:Ru) (rl_new _ x0 x1 x2 x3 x4 x5 64) HLV1.out HLV2.out ?_ ?_
             ·have:=HBR.out;simp;omega
             intro v5 w6 ho5 hg5 hb5;obtain⟨a6,m6,c6,rfl⟩:∃b1 m1 d1,v5=Value.slice b1 m1 d1:=(by obtain⟨a,c,h⟩:=own_form ho5;exact⟨a,_,c,h⟩);obtain⟨⟨z1,z3⟩,zf1⟩:=HST.out _ _ ((Below.drew (bRQ _ _)).alloc (nLQ _) _) hg5;have HG:Hid _:=HFX.out _ _ (a6,m6,c6) ((Below.drew (bRQ _ _)).alloc (nLQ _) _) hg5 ho5 hb5;have HS2:Hid _:=HSF.out _ _ (a6,m6,c6) ((Below.drew (bRQ _ _)).alloc (nLQ _) _) hg5 ho5 hb5;refine hK.out _ _ HS2.out.1 (fun hHeld=>?_);clear hK K ho5 hg5 hb5
             try simp only[Act.put,AP]
             refine wpAnyH_take (i:=13) (oi:=⟨_,_,_,_,_,_⟩) (v:=.pointer (some ⟨g,k,none⟩)) rfl (by kernel_rfl) (by kernel_rfl) (by kernel_rfl) (fun _ _ _ h=>h) (Or.inl ⟨by rfl,?_⟩) hHeld ?_
             ·intro V hV;obtain⟨v0,v1,v2,v3,v4,v5,v6⟩:=hV;go_simp
             try simp only[Act.put,AP]
             refine wpAnyH_ready (rs:=[14]) (by kernel_rfl) (by simp) ?_;refine AllReadyH.cons (o:=⟨_,_,_,_,_,_⟩) rfl (fun K hK=>?_) AllReadyH.nil;rw[if_pos (by rfl)];refine op_skip (rs_run _ _ _ _ _ _ _ _ ⟨g,k,none⟩ a6 m6 c6 _ (by rfl) (by rfl) z1 zf1) ?_;refine hK.out _ _ HS2.out.2 (fun hHeld=>?_);clear hK K
             try simp only[Act.put,AP]
             refine wpAnyH_done (by kernel_rfl) ?_ _;clear k0' k3' i0' i1' i2' i3' i4' i5' hHeld z1 z3 zf1
             go_wp2_with fail
             go_meet
             exact RQ.yes 3 (by decide) (by decide) HG.out.1 HG.out.2.1 HF.out rfl
           have HNO:Hid (lnO e ln=none):=(lq_rl2 HCA.out (by unfold rlO;rw[if_neg h0]));obtain⟨pn,hpn⟩:∃p,p=paN t:=⟨_,rfl⟩;rw[paV_no h0,←hpn];have hpz:(pn==0)=false:=by rw[beq_eq_false_iff_ne,hpn];exact h0
           have hpz2:¬pn=0:=by rw[hpn];exact h0
           have HRC:Hid (RR w g8 c8 s (w3.alloc (.cells #[.int i64 0,.int i64 0,.int i64 0,.int i64 0,.int i64 0,.int i64 0] 64))):=HR3.out.rr.later ((bRQ _ _).alloc (nLQ _) _);have HRW:=HRC;clear hpn h0;go_wp2
           go_loopw [] (fun wr=>wr=w3.alloc (.cells #[.int i64 0,.int i64 0,.int i64 0,.int i64 0,.int i64 0,.int i64 0] 64)) (fun _=>0)
           case atStart=>rfl
           case round =>
            have hrel':=hrel;subst hrel';clear hrel
            go_wp2_with fail
            go_meet
            exact RQ.no 3 (by decide) (by decide) (HR3.out.m.later ((bRQ _ _).alloc (nLQ _) _)) HRW.out HNO.out
          have hfi:¬(6:Int)+(x.size:Int)≤(ln.size:Int):=by omega
          have hfi2:(ln.size:Int)<(6:Int)+(x.size:Int):=by omega
          have HNO:Hid (lnO e ln=none):=(lq_rl2 HCA.out (by
           rcases rl_rest HCA.out with ⟨h,_⟩ | ⟨h,_⟩
           ·rw[h];rfl
           exact absurd h hfr))
          have hm1':¬n<1:=by omega
          have hm2':¬6<n:=by omega
          have hm3':¬n<(N3:Int):=by omega
          go_wp2_with fail
          go_meet
          exact RQ.no 3 (by decide) (by decide) HR2.out.m HRW.out HNO.out
         have HNO:Hid (lnO e ln=none):=(lq_rl1 HCA.out (by
          unfold raB;rw[HX.out.1,HX.out.2,←HN3.out];cases h:(true&&(decide (1≤n)&&(decide (n≤6)&&decide ((N3:Int)≤n)))&&phB e 3) with
          | false=>rfl
          | true =>
            simp only[Bool.and_eq_true,decide_eq_true_eq] at h;exact absurd ⟨h.1.2.1,h.1.2.2.1,h.1.2.2.2⟩ hm))
         by_cases hm1:n<1
         ·go_wp2_with fail
          go_meet
          exact RQ.no 3 (by decide) (by decide) HR2.out.m HRW.out HNO.out
         by_cases hm2:6<n
         ·go_wp2_with fail
          go_meet
          exact RQ.no 3 (by decide) (by decide) HR2.out.m HRW.out HNO.out
         have hm3:n<(N3:Int):=by omega
         go_wp2_with fail
         go_meet
         exact RQ.no 3 (by decide) (by decide) HR2.out.m HRW.out HNO.out
      obtain⟨hr0⟩:Nonempty (r=[]):=by
       have:=HN.out;rw[HQR.out,List.length_cons] at this;exact⟨List.eq_nil_of_length_eq_zero (by omega)⟩
      subst hr0;have hN2:(N:Int)<2:=by omega
      have HNO:Hid (lnO e ln=none):=(lq_rl0 HCA.out);have HRW:Hid (RR w g8 c8 s w2):=HR2.out.rr;have HRC:Hid (RR w g8 c8 s w2):=HR2.out.rr
      go_wp2_with fail
      go_meet
      exact RQ.no 3 (by decide) (by decide) HR2.out.m HRW.out HNO.out
    as_aux_lemma =>
     rw[decide_eq_false e1] at k1;rw[decide_eq_false e2] at k2;rw[decide_eq_false e3] at k3;rw[decide_eq_false e4] at k4;have HCW:Hid (cutA ln=a :: r∧a≠swcS∧a≠lnkS∧a≠hosS∧a≠rulS):=⟨by rw[HQ.out,HQR.out],e1,e2,e3,e4⟩;have y0:=HCX.out w2 HR2.out.rr;clear e1 e2 e3 e4;obtain⟨x,hx⟩:∃x,x=paW ln:=⟨_,rfl⟩;obtain⟨ok,hok⟩:∃k,k=(rdO ln).isSome:=⟨_,rfl⟩;have HV:Hid (paW ln=x∧(rdO ln).isSome=ok):=⟨hx.symm,hok.symm⟩;clear hx hok;obtain⟨y1,y2,y3,y4⟩:=x
     go_wp2_with fail
     refine (rread_any ln w2 HLS.out).mono ?_;rintro ee w5 ⟨rfl,hb5⟩;rw[HV.out.1,HV.out.2]
     dsimp only
     go_upto_region 18 with fail;obtain⟨w6,hw6⟩:∃V,w5.alloc (.cells #[.int i64 y1,.string y2,.string y3,.int i64 y4] 50)=V:=⟨_,rfl⟩;rw[hw6];have hb56:Below w5.heap.size w5 w6:=by rw[←hw6];exact (bRQ _ _).alloc (nLQ _) _
     have hC:=wis_new w5 y1 y2 y3 y4 50;rw[hw6] at hC;have HR6:Hid (RL w g8 c8 s e v1 v2 v3 (.slice a7 m7 c7) vs i w6):=HR2.out.later (hb5.trans (hb56.mono hb5.size));obtain⟨t0,t1,t2,t3⟩:=wis_cells hC;simp only[Nat.zero_add] at t0 t1 t2 t3;have t0l:=bLQ w6 _ t0;obtain⟨j1,hj,hy0,hy1,hy2⟩:=info_parts wis_info;have HI1:Hid (Tryz.prog.info? 50=some j1):=hj;have HI2:Hid (j1.zero=some (.agg #[.int i64 0,.string ByteArray.empty,.string ByteArray.empty,.int i64 0])):=hy0;have HI3:Hid (j1.size=4):=hy1;have HI4:Hid (j1.bytes=48):=hy2;have HLV1:Hid (e.ws.length+1≤maxLen):=by
      have:=HBI.out.2.2.1;show _≤_;unfold maxLen;omega
     have HLV2:Hid ((e.ws.length+1)*48≤140737488355328):=by
      have:=HBI.out.2.2.1;show _≤_;omega
     have HBB:Hid (w.heap.size+1+1≤w6.heap.size):=by
      show _≤_;have:=(HR6.out.rr.l.lt g8 rfl);omega
     clear hC hb56 hb5 hw6 hj hy0 hy1 hy2 y0
     go_wp2_with (at_builtin;refine wpList_append_blk (E:=wisE) _ rfl _ _ 29 50 rfl underlying29 j1 _ 48 HI1.out HI2.out HI3.out HI4.out wis_zero (w.heap.size+1+1) (.slice a7 m7 c7) rfl e.ws (HR6.out.m.w.alloc _) w6.heap.size 0 1 rfl (⟨y1,y2,y3,y4⟩:Wi) (wis_new _ y1 y2 y3 y4 _) HLV1.out HLV2.out ?mz ?_)
     case mz =>
      have:=HBB.out;simp;omega
     intro v' w9 ho9 hg9 hb9
     replace ho9:w9.ownsRow (w.heap.size+1+1) 50 wisE.n v' (e.ws++[(⟨y1,y2,y3,y4⟩:Wi)]).length (cellsG wisE (e.ws++[(⟨y1,y2,y3,y4⟩:Wi)])):=by
      rw[List.length_append];exact ho9
     have hba:Below w6.heap.size w6 (w6.alloc (.cells #[.int i64 y1,.string y2,.string y3,.int i64 y4] 50)):=(bRQ _ _).alloc (nLQ _) _;have m7':=HR6.out.m.later hba;have HM9:Hid (RdM w9 (w.heap.size+1) (w.heap.size+1+1) { e with ws:=e.ws++[(⟨y1,y2,y3,y4⟩:Wi)] } v1 v2 v3 v' vs):=m7'.addW dr_types.2.1.1 hg9 ho9;have HRW:Hid (RR w g8 c8 s w9):=(HR6.out.rr.later hba).step m7' ((Kb.refl _ _).grown hg9 fun b hb _ h=>h.2 (.inr (.inr (.inr (.inl hb)))));have HRC:=HRW;have hph4:PH≤4:=by rw[←HPH.out];exact HR2.out.ph.2.1
     clear ho9 hg9 hb9 hba m7' t0 t1 t2 t3 t0l;have HF:Hid (lnO e ln=if (ok&&phB e 4)=true then some { e with ws:=e.ws++[(⟨y1,y2,y3,y4⟩:Wi)],ph:=4 } else none):=by
      show _=_;rw[lq_wi HCW.out.1 HCW.out.2.1 HCW.out.2.2.1 HCW.out.2.2.2.1 HCW.out.2.2.2.2,HV.out.2,HV.out.1]
     go_wp2_with fail
     go_meet
     exact RQ.yes 4 (by decide) (by decide) HM9.out HRW.out HF.out rfl
   case rest =>
    obtain⟨ok,k,f,u1,u2,u3,us,rfl,rfl,hk0,hk4,hm,hr,hF⟩:=hcut;have HMF:Hid (RdM wc (w.heap.size+1) (w.heap.size+1+1) f u1 u2 u3 u7 us):=hm;have HRC:Hid (RR w g8 c8 s wc):=hr;have HRW:=HRC;have HFF:Hid (lnO e ln=if (ok&&(!(decide (k<e.ph)) && !(decide (e.ph<0)&&decide (0<k))))=true then some { f with ph:=k } else none):=hF;clear hm hr hF k1 k2 k3 k4 hw0;cases ok with
    | false =>
      have HNO:Hid (lsO rd0 (rtL s)=.inr i):=HLN.out.2 (by
       rw[HFF.out];simp only[HPH.out];rw[if_neg];simp
       try omega)
      obtain⟨r0,r1,r2,r3⟩:=HRC.out.r;have f0:=HRC.out.f 0;have f1:=HRC.out.f 1;have f2:=HRC.out.f 2;have f3:=HRC.out.f 3;go_wp2;refine bodyPost_ret (v:=.tuple #[.agg #[.int i64 0,.slice none 0 0,.slice none 0 0,.slice none 0 0],.slice none 0 0,.int i64 (i:Int),.int i64 2]) (by simp[results,results9,go_sem, *]) rfl ?_;exact HBAD.out _ HRW.out HNO.out
    | true =>
      by_cases hp:k<PH
      ·have HNO:Hid (lsO rd0 (rtL s)=.inr i):=HLN.out.2 (by
        rw[HFF.out];simp only[HPH.out];rw[if_neg];simp
        try omega)
       obtain⟨r0,r1,r2,r3⟩:=HRC.out.r;have f0:=HRC.out.f 0;have f1:=HRC.out.f 1;have f2:=HRC.out.f 2;have f3:=HRC.out.f 3;go_wp2;refine bodyPost_ret (v:=.tuple #[.agg #[.int i64 0,.slice none 0 0,.slice none 0 0,.slice none 0 0],.slice none 0 0,.int i64 (i:Int),.int i64 2]) (by simp[results,results9,go_sem, *]) rfl ?_;exact HBAD.out _ HRW.out HNO.out
      by_cases hp2:PH<0
      ·by_cases hp3:0<k
       ·have HNO:Hid (lsO rd0 (rtL s)=.inr i):=HLN.out.2 (by
         rw[HFF.out];simp only[HPH.out];rw[if_neg];simp
         try omega)
        obtain⟨r0,r1,r2,r3⟩:=HRC.out.r;have f0:=HRC.out.f 0;have f1:=HRC.out.f 1;have f2:=HRC.out.f 2;have f3:=HRC.out.f 3;go_wp2;refine bodyPost_ret (v:=.tuple #[.agg #[.int i64 0,.slice none 0 0,.slice none 0 0,.slice none 0 0],.slice none 0 0,.int i64 (i:Int),.int i64 2]) (by simp[results,results9,go_sem, *]) rfl ?_;exact HBAD.out _ HRW.out HNO.out
       have HF:Hid (lnO e ln=some { f with ph:=k }):=by
        show _=_;rw[HFF.out];simp only[HPH.out];rw[if_pos];simp;omega
       have HFIN:Hid (RL w g8 c8 s { f with ph:=k } u1 u2 u3 u7 us (i+1) wc):=⟨HLN.out.1 _ HF.out,(phI_ln HR2.out.ph HF.out).1,bdI_ln HR2.out.bd HF.out,HMF.out.ph k,HRC.out⟩;go_wp2;go_roundw
       case rel=>exact⟨i+1,_,u1,u2,u3,us,by omega,by go_num,rfl,HFIN.out⟩
       case measure=>simp[intOf];omega
      have HF:Hid (lnO e ln=some { f with ph:=k }):=by
       show _=_;rw[HFF.out];simp only[HPH.out];rw[if_pos];simp;omega
      have HFIN:Hid (RL w g8 c8 s { f with ph:=k } u1 u2 u3 u7 us (i+1) wc):=⟨HLN.out.1 _ HF.out,(phI_ln HR2.out.ph HF.out).1,bdI_ln HR2.out.bd HF.out,HMF.out.ph k,HRC.out⟩;go_wp2;go_roundw
      case rel=>exact⟨i+1,_,u1,u2,u3,us,by omega,by go_num,rfl,HFIN.out⟩
      case measure=>simp[intOf];omega
  have hiL:i=L:=by omega
  have HE:Hid (lsO rd0 (rtL s)=.inl e):=by
   have h:=hRL.ls;rw[List.take_of_length_le (by rw[HL.out.2,hiL];exact nLQ _)] at h;exact h
  have HM:Hid (RdM wi (w.heap.size+1) (w.heap.size+1+1) e v1 v2 v3 (.slice a7 m7 c7) vs):=hRL.m;have HRR:Hid (RR w g8 c8 s wi):=hRL.rr;obtain⟨Zt,hZt⟩:∃z,z=rtZ s:=⟨_,rfl⟩;have HZT:Hid (rtZ s=Zt):=hZt.symm;have y0:wi.cell? ⟨g8,i,none⟩=some (.string Zt):=hRL.rr.at (by
   rw[rt_cut,List.getElem?_append_right (by rw[HL.out.2,hiL];exact nLQ _),HL.out.2,hiL,Nat.sub_self,hZt];rfl)
  have HLL:Hid ((rtL s).length=i):=by show _=_;rw[HL.out.2,hiL]
  subst hiL;have i0:(0:Int)≤(i:Int):=by omega
  have i1:(i:Int)<(i:Int)+1:=by omega
  have i2:¬(i:Int)<(i:Int):=by omega
  clear hRL HRL hZt hi;by_cases hz:Zt.size=0
  ·have hem:Zt.toList.isEmpty=true:=by rw[sz_0 hz,Lib.toList_data];rfl
   have hem2:(Zt.toList==[])=true:=by rw[sz_0 hz,Lib.toList_data];rfl
   have HRC:Hid (rtN s=rtC e∧rtK s=0∧(rtC e=0→rxE s={ e with Ts:=fiT e.S e.Ts })∧(rtC e≠0→rxE s=rd0)):=rt_c HS.out.1 HS.out.2 HE.out (by rw[HZT.out];exact hz);obtain⟨a1,n1,c1,hv1⟩:∃a n c,v1=.slice a n c:=by obtain⟨a,c,h⟩:=own_form HM.out.l;exact⟨a,_,c,h⟩
   obtain⟨a2,n2,c2,hv2⟩:∃a n c,v2=.slice a n c:=by obtain⟨a,c,h⟩:=own_form HM.out.h;exact⟨a,_,c,h⟩
   subst hv1;subst hv2;obtain⟨S,hS⟩:∃S,S=e.S:=⟨_,rfl⟩;have HSE:Hid (e.S=S):=hS.symm;clear hz hS
   go_upto_block 5 with fail
   go_cut [] from 254 (fun w'=>∃(a3:AdQ) (n3 c3:Nat) (us:List SlT),RdM w' (w.heap.size+1) (w.heap.size+1+1) { e with Ts:=fiT e.S e.Ts } (.slice a1 n1 c1) (.slice a2 n2 c2) (.slice a3 n3 c3) (.slice a7 m7 c7) us∧RR w g8 c8 s w')
   case first =>
    clear y0 hem hem2;go_wp2
    go_loopw [] (fun wr=>∃(u3:Value) (us:List SlT) (j:Nat),j≤e.S.toNat-e.Ts.length∧(6<e.S→j=0)∧RdM wr (w.heap.size+1) (w.heap.size+1+1) { e with Ts:=e.Ts++List.replicate j [] } (.slice a1 n1 c1) (.slice a2 n2 c2) u3 (.slice a7 m7 c7) us∧RR w g8 c8 s wr) (fun wr=>6-tbK wr (w.heap.size+1))
    case atStart =>
     refine⟨v3,vs,0,Nat.zero_le _,fun _=>rfl,?_,HRR.out⟩;have h:=HM.out;simpa using h
    case round =>
     obtain⟨u3,us,j,hj,hj6,hDB,hRR⟩:=hrel;obtain⟨b3,d3,hu3⟩:=own_form hDB.t.ov;obtain⟨M,hM⟩:∃M,M=us.length:=⟨_,rfl⟩;rw[←hM] at hu3;subst hu3;have hul:M=e.Ts.length+j:=by
      have:=hDB.t.lv;rw[hM,this];simp
     have HUM:Hid (us.length=M):=hM.symm;obtain⟨q0,q1,q2,q3⟩:=hDB.c;have q0':wr.cell? ⟨w.heap.size+1,0,none⟩=some (.int i64 S):=by
      have h:=q0;rw[show ({ e with Ts:=e.Ts++List.replicate j [] }:RdT).S=S from HSE.out] at h;exact h
     have hf3:=hDB.f 3;have hgl:=hDB.lt;have HDB:Hid (RdM wr (w.heap.size+1) (w.heap.size+1+1) { e with Ts:=e.Ts++List.replicate j [] } (.slice a1 n1 c1) (.slice a2 n2 c2) (.slice b3 M d3) (.slice a7 m7 c7) us):=hDB;have HRW:Hid (RR w g8 c8 s wr):=hRR;have HT0:Hid (tbK wr (w.heap.size+1)=M):=by
      show _=_;unfold tbK;rw[q3]
     have HUN:Hid (M=e.Ts.length+j∧j≤e.S.toNat-e.Ts.length∧(6<e.S→j=0)):=⟨hul,hj,hj6⟩;clear hDB hRR hul hM hj hj6 q0 q1 q2;by_cases hMS:(M:Int)<S
     ·by_cases hS6:S≤6
      ·obtain⟨j1,hj1,hy0,hy1,hy2⟩:=info_parts tab_info;have HI1:Hid (Tryz.prog.info? 48=some j1):=hj1;have HI2:Hid (j1.zero=some (.slice none 0 0)):=hy0;have HI3:Hid (j1.size=1):=hy1;have HI4:Hid (j1.bytes=24):=hy2;have HLV1:Hid (us.length+1≤maxLen):=by
        have:=HUM.out;show _≤_;unfold maxLen;omega
       have HLV2:Hid ((us.length+1)*24≤140737488355328):=by
        have:=HUM.out;show _≤_;omega
       have HBR:Hid (w.heap.size+1+1≤wr.heap.size):=hgl;clear hj1 hy0 hy1 hy2
       go_wp2_with (at_builtin;refine wpList_append_blk (E:=slE) _ rfl _ _ 26 48 rfl underlying26 j1 (.slice none 0 0) 24 HI1.out HI2.out HI3.out HI4.out (by rfl) (w.heap.size+1+1) (.slice b3 M d3) rfl us (HDB.out.t.ov.alloc _) wr.heap.size 0 1 rfl ((none,0,0):SlT) (vat_new wr [.slice none 0 0] _) HLV1.out HLV2.out ?m3 ?_)
       case m3 =>
        have:=HBR.out;simp;omega
       intro v' w6 ho6 hg6 hb6
       replace ho6:w6.ownsRow (w.heap.size+1+1) 48 slE.n v' (us++[((none,0,0):SlT)]).length (cellsG slE (us++[((none,0,0):SlT)])):=by
        rw[List.length_append];exact ho6
       have m1:=HDB.out.later ((Below.refl wr.heap.size wr).alloc (nLQ _) (Obj.cells #[.slice none 0 0] 48));have m2:=m1.addT dr_types.2.1.2 hg6 ho6;have hne:=row_ne m1.t.ov m1.gB;have z3:=hg6.cell m1.c.2.2.2 hne;have zf3:=fz_grown m1.lt m1.f hg6 hne 3;have zl:=bLQ w6 ⟨w.heap.size+1,3,none⟩ z3;obtain⟨a6,c6,hv6⟩:=own_form ho6;obtain⟨N6,hN6⟩:∃n,n=(us++[((none,0,0):SlT)]).length:=⟨_,rfl⟩;rw[←hN6] at hv6;subst hv6;have HN6:Hid (N6=M+1):=by
        show _=_;rw[hN6,List.length_append,HUM.out];rfl
       have HFIN:Hid (RdM (w6.setCell ⟨w.heap.size+1,3,none⟩ (.slice a6 N6 c6)) (w.heap.size+1) (w.heap.size+1+1) { e with Ts:=e.Ts++List.replicate (j+1) [] } (.slice a1 n1 c1) (.slice a2 n2 c2) (.slice a6 N6 c6) (.slice a7 m7 c7) (us++[(none,0,0)])∧RR w g8 c8 s (w6.setCell ⟨w.heap.size+1,3,none⟩ (.slice a6 N6 c6))):=by
        refine⟨?_,?_⟩
        ·have e':e.Ts++List.replicate (j+1) []=(e.Ts++List.replicate j [])++[[]]:=by
          rw[List.replicate_succ',List.append_assoc]
         rw[e'];exact m2
        exact (HRW.out.later ((Below.refl wr.heap.size wr).alloc (nLQ _) (Obj.cells #[.slice none 0 0] 48))).step m1 (kb_box (fun h=>h.1 rfl) _ _ ((Kb.refl _ _).grown hg6 fun b hb _ h=>h.2 (.inr (.inr (.inl hb)))))
       have HT1:Hid (tbK (w6.setCell ⟨w.heap.size+1,3,none⟩ (.slice a6 N6 c6)) (w.heap.size+1)=N6):=by
        show _=_;unfold tbK;rw[World.cell?_setCell_same _ _ _ z3]
       have HJ1:Hid (j+1≤e.S.toNat-e.Ts.length∧(6<e.S→j+1=0)):=by
        have h1:=HUN.out;have h2:=HSE.out;exact⟨by omega,fun h=>by omega⟩
       clear ho6 hg6 hb6 m1 m2 hne hN6;go_wp2;go_roundw
       case rel=>exact⟨_,_,j+1,HJ1.out.1,HJ1.out.2,HFIN.out⟩
       case measure =>
        rw[HT1.out,HT0.out];have:=HN6.out;omega
      have HFI:Hid (e.Ts++List.replicate j []=fiT e.S e.Ts):=fi_j HUN.out.2.1 HUN.out.2.2 (.inr (by rw[HSE.out];omega))
      go_wp2_with fail
      go_meet
      refine⟨b3,M,d3,us,?_,HRW.out⟩;rw[←HFI.out];exact HDB.out
     have HFI:Hid (e.Ts++List.replicate j []=fiT e.S e.Ts):=fi_j HUN.out.2.1 HUN.out.2.2 (.inl (by rw[HSE.out,←HUN.out.1];exact hMS))
     go_wp2_with fail
     go_meet
     refine⟨b3,M,d3,us,?_,HRW.out⟩;rw[←HFI.out];exact HDB.out
   case rest =>
    obtain⟨a3,n3,c3,us,hm,hr⟩:=hcut;have HM3:Hid (RdM wc (w.heap.size+1) (w.heap.size+1+1) { e with Ts:=fiT e.S e.Ts } (.slice a1 n1 c1) (.slice a2 n2 c2) (.slice a3 n3 c3) (.slice a7 m7 c7) us):=hm;have HR3:Hid (RR w g8 c8 s wc):=hr;obtain⟨q0,q1,q2,q3⟩:=hm.c;have q0':wc.cell? ⟨w.heap.size+1,0,none⟩=some (.int i64 S):=by
     have h:=q0;rw[show ({ e with Ts:=fiT e.S e.Ts }:RdT).S=S from HSE.out] at h;exact h
    obtain⟨C,hC⟩:∃C,C=ntN S e.Ls e.Hs (fiT e.S e.Ts):=⟨_,rfl⟩;obtain⟨D,hD⟩:∃D,D=wsN S e.Ls e.Hs e.ws:=⟨_,rfl⟩;have HCD:Hid (ntN S e.Ls e.Hs (fiT e.S e.Ts)=C∧wsN S e.Ls e.Hs e.ws=D∧rtC e=if C=0 then D else C):=⟨hC.symm,hD.symm,by rw[hC,hD,rtC,HSE.out]⟩;clear hm hr q0 hC hD
    go_wp2_with fail
    refine (rnet_any S a1 n1 c1 a2 n2 c2 a3 n3 c3 e.Ls e.Hs (fiT e.S e.Ts) wc (own_GS HM3.out.l) (own_GS HM3.out.h) HM3.out.t.ts).mono ?_;rintro ee w4 ⟨rfl,hb4⟩;rw[HCD.out.1];have HM4:Hid (RdM w4 (w.heap.size+1) (w.heap.size+1+1) { e with Ts:=fiT e.S e.Ts } (.slice a1 n1 c1) (.slice a2 n2 c2) (.slice a3 n3 c3) (.slice a7 m7 c7) us):=HM3.out.later hb4;have HR4:Hid (RR w g8 c8 s w4):=HR3.out.later hb4;clear hb4 q0' q1 q2 q3;by_cases hC:C=0
    ·subst hC;obtain⟨q0,q1,q2,q3⟩:=HM4.out.c;have q0':w4.cell? ⟨w.heap.size+1,0,none⟩=some (.int i64 S):=by
      have h:=q0;rw[show ({ e with Ts:=fiT e.S e.Ts }:RdT).S=S from HSE.out] at h;exact h
     clear q0
     go_wp2_with fail
     refine (rwishes_any S a1 n1 c1 a2 n2 c2 a7 m7 c7 e.Ls e.Hs e.ws w4 (own_GS HM4.out.l) (own_GS HM4.out.h) (own_GS HM4.out.w)).mono ?_;rintro ee w5 ⟨rfl,hb5⟩;rw[HCD.out.2.1];have HM5:Hid (RdM w5 (w.heap.size+1) (w.heap.size+1+1) { e with Ts:=fiT e.S e.Ts } (.slice a1 n1 c1) (.slice a2 n2 c2) (.slice a3 n3 c3) (.slice a7 m7 c7) us):=HM4.out.later hb5;have HR5:Hid (RR w g8 c8 s w5):=HR4.out.later hb5;clear hb5 q0' q1 q2 q3;have HCC:Hid (rtC e=D):=by show _=_;rw[HCD.out.2.2];simp
     by_cases hD:D=0
     ·subst hD;obtain⟨q0,q1,q2,q3⟩:=HM5.out.c;have q0':w5.cell? ⟨w.heap.size+1,0,none⟩=some (.int i64 S):=by
       have h:=q0;rw[show ({ e with Ts:=fiT e.S e.Ts }:RdT).S=S from HSE.out] at h;exact h
      clear q0;have hgl:=HM5.out.lt;have hrl:=HR5.out.lt;obtain⟨r0,r1,r2,r3⟩:=HR5.out.r;have f0:=HR5.out.f 0;have f1:=HR5.out.f 1;have f2:=HR5.out.f 2;have f3:=HR5.out.f 3;go_wp2;refine bodyPost_ret (v:=.tuple #[.agg #[.int i64 S,.slice a1 n1 c1,.slice a2 n2 c2,.slice a3 n3 c3],.slice a7 m7 c7,.int i64 0,.int i64 0]) (by simp[results,results9,go_sem, *]) rfl ?_;have h1:rtN s=0:=by rw[HRC.out.1];exact HCC.out
      have h2:=HRC.out.2.1;have h3:=HRC.out.2.2.1 HCC.out;rw[h1,h2,h3];obtain⟨g1,g2,g3,g4⟩:=rd_out HM5.out (Nat.lt_succ_of_lt (Nat.lt_succ_self w.heap.size)) (.int i64 S) (.slice a1 n1 c1) (.slice a2 n2 c2) (.slice a3 n3 c3);exact⟨_,_,_,_,by rw[show ({ e with Ts:=fiT e.S e.Ts }:RdT).S=S from HSE.out];rfl,g1,g2,g3,g4,HP4.out _ _ _ _ _ HR5.out.below⟩
     have hD2:(D==0)=false:=by simpa using hD
     have HX:Hid (rtC e≠0):=by show _≠_;rw[HCC.out];exact hD
     obtain⟨r0,r1,r2,r3⟩:=HR5.out.r;have f0:=HR5.out.f 0;have f1:=HR5.out.f 1;have f2:=HR5.out.f 2;have f3:=HR5.out.f 3;go_wp2;refine bodyPost_ret (v:=.tuple #[.agg #[.int i64 0,.slice none 0 0,.slice none 0 0,.slice none 0 0],.slice none 0 0,.int i64 0,.int i64 D]) (by simp[results,results9,go_sem, *]) rfl ?_;exact HNIL.out _ 0 D (by rw[HRC.out.1,HCC.out]) HRC.out.2.1 (HRC.out.2.2.2 HX.out) (HP4.out _ _ _ _ _ HR5.out.below)
    have hC2:(C==0)=false:=by simpa using hC
    have HCC:Hid (rtC e=C):=by show _=_;rw[HCD.out.2.2,if_neg hC]
    have HX:Hid (rtC e≠0):=by show _≠_;rw[HCC.out];exact hC
    obtain⟨r0,r1,r2,r3⟩:=HR4.out.r;have f0:=HR4.out.f 0;have f1:=HR4.out.f 1;have f2:=HR4.out.f 2;have f3:=HR4.out.f 3;go_wp2;refine bodyPost_ret (v:=.tuple #[.agg #[.int i64 0,.slice none 0 0,.slice none 0 0,.slice none 0 0],.slice none 0 0,.int i64 0,.int i64 C]) (by simp[results,results9,go_sem, *]) rfl ?_;exact HNIL.out _ 0 C (by rw[HRC.out.1,HCC.out]) HRC.out.2.1 (HRC.out.2.2.2 HX.out) (HP4.out _ _ _ _ _ HR4.out.below)
  have hem:Zt.toList.isEmpty=false:=by
   rw[Lib.toList_data];cases h:Zt.data.toList with
   | nil =>
     exfalso
     have:=Lib.size_eq Zt;rw[h] at this;exact hz this
   | cons a b=>rfl
  have hem2:(Zt.toList==[])=false:=by
   cases h:Zt.toList with
   | nil=>rw[h] at hem;cases hem
   | cons a b=>rfl
  have HX:Hid (rtN s=2∧rtK s=i∧rxE s=rd0):=by
   obtain⟨e1,e2,e3⟩:=rt_z HS.out.1 HS.out.2 HE.out (by rw[HZT.out];exact hz);exact⟨e1,by rw[e2];exact HLL.out,e3⟩
  obtain⟨r0,r1,r2,r3⟩:=HRR.out.r;have f0:=HRR.out.f 0;have f1:=HRR.out.f 1;have f2:=HRR.out.f 2;have f3:=HRR.out.f 3;go_wp2;refine bodyPost_ret (v:=.tuple #[.agg #[.int i64 0,.slice none 0 0,.slice none 0 0,.slice none 0 0],.slice none 0 0,.int i64 (i:Int),.int i64 2]) (by simp[results,results9,go_sem, *]) rfl ?_;exact HNIL.out _ i 2 HX.out.1 HX.out.2.1 HX.out.2.2 (HP4.out _ _ _ _ _ HRR.out.below)
end
end Go.Proofs.YtgddlpcacnolfaaGreatDoor
