/- Contracts and facts on the way to TopWire, joined into one text: DrivePgMem, DriveCheck, CcRound, DrivePgNew, DriveShare, DriveSay, RefDrMay, CcInt, DrivePgRd, MixWalk1, MixWalk2, MixWalk5, RefTouched, TouchMath, SlSortInt. -/
import Derived.Test.YtpgjkmefomldfaaGreatTopWireP9
namespace Go.Proofs.YtpgjkmefomldfaaGreat
set_option linter.unusedSimpArgs false
set_option linter.unusedVariables false
set_option maxHeartbeats 16000000
set_option maxRecDepth 100000
open Go.Proofs.Tryz
open IntKind (i64)
section
open Go.RowKit
structure PdC (W:World)(p B0:Nat)(O:Nat→Prop)(D:DrT)(xr:SlT)(vd:Value)(t B1 M:Nat):Prop where
 c0:W.cell? ⟨p,0,none⟩=some (slV xr)
 c1:W.cell? ⟨p,1,none⟩=some (.int i64 D.W)
 c2:W.cell? ⟨p,2,none⟩=some (.int i64 (D.s:Int))
 c3:W.cell? ⟨p,3,none⟩=some vd
 c4:W.cell? ⟨p,4,none⟩=some (.int i64 (t:Int))
 f:∀i,W.frozen? ⟨p,i,none⟩=false
 r:∀V,Kb (fun b=>B1≤b∧b<M) W V→RS V (slV xr) D.L
 pB:p<B1∧B1≤M∧M≤W.heap.size
 rO:∀b,B1≤b→b<M→O b
 l:W.ownsRow M 3 inE.n vd D.l.length (cellsG inE D.l)
 lO:∀b,vd.ownBlock=some b→O b
 pO:O p
 lt:∀b,O b→B0≤b∧b<W.heap.size
section
variable {W W':World}{p B0:Nat}{O:Nat→Prop}{D:DrT}{xr:SlT}{vd:Value}{t B1 M:Nat}
theorem PdC.pl (h:PdC W p B0 O D xr vd t B1 M):p<W.heap.size:=(h.lt p h.pO).2
theorem PdC.kb (h:PdC W p B0 O D xr vd t B1 M)(hk:Kb (fun b=>b<B0∨O b) W W'):PdC W' p B0 O D xr vd t B1 M:=by
 have hp:(p<B0∨O p):=.inr h.pO;have hb:Kb (fun b=>B1≤b∧b<M) W W':=hk.mono fun b _ hb=>.inr (h.rO b hb.1 hb.2)
 exact⟨hk.at h.c0 hp,hk.at h.c1 hp,hk.at h.c2 hp,hk.at h.c3 hp,hk.at h.c4 hp,fun i=>(hk.frozen (q:=⟨p,i,none⟩) h.pl hp).trans (h.f i),fun V hV=>h.r V (hb.trans hV),⟨h.pB.1,h.pB.2.1,Nat.le_trans h.pB.2.2 hk.size⟩,h.rO,own_kb h.l hk fun b hb=>.inr (h.lO b hb),h.lO,h.pO,fun b hb=>⟨(h.lt b hb).1,Nat.lt_of_lt_of_le (h.lt b hb).2 hk.size⟩⟩
theorem PdC.later (h:PdC W p B0 O D xr vd t B1 M)(hb:Below W.heap.size W W'):PdC W' p B0 O D xr vd t B1 M:=h.kb (Kb.of_below hb fun b hl _=>hl)
theorem PdC.rest (h:PdC W p B0 O D xr vd t B1 M)(i:Nat)(v:Value):(∀V,Kb (fun b=>B1≤b∧b<M) (W.setCell ⟨p,i,none⟩ v) V→RS V (slV xr) D.L)∧(W.setCell ⟨p,i,none⟩ v).ownsRow M 3 inE.n vd D.l.length (cellsG inE D.l)∧(∀j,(W.setCell ⟨p,i,none⟩ v).frozen? ⟨p,j,none⟩=false)∧(W.setCell ⟨p,i,none⟩ v).heap.size=W.heap.size:=by
 have hpB:=h.pB;have hk:Kb (fun b=>b≠p) W (W.setCell ⟨p,i,none⟩ v):=(Kb.refl _ W).setCell (q:=⟨p,i,none⟩) (fun _ h=>h rfl) v;refine⟨fun V hV=>h.r V ((hk.mono fun b _ hb=>?_).trans hV),own_kb h.l hk fun b hb=>?_,fun j=>?_,set_size _ _ _⟩
 ·have:=hb.1;omega
 ·have:=(h.l.lt b hb).1;omega
 rw[World.frozen?_setCell];exact h.f j
theorem cl_off {W:World}{p i j:Nat}{u:Value}(h:W.cell? ⟨p,i,none⟩=some u)(hij:j≠i)(v:Value):(W.setCell ⟨p,j,none⟩ v).cell? ⟨p,i,none⟩=some u:=by
 rw[World.cell?_setCell_other _ _ _ _ (by intro e;cases e;exact hij rfl)];exact h
theorem PdC.set2 (h:PdC W p B0 O D xr vd t B1 M)(s:Nat):PdC (W.setCell ⟨p,2,none⟩ (.int i64 (s:Int))) p B0 O { D with s:=s } xr vd t B1 M:=by
 obtain⟨h1,h2,h3,h4⟩:=h.rest 2 (.int i64 (s:Int));exact⟨cl_off h.c0 (by omega) _,cl_off h.c1 (by omega) _,World.cell?_setCell_same _ _ _ h.c2,cl_off h.c3 (by omega) _,cl_off h.c4 (by omega) _,h3,h1,by rw[h4];exact h.pB,h.rO,h2,h.lO,h.pO,fun b hb=>by rw[h4];exact h.lt b hb⟩
theorem PdC.set4 (h:PdC W p B0 O D xr vd t B1 M)(t' k:Nat):PdC (W.setCell ⟨p,4,none⟩ (.int i64 (t':Int))) p B0 O { D with k:=k } xr vd t' B1 M:=by
 obtain⟨h1,h2,h3,h4⟩:=h.rest 4 (.int i64 (t':Int));exact⟨cl_off h.c0 (by omega) _,cl_off h.c1 (by omega) _,cl_off h.c2 (by omega) _,cl_off h.c3 (by omega) _,World.cell?_setCell_same _ _ _ h.c4,h3,h1,by rw[h4];exact h.pB,h.rO,h2,h.lO,h.pO,fun b hb=>by rw[h4];exact h.lt b hb⟩
theorem PdC.set3 (h:PdC W p B0 O D xr vd t B1 M){v':Value}{l':List Int}(hy:W.ownsRow M 3 inE.n v' l'.length (cellsG inE l'))(hB:B0≤M):
 PdC (W.setCell ⟨p,3,none⟩ v') p B0 (fun b=>O b∨v'.ownBlock=some b) { D with l:=l' } xr v' t B1 M:=by
 have hpB:=h.pB;obtain⟨h1,h2,h3,h4⟩:=h.rest 3 v';have hy2:(W.setCell ⟨p,3,none⟩ v').ownsRow M 3 inE.n v' l'.length (cellsG inE l'):=own_kb hy ((Kb.refl (fun b=>b≠p) W).setCell (q:=⟨p,3,none⟩) (fun _ h=>h rfl) v') fun b hb=>by
  have:=(hy.lt b hb).1;omega
 refine⟨cl_off h.c0 (by omega) _,cl_off h.c1 (by omega) _,cl_off h.c2 (by omega) _,World.cell?_setCell_same _ _ _ h.c3,cl_off h.c4 (by omega) _,h3,h1,by rw[h4];exact h.pB,fun b h1 h2=>.inl (h.rO b h1 h2),hy2,fun b hb=>.inr hb,.inl h.pO,fun b hb=>?_⟩;rw[h4]
 rcases hb with hb | hb
 ·exact h.lt b hb
 have:=hy.lt b hb;omega
theorem PdC.low (h:PdC W p B0 O D xr vd t B1 M):B0≤M:=by
 have h1:=(h.lt p h.pO).1;have h2:=h.pB;omega
theorem PdC.gl (h:PdC W p B0 O D xr vd t B1 M):GS inE W vd D.l:=own_GS h.l
end
def TwOK (D:DrT)(t:Nat):Prop:=(t:Int)<D.W∧(D.l=[]∨(t:Int)=(D.k:Int) % D.W)
def Pd:DrP:=fun W p B0 O D=>∃xr vd t B1 M,PdC W p B0 O D xr vd t B1 M∧TwOK D t
theorem Pd.kb {W W':World}{p B0:Nat}{O:Nat→Prop}{D:DrT}(h:Pd W p B0 O D)(hk:Kb (fun b=>b<B0∨O b) W W'):Pd W' p B0 O D:=by
 obtain⟨xr,vd,t,B1,M,h,h2⟩:=h;exact⟨xr,vd,t,B1,M,h.kb hk,h2⟩
theorem Pd.lt {W:World}{p B0:Nat}{O:Nat→Prop}{D:DrT}(h:Pd W p B0 O D):∀b,O b→B0≤b∧b<W.heap.size:=by
 obtain⟨xr,vd,t,B1,M,h,_⟩:=h;exact h.lt
theorem rds_at {L:List (List Op8)}{i:Nat}(hi:i<L.length):rdF (L.drop i)=(if osF L[i]=0 then rdF (L.drop (i+1)) else osF L[i]):=by
 rw[List.drop_eq_getElem_cons hi];rfl
theorem oss_at {r:List Op8}{j:Nat}(hj:j<r.length):osF (r.drop j)=(if opF r[j]=0 then osF (r.drop (j+1)) else opF r[j]):=by
 rw[List.drop_eq_getElem_cons hj];rfl
theorem dcheckOp_any (x0:Int)(x1:Bool)(x2 x3 x4 x5 x6 x7:Int)(w:World):
 Calls prog 57 #[.agg #[.int i64 x0,.bool x1,.int i64 x2,.int i64 x3,.int i64 x4,.int i64 x5,.int i64 x6,.int i64 x7]] w fun e w'=>e=.returned (noV (opF ⟨x0,x1,⟨x2,x3,x4,x5,x6,x7⟩⟩))∧Below w.heap.size w w':=by
 obtain⟨Z,hZ⟩:∃Z,Z=opF ⟨x0,x1,⟨x2,x3,x4,x5,x6,x7⟩⟩:=⟨_,rfl⟩;have HZ:Hid (Z=if 1≤x0∧x0≤6 then ruN x2 x3 x4 x5 x6 x7 else 1):=hZ;rw[←hZ];obtain⟨wa,hwa⟩:∃V,V=w.alloc (.cells #[.int i64 x0,.bool x1,.int i64 x2,.int i64 x3,.int i64 x4,.int i64 x5,.int i64 x6,.int i64 x7] 49):=⟨_,rfl⟩;have HWA:Hid (w.alloc (.cells #[.int i64 x0,.bool x1,.int i64 x2,.int i64 x3,.int i64 x4,.int i64 x5,.int i64 x6,.int i64 x7] 49)=wa):=hwa.symm;have hc:=op_new w x0 x1 x2 x3 x4 x5 x6 x7 49;have hba:Below w.heap.size w (w.alloc (.cells #[.int i64 x0,.bool x1,.int i64 x2,.int i64 x3,.int i64 x4,.int i64 x5,.int i64 x6,.int i64 x7] 49)):=(bRQ _ _).alloc (nLQ _) _;rw[←hwa] at hc hba;have HC:Hid (VAt wa w.heap.size 0 (opE.c ⟨x0,x1,⟨x2,x3,x4,x5,x6,x7⟩⟩)):=hc;have HBA:Hid (Below w.heap.size w wa):=hba;obtain⟨r0,r1,r2,r3,r4,r5,r6,r7⟩:=op_cells hc;simp only[Nat.zero_add] at r0 r1 r2 r3 r4 r5 r6 r7;clear hZ hwa hc hba r1 r2 r3 r4 r5 r6 r7;go_enter func57,ntmps57;go_upto_region 1 with fail;rw[HWA.out];clear HWA
 go_wp2_with fail
 refine (isSwitch_any 6 x0 _).mono ?_;rintro e w1 ⟨rfl,hb1⟩;obtain⟨s0,s1,s2,s3,s4,s5,s6,s7⟩:=op_cells (HC.out.later (w':=w1) (hb1.mono (nLQ _)));simp only[Nat.zero_add] at s0 s1 s2 s3 s4 s5 s6 s7;have HB1:Hid (Below w.heap.size w w1):=HBA.out.trans (hb1.mono HBA.out.size);clear hb1 r0 s0 s1;cases hsw:swB 6 x0 with
 | false =>
   have HN:Hid (Z=1):=by
    show _=_;rw[HZ.out,if_neg (fun h=>by rw[sw_of.2 h] at hsw;cases hsw)]
   clear hsw;go_wp2;go_ret;exact⟨by rw[HN.out];rfl,HB1.out⟩
 | true =>
   have HN:Hid (ruN x2 x3 x4 x5 x6 x7=Z):=by
    show _=_;rw[HZ.out,if_pos (sw_of.1 hsw)]
   clear hsw
   go_wp2_with fail
   refine (ruCheck_any x2 x3 x4 x5 x6 x7 _).mono ?_;rintro e w2 ⟨rfl,hb2⟩;rw[HN.out];have HB2:Hid (Below w.heap.size w w2):=HB1.out.trans (hb2.mono HB1.out.size);clear hb2 s2 s3 s4 s5 s6 s7;go_wp2;go_ret;exact⟨rfl,HB2.out⟩
theorem tooLong_any (ao:AdQ)(n cap:Nat)(w:World):
 Calls prog 55 #[.slice ao n cap] w fun e w'=>e=.returned (.bool (decide (200<n)))∧Below w.heap.size w w':=by
 by_cases h:(n:Int) > 200
 ·have e:decide (200<n)=true:=decide_eq_true (by omega);rw[e];go_enter func55,ntmps55;go_wp2;go_ret;exact⟨rfl,bRQ _ _⟩
 have e:decide (200<n)=false:=decide_eq_false (by omega);rw[e];go_enter func55,ntmps55;go_wp2;go_ret;exact⟨rfl,bRQ _ _⟩
theorem enters_long:∀args w,(callFunc 55 args).run prog w=.ok (.enter 55 args) w:=enters_of func55 (by kernel_rfl) rfl
def longB (r:List Op8):Bool:=decide (200<r.length)
def rdAsks (f:FuncId):Prop:=∀(ao:AdQ) (n cap:Nat) (w:World),Calls prog f #[.slice ao n cap] w fun e w'=>e=.returned (.bool (decide (200<n)))∧Below w.heap.size w w'
theorem rd_idxF (ao:AdQ)(n cap:Nat)(f:FuncId)(L:List (List Op8))(w:World)(hs:RS w (.slice ao n cap) L)(he:∀args w,(callFunc f args).run prog w=.ok (.enter f args) w)(hf:rdAsks f):
 Calls prog 89 #[.slice ao n cap,.func (Fn.func f) #[] #[]] w fun e w'=>e=.returned (.int i64 (ixG longB L))∧Below w.heap.size w w':=by
 have HN:Hid (L.length=n):=hs.len;have HR:Hid (∀V,Below w.heap.size w V→RS V (.slice ao n cap) L):=fun V hV=>hs.later hV
 have HF:Hid (rdAsks f):=hf;have hn2:n≤maxLen:=by
  obtain⟨_,_,_,e,h1,h2,_⟩:=hs.form;cases e;exact h2
 unfold maxLen at hn2;clear hf hs;go_enter func89,ntmps89;go_wp2
 go_loopw [8] (fun i wr=>∃k:Nat,k≤n∧i=.int i64 k∧(L.take k).any longB=false∧Below w.heap.size w wr)
  (fun i _=>n-(intOf i).toNat)
 case atStart=>exact⟨0,by omega,rfl,by simp,bRQ _ _⟩
 case round =>
  obtain⟨k,hk,rfl,hno,hB⟩:=hrel;have HB:Hid (Below w.heap.size w wr):=hB;have HNO:Hid ((L.take k).any longB=false):=hno;clear hno;by_cases hlt:k<n
  ·obtain⟨g,o,R,a1,n1,c1,hao,hRs,hc,hG⟩:=(HR.out wr HB.out).at hlt;subst hao;have hkl:k<L.length:=by rw[HN.out];exact hlt
   have hLk:L[k]=R:=by
    have:=List.getElem?_eq_getElem hkl;rw[this] at hRs;cases hRs;rfl
   have HP:Hid (longB L[k]=decide (200<n1)):=show _=_ by rw[hLk,longB,hG.len]
   have kb0:(0:Int)≤(k:Int):=by omega
   have kb1:(k:Int)<(n:Int):=by omega
   clear hB hLk hRs hG;cases ho:decide (200<n1)
   ·go_wp2_with fail
    refine (HF.out a1 n1 c1 _).mono ?_;rintro e w1 ⟨rfl,hb1⟩;rw[ho];have HB1:=HB.out.trans (hb1.mono HB.out.size);have HP2:Hid (longB L[k]=false):=show _=_ by rw[HP.out,ho]
    clear hb1 hc ho HP;go_wp2;go_roundw
    case rel=>exact⟨k+1,by omega,by go_num,any_nextG hkl HNO.out HP2.out,HB1⟩
    case measure=>simp[intOf];omega
   go_wp2_with fail
   refine (HF.out a1 n1 c1 _).mono ?_;rintro e w1 ⟨rfl,hb1⟩;rw[ho];have HP2:Hid (longB L[k]=true):=show _=_ by rw[HP.out,ho]
   clear hc ho HP;go_wp2;go_ret;exact⟨by rw[ixG_hit hkl HNO.out HP2.out];rfl,HB.out.trans (hb1.mono HB.out.size)⟩
  obtain rfl:k=n:=by omega
  go_wp2;go_ret;exact⟨by have:=HNO.out;rw[←HN.out,List.take_length] at this;rw[ixG_no this];rfl,HB.out⟩
theorem rd_hasF (ao:AdQ)(n cap:Nat)(f:FuncId)(L:List (List Op8))(w:World)(hs:RS w (.slice ao n cap) L)(he:∀args w,(callFunc f args).run prog w=.ok (.enter f args) w)(hf:rdAsks f):
 Calls prog 56 #[.slice ao n cap,.func (Fn.func f) #[] #[]] w fun e w'=>e=.returned (.bool (L.any longB))∧Below w.heap.size w w':=by
 rw[←ixG_any];obtain⟨x,hx⟩:∃x,x=ixG longB L:=⟨_,rfl⟩;have HX:Hid (x=ixG longB L):=hx;rw[←hx];clear hx;go_enter func56,ntmps56
 go_wp2_with fail
 refine (rd_idxF ao n cap f L _ hs he hf).mono ?_;rintro e w1 ⟨rfl,hb1⟩;rw[←HX.out];go_wp2;go_ret;exact⟨rfl,hb1⟩
theorem few_long (L:List (List Op8)):fewB L = !(L.any longB):=by
 induction L with
 | nil=>rfl
 | cons r L ih =>
   simp only[fewB,List.all_cons,List.any_cons,longB] at ih ⊢;rw[ih,Bool.not_or]
   congr 1
   by_cases h:r.length≤200
   ·rw[decide_eq_true h,decide_eq_false (by omega)];rfl
   rw[decide_eq_false h,decide_eq_true (by omega)];rfl
theorem pdcheck_any (ao:AdQ)(n cap:Nat)(L:List (List Op8))(T:Int)(w:World)(h:RS w (.slice ao n cap) L):
 Calls prog 23 #[.slice ao n cap,.int i64 T] w fun e w'=>e=.returned (noV (rsF L T))∧Below w.heap.size w w':=by
 have HN:Hid (L.length=n):=h.len;have HR:Hid (∀V,Below w.heap.size w V→RS V (.slice ao n cap) L):=fun V hV=>h.later hV
 have hnm:n≤maxLen:=by
  obtain⟨_,_,_,e,h1,h2,_⟩:=h.form;cases e;exact h2
 unfold maxLen at hnm;obtain⟨Z,hZ⟩:∃Z,Z=rsF L T:=⟨_,rfl⟩;have HZ:Hid (Z=rsF L T):=hZ;rw[←hZ];clear h hZ;go_enter func23,ntmps23;by_cases hT:T<1
 ·have HF:Hid (Z=1):=by
   show _=_;rw[HZ.out,rsF,if_neg (by omega)]
  go_wp2;go_ret;exact⟨by rw[HF.out];rfl,bRQ _ _⟩
 by_cases hT2:T > 100
 ·have HF:Hid (Z=1):=by
   show _=_;rw[HZ.out,rsF,if_neg (by omega)]
  go_wp2;go_ret;exact⟨by rw[HF.out];rfl,bRQ _ _⟩
 by_cases hn20:(n:Int) > 20
 ·have HF:Hid (Z=4):=by
   show _=_;have:=HN.out;rw[HZ.out,rsF,if_pos (by omega),if_neg (by omega)]
  go_wp2;go_ret;exact⟨by rw[HF.out];rfl,bRQ _ _⟩
 have HZ2:Hid (Z=if L.any longB=true then 4 else rdF L):=by
  show _=_;have:=HN.out;rw[HZ.out,rsF,if_pos (by omega),few_long];cases hf:L.any longB
  ·rw[if_pos ⟨by omega,rfl⟩];rfl
  rw[if_neg (fun h=>by cases h.2)];rfl
 go_wp2_with fail
 refine (rd_hasF ao n cap _ L _ (HR.out _ (bRQ _ _)) enters_long tooLong_any).mono ?_;rintro e w1 ⟨rfl,hb1⟩;have HB1:Hid (Below w.heap.size w w1):=hb1;clear hb1;cases hlo:L.any longB with
 | true =>
   have HF:Hid (Z=4):=by
    show _=_;rw[HZ2.out,hlo];rfl
   clear hlo;go_wp2;go_ret;exact⟨by rw[HF.out];rfl,HB1.out⟩
 | false =>
   have HZ3:Hid (Z=rdF L):=by
    show _=_;rw[HZ2.out,hlo];rfl
   clear hlo HZ2 HZ;go_wp2
   go_loopw [29] (fun i wr=>∃q:Nat,q≤n∧i=.int i64 (q:Int)∧Z=rdF (L.drop q)∧Below w.heap.size w wr) (fun i _=>n-(intOf i).toNat)
   case atStart=>exact⟨0,by omega,rfl,HZ3.out,HB1.out⟩
   case round =>
    obtain⟨q,hq,rfl,hz,hb⟩:=hrel;obtain⟨wz,hwz⟩:∃X,X=wr:=⟨_,rfl⟩;subst hwz;have HZ4:Hid (Z=rdF (L.drop q)):=hz;have HB4:Hid (Below w.heap.size w wz):=hb;clear hz hb HZ3 HB1;by_cases hqk:q<n
    ·obtain⟨g,o,R,a1,n1,c1,hao,hRs,hc,hG⟩:=(HR.out wz HB4.out).at hqk;subst hao;have hkl:q<L.length:=by rw[HN.out];exact hqk
     have hLk:L[q]=R:=by
      have:=List.getElem?_eq_getElem hkl;rw[this] at hRs;cases hRs;rfl
     have HR1:Hid (R.length=n1):=hG.len;have hn1:n1≤maxLen:=by
      obtain⟨_,_,_,e,h1,h2,_⟩:=hG.form;cases e;exact h2
     unfold maxLen at hn1;have HZ5:Hid (Z=if osF R=0 then rdF (L.drop (q+1)) else osF R):=by
      show _=_;rw[HZ4.out,rds_at hkl,hLk]
     have HC:Hid (∀V,Below w.heap.size w V→GS opE V (.slice a1 n1 c1) R):=fun V hV=>by
      obtain⟨g',o',R',a1',n1',c1',hao',hRs',hc',hG'⟩:=(HR.out wz HB4.out).at hqk;obtain⟨g2,o2,R2,a2,n2,c2,hao2,hRs2,hc2,hG2⟩:=(HR.out w (bRQ _ _)).at hqk;cases hao2;have e1:=cell_later HB4.out hc2;rw[hc] at e1;cases e1;rw[hRs] at hRs2;cases hRs2;exact hG2.later hV
     have kb0:(0:Int)≤(q:Int):=by omega
     have kb1:(q:Int)<(n:Int):=by omega
     clear hG hRs hLk HZ4;go_wp2;clear hc
     go_loopw [35] (fun i wr=>∃j:Nat,j≤n1∧i=.int i64 (j:Int)∧osF R=osF (R.drop j)∧Below w.heap.size w wr) (fun i _=>n1-(intOf i).toNat)
     case atStart=>exact⟨0,by omega,rfl,rfl,HB4.out⟩
     case round =>
      obtain⟨j,hj,rfl,ho,hb⟩:=hrel;obtain⟨wu,hwu⟩:∃X,X=wr:=⟨_,rfl⟩;subst hwu;have HO:Hid (osF R=osF (R.drop j)):=ho;have HBW:Hid (Below w.heap.size w wu):=hb;have hG:=HC.out wu hb;clear ho hb;by_cases hjn:j<n1
      ·obtain⟨_,_,_,e,_,_,_,ha⟩:=hG.form;cases e;obtain⟨go,oo,ha1,hGo,_⟩:=ha (by omega);subst ha1;obtain⟨x0,x1,x2,x3,x4,x5,x6,x7,hjl,hLj,q0,q1,q2,q3,q4,q5,q6,q7⟩:=op_at hGo HR1.out hjn;obtain⟨E,hE⟩:∃E,E=opF ⟨x0,x1,⟨x2,x3,x4,x5,x6,x7⟩⟩:=⟨_,rfl⟩;have HE:Hid (opF ⟨x0,x1,⟨x2,x3,x4,x5,x6,x7⟩⟩=E):=hE.symm;have HO2:Hid (osF R=if E=0 then osF (R.drop (j+1)) else E):=by
        show _=_;rw[HO.out,oss_at hjl,hLj,←hE]
       have jb0:(0:Int)≤(j:Int):=by omega
       have jb1:(j:Int)<(n1:Int):=by omega
       obtain⟨wa,hwa⟩:∃V,V=wu.alloc (.cells #[.int i64 x0,.bool x1,.int i64 x2,.int i64 x3,.int i64 x4,.int i64 x5,.int i64 x6,.int i64 x7] 49):=⟨_,rfl⟩;have hc:=op_new wu x0 x1 x2 x3 x4 x5 x6 x7 49;have hba:Below wu.heap.size wu (wu.alloc (.cells #[.int i64 x0,.bool x1,.int i64 x2,.int i64 x3,.int i64 x4,.int i64 x5,.int i64 x6,.int i64 x7] 49)):=(bRQ _ _).alloc (nLQ _) _;rw[←hwa] at hc hba;obtain⟨r0,r1,r2,r3,r4,r5,r6,r7⟩:=op_cells hc;simp only[Nat.zero_add] at r0 r1 r2 r3 r4 r5 r6 r7;have HBA:Hid (Below w.heap.size w wa):=HBW.out.trans (hba.mono HBW.out.size);have HWA:Hid (wu.alloc (.cells #[.int i64 x0,.bool x1,.int i64 x2,.int i64 x3,.int i64 x4,.int i64 x5,.int i64 x6,.int i64 x7] 49)=wa):=hwa.symm;clear hGo hG ha hLj HO hE hwa hc hba;go_upto_region 12 with fail;rw[HWA.out];clear HWA q0 q1 q2 q3 q4 q5 q6 q7
       go_wp2_with fail
       refine (dcheckOp_any x0 x1 x2 x3 x4 x5 x6 x7 _).mono ?_;rintro e w5 ⟨rfl,hb5⟩;rw[HE.out];have HB7:Hid (Below w.heap.size w w5):=HBA.out.trans (hb5.mono HBA.out.size);clear hb5 r0 r1 r2 r3 r4 r5 r6 r7;by_cases hE0:E=0
       ·have HO3:Hid (osF R=osF (R.drop (j+1))):=by
         show _=_;rw[HO2.out,if_pos hE0]
        rw[no_ok hE0];clear hE0;go_wp2;go_roundw
        case rel=>exact⟨j+1,by omega,by go_num,HO3.out,HB7.out⟩
        case measure=>simp[intOf];omega
       have HZE:Hid (Z=E):=by
        show _=_;have e:osF R=E:=by rw[HO2.out,if_neg hE0]
        rw[HZ5.out,e,if_neg hE0]
       rw[no_ne hE0];go_wp2;go_ret;exact⟨by rw[HZE.out,no_ne hE0];rfl,HB7.out⟩
      obtain rfl:j=n1:=by omega
      have HE:Hid (Z=rdF (L.drop (q+1))):=by
       show _=_;rw[HZ5.out,HO.out,←HR1.out,List.drop_length];rfl
      go_wp2;go_roundw
      case rel=>exact⟨q+1,by omega,by go_num,HE.out,HBW.out⟩
      case measure=>simp[intOf];omega
    obtain rfl:q=n:=by omega
    have HE:Hid (Z=0):=by
     show _=_;rw[HZ4.out,←HN.out,List.drop_length];rfl
    go_wp2;go_ret;exact⟨by rw[HE.out];rfl,HB4.out⟩
theorem op_grow_nil (n:Nat)(w:World)(hn:n≤1000):
 Calls prog 58 #[.slice none 0 0,.int i64 n] w fun e w'=>∃v,e=.returned v∧w'.ownsRow w.heap.size 49 8 v 0 []∧Below w.heap.size w w':=by
 have h1:¬((n:Int)<0):=by omega
 by_cases h0:n=0
 ·subst h0;go_enter func58,ntmps58;go_wp2;go_ret;exact⟨_,rfl,World.ownsRow_nil _ _ _ _,bRQ _ _⟩
 obtain⟨i0,hi,hz0,hz1,hz2⟩:=info_parts op_info;have h3:wrap64 ((n:Int)-0)=(n:Int):=by unfold wrap64;omega
 have h4:(n:Int) > 0:=by omega
 have hrz:∀ty,(Builtin.append_ #[90,3] ty #[.slice none 0 0,.int i64 n]).run prog w =
  .ok (.slice (some ⟨w.heap.size,0,none⟩) n (grownCap w n 0 49)) (w.drew.alloc (.cells (Builtin.zeroCells (Value.agg #[.int i64 0,.bool false,.int i64 0,.int i64 0,.int i64 0,.int i64 0,.int i64 0,.int i64 0]).cells n++Builtin.zeroCells (Value.agg #[.int i64 0,.bool false,.int i64 0,.int i64 0,.int i64 0,.int i64 0,.int i64 0,.int i64 0]).cells (grownCap w n 0 49-n)) 49)):=fun ty =>
  Lib.run_append_nil_zeros w 90 3 ty 49 i0 _ .i64 .i64 underlying90 underlying3 hi hz0 n (by omega) (by rw[hz1];decide) (by omega) (by rw[hz2];omega)
 have hGn:n≤grownCap w n 0 49:=grownCap_ge w _ _ _;have hGm:grownCap w n 0 49≤maxLen:=grownCap_le_maxLen w n 0 49 (by unfold maxLen;omega)
 generalize grownCap w n 0 49=G at *
 have HM:Hid (G≤maxLen):=hGm;have hG63:G≤9223372036854775807:=by unfold maxLen at hGm;omega
 have HO:Hid ((w.drew.alloc (.cells (Builtin.zeroCells (Value.agg #[.int i64 0,.bool false,.int i64 0,.int i64 0,.int i64 0,.int i64 0,.int i64 0,.int i64 0]).cells n++Builtin.zeroCells (Value.agg #[.int i64 0,.bool false,.int i64 0,.int i64 0,.int i64 0,.int i64 0,.int i64 0,.int i64 0]).cells (G-n)) 49)).ownsRow w.heap.size 49 8 (.slice (some ⟨w.heap.size,0,none⟩) 0 G) 0 []):=
  World.ownsRow_made w.drew _ G (nLQ _) HM.out (by
   simp only[Array.size_append,size_zeroCells,op_zero,←Nat.add_mul]
   congr 1
   omega)
 clear hGm;go_enter func58,ntmps58
 go_wp2_with (at_builtin;refine Lib.wpList_append_run _ rfl _ _ _ _ rfl _ _ rfl rfl _ _ (hrz _) ?_)
 all_goals (go_ret;exact⟨_,rfl,HO.out,((bRQ _ _).drew).alloc (nLQ _) _⟩)
def opPt (w:World)(g o:Nat)(Ls:List (List Op8)):Prop:=∀i (h:i<Ls.length),∃ao n cap,w.cell? ⟨g,o+i,none⟩=some (.slice ao n cap)∧GS opE w (.slice ao n cap) Ls[i]
theorem opPt.later {w w':World}{g o:Nat}{Ls:List (List Op8)}(h:opPt w g o Ls)(hb:Below w.heap.size w w'):opPt w' g o Ls:=fun i hi=>by
 obtain⟨ao,n,cap,h1,h2⟩:=h i hi;exact⟨ao,n,cap,cell_later hb h1,h2.later hb⟩
theorem op_flat_next {Ls:List (List Op8)}{k:Nat}(hk:k<Ls.length):(Ls.take (k+1)).flatten=(Ls.take k).flatten++Ls[k]:=by
 rw[List.take_succ_eq_append_getElem hk];simp only[List.flatten_append,List.flatten_cons,List.flatten_nil,List.append_nil]
theorem op_flat_le {Ls:List (List Op8)}(k:Nat):(Ls.take k).flatten.length≤Ls.flatten.length:=by
 have:Ls.flatten=(Ls.take k).flatten++(Ls.drop k).flatten:=by rw[←List.flatten_append,List.take_append_drop]
 rw[this,List.length_append];omega
theorem op_append (w:World){ops:Array Oper}{rest:List Oper}{o:Oper}{a:Act}{Q:Exit→Act→World→Prop}(hgd:o.guard=none)(s x:Operand)(t:TypeId)
 (ho:o.op=.call { callee:=.builtin .append,args:=#[s,x],argTypes:=#[t,t] }) (ht:Tryz.prog.underlying t=some (.slice 49)) (base:Nat)
 (v:Value) (hs:a.eval s=v) (L:List Op8) (hown:w.ownsRow base 49 8 v L.length (cellsG opE L)) (u:Value) (hx:a.eval x=u) (M:List Op8) (hM:GS opE w u M)
 (h100:L.length+M.length≤1000000) (hbase:base≤w.heap.size)
 (h:∀v' w',w'.ownsRow base 49 8 v' (L++M).length (cellsG opE (L++M))→w.grownBy w' v.ownBlock→wpList prog ops Q rest (a.put o.dst v') w'):wpList prog ops Q (o :: rest) a w:=by
 obtain⟨i0,hi,hz0,hz1,hz2⟩:=info_parts op_info;exact wpList_append_GS (E:=opE) w hgd s x t 49 ho ht i0 _ 64 hi hz0 hz1 hz2 op_zero base v hs L hown u hx M hM (by unfold maxLen;omega) (by omega) hbase h
theorem op_concat (g o m cap:Nat)(Ls:List (List Op8))(w:World)(hm:Ls.length=m)(hm2:m≤1000)(hc:opPt w g o Ls)(hs:Ls.flatten.length≤1000):
 Calls prog 24 #[.slice (some ⟨g,o,none⟩) m cap] w fun e w'=>∃v,e=.returned v∧w'.ownsRow w.heap.size 49 8 v Ls.flatten.length (cellsG opE Ls.flatten)∧Below w.heap.size w w':=by
 have HM:Hid (Ls.length=m):=hm;have HC:Hid (opPt w g o Ls):=hc;have HS:Hid (Ls.flatten.length≤1000):=hs;obtain⟨N,hN⟩:∃N,N=Ls.flatten.length:=⟨_,rfl⟩;have HN:Hid (N=Ls.flatten.length):=hN;have hN2:N≤1000:=by omega
 clear hm hc hs hN;go_enter func24,ntmps24
 go_upto_block 0 with fail
 go_cut [3] from 3 (fun z w'=>z=.int i64 (N:Int)∧w'=w)
 case first =>
  go_wp2
  go_loopw [3,11] (fun z i wr=>∃k:Nat,k≤m∧i=.int i64 k∧z=.int i64 ((Ls.take k).flatten.length:Int)∧wr=w) (fun _ i _=>m-(intOf i).toNat)
  case atStart=>exact⟨0,by omega,rfl,rfl,rfl⟩
  case round =>
   obtain⟨k,hk,rfl,rfl,rfl⟩:=hrel;by_cases hlt:k<m
   ·have hkl:k<Ls.length:=by rw[HM.out];exact hlt
    obtain⟨ao,n,cap2,q0,hsr⟩:=HC.out k hkl;have HT:Hid ((Ls.take (k+1)).flatten.length=(Ls.take k).flatten.length+n):=by
     show _=_;rw[op_flat_next hkl,List.length_append,hsr.len]
    have hb1:(Ls.take k).flatten.length+n≤1000:=by
     have h1:=op_flat_le (Ls:=Ls) (k+1);have h2:=HS.out;have h3:=HT.out;omega
    generalize (Ls.take k).flatten.length=z at *
    clear hsr;go_wp2;go_roundw
    case rel=>exact⟨k+1,by omega,by go_num,by rw[HT.out];go_num,by simp⟩
    case measure=>simp[intOf];omega
   obtain rfl:k=m:=by omega
   go_wp2_with fail
   go_meet
   case rel=>exact⟨by rw[←HM.out,List.take_length,HN.out],rfl⟩
 case rest =>
  obtain⟨rfl,rfl⟩:=hcut
  go_wp2_with fail
  refine (op_grow_nil N _ hN2).mono ?_;rintro e w1 ⟨v,rfl,hown,hB⟩;have HO:Hid (w1.ownsRow wc.heap.size 49 8 v 0 []):=hown;have HB:Hid (Below wc.heap.size wc w1):=hB;clear hown hB;go_wp2
  go_loopw [6,27] (fun u i wr=>∃k:Nat,k≤m∧i=.int i64 k∧wr.ownsRow wc.heap.size 49 8 u (Ls.take k).flatten.length (cellsG opE (Ls.take k).flatten)∧Below wc.heap.size wc wr) (fun _ i _=>m-(intOf i).toNat)
  case atStart=>exact⟨0,by omega,rfl,HO.out,HB.out⟩
  case round =>
   obtain⟨k,hk,rfl,hown,hB⟩:=hrel;have HOW:Hid (wr.ownsRow wc.heap.size 49 8 u6 (Ls.take k).flatten.length (cellsG opE (Ls.take k).flatten)):=hown;have HBW:Hid (Below wc.heap.size wc wr):=hB;clear hown;by_cases hlt:k<m
   ·have hkl:k<Ls.length:=by rw[HM.out];exact hlt
    obtain⟨ao,n,cap2,q0,hsr⟩:=(HC.out.later hB) k hkl;have HSR:Hid (GS opE wr (.slice ao n cap2) Ls[k]):=hsr;have HL1:Hid ((Ls.take k).flatten.length+Ls[k].length≤1000000):=by
     have h1:=op_flat_le (Ls:=Ls) (k+1);rw[op_flat_next hkl,List.length_append] at h1;have h2:=HS.out;show _≤_;omega
    clear hsr hB
    go_wp2_with (at_builtin;refine op_append _ rfl _ _ 90 rfl underlying90 wc.heap.size _ rfl _ HOW.out _ rfl _ HSR.out HL1.out HBW.out.size ?_)
    intro v' w3 hown3 hgrow;have HO5:Hid (w3.ownsRow wc.heap.size 49 8 v' (Ls.take (k+1)).flatten.length (cellsG opE (Ls.take (k+1)).flatten)):=by
     show w3.ownsRow _ _ _ _ _ _;rw[op_flat_next hkl,show ((Ls.take k).flatten++Ls[k]).length=(List.take k (List.map List.length Ls)).sum+Ls[k].length by simp];exact hown3
    have HB5:Hid (Below wc.heap.size wc w3):=HBW.out.grown hgrow HBW.out.size (fun g hg=>(HOW.out.lt g hg).1);clear hown3 hgrow q0;go_wp2;go_roundw
    case rel=>exact⟨k+1,by omega,by go_num,HO5.out,HB5.out⟩
    case measure=>simp[intOf];omega
   obtain rfl:k=m:=by omega
   go_wp2;go_ret;refine⟨_,rfl,?_,HBW.out⟩;have:=HOW.out;rw[←HM.out,List.take_length] at this;exact this
theorem froz_later {W W':World}{g:Nat}{a:Value}(h:∀i,W.frozen? ⟨g,i,none⟩=false)(hc:W.cell? ⟨g,1,none⟩=some a)(hb:Below W.heap.size W W'):∀i,W'.frozen? ⟨g,i,none⟩=false:=fun i =>
 (World.frozen?_of_block (hb.block g (bLQ _ _ hc))).trans (h i)
theorem froz_grown {w w':World}{row:Option Nat}{b i:Nat}(hg:w.grownBy w' row)(hl:b<w.heap.size)(hne:some b≠row):w'.frozen? ⟨b,i,none⟩=w.frozen? ⟨b,i,none⟩:=
 World.frozen?_of_block (hg.block b hl hne)
structure NwB (W:World)(p:Nat)(T:Int)(v:Value)(vs:List SlT)(Rs:List (List Op8)):Prop where
 c0:W.cell? ⟨p,0,none⟩=some v
 c1:W.cell? ⟨p,1,none⟩=some (.int i64 T)
 c2:W.cell? ⟨p,2,none⟩=some (.int i64 0)
 c3:W.cell? ⟨p,3,none⟩=some (.slice none 0 0)
 c4:W.cell? ⟨p,4,none⟩=some (.int i64 0)
 f:∀i,W.frozen? ⟨p,i,none⟩=false
 o:OR W (p+1) v vs Rs
 n:∀x∈vs,∀ad,x.1=some ad→p+1≤ad.block
section
variable {W W1 W2:World}{p:Nat}{T:Int}{v:Value}{vs:List SlT}{Rs:List (List Op8)}
theorem NwB.lt (h:NwB W p T v vs Rs):p<W.heap.size:=bLQ W ⟨p,1,none⟩ h.c1
theorem NwB.later (h:NwB W p T v vs Rs)(hb:Below W.heap.size W W1):NwB W1 p T v vs Rs:=
 ⟨cell_later hb h.c0,cell_later hb h.c1,cell_later hb h.c2,cell_later hb h.c3,cell_later hb h.c4,froz_later h.f h.c1 hb,h.o.later hb,h.n⟩
theorem nwb_new (W:World)(T:Int)(t:TypeId):NwB (W.alloc (.cells #[.slice none 0 0,.int i64 T,.int i64 0,.slice none 0 0,.int i64 0] t)) W.heap.size T (.slice none 0 0) [] []:=by
 have hv:=vat_new W [.slice none 0 0,.int i64 T,.int i64 0,.slice none 0 0,.int i64 0] t;have h0:=hv 0 _ rfl;have h1:=hv 1 _ rfl;have h2:=hv 2 _ rfl;have h3:=hv 3 _ rfl;have h4:=hv 4 _ rfl;rw[Nat.zero_add] at h0 h1 h2 h3 h4;exact⟨h0,h1,h2,h3,h4,fun i=>by simp,or_nil _ _,fun x hx=>by cases hx⟩
theorem NwB.push (h:NwB W p T v vs Rs)(hb:Below W.heap.size W W1){x:SlT}{L:List Op8}(hx:GS opE W1 (slV x) L)(hn:∀ad,x.1=some ad→W.heap.size≤ad.block){v':Value}(hg:W1.grownBy W2 v.ownBlock)
 (ho:W2.ownsRow (p+1) 90 slE.n v' (vs++[x]).length (cellsG slE (vs++[x]))) (hv:v'.ownBlock=v.ownBlock∨v'.ownBlock=some W1.heap.size):NwB (W2.setCell ⟨p,0,none⟩ v') p T v' (vs++[x]) (Rs++[L]):=by
 have h1:=h.later hb;have hpl:=h.lt;have hne:∀b,v.ownBlock=some b→b≠p:=fun b e=>by have:=(h.o.ov.lt b e).1;omega
 have hox:∀b,v.ownBlock=some b→offB x b:=fun b e=>.inr fun ad ha=>by
  have:=hn ad ha;have:=(h.o.ov.lt b e).2;omega
 have hcp:∀i u,W1.cell? ⟨p,i,none⟩=some u→W2.cell? ⟨p,i,none⟩=some u:=fun i u hc=>hg.cell hc fun e=>hne p e.symm rfl
 have h2:=h1.o.push hx hox hg ho hv;have hnn:∀y∈vs++[x],∀ad,y.1=some ad→p+1≤ad.block:=by
  intro y hy ad ha
  rcases List.mem_append.1 hy with hy | hy
  ·exact h.n y hy ad ha
  rw[List.mem_singleton] at hy;subst hy;have:=hn ad ha;omega
 have hps:p<W1.heap.size:=Nat.lt_of_lt_of_le hpl hb.size;refine⟨World.cell?_setCell_same _ _ _ (hcp 0 _ h1.c0),cl_off (hcp 1 _ h1.c1) (by omega) _,cl_off (hcp 2 _ h1.c2) (by omega) _,cl_off (hcp 3 _ h1.c3) (by omega) _,cl_off (hcp 4 _ h1.c4) (by omega) _,fun i=>?_,?_,hnn⟩
 ·rw[World.frozen?_setCell];exact (froz_grown hg hps (fun e=>hne p e.symm rfl)).trans (h1.f i)
 refine⟨h2.ov.kept (grown_set _ _ _ _) (.inr fun e=>?_),h2.lv,fun i y M h3 h4=>?_⟩
 ·have:=(h2.ov.lt p e).1;omega
 obtain⟨h5,h6⟩:=h2.rv i y M h3 h4;refine⟨h5.grown (grown_set _ _ _ _) fun b e=>?_,h6⟩;cases e;exact .inr fun ad ha=>by
  have:=hnn y (List.mem_of_getElem? h3) ad ha;omega
theorem NwB.pd (h:NwB W p T v vs Rs){B0:Nat}(hB:B0≤p)(hT:1≤T):Pd W p B0 (fun b=>p≤b∧b<W.heap.size) (dr0 Rs T):=by
 obtain⟨x,hx⟩:∃x:SlT,v=slV x:=by
  obtain⟨ao,cap,e⟩:=own_form h.o.ov;exact⟨(ao,vs.length,cap),e⟩
 have hpl:=h.lt;subst hx;refine⟨x,.slice none 0 0,0,p+1,W.heap.size,⟨h.c0,h.c1,h.c2,h.c3,h.c4,h.f,fun V hV=>?_,⟨by omega,by omega,by omega⟩,fun b h1 h2=>⟨by omega,h2⟩,World.ownsRow_nil _ _ _ _,(fun b e=>by cases e),⟨nLQ _,hpl⟩,fun b hb=>⟨Nat.le_trans hB hb.1,hb.2⟩⟩,⟨?_,.inl rfl⟩⟩
 ·refine⟨vs,?_,h.o.lv,fun i y M h1 h2=>?_⟩
  ·refine own_GS (own_kb h.o.ov hV fun b hb=>?_);have:=h.o.ov.lt b hb;omega
  have h3:=(h.o.rv i y M h1 h2).1;obtain⟨ya,yn,yc⟩:=y
  rcases h3 with ⟨ao',cap',e,rfl⟩ | ⟨g,o,cap',e,h4,h5,h6⟩
  ·exact .inl ⟨ao',cap',e,rfl⟩
  by_cases h0:M=[]
  ·subst h0;cases e;exact .inl ⟨_,_,rfl,rfl⟩
  have hg:g<W.heap.size:=by
   have hl:0<M.length:=List.length_pos_iff.2 h0;have hc:=h6 0 hl 0 _ rfl;exact bLQ W _ hc
  have hn:=h.n _ (List.mem_of_getElem? h1);cases e;refine .inr ⟨g,o,yc,rfl,h4,h5,fun i hi j u hu=>hV.at (h6 i hi j u hu) ⟨?_,hg⟩⟩;exact hn ⟨g,o,none⟩ rfl
 show ((0:Nat):Int)<T;omega
end
theorem op_pt1 {W:World}{a1:AdQ}{n1 c1:Nat}{L1:List Op8}(t:TypeId)(h1:GS opE W (.slice a1 n1 c1) L1):opPt (W.alloc (.cells #[.slice a1 n1 c1] t)) W.heap.size 0 [L1]:=by
 have hb:Below W.heap.size W (W.alloc (.cells #[.slice a1 n1 c1] t)):=(bRQ _ _).alloc (nLQ _) _;intro i hi
 match i,hi with
 | 0,_=>exact⟨a1,n1,c1,by simp,h1.later hb⟩
theorem rs_zero {L:List (List Op8)}{T:Int}(h:rsF L T=0):1≤T∧L.length≤20∧∀r∈L,r.length≤200:=by
 have h1:=dk_new h;exact⟨h1.w.1,h1.L,h1.r⟩
theorem pdnew_any (ao:AdQ)(n c:Nat)(L:List (List Op8))(T:Int)(B0:Nat)(w:World)(hr:∀V,Below B0 w V→RS V (.slice ao n c) L)(hB:B0≤w.heap.size):
 Calls prog 6 #[.slice ao n c,.int i64 T] w fun e w'=>∃v,e=.returned (.tuple #[v,noV (rsF L T)])∧Below w.heap.size w w'∧(rsF L T=0→∃p O,v=.pointer (some ⟨p,0,none⟩)∧Pd w' p B0 O (dr0 L T)∧∀b,O b→w.heap.size≤b):=by
 have hrs:RS w (.slice ao n c) L:=hr w (bRQ _ _);have HN:Hid (L.length=n):=hrs.len;have HR:Hid (∀V,Below w.heap.size w V→RS V (.slice ao n c) L):=fun V hV=>hrs.later hV
 have HB0:Hid (B0≤w.heap.size):=hB;have hnm:n≤maxLen:=by
  obtain⟨_,_,_,e,h1,h2,_⟩:=hrs.form;cases e;exact h2
 unfold maxLen at hnm;obtain⟨Z,hZ⟩:∃Z,Z=rsF L T:=⟨_,rfl⟩;have HZ:Hid (rsF L T=Z):=hZ.symm;have HZ0:Hid (Z=0→1≤T∧L.length≤20∧∀r∈L,r.length≤200):=fun h=>rs_zero (by rw[←hZ];exact h)
 rw[←hZ];clear hr hB hrs hZ;go_enter func6,ntmps6
 go_wp2_with fail
 refine (pdcheck_any ao n c L T _ (HR.out _ (bRQ _ _))).mono ?_;rintro e w1 ⟨rfl,hb1⟩;rw[HZ.out];have HB1:Hid (Below w.heap.size w w1):=hb1;clear hb1;by_cases hz:Z=0
 ·obtain⟨hT1,hL20,hR200⟩:=HZ0.out hz;have HLR:Hid (∀r∈L,r.length≤200):=hR200;have HT1:Hid (1≤T):=hT1;have hn20:n≤20:=by have:=HN.out;omega
  subst hz;rw[no_ok rfl];have HNB:Hid (NwB (w1.alloc (.cells #[.slice none 0 0,.int i64 T,.int i64 0,.slice none 0 0,.int i64 0] 89)) w1.heap.size T (.slice none 0 0) [] []):=nwb_new w1 T _;have HBN:Hid (Below w.heap.size w (w1.alloc (.cells #[.slice none 0 0,.int i64 T,.int i64 0,.slice none 0 0,.int i64 0] 89))):=HB1.out.alloc HB1.out.size _;obtain⟨j1,hj,hy0,hy1,hy2⟩:=info_parts rd_info;have HI1:Hid (Tryz.prog.info? 90=some j1):=hj;have HI2:Hid (j1.zero=some (.slice none 0 0)):=hy0;have HI3:Hid (j1.size=1):=hy1;have HI4:Hid (j1.bytes=24):=hy2;clear hR200 hL20 hT1 HZ0 hj hy0 hy1 hy2;go_wp2
  go_loopw [21] (fun i wr=>∃(k:Nat) (v0:Value) (vs:List SlT),k≤n∧i=.int i64 (k:Int)∧NwB wr w1.heap.size T v0 vs (L.take k)∧Below w.heap.size w wr) (fun i _=>n-(intOf i).toNat)
  case atStart=>exact⟨0,.slice none 0 0,[],by omega,rfl,HNB.out,HBN.out⟩
  case round =>
   obtain⟨k,v0,vs,hk,rfl,hF,hB⟩:=hrel;obtain⟨wz,hwz⟩:∃X,X=wr:=⟨_,rfl⟩;subst hwz;obtain⟨a7,m7,c7,rfl⟩:∃b1 m1 d1,v0=.slice b1 m1 d1:=by
    obtain⟨a,c,h⟩:=own_form hF.o.ov;exact⟨a,_,c,h⟩
   have HF:Hid (NwB wz w1.heap.size T (.slice a7 m7 c7) vs (L.take k)):=hF;have HB:Hid (Below w.heap.size w wz):=hB;have hlt1:=hF.lt;have HLT:Hid (w1.heap.size<wz.heap.size):=hlt1;clear HNB HBN;by_cases hlt:k<n
   ·obtain⟨g,o,R,a4,n4,c4,hao,hRs,r0,hG⟩:=(HR.out wz hB).at hlt;subst hao;have hkl:k<L.length:=by rw[HN.out];exact hlt
    have hLk:L[k]=R:=by
     have:=List.getElem?_eq_getElem hkl;rw[this] at hRs;cases hRs;rfl
    have HSR:Hid (GS opE wz (.slice a4 n4 c4) R):=hG;have HL12:Hid ([R].flatten.length≤1000):=by
     have h:=HLR.out R (List.mem_of_getElem? hRs);show _≤_;simp only[List.flatten_cons,List.flatten_nil,List.append_nil];omega
    have HTK:Hid (L.take (k+1)=L.take k++[R]):=by
     show _=_;rw[List.take_succ_eq_append_getElem hkl,hLk]
    have kb0:(0:Int)≤(k:Int):=by omega
    have kb1:(k:Int)<(n:Int):=by omega
    have q3:=hF.c0;have f3:=hF.f 0;have HVL:Hid (vs.length≤20):=by
     show _≤_;rw[hF.o.lv,List.length_take];omega
    have HLV1:Hid (vs.length+1≤maxLen):=by
     have:=HVL.out;show _≤_;unfold maxLen;omega
    have HLV2:Hid ((vs.length+1)*24≤140737488355328):=by
     have:=HVL.out;show _≤_;omega
    have HKF:Hid (∀W,Below wz.heap.size wz W→NwB W w1.heap.size T (.slice a7 m7 c7) vs (L.take k)):=fun W hW=>HF.out.later hW
    have HKO:Hid (∀W,Below wz.heap.size wz W→W.ownsRow (w1.heap.size+1) 90 1 (.slice a7 m7 c7) vs.length (cellsG slE vs)):=fun W hW=>own_below HF.out.o.ov hW
    have HKC:Hid (∀w' w2,Below wz.heap.size wz w'→w'.grownBy w2 (Value.slice a7 m7 c7).ownBlock→w2.cell? ⟨w1.heap.size,0,none⟩=some (.slice a7 m7 c7)∧w2.frozen? ⟨w1.heap.size,0,none⟩=false):=fun w' w2 h1 h2=>by
     have h3:=HF.out.later h1;have h4:some w1.heap.size≠(Value.slice a7 m7 c7).ownBlock:=fun e=>by have:=(HF.out.o.ov.lt _ e.symm).1;omega
     exact⟨h2.cell h3.c0 h4,(froz_grown h2 h3.lt h4).trans (h3.f 0)⟩
    have HFIN:Hid (∀w' w2 v5 x,Below wz.heap.size wz w'→GS opE w' (slV x) R→(∀ad,x.1=some ad→wz.heap.size≤ad.block)→w'.grownBy w2 (Value.slice a7 m7 c7).ownBlock→w2.ownsRow (w1.heap.size+1) 90 1 v5 (vs++[x]).length (cellsG slE (vs++[x]))→(v5.ownBlock=(Value.slice a7 m7 c7).ownBlock∨v5.ownBlock=some w'.heap.size) →
     ∃(u3:Value) (vs:List SlT),NwB (w2.setCell ⟨w1.heap.size,0,none⟩ v5) w1.heap.size T u3 vs (L.take (k+1))∧Below w.heap.size w (w2.setCell ⟨w1.heap.size,0,none⟩ v5)):=by
     intro w' w2 v5 x h1 hx hox h2 h3 h4;refine⟨v5,vs++[x],?_,?_⟩
     ·rw[HTK.out];exact HF.out.push h1 hx hox h2 h3 h4
     have hb2:Below w.heap.size w w':=HB.out.trans (h1.mono HB.out.size);have hs1:=HB1.out.size;exact (hb2.grown h2 hb2.size (fun b hb=>by have:=(HF.out.o.ov.lt b hb).1;omega)).setCell (p:=⟨w1.heap.size,0,none⟩) (show w.heap.size≤w1.heap.size by omega) _
    clear hF hB hG hRs hLk;go_upto_region 8 with fail;clear r0
    go_region_law (first
     | ((refine step_append_blk (E:=slE) _ (by rfl) _ _ 38 90 (by rfl) underlying38 j1 _ 24 HI1.out HI2.out HI3.out HI4.out (by rfl) (w1.heap.size+1) (.slice a7 m7 c7) (by rfl) vs (HKO.out _ HBY.out) w'.heap.size 0 1 (by rfl) (a6,n6,c6) HVA.out HLV1.out HLV2.out ?_ ?_;(focus (have:=HBY.out.size;have:=HLT.out;omega));intro v5 w5 ho5 hg5 hb5;have HG:Hid _:=HFIN.out _ _ _ _ HBY.out HSX.out HOFF.out hg5 ho5 hb5;have z2:=(HKC.out _ _ HBY.out hg5).1;have zf2:=(HKC.out _ _ HBY.out hg5).2;obtain⟨a8,m8,c8,rfl⟩:∃b1 m1 d1,v5=Value.slice b1 m1 d1:=(by obtain⟨a,c,h⟩:=own_form ho5;exact⟨a,_,c,h⟩);clear ho5 hg5 hb5))
     | (go_simp;go_at_call 24;refine (op_concat _ 0 1 1 [R] _ rfl (by omega) (op_pt1 90 (HSR.out.later (Below.drew (bRQ _ _)))) HL12.out).mono ?_;rintro e w' ⟨u,rfl,hown,hb⟩;have HBX:Hid (Below wz.heap.size wz w'):=falloc hb;have hNR:NO w' wz.heap.size u R:=(NO.ofn hown (by simp) (by simp)).mono (by simp);obtain⟨⟨a6,n6,c6⟩,hx,hoff⟩:=hNR.sl2;replace hx:u=Value.slice a6 n6 c6:=hx;subst hx;have HOFF:Hid (∀ad,(a6,n6,c6).1=some ad→wz.heap.size≤ad.block):=(fun ad ha=>by cases ha;exact (World.ownsRow.lt hNR ad.block rfl).1);have HBY:Hid (Below wz.heap.size wz (w'.alloc (.cells #[.slice a6 n6 c6] 90))):=HBX.out.alloc HBX.out.size _;have HSX:Hid (GS opE (w'.alloc (.cells #[.slice a6 n6 c6] 90)) (slV (a6,n6,c6)) R):=hNR.gs.later ((bRQ _ _).alloc (nLQ _) _);have HVA:Hid (VAt (w'.alloc (.cells #[.slice a6 n6 c6] 90)) w'.heap.size 0 (slE.c (a6,n6,c6))):=vat_sl (by simp[slV]);have x2:=(HKF.out w' HBX.out).c0;have xlt:=(HKF.out w' HBX.out).lt;clear hb hown hoff hNR;dsimp only))
    all_goals (clear q3 f3;go_wp2)
    all_goals go_roundw
    all_goals first
     | (simp[intOf];omega)
     | (obtain⟨u3,vs2,hG⟩:=HG.out;exact⟨k+1,u3,vs2,by omega,by go_num,hG.1,hG.2⟩)
   obtain rfl:k=n:=by omega
   have HFE:Hid (NwB wz w1.heap.size T (.slice a7 m7 c7) vs L):=by
    have h:=HF.out;rw[←HN.out,List.take_length] at h;exact h
   clear hF hB;go_wp2;refine bodyPost_ret (v:=.tuple #[.pointer (some ⟨w1.heap.size,0,none⟩),.nilIface]) (by simp[results,results6,go_sem]) rfl ?_;have hs1:=HB1.out.size;have HFF:∃p O,(Value.pointer (some ⟨w1.heap.size,0,none⟩)=.pointer (some ⟨p,0,none⟩))∧Pd wz p B0 O (dr0 L T)∧∀b,O b→w.heap.size≤b:=⟨_,_,rfl,HFE.out.pd (Nat.le_trans HB0.out hs1) HT1.out,fun b hb=>Nat.le_trans hs1 hb.1⟩
   first
    | exact⟨_,by rw[no_ok rfl],HB.out,fun _=>HFF⟩
    | (obtain⟨p,O,h1,h2,h3⟩:=HFF;exact⟨_,by rw[no_ok rfl],HB.out,p,h1,O,h2,h3⟩)
 rw[no_ne hz];go_wp2;refine bodyPost_ret (v:=.tuple #[.pointer none,.iface 81 (.int i64 Z)]) (by simp[results,results6,go_sem]) rfl ?_;exact⟨_,by rw[no_ne hz],HB1.out,fun h=>absurd h hz⟩
theorem own_slen {w:World}{B e size n m c:Nat}{ao:AdQ}{xs:List Value}(h:w.ownsRow B e size (.slice ao m c) n xs):m=n:=by
 rcases h.2 with ⟨h1,h2⟩ | ⟨g,cap,cur,h1,_⟩
 ·cases h1;exact h2.symm
 cases h1;rfl
theorem share_any (ao:AdQ)(n cap:Nat)(R:List Op8)(i s:Int)(w:World)(h:GS opE w (.slice ao n cap) R)(hn:n≤200):
 Calls prog 61 #[.slice ao n cap,.int i64 i,.int i64 s] w fun e w'=>∃a1 n1 c1,e=.returned (.slice a1 n1 c1)∧w'.ownsRow w.heap.size 51 msgE.n (.slice a1 n1 c1) (sayS R i s).length (cellsG msgE (sayS R i s))∧Below w.heap.size w w':=by
 have HRN:Hid (R.length=n):=h.len;have HG:Hid (∀V,Below w.heap.size w V→GS opE V (.slice ao n cap) R):=fun V hV=>h.later hV
 obtain⟨j0,hj0,hz0,hz1,hz2⟩:=info_parts msg_info;have HI1:Hid (Tryz.prog.info? 51=some j0):=hj0;have HI2:Hid (j0.zero=some (.agg #[.int i64 0,.int i64 0,.int i64 0,.int i64 0,.int i64 0,.bool false,.int i64 0,.int i64 0,.int i64 0,.int i64 0,.int i64 0,.int i64 0])):=hz0;have HI3:Hid (j0.size=12):=hz1;have HI4:Hid (j0.bytes=96):=hz2;clear h hj0 hz0 hz1 hz2;go_enter func61,ntmps61;go_wp2
 go_loopw [7,12] (fun v i0 wr=>∃(j:Nat) (a5:AdQ) (m5 c5:Nat),j≤n∧i0=.int i64 (j:Int)∧v=.slice a5 m5 c5∧wr.ownsRow w.heap.size 51 msgE.n (.slice a5 m5 c5) (sdM i s 0 (R.take j)).length (cellsG msgE (sdM i s 0 (R.take j)))∧Below w.heap.size w wr) (fun _ i _=>n-(intOf i).toNat)
 case atStart=>exact⟨0,none,0,0,by omega,rfl,rfl,World.ownsRow_nil _ _ _ _,bRQ _ _⟩
 case round =>
  obtain⟨j,a6,m6,c6,hj,rfl,rfl,ho,hb⟩:=hrel;obtain⟨wy,hwy⟩:∃X,X=wr:=⟨_,rfl⟩;subst hwy;have hm6:=own_slen ho;have HDL:Hid ((sdM i s 0 (R.take j)).length≤200):=by
   show _≤_;rw[do_len];have h1:=cw_le (R.take j) s;have h2:(R.take j).length≤R.length:=by rw[List.length_take];exact Nat.min_le_right _ _
   have:=HRN.out;omega
  have HMC:Hid (m6=cntW (R.take j) s):=by
   show _=_;rw[hm6,do_len]
  have HO6:Hid (wy.ownsRow w.heap.size 51 msgE.n (.slice a6 m6 c6) (sdM i s 0 (R.take j)).length (cellsG msgE (sdM i s 0 (R.take j)))):=ho;have HB6:Hid (Below w.heap.size w wy):=hb;have hGr:=HG.out wy hb;clear ho hb;by_cases hjn:j<n
  ·obtain⟨_,_,_,e2,_,_,_,ha⟩:=hGr.form;cases e2;obtain⟨go,oo,ha1,hGo,_⟩:=ha (by omega);subst ha1;obtain⟨x0,x1,x2,x3,x4,x5,x6,x7,hjl,hLj,q0,q1,q2,q3,q4,q5,q6,q7⟩:=op_at hGo HRN.out hjn;have HDN:Hid (sdM i s 0 (R.take (j+1))=sdM i s 0 (R.take j)++(if x0=s then [⟨1,s,i,(m6:Int),⟨x0,x1,⟨x2,x3,x4,x5,x6,x7⟩⟩⟩] else [])):=by
    show _=_;rw[do_next _ _ hjl,hLj,HMC.out]
   obtain⟨Y,hY⟩:∃Y,Y=sdM i s 0 (R.take j):=⟨_,rfl⟩;rw[←hY] at HDN HO6 HDL hm6;have jb0:(0:Int)≤(j:Int):=by omega
   have jb1:(j:Int)<(n:Int):=by omega
   have HM6:Hid (m6=Y.length):=hm6;clear hGo hGr ha hLj hY hm6 HMC;go_upto_region 5 with fail;obtain⟨wa,hwa⟩:∃V,V=wy.alloc (.cells #[.int i64 x0,.bool x1,.int i64 x2,.int i64 x3,.int i64 x4,.int i64 x5,.int i64 x6,.int i64 x7] 49):=⟨_,rfl⟩;have hc:=op_new wy x0 x1 x2 x3 x4 x5 x6 x7 49;have hba:Below wy.heap.size wy (wy.alloc (.cells #[.int i64 x0,.bool x1,.int i64 x2,.int i64 x3,.int i64 x4,.int i64 x5,.int i64 x6,.int i64 x7] 49)):=(bRQ _ _).alloc (nLQ _) _;rw[←hwa] at hc hba ⊢;obtain⟨r0,r1,r2,r3,r4,r5,r6,r7⟩:=op_cells hc;simp only[Nat.zero_add] at r0 r1 r2 r3 r4 r5 r6 r7;have HOA:Hid (wa.ownsRow w.heap.size 51 msgE.n (.slice a6 m6 c6) Y.length (cellsG msgE Y)):=own_below HO6.out hba;have HBA:Hid (Below w.heap.size w wa):=HB6.out.trans (hba.mono HB6.out.size);clear q0 q1 q2 q3 q4 q5 q6 q7 hc hba hwa HO6;cases hx:(x0==s)
   ·have hne:¬x0=s:=by simpa using hx
    have HD2:Hid (sdM i s 0 (R.take (j+1))=Y):=by
     show _=_;rw[HDN.out,if_neg hne,List.append_nil]
    go_wp2;go_roundw
    case rel=>exact⟨j+1,_,_,_,by omega,by go_num,rfl,by rw[HD2.out];exact HOA.out,HBA.out⟩
    case measure=>simp[intOf];omega
   obtain rfl:x0=s:=by simpa using hx
   have HD2:Hid (sdM i x0 0 (R.take (j+1))=Y++[⟨1,x0,i,(m6:Int),⟨x0,x1,⟨x2,x3,x4,x5,x6,x7⟩⟩⟩]):=by
    show _=_;rw[HDN.out,if_pos rfl]
   go_upto_region 6 with fail
   go_wp2_with (at_builtin;refine wpList_append_blk (E:=msgE) _ rfl _ _ 39 51 rfl underlying39 j0 _ 96 HI1.out HI2.out HI3.out HI4.out msg_zero w.heap.size (.slice a6 m6 c6) rfl Y (HOA.out.alloc _) wa.heap.size 0 1 rfl (⟨1,x0,i,(m6:Int),⟨x0,x1,⟨x2,x3,x4,x5,x6,x7⟩⟩⟩:Mg) (msg_new wa 1 x0 i (m6:Int) x0 x1 x2 x3 x4 x5 x6 x7 51) ?c1 ?c2 ?c3 ?_)
   case c1=>have:=HDL.out;unfold maxLen;omega
   case c2=>have:=HDL.out;omega
   case c3=>have:=HBA.out.size;first | (simp;omega) | omega
   intro v' w9 ho9 hg9 _;obtain⟨a9,n9,c9,hv9⟩:∃a n c,v'=.slice a n c:=by obtain⟨a,c,h⟩:=own_form ho9;exact⟨a,_,c,h⟩
   subst hv9;have HO9:Hid (w9.ownsRow w.heap.size 51 msgE.n (.slice a9 n9 c9) (sdM i x0 0 (R.take (j+1))).length (cellsG msgE (sdM i x0 0 (R.take (j+1))))):=by
    show w9.ownsRow _ _ _ _ _ _;rw[HD2.out,List.length_append];exact ho9
   have HB9:Hid (Below w.heap.size w w9):=(HBA.out.alloc HBA.out.size _).grown hg9 (by have:=HBA.out.size;simp;omega) (fun g hg=>(HOA.out.lt g hg).1);clear ho9 hg9 r0 r1 r2 r3 r4 r5 r6 r7;go_wp2;go_roundw
   case rel=>exact⟨j+1,_,_,_,by omega,by go_num,rfl,HO9.out,HB9.out⟩
   case measure=>simp[intOf];omega
  obtain rfl:j=n:=by omega
  have htk:R.take j=R:=by rw[←HRN.out];exact List.take_length
  rw[htk] at HO6 HDL HMC;rw[htk] at hm6;obtain⟨Y,hY⟩:∃Y,Y=sdM i s 0 R:=⟨_,rfl⟩;have HS:Hid (sayS R i s=Y++[saM i s m6]):=by
   show _=_;rw[sayS,hY,HMC.out]
  rw[←hY] at HO6 HDL hm6;clear hY hGr hm6 htk HMC;go_upto_region 8 with fail
  go_wp2_with (at_builtin;refine wpList_append_blk (E:=msgE) _ rfl _ _ 39 51 rfl underlying39 j0 _ 96 HI1.out HI2.out HI3.out HI4.out msg_zero w.heap.size (.slice a6 m6 c6) rfl Y (HO6.out.alloc _) wy.heap.size 0 1 rfl (saM i s m6) (msg_new wy 2 s i (m6:Int) 0 false 0 0 0 0 0 0 51) ?c1 ?c2 ?c3 ?_)
  case c1=>have:=HDL.out;unfold maxLen;omega
  case c2=>have:=HDL.out;omega
  case c3=>have:=HB6.out.size;first | (simp;omega) | omega
  intro v' w9 ho9 hg9 _;obtain⟨a9,n9,c9,hv9⟩:∃a n c,v'=.slice a n c:=by obtain⟨a,c,h⟩:=own_form ho9;exact⟨a,_,c,h⟩
  subst hv9;have HO9:Hid (w9.ownsRow w.heap.size 51 msgE.n (.slice a9 n9 c9) (sayS R i s).length (cellsG msgE (sayS R i s))):=by
   show w9.ownsRow _ _ _ _ _ _;rw[HS.out,List.length_append];exact ho9
  have HB9:Hid (Below w.heap.size w w9):=(HB6.out.alloc HB6.out.size _).grown hg9 (by have:=HB6.out.size;simp;omega) (fun g hg=>(HO6.out.lt g hg).1);clear ho9 hg9;go_wp2;go_ret;exact⟨_,_,_,rfl,HO9.out,HB9.out⟩
theorem step_append_many {P:Program}{α:Type}{E:Enc α}(w:World){ops:Array Oper}{o:Oper}{a:Act}{K:Act→World→Prop}{Q:Exit→Act→World→Prop}{X:Prop}(hgd:o.guard=none)(s x:Operand)(t e:TypeId)
 (ho:o.op=.call { callee:=.builtin .append,args:=#[s,x],argTypes:=#[t,t] }) (ht:P.underlying t=some (.slice e)) (i:TypeInfo) (z:Value) (bytes:Nat) (hi:P.info? e=some i) (hz:i.zero=some z)
 (hsize:i.size=E.n) (hby:i.bytes=bytes) (hzs:z.cells.size=E.n) (base:Nat)
 (v:Value) (hs:a.eval s=v) (L:List α) (hown:w.ownsRow base e E.n v L.length (cellsG E L)) (g q m c:Nat) (hx:a.eval x=.slice (some ⟨g,q,none⟩) m c) (M:List α) (hM:GAt E w g q M) (hm:M.length=m)
 (h63:L.length+m≤maxLen) (hbytes:(L.length+m)*bytes≤140737488355328) (hbase:base≤w.heap.size)
 (h:∀v' w',w'.ownsRow base e E.n v' (L++M).length (cellsG E (L++M))→w.grownBy w' v.ownBlock→K (a.put o.dst v') w'):
 if Region.wanted o (yielded ops a.tmps)=true then Oper.wp P o a w K Q else X:=by
 have hw:Region.wanted o (yielded ops a.tmps)=true:=by simp[Region.wanted,hgd]
 rw[if_pos hw];subst hm;obtain⟨v',w',hr,h2,h3,_⟩:=run_append_own (P:=P) w base t o.type e i z E.n bytes ht hi hz hsize hby hzs E.pos v _ _ hown ⟨g,q,none⟩ M.length c (cellsG E M) (cellsG_len M) hM.cells (cellsG_all M) h63 hbytes hbase;unfold Oper.wp execOp;simp only[ho,resolve,invoke,builtin,Sem.run_bind,Sem.run_pure,Result.andThen_ok,List.map_toArray,List.map_cons,List.map_nil,hs,hx,hr];exact h v' w' (by rw[List.length_append,cellsG_app];exact h2) h3
theorem own_at_some {α:Type}{E:Enc α}{w:World}{B e m c:Nat}{ao:AdQ}{L:List α}(h:w.ownsRow B e E.n (.slice ao m c) L.length (cellsG E L))(h0:0<L.length):∃g,ao=some ⟨g,0,none⟩∧m=L.length∧GAt E w g 0 L∧B≤g:=by
 rcases h.2 with ⟨h1,h2⟩ | ⟨g,cap,cur,h1,hB,_⟩
 ·omega
 have hg:=own_GS h;cases h1
 rcases hg with ⟨_,_,e,e2⟩ | ⟨g',o',cap',e,_,_,h3⟩
 ·rw[e2] at h0;simp at h0
 cases e;exact⟨_,rfl,rfl,h3,hB⟩
theorem say_pos (R:List Op8)(i s:Int):0<(sayS R i s).length:=by simp[sayS]
theorem psay_any {p B0:Nat}{O:Nat→Prop}{D:DrT}{xr:SlT}{vd:Value}{t B1 M K:Nat}(w:World)(h:PdC w p B0 O D xr vd t B1 M)(hok:DrOK D K):
 Calls prog 26 #[.pointer (some ⟨p,0,none⟩)] w fun e w'=>∃a1 n1 c1,e=.returned (.slice a1 n1 c1)∧GS msgE w' (.slice a1 n1 c1) (saD D)∧(∀ad,a1=some ad→w.heap.size≤ad.block)∧Below w.heap.size w w':=by
 obtain⟨ar,nr,cr⟩:=xr;obtain⟨al,cl,hvd⟩:=own_form h.l;obtain⟨nl,hnl⟩:∃nl,nl=D.l.length:=⟨_,rfl⟩;rw[←hnl] at hvd;subst hvd;have HH:Hid (∀V,Below w.heap.size w V→PdC V p B0 O D (ar,nr,cr) (.slice al nl cl) t B1 M):=fun V hb=>h.later hb
 obtain⟨_,_,_,e1,hn,_,_,ha⟩:=h.gl.form;cases e1;have HNL:Hid (D.l.length=nl):=hn;have HLA:Hid (0<nl→∃g o,al=some ⟨g,o,none⟩∧GAt inE w g o D.l):=fun h=>by
  obtain⟨g,o,h1,h2,_⟩:=ha h;exact⟨g,o,h1,h2⟩
 have HNR:Hid (D.L.length=nr):=(h.r w (Kb.refl _ _)).len;have HOK:Hid (DrOK D K):=hok;have HRS:Hid (RS w (.slice ar nr cr) D.L):=h.r w (Kb.refl _ _);have hs20:D.s≤20:=Nat.le_trans hok.s hok.L;have hnl6:nl≤6:=by
  have h6:=hok.six;have h7:D.l.length=nl:=hn;omega
 obtain⟨I,hI⟩:∃I,I=(D.s:Int)-1:=⟨_,rfl⟩;have HI:Hid (I=(D.s:Int)-1):=hI;obtain⟨R,hR⟩:∃R,R=D.L.getD (D.s-1) []:=⟨_,rfl⟩;have HR:Hid (R=D.L.getD (D.s-1) []):=hR;have HRL:Hid (R.length≤200):=by
  show _≤_;rw[hR]
  rcases getd_mem (L:=D.L) (i:=D.s-1) with e | e
  ·rw[e];simp
  exact hok.r _ e
 have HSA:Hid (saD D=sayL R I D.l):=by
  show _=_;rw[saD,hR,hI]
 have c3:=h.c3;obtain⟨j0,hj0,hz0,hz1,hz2⟩:=info_parts msg_info;have HI1:Hid (Tryz.prog.info? 51=some j0):=hj0;have HI2:Hid (j0.zero=some (.agg #[.int i64 0,.int i64 0,.int i64 0,.int i64 0,.int i64 0,.bool false,.int i64 0,.int i64 0,.int i64 0,.int i64 0,.int i64 0,.int i64 0])):=hz0;have HI3:Hid (j0.size=12):=hz1;have HI4:Hid (j0.bytes=96):=hz2;clear h hok hn ha hI hR hj0 hz0 hz1 hz2 hnl;go_enter func26,ntmps26;go_wp2;clear c3
 go_loopw [3,11] (fun v i wr=>∃(k:Nat) (a5:AdQ) (m5 c5:Nat),k≤nl∧i=.int i64 (k:Int)∧v=.slice a5 m5 c5∧wr.ownsRow w.heap.size 51 msgE.n (.slice a5 m5 c5) (sayL R I (D.l.take k)).length (cellsG msgE (sayL R I (D.l.take k)))∧Below w.heap.size w wr) (fun _ i _=>nl-(intOf i).toNat)
 case atStart=>exact⟨0,none,0,0,by omega,rfl,rfl,World.ownsRow_nil _ _ _ _,bRQ _ _⟩
 case round =>
  obtain⟨k,a5,m5,c5,hk,rfl,rfl,ho,hb⟩:=hrel;obtain⟨wz,hwz⟩:∃X,X=wr:=⟨_,rfl⟩;subst hwz;have HB:Hid (Below w.heap.size w wz):=hb;by_cases hlt:k<nl
  ·obtain⟨gl,ol,hal,hGl⟩:=HLA.out (by omega);subst hal;obtain⟨x,hkl,hLk,y0⟩:=in_at (hGl.later HB.out) HNL.out hlt;obtain⟨s1,hs1⟩:∃s1,D.s=s1+1:=⟨D.s-1,by
    by_cases h0:D.s=0
    ·have:=HOK.out.p h0;rw[this] at hkl;simp at hkl
    omega⟩
   obtain rfl:I=(s1:Int):=by have:=HI.out;omega
   have hsn:s1<nr:=by
    have:=HOK.out.s;have:=HNR.out;omega
   obtain⟨gr,qr,R',a1,n1,c1,har,hRs,hc1,hGr⟩:=HRS.out.at hsn;subst har;obtain rfl:R'=R:=by
    rw[HR.out];have:D.s-1=s1:=by omega
    rw[this];simp[List.getD,hRs]
   have HSN:Hid (sayL R' (s1:Int) (D.l.take (k+1))=sayL R' (s1:Int) (D.l.take k)++sayS R' (s1:Int) x):=by
    show _=_;rw[say_next _ _ hkl,hLk]
   obtain⟨X,hX⟩:∃X,X=sayL R' (s1:Int) (D.l.take k):=⟨_,rfl⟩;rw[←hX] at HSN ho;have HXL:Hid (X.length≤1206):=by
    show _≤_;have h1:=say_len R' (s1:Int) (D.l.take k);have h2:(D.l.take k).length≤6:=by rw[List.length_take];omega
    have h3:(D.l.take k).length*(R'.length+1)≤6*201:=Nat.mul_le_mul h2 (by have:=HRL.out;omega);rw[hX];omega
   have hn1:n1≤200:=by
    have:=HRL.out;have:=hGr.len;omega
   obtain⟨N,hN⟩:∃N,N=sayS R' (s1:Int) x:=⟨_,rfl⟩;have HNS:Hid (N=sayS R' (s1:Int) x):=hN;have HNL2:Hid (0<N.length∧N.length≤201):=by
    refine⟨by rw[hN];exact say_pos _ _ _,?_⟩;rw[hN,sayS,List.length_append,do_len];have h1:=cw_le R' x;have:=HRL.out;simp;omega
   rw[←hN] at HSN;obtain⟨sd,hsd⟩:∃sd:Int,sd=(D.s:Int):=⟨_,rfl⟩;have HKR:Hid (∀V,Below wz.heap.size wz V→(V.cell? ⟨p,0,none⟩=some (.slice (some ⟨gr,qr,none⟩) nr cr)∧V.cell? ⟨p,2,none⟩=some (.int i64 sd)∧V.cell? ⟨gr,qr+s1,none⟩=some (.slice a1 n1 c1))):=fun V hV=>by
    have hV2:Below w.heap.size w V:=HB.out.trans (hV.mono HB.out.size);have hx:=HH.out V hV2;exact⟨hx.c0,by rw[hsd];exact hx.c2,cell_later hV2 hc1⟩
   have HKG:Hid (∀V V',Below wz.heap.size wz V→V.grownBy V' (Value.slice a5 m5 c5).ownBlock→(V'.cell? ⟨p,0,none⟩=some (.slice (some ⟨gr,qr,none⟩) nr cr)∧V'.cell? ⟨p,2,none⟩=some (.int i64 sd)∧V'.cell? ⟨gr,qr+s1,none⟩=some (.slice a1 n1 c1))):=fun V V' hV hg=>by
    obtain⟨z0,z2,zc⟩:=HKR.out V hV;have hlp:p<w.heap.size:=(HH.out w (bRQ _ _)).pl;have hlg:gr<w.heap.size:=bLQ w ⟨gr,qr+s1,none⟩ hc1;exact⟨hg.cell z0 (fun e=>by have:=(ho.lt p e.symm).1;omega),hg.cell z2 (fun e=>by have:=(ho.lt p e.symm).1;omega),hg.cell zc (fun e=>by have:=(ho.lt gr e.symm).1;omega)⟩
   have HGR:Hid (∀V,Below wz.heap.size wz V→GS opE V (.slice a1 n1 c1) R'):=fun V hV=>hGr.later (HB.out.trans (hV.mono HB.out.size))
   have HOV:Hid (∀V,Below wz.heap.size wz V→V.ownsRow w.heap.size 51 msgE.n (.slice a5 m5 c5) X.length (cellsG msgE X)):=fun V hV=>own_below ho hV
   have HOL:Hid (∀g,(Value.slice a5 m5 c5).ownBlock=some g→w.heap.size≤g):=fun g hg=>(ho.lt g hg).1
   have kb0:(0:Int)≤(k:Int):=by omega
   have kb1:(k:Int)<(nl:Int):=by omega
   have hw1:IntKind.i64.wrap (sd-1)=(s1:Int):=by rw[IntKind.wrap_i64];omega
   have sb0:(0:Int)≤(s1:Int):=by omega
   have sb1:(s1:Int)<(nr:Int):=by omega
   have HLV1:Hid (X.length+N.length≤maxLen):=by
    show _≤_;have:=HXL.out;have:=HNL2.out;unfold maxLen;omega
   have HLV2:Hid ((X.length+N.length)*96≤140737488355328):=by
    show _≤_;have:=HXL.out;have:=HNL2.out;omega
   obtain⟨q0,q2,qc⟩:=HKR.out wz (bRQ _ _);clear hGl hLk hX hc1 hGr hs1 hRs hN hsd ho hb hsn;go_upto_region 5 with fail
   go_region_held3 (fun W=>W.cell? ⟨p,0,none⟩=some (.slice (some ⟨gr,qr,none⟩) nr cr)∧W.cell? ⟨p,2,none⟩=some (.int i64 sd)∧W.cell? ⟨gr,qr+s1,none⟩=some (.slice a1 n1 c1))
    (first | (with_reducible assumption) | (with_reducible exact HKR.out _ (Below.drew (bRQ _ _))) | (with_reducible exact HKR.out _ HBX.out) | (with_reducible exact HK5.out))
    (first
     | (go_at_call 61;refine (share_any a1 n1 c1 R' (s1:Int) x _ (HGR.out _ (Below.drew (bRQ _ _))) hn1).mono ?_;rintro e w9 ⟨a9,n9,c9,rfl,ho9,hb9⟩;have HBX:Hid (Below wz.heap.size wz w9):=(Below.drew (bRQ _ _)).trans hb9;obtain⟨g9,rfl,hm9,hG9,_⟩:=own_at_some ho9 (say_pos _ _ _);subst hm9;rw[←HNS.out] at hG9 ⊢;have HG9:Hid (GAt msgE w9 g9 0 N):=hG9;clear ho9 hb9 hG9)
     | (refine step_append_many (E:=msgE) _ (by rfl) _ _ 39 51 (by rfl) underlying39 j0 _ 96 HI1.out HI2.out HI3.out HI4.out msg_zero w.heap.size (.slice a5 m5 c5) (by rfl) X (HOV.out _ HBX.out) g9 0 N.length _ (by rfl) N HG9.out rfl HLV1.out HLV2.out ?_ ?_;(focus (exact Nat.le_trans HB.out.size HBX.out.size));intro v5 w5 ho5 hg5;have HK5:Hid _:=HKG.out _ _ HBX.out hg5;obtain⟨z0,z2,zc⟩:=HK5.out;have HO5:Hid (w5.ownsRow w.heap.size 51 msgE.n v5 (sayL R' (s1:Int) (D.l.take (k+1))).length (cellsG msgE (sayL R' (s1:Int) (D.l.take (k+1))))):=(by rw[HSN.out];exact ho5);have HB5:Hid (Below w.heap.size w w5):=(HB.out.trans (HBX.out.mono HB.out.size)).grown hg5 (Nat.le_trans HB.out.size HBX.out.size) HOL.out;clear ho5 hg5))
   all_goals (clear q0 q2 qc y0 z0 z2 zc;obtain⟨a9,m9,c9,rfl⟩:∃a m c,v5=Value.slice a m c:=(by obtain⟨a,c,hf⟩:=own_form HO5.out;exact⟨a,_,c,hf⟩);go_wp2)
   all_goals go_roundw
   all_goals first
    | (simp[intOf];omega)
    | exact⟨k+1,_,_,_,by omega,by go_num,rfl,HO5.out,HB5.out⟩
  obtain rfl:k=nl:=by omega
  have htk:D.l.take k=D.l:=by rw[←HNL.out];exact List.take_length
  rw[htk] at ho;have HO:Hid (wz.ownsRow w.heap.size 51 msgE.n (.slice a5 m5 c5) (sayL R I D.l).length (cellsG msgE (sayL R I D.l))):=ho;clear ho hb;go_wp2;go_ret;exact⟨_,_,_,rfl,by rw[HSA.out];exact own_GS HO.out,fun ad ha=>by subst ha;exact (HO.out.lt ad.block rfl).1,HB.out⟩
theorem below_drwN (w:World)(n:Nat):Below w.heap.size w (w.drewN n):=⟨rfl,rfl,rfl,nLQ _,fun _ _=>rfl⟩
theorem emp_iff {l:List Int}{n:Nat}(h:l.length=n):l.isEmpty=decide ((n:Int)=0):=by
 subst h;cases l with
 | nil=>rfl
 | cons x l =>
   have:¬(((x :: l).length:Nat):Int)=0:=by simp;omega
   rw[decide_eq_false this];rfl
theorem in_zero:(Value.int i64 0).cells.size=1:=by simp[Value.cells]
def inPt (w:World)(g o:Nat)(Ls:List (List Int)):Prop:=∀i (h:i<Ls.length),∃ao n cap,w.cell? ⟨g,o+i,none⟩=some (.slice ao n cap)∧GS inE w (.slice ao n cap) Ls[i]
theorem inPt.later {w w':World}{g o:Nat}{Ls:List (List Int)}(h:inPt w g o Ls)(hb:Below w.heap.size w w'):inPt w' g o Ls:=fun i hi=>by
 obtain⟨ao,n,cap,h1,h2⟩:=h i hi;exact⟨ao,n,cap,cell_later hb h1,h2.later hb⟩
theorem in_flat_next {Ls:List (List Int)}{k:Nat}(hk:k<Ls.length):(Ls.take (k+1)).flatten=(Ls.take k).flatten++Ls[k]:=by
 rw[List.take_succ_eq_append_getElem hk];simp only[List.flatten_append,List.flatten_cons,List.flatten_nil,List.append_nil]
theorem in_flat_le {Ls:List (List Int)}(k:Nat):(Ls.take k).flatten.length≤Ls.flatten.length:=by
 have:Ls.flatten=(Ls.take k).flatten++(Ls.drop k).flatten:=by rw[←List.flatten_append,List.take_append_drop]
 rw[this,List.length_append];omega
theorem in_append (w:World){ops:Array Oper}{rest:List Oper}{o:Oper}{a:Act}{Q:Exit→Act→World→Prop}(hgd:o.guard=none)(s x:Operand)(t:TypeId)
 (ho:o.op=.call { callee:=.builtin .append,args:=#[s,x],argTypes:=#[t,t] }) (ht:Tryz.prog.underlying t=some (.slice 3)) (base:Nat)
 (v:Value) (hs:a.eval s=v) (L:List Int) (hown:w.ownsRow base 3 1 v L.length (cellsG inE L)) (u:Value) (hx:a.eval x=u) (M:List Int) (hM:GS inE w u M)
 (h100:L.length+M.length≤1000000) (hbase:base≤w.heap.size)
 (h:∀v' w',w'.ownsRow base 3 1 v' (L++M).length (cellsG inE (L++M))→w.grownBy w' v.ownBlock→wpList prog ops Q rest (a.put o.dst v') w'):wpList prog ops Q (o :: rest) a w:=by
 obtain⟨i0,hi,hz0,hz1,hz2⟩:=info_parts infoInt;exact wpList_append_GS (E:=inE) w hgd s x t 3 ho ht i0 _ 8 hi hz0 hz1 hz2 in_zero base v hs L hown u hx M hM (by unfold maxLen;omega) (by omega) hbase h
theorem in_ptd {W:World}{a1:AdQ}{n1 c1:Nat}{L1:List Int}(t:TypeId)(h1:GS inE W (.slice a1 n1 c1) L1):inPt (W.alloc (.cells #[.slice a1 n1 c1] t)) W.heap.size 0 [L1]:=by
 have hb:Below W.heap.size W (W.alloc (.cells #[.slice a1 n1 c1] t)):=(bRQ _ _).alloc (nLQ _) _;intro i hi
 match i,hi with
 | 0,_=>exact⟨a1,n1,c1,by simp,h1.later hb⟩
theorem pddone_any {p B0:Nat}{O:Nat→Prop}{D:DrT}{K:Nat}(w:World)(h:Pd w p B0 O D)(hok:DrOK D K):
 Calls prog 16 #[.pointer (some ⟨p,0,none⟩)] w fun e w'=>e=.returned (.bool (doneD D))∧Below w.heap.size w w':=by
 obtain⟨⟨ar,nr,cr⟩,vd,t,B1,M,h,_⟩:=h;obtain⟨al,cl,e0⟩:=own_form h.l;obtain⟨nl,hnl⟩:∃nl,nl=D.l.length:=⟨_,rfl⟩;rw[←hnl] at e0;subst e0;have hr:D.L.length=nr:=(h.r w (Kb.refl _ _)).len;obtain⟨s,hs⟩:∃s:Int,s=(D.s:Int):=⟨_,rfl⟩;obtain⟨r,hr2⟩:∃r:Int,r=(nr:Int):=⟨_,rfl⟩;have HM:Hid (doneD D=(decide ((nl:Int)=0)&&decide (s=(nr:Int)))):=by
  show _=_;rw[doneD,emp_iff hnl.symm,hr]
  congr 1
  by_cases e:D.s=nr
  ·rw[decide_eq_true (by omega)];simpa using e
  rw[decide_eq_false (by omega)];simpa using e
 rw[HM.out];have c0:w.cell? ⟨p,0,none⟩=some (.slice ar nr cr):=h.c0;have c2:w.cell? ⟨p,2,none⟩=some (.int i64 s):=by rw[hs];exact h.c2
 have c3:w.cell? ⟨p,3,none⟩=some (.slice al nl cl):=h.c3;clear h hr hs hr2 HM hnl hok;by_cases h0:s=(nr:Int)
 ·have hb2:(s==(nr:Int))=true:=by simp[h0]
  go_enter func16,ntmps16;go_wp2
  go_quiet (fail)
  go_wp2;go_ret;have e2:((nl:Int)==0)=decide ((nl:Int)=0):=rfl;exact⟨by rw[e2];simp[h0],below_drwN _ _⟩
 have hb2:(s==(nr:Int))=false:=beq_false_of_ne h0;go_enter func16,ntmps16;go_wp2
 go_quiet (fail)
 go_wp2;go_ret;exact⟨by simp[h0],below_drwN _ _⟩
theorem pdvt_nil {w w':World}{p B0:Nat}{O:Nat→Prop}{D':DrT}(h:Pd w' p B0 O D')(hk:Kb (fun b=>¬O b) w w'):DvT Pd w p B0 O D' [] (.returned (.slice none 0 0)) w':=
 ⟨none,0,0,rfl,GS.nil _,(fun _ h=>by cases h),O,h,fun b h=>.inl h,(fun _ h=>by cases h),hk⟩
theorem tw_next {D:DrT}{t:Nat}(h:TwOK D t)(hw:1≤D.W):((t:Int)+1<D.W→TwOK (tkS D) (t+1)∧tkA D=[])∧(¬(t:Int)+1<D.W→TwOK (tkS D) 0∧tkA D=saD (tkS D)):=by
 obtain⟨h1,h2⟩:=h;by_cases he:D.l=[]
 ·have e1:tkS D=D:=by rw[tkS,he];rfl
  have e2:tkA D=[]:=by rw[tkA,he];rfl
  rw[e1,e2];refine⟨fun h3=>⟨⟨by push_cast;exact h3,.inl he⟩,rfl⟩,fun h3=>⟨⟨by omega,.inl he⟩,?_⟩⟩;rw[saD,he];rfl
 have h4:(t:Int)=(D.k:Int) % D.W:=h2.resolve_left he;have hi:D.l.isEmpty=false:=by
  cases hl:D.l with
  | nil=>exact absurd hl he
  | cons x l=>rfl
 have e1:tkS D={ D with k:=D.k+1 }:=by rw[tkS,hi];rfl
 have e2:tkA D=if ((D.k+1:Nat):Int) % D.W=0 then saD D else []:=by rw[tkA,hi];rfl
 have e3:((D.k+1:Nat):Int) % D.W=((t:Int)+1) % D.W:=by
  rw[h4]
  push_cast
  rw[Int.emod_add_emod]
 have e4:saD (tkS D)=saD D:=by rw[e1];rfl
 rw[e2,e3,e4,e1];refine⟨fun h3=>?_,fun h3=>?_⟩
 ·have h5:((t:Int)+1) % D.W=(t:Int)+1:=Int.emod_eq_of_lt (by omega) h3;refine⟨⟨by push_cast;exact h3,.inr ?_⟩,?_⟩
  ·show ((t+1:Nat):Int)=((D.k+1:Nat):Int) % D.W;rw[e3,h5]
   push_cast
   rfl
  rw[h5,if_neg (by omega)]
 have h5:(t:Int)+1=D.W:=by omega
 have h6:((t:Int)+1) % D.W=0:=by rw[h5];exact Int.emod_self
 refine⟨⟨by show ((0:Nat):Int)<D.W;omega,.inr ?_⟩,by rw[if_pos h6]⟩;show ((0:Nat):Int)=((D.k+1:Nat):Int) % D.W;rw[e3,h6];rfl
end
section
open Go.RowKit Go.Shelf
attribute [local go_sem] Oper.semAt_some
theorem own_kbm {W W':World}{B e size n:Nat}{v:Value}{xs:List Value}{p:Nat→Prop}(h:W.ownsRow B e size v n xs)(hk:Kb p W W')(hp:∀g,v.ownBlock=some g→p g):W'.ownsRow B e size v n xs:=by
 refine⟨h.1,?_⟩
 rcases h.2 with ⟨rfl,rfl⟩ | ⟨g,cap,cur,rfl,h1,hg,h2⟩
 ·exact .inl ⟨rfl,rfl⟩
 exact .inr ⟨g,cap,cur,rfl,h1,(hk.block g (Array.getElem?_eq_some_iff.1 hg).1 (hp g rfl)).trans hg,h2⟩
def HK (W:World)(bk:Nat)(l:HpQ):Prop:=W.ownsRow 0 122 3 (.slice (some ⟨bk,0,none⟩) l.length 24) l.length (cellsG hopE l)
theorem HK.kb {W W':World}{bk:Nat}{l:HpQ}{p:Nat→Prop}(h:HK W bk l)(hk:Kb p W W')(hp:p bk):HK W' bk l:=own_kbm h hk (fun g e=>by cases e;exact hp)
theorem HK.lt {W:World}{bk:Nat}{l:HpQ}(h:HK W bk l):bk<W.heap.size:=(World.ownsRow.lt h bk rfl).2
theorem HK.gs {W:World}{bk:Nat}{l:HpQ}(h:HK W bk l):GS hopE W (.slice (some ⟨bk,0,none⟩) l.length 24) l:=own_GS (E:=hopE) h
section
variable {l lo n₀:Nat}{J:Nat→(Nat→Prop)→World→Prop}{Jx:World→Prop}{L:List Ft}{w:World}{vo vy:Value}{m:Nat}{Ls:LkQ}{Hs:HoQ}{As Bs:TsQ}
end
end
section
open Go.RowKit Go.Shelf
attribute [local go_sem] Oper.semAt_some
structure TB (A W:World)(vo vy:Value)(g:Lg)(met:Nat→Bool):Prop where
 below:Below A.heap.size A W
 size:W.heap.size=A.heap.size+3
 x0:W.cell? ⟨A.heap.size,0,none⟩=some vo
 x1:W.cell? ⟨A.heap.size,1,none⟩=some vy
 g0:W.cell? ⟨A.heap.size+1,0,none⟩=some (.int i64 g.1)
 g1:W.cell? ⟨A.heap.size+1,1,none⟩=some (.string g.2.1)
 g2:W.cell? ⟨A.heap.size+1,2,none⟩=some (.int i64 g.2.2.1.1)
 g3:W.cell? ⟨A.heap.size+1,3,none⟩=some (.int i64 g.2.2.1.2)
 g4:W.cell? ⟨A.heap.size+1,4,none⟩=some (.int i64 g.2.2.2)
 m0:W.cell? ⟨A.heap.size+1+1,0,none⟩=some (.bool (met 0))
 m1:W.cell? ⟨A.heap.size+1+1,1,none⟩=some (.bool (met 1))
 m2:W.cell? ⟨A.heap.size+1+1,2,none⟩=some (.bool (met 2))
 m3:W.cell? ⟨A.heap.size+1+1,3,none⟩=some (.bool (met 3))
 m4:W.cell? ⟨A.heap.size+1+1,4,none⟩=some (.bool (met 4))
 m5:W.cell? ⟨A.heap.size+1+1,5,none⟩=some (.bool (met 5))
section
variable {l lo n₀:Nat}{J:Nat→(Nat→Prop)→World→Prop}{Jx:World→Prop}{L:List Ft}{w:World}{vo vy:Value}{m:Nat}{Ls:LkQ}{Hs:HoQ}{As Bs:TsQ}
end
end
section
open Go.RowKit Go.Shelf
theorem LegAt.kb {W W':World}{g:Nat}{a:Int}{b:ByteArray}{c d e:Int}{p:Nat→Prop}(h:LegAt W g a b c d e)(hk:Kb p W W')(hp:p g):LegAt W' g a b c d e:=⟨hk.at h.1 hp,hk.at h.2.1 hp,hk.at h.2.2.1 hp,hk.at h.2.2.2.1 hp,hk.at h.2.2.2.2 hp⟩
theorem LegAt.lt {W:World}{g:Nat}{a:Int}{b:ByteArray}{c d e:Int}(h:LegAt W g a b c d e):g<W.heap.size:=bLQ W ⟨g,0,none⟩ h.1
section
variable {l lo n₀:Nat}{J:Nat→(Nat→Prop)→World→Prop}{Jx:World→Prop}{L:List Ft}{w:World}{vo vy:Value}{m:Nat}{Ls:LkQ}{Hs:HoQ}{As Bs:TsQ}
end
end
section
open Go.RowKit
theorem hid_len2 {α:Type}{l:List α}{x:α}{k:Nat}(h:l.length=k):(l++[x]).length=k+1:=by simp[h]
end
section
open Go.RowKit Go.Lib
theorem cu_all (d:Array Int)(hd:∀i,i+1<d.size→d[i]! ≤ d[i+1]!):∀m,m≤d.size→Ris ltI (compactUpTo d m)∧(∀x∈compactUpTo d m,0<m∧x≤d[m-1]!)∧(∀j,j<m→d[j]! ∈ compactUpTo d m)∧(∀x∈compactUpTo d m,∃j,j<m∧d[j]! = x)
 | 0,_=>by
   have e:compactUpTo d 0=[]:=rfl;rw[e];exact⟨List.Pairwise.nil,fun x h=>by simp at h,fun j h=>absurd h (by omega),fun x h=>by simp at h⟩
 | m+1,hm=>by
   obtain⟨h1,h2,h3,h4⟩:=cu_all d hd m (by omega);rw[compactUpTo_succ,show m+1-1=m by omega];cases hk:keeps d m
   ·have hk2:¬(m=0∨d[m]! ≠ d[m-1]!):=of_decide_eq_false hk;rw[not_or] at hk2;have e:d[m]! = d[m-1]! := Classical.not_not.1 hk2.2;simp only[Bool.false_eq_true,if_false,List.append_nil];refine⟨h1,fun x hx=>⟨by omega,by rw[e];exact (h2 x hx).2⟩,fun j hj=>?_,fun x hx=>?_⟩
    ·by_cases ej:j=m
     ·rw[ej,e];exact h3 (m-1) (by omega)
     exact h3 j (by omega)
    obtain⟨j,hj,e2⟩:=h4 x hx;exact⟨j,by omega,e2⟩
   have hk2:m=0∨d[m]! ≠ d[m-1]! := of_decide_eq_true hk;have hlt:∀x∈compactUpTo d m,x<d[m]! := fun x hx=>by
    obtain⟨h0,hle⟩:=h2 x hx;have h5:=hd (m-1) (by omega);rw[show m-1+1=m by omega] at h5;have h6:d[m]! ≠ d[m-1]! := hk2.resolve_left (by omega);omega
   simp only[if_true];refine⟨?_,fun x hx=>⟨by omega,?_⟩,fun j hj=>?_,fun x hx=>?_⟩
   ·unfold Ris at h1 ⊢;rw[List.pairwise_append];refine⟨h1,List.pairwise_singleton _ _,fun x hx y hy=>?_⟩;obtain rfl:y=d[m]! := by simpa using hy
    simpa[ltI] using hlt x hx
   ·rcases List.mem_append.1 hx with hx | hx
    ·have:=hlt x hx;omega
    have:x=d[m]! := by simpa using hx
    omega
   ·by_cases ej:j=m
    ·rw[ej];simp
    exact List.mem_append_left _ (h3 j (by omega))
   rcases List.mem_append.1 hx with hx | hx
   ·obtain⟨j,hj,e2⟩:=h4 x hx;exact⟨j,by omega,e2⟩
   have e2:x=d[m]! := by simpa using hx
   exact⟨m,by omega,e2.symm⟩
theorem cu_touch (l:List Op8):compact ((l.map fun o=>o.w).mergeSort fun x y=>decide (x≤y))=tcL l:=by
 obtain⟨L,hL⟩:∃L,L=(l.map fun o=>o.w).mergeSort fun x y=>decide (x≤y):=⟨_,rfl⟩
 have hp:L.Perm (l.map fun o=>o.w):=by rw[hL];exact List.mergeSort_perm _ _
 have hs:L.Pairwise (fun x y=>decide (x≤y)=true):=by
  rw[hL];exact List.pairwise_mergeSort (fun a b c h1 h2=>by simp at *;omega) (fun a b=>by simp;omega) _
 rw[←hL];have hsz:L.toArray.size=L.length:=by simp
 have hd:∀i,i+1<L.toArray.size→L.toArray[i]! ≤ L.toArray[i+1]! := fun i hi=>by
  rw[getElem!_pos L.toArray i (by omega),getElem!_pos L.toArray (i+1) hi];have:=List.pairwise_iff_getElem.1 hs i (i+1) (by omega) (by omega) (by omega);simpa using this
 obtain⟨h1,_,h3,h4⟩:=cu_all L.toArray hd L.length (by omega);refine ris_ext lo_ltI h1 (tc_ris l [] List.Pairwise.nil) (fun x=>?_);rw[tcL,tc_mem];constructor
 ·intro hx;obtain⟨j,hj,e⟩:=h4 x hx;rw[getElem!_pos L.toArray j (by omega)] at e;have hm:x∈L:=by
   rw[←e];simp
  rw[hp.mem_iff,List.mem_map] at hm;exact .inr hm
 rintro (h | h)
 ·simp at h
 have hm:x∈L:=by
  rw[hp.mem_iff,List.mem_map];exact h
 obtain⟨j,hj,e⟩:=List.getElem_of_mem hm;have:=h3 j hj;rw[getElem!_pos L.toArray j (by omega)] at this;simp only[List.getElem_toArray] at this;rw[e] at this;exact this
end
section
open Go.Shelf
def sortInt_ren:Go.Shelf.Ren:=⟨fun | 189=>59 | 125=>91 | 257=>90 | 128=>115 | 129=>116 | 294=>106 | 295=>107 | 296=>108 | 297=>109 | 298=>110 | 299=>111 | 216=>112 | 300=>113 | 301=>114 | 328=>126 | 329=>127 | 330=>128 | 331=>129 | 332=>130 | 215=>131 | 343=>136 | n=>n,fun | 28=>87 | 3=>3 | 46=>179 | 0=>0 | 51=>202 | 53=>204 | 4=>4 | 183=>195 | 182=>194 | 131=>199 | 5=>5 | 9=>9 | 218=>214 | 222=>218 | 228=>224 | 229=>225 | n=>n,fun | n=>n⟩
theorem sortInt:Go.Proofs.Lays.n189 prog sortInt_ren:={
 mixed:=by kernel_rfl
 f125:=func91.trans (congrArg some (by kernel_rfl))
 f128:=func115.trans (congrArg some (by kernel_rfl))
 f129:=func116.trans (congrArg some (by kernel_rfl))
 f189:=func59.trans (congrArg some (by kernel_rfl))
 f215:=func131.trans (congrArg some (by kernel_rfl))
 f216:=func112.trans (congrArg some (by kernel_rfl))
 f257:=func90.trans (congrArg some (by kernel_rfl))
 f294:=func106.trans (congrArg some (by kernel_rfl))
 f295:=func107.trans (congrArg some (by kernel_rfl))
 f296:=func108.trans (congrArg some (by kernel_rfl))
 f297:=func109.trans (congrArg some (by kernel_rfl))
 f298:=func110.trans (congrArg some (by kernel_rfl))
 f299:=func111.trans (congrArg some (by kernel_rfl))
 f300:=func113.trans (congrArg some (by kernel_rfl))
 f301:=func114.trans (congrArg some (by kernel_rfl))
 f328:=func126.trans (congrArg some (by kernel_rfl))
 f329:=func127.trans (congrArg some (by kernel_rfl))
 f330:=func128.trans (congrArg some (by kernel_rfl))
 f331:=func129.trans (congrArg some (by kernel_rfl))
 f332:=func130.trans (congrArg some (by kernel_rfl))
 f343:=func136.trans (congrArg some (by kernel_rfl))
 t0:=underlying0
 a0:=Tryz.isAgg0
 z0:=Tryz.sizeOf0
 v0:=Tryz.zeroValue0
 t3:=underlying3
 a3:=Tryz.isAgg3
 z3:=Tryz.sizeOf3
 v3:=Tryz.zeroValue3
 t4:=underlying4
 a4:=Tryz.isAgg4
 z4:=Tryz.sizeOf4
 v4:=Tryz.zeroValue4
 t5:=underlying5
 a5:=Tryz.isAgg5
 z5:=Tryz.sizeOf5
 v5:=Tryz.zeroValue5
 t9:=underlying9
 a9:=Tryz.isAgg9
 z9:=Tryz.sizeOf9
 v9:=Tryz.zeroValue9
 t28:=underlying87
 a28:=Tryz.isAgg87
 z28:=Tryz.sizeOf87
 v28:=Tryz.zeroValue87
 t46:=underlying179
 a46:=Tryz.isAgg179
 z46:=Tryz.sizeOf179
 v46:=Tryz.zeroValue179
 t51:=underlying202
 a51:=Tryz.isAgg202
 z51:=Tryz.sizeOf202
 v51:=Tryz.zeroValue202
 t53:=underlying204
 a53:=Tryz.isAgg204
 z53:=Tryz.sizeOf204
 v53:=Tryz.zeroValue204
 t131:=underlying199
 a131:=Tryz.isAgg199
 z131:=Tryz.sizeOf199
 v131:=Tryz.zeroValue199
 t182:=underlying194
 a182:=Tryz.isAgg194
 z182:=Tryz.sizeOf194
 v182:=Tryz.zeroValue194
 t183:=underlying195
 a183:=Tryz.isAgg195
 z183:=Tryz.sizeOf195
 v183:=Tryz.zeroValue195
 t218:=underlying214
 a218:=Tryz.isAgg214
 z218:=Tryz.sizeOf214
 v218:=Tryz.zeroValue214
 t222:=underlying218
 a222:=Tryz.isAgg218
 z222:=Tryz.sizeOf218
 v222:=Tryz.zeroValue218
 t228:=underlying224
 a228:=Tryz.isAgg224
 z228:=Tryz.sizeOf224
 v228:=Tryz.zeroValue224
 t229:=underlying225
 a229:=Tryz.isAgg225
 z229:=Tryz.sizeOf225
 v229:=Tryz.zeroValue225 }
def compactInt_ren:Go.Shelf.Ren:=⟨fun | 20=>60 | n=>n,fun | 22=>87 | 3=>3 | 4=>4 | 0=>0 | n=>n,fun | n=>n⟩
theorem compactInt:Go.Proofs.Lays2.n20 prog compactInt_ren:={
 mixed:=by kernel_rfl
 f20:=func60.trans (congrArg some (by kernel_rfl))
 t0:=underlying0
 a0:=Tryz.isAgg0
 z0:=Tryz.sizeOf0
 v0:=Tryz.zeroValue0
 t3:=underlying3
 a3:=Tryz.isAgg3
 z3:=Tryz.sizeOf3
 v3:=Tryz.zeroValue3
 t4:=underlying4
 a4:=Tryz.isAgg4
 z4:=Tryz.sizeOf4
 v4:=Tryz.zeroValue4
 t22:=underlying87
 a22:=Tryz.isAgg87
 z22:=Tryz.sizeOf87
 v22:=Tryz.zeroValue87
 i3:=by kernel_rfl }
end
end Go.Proofs.YtpgjkmefomldfaaGreat
