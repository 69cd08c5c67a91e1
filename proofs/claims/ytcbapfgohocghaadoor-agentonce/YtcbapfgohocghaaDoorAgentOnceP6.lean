/- Contracts and facts on the way to AgentOnce, joined into one text: AgentOnce, AgentPart, StKept, RefAgMem, AgentPgMem. -/
import Derived.Test.YtcbapfgohocghaaDoorAgentOnceP5
namespace Go.Proofs.YtcbapfgohocghaaDoor
set_option linter.unusedSimpArgs false
set_option linter.unusedVariables false
set_option maxHeartbeats 16000000
set_option maxRecDepth 100000
open Go.Proofs.Tryd
open IntKind (i64)
namespace agentOnce
open Go.RowKit
def oneOp (o:Op8):Op8:=⟨1,o.a,o.r⟩
theorem one_w (l:List Op8):∀o∈l.map oneOp,o.w=1:=fun o ho=>by
 obtain⟨p,_,rfl⟩:=List.mem_map.1 ho;rfl
theorem take_one {l:List Op8}{j:Nat}(hj:j<l.length){x:Op8}(hx:l[j]=x):(l.take (j+1)).map oneOp=(l.take j).map oneOp++[oneOp x]:=by
 rw[List.take_succ_eq_append_getElem hj,List.map_append,hx];rfl
theorem pm_erase:∀(l:List Nat) (k:Nat) (h:k<l.length),(l[k] :: l.eraseIdx k).Perm l
 | x :: l,0,_=>List.Perm.refl _
 | x :: l,k+1,h=>(List.Perm.swap x _ _).trans (List.Perm.cons x (pm_erase l k (by simpa using h)))
theorem off_range {W:World}{B:Nat}{x:SlT}{M:List Ru}(hs:SR W (slV x) M)(ho:∀b,b<B→offB x b):x.2.1=0∨∀ad,x.1=some ad→B≤ad.block∧ad.block<W.heap.size:=by
 obtain⟨ao,n,cap⟩:=x
 rcases hs with ⟨ao',cap',e,rfl⟩ | ⟨g,o,cap',e,h1,h2,h3⟩
 ·simp only[slV,Value.slice.injEq] at e;exact .inl e.2.1
 simp only[slV,Value.slice.injEq] at e;obtain⟨rfl,rfl,rfl⟩:=e;by_cases h0:M.length=0
 ·exact .inl h0
 refine .inr fun ad ha=>?_
 cases ha;have hl:g<W.heap.size:=h3.lt (by omega);refine⟨?_,hl⟩
 rcases Nat.lt_or_ge g B with h | h
 ·rcases ho g h with h4 | h4
  ·exact absurd h4 h0
  exact absurd rfl (h4 _ rfl)
 exact h
structure OnS (Pg:World→Nat→Nat→(Nat→Prop)→Int→AgT→Prop)(w W0:World)(p s:Nat)(t:List Ru)(l:List Op8)(O:Nat→Prop)(xs:List Nat)(k:Nat)(W:World):Prop where
 g:Pg W p w.heap.size O 1 (onS t l xs)
 ok:AgOK (onS t l xs) k
 x:∀b,s≤b→b<W0.heap.size→¬O b
 k:Kb (fun b=>b<w.heap.size∨(s≤b∧b<W0.heap.size)) W0 W
section
variable {Pg:World→Nat→Nat→(Nat→Prop)→Int→AgT→Prop}{w W0 W W':World}{p s:Nat}{t:List Ru}{l:List Op8}{O O':Nat→Prop}{xs xs':List Nat}{k k':Nat}
theorem OnS.later (I:PgI Pg)(h:OnS Pg w W0 p s t l O xs k W)(hb:Below W.heap.size W W'):OnS Pg w W0 p s t l O xs k W':=
 ⟨I.kb h.g (Kb.of_below hb fun b hl _=>hl),h.ok,h.x,h.k.trans (Kb.of_below hb fun b hl _=>hl)⟩
theorem OnS.below (h:OnS Pg w W0 p s t l O xs k W)(hb:Below w.heap.size w W0):Below w.heap.size w W:=hb.trans (h.k.below hb.size fun b hb=>.inl hb)
theorem OnS.next (I:PgI Pg)(h:OnS Pg w W0 p s t l O xs k W)(hg:Pg W' p w.heap.size O' 1 (onS t l xs'))(hok:AgOK (onS t l xs') k')(hO:∀b,O' b→O b∨W.heap.size≤b)(hk:Kb (fun b=>¬O b) W W'):OnS Pg w W0 p s t l O' xs' k' W':=by
 refine⟨hg,hok,fun b h1 h2 h3=>?_,h.k.trans (hk.mono fun b hb hc=>?_)⟩
 ·rcases hO b h3 with h4 | h4
  ·exact h.x b h1 h2 h4
  have:=h.k.size;omega
 rcases hc with hc | hc
 ·exact fun h1=>by have:=(I.lt h.g b h1).1;omega
 exact h.x b hc.1 hc.2
end
theorem walk {Pg:World→Nat→Nat→(Nat→Prop)→Int→AgT→Prop}(I:PgI Pg)(ao:AdQ)(k c:Nat)(t:List Ru)(a2:AdQ)(n2 c2:Nat)(L:List Op8)(a3:AdQ)(n3 c3:Nat)(K3:List Int)(a4:AdQ)(n4 c4:Nat)(K4:List Int)(w:World)
 (hs:SR w (.slice ao k c) t) (hl:GS opE w (.slice a2 n2 c2) L) (hk3:GS inE w (.slice a3 n3 c3) K3) (hk4:GS inE w (.slice a4 n4 c4) K4) (hg:HasErr w):
 Calls prog 3 #[.slice ao k c,.slice a2 n2 c2,.slice a3 n3 c3,.slice a4 n4 c4] w fun e w'=>e=.returned (.bool true)∧Below w.heap.size w w':=by
 have hao:k=0∨∀ad,ao=some ad→ad.block<w.heap.size:=by
  rcases hs with ⟨ao',cap',e,rfl⟩ | ⟨g,o,cap',e,h1,h2,h3⟩
  ·cases e;exact .inl rfl
  cases e;by_cases h0:t.length=0
  ·exact .inl h0
  refine .inr fun ad ha=>?_
  cases ha;exact h3.lt (by omega)
 have HAO:Hid (k=0∨∀ad,ao=some ad→ad.block<w.heap.size):=hao;have HT:Hid (∀W,Below w.heap.size w W→SR W (.slice ao k c) t):=fun W hb=>hs.later hb
 have HG:Hid (∀W,Below w.heap.size w W→HasErr W):=fun W hb=>hg.later hb
 obtain⟨_,_,_,e1,hn,hn2,_,hla⟩:=hl.form;cases e1;have HLN:Hid (L.length=n2):=hn;have HLA:Hid (0<n2→∃g o,a2=some ⟨g,o,none⟩∧GAt opE w g o L):=fun h=>by
  obtain⟨g,o,h1,h2,_⟩:=hla h;exact⟨g,o,h1,h2⟩
 obtain⟨_,_,_,e1,hn,hm3,_,hla3⟩:=hk3.form;cases e1;have HK3:Hid (K3.length=n3∧(0<n3→∃g o,a3=some ⟨g,o,none⟩∧GAt inE w g o K3)):=⟨hn,fun h=>by
  obtain⟨g,o,h1,h2,_⟩:=hla3 h;exact⟨g,o,h1,h2⟩⟩
 obtain⟨_,_,_,e1,hn,hm4,_,hla4⟩:=hk4.form;cases e1;have HK4:Hid (K4.length=n4∧(0<n4→∃g o,a4=some ⟨g,o,none⟩∧GAt inE w g o K4)):=⟨hn,fun h=>by
  obtain⟨g,o,h1,h2,_⟩:=hla4 h;exact⟨g,o,h1,h2⟩⟩
 unfold maxLen at hn2 hm3 hm4;obtain⟨E,hE⟩:∃E,E=nwN 1 t:=⟨_,rfl⟩;have HE:Hid (nwN 1 t=E):=hE.symm;clear hao hs hl hk3 hk4 hg hn hla hla3 hla4 hE;go_enter func3,ntmps3
 go_wp2_with fail
 refine (I.new 1 ao k c t w.heap.size _ (HT.out _ (bRQ _ _)) (nLQ _) HAO.out).mono ?_;rintro e w2 ⟨v,rfl,hb2,hv⟩;rw[HE.out] at hv ⊢;have HB2:Hid (Below w.heap.size w w2):=hb2;have HV:Hid (E=0→∃p O,v=.pointer (some ⟨p,0,none⟩)∧Pg w2 p w.heap.size O 1 (ag0 t)∧∀b,O b→w.heap.size≤b):=hv;clear hv hb2;by_cases hE0:E=0
 ·subst hE0;obtain⟨p,O,hv,hP,_⟩:=HV.out rfl;subst hv;have HTB:Hid (tbN t=0):=by
   show _=_;have h:=HE.out;unfold nwN at h;rw[if_pos (by decide)] at h;exact h
  have HP:Hid (Pg w2 p w.heap.size O 1 (ag0 t)):=hP;obtain⟨w3,hw3⟩:∃V,V=w2.alloc (.cells #[.slice ao k c] 23):=⟨_,rfl⟩;obtain⟨w4,hw4⟩:∃V,V=w3.alloc (.cells #[.int i64 1,.slice none 0 0,.slice none 0 0,.slice (some ⟨w2.heap.size,0,none⟩) 1 1] 37):=⟨_,rfl⟩;have HW3:Hid (w2.alloc (.cells #[.slice ao k c] 23)=w3):=hw3.symm;have HW4:Hid (w3.alloc (.cells #[.int i64 1,.slice none 0 0,.slice none 0 0,.slice (some ⟨w2.heap.size,0,none⟩) 1 1] 37)=w4):=hw4.symm;have hb23:Below w2.heap.size w2 w3:=by rw[hw3];exact (bRQ _ _).alloc (nLQ _) _
  have hb34:Below w3.heap.size w3 w4:=by rw[hw4];exact (bRQ _ _).alloc (nLQ _) _
  have HB24:Hid (Below w2.heap.size w2 w4):=hb23.trans (hb34.mono hb23.size);have HT4:Hid (TS w4 (.slice (some ⟨w2.heap.size,0,none⟩) 1 1) [t]):=by
   refine .inr ⟨w2.heap.size,0,1,rfl,nLQ _,by unfold maxLen;omega,fun i hi=>?_⟩;have hi0:i=0:=by simpa using hi
   subst hi0;have hv:=vat_new w2 [.slice ao k c] 23;rw[show w2.alloc (.cells [.slice ao k c].toArray 23)=w3 from hw3.symm] at hv;have h0:=hv 0 _ rfl;simp only[Nat.zero_add] at h0;exact⟨ao,k,c,cell_later hb34 h0,HT.out w4 (HB2.out.trans (HB24.out.mono HB2.out.size))⟩
  have HN4:Hid (NeBox w4 w3.heap.size 1 (.slice none 0 0) (.slice none 0 0) (.slice (some ⟨w2.heap.size,0,none⟩) 1 1)):=by
   rw[hw4];exact nebox_new w3 _ _ _ _ _
  have HB4:Hid (Below w.heap.size w w4):=HB2.out.trans (HB24.out.mono HB2.out.size);have HS3:Hid (w3.heap.size=w2.heap.size+1):=by show _=_;rw[hw3];exact Array.size_push ..
  clear hP HV hb23 hb34 hw3 hw4;rw[show noV 0=.nilIface from rfl];go_upto_region 5 with fail;rw[HW3.out,HW4.out];clear HW3 HW4;go_wp2
  go_loopw [12,13] (fun v i wr=>∃(j:Nat) (a5:AdQ) (m5 c5:Nat),j≤n2∧j≤20∧i=.int i64 j∧v=.slice a5 m5 c5∧wr.ownsRow w4.heap.size 43 opE.n (.slice a5 m5 c5) ((L.take j).map oneOp).length (cellsG opE ((L.take j).map oneOp))∧Below w4.heap.size w4 wr) (fun _ i _=>n2-(intOf i).toNat)
  case atStart=>exact⟨0,none,0,0,by omega,by omega,rfl,rfl,World.ownsRow_nil _ _ _ _,bRQ _ _⟩
  case round =>
   obtain⟨j,a5,m5,c5,hj,hj20,rfl,rfl,ho,hb⟩:=hrel;have HO:Hid (wr.ownsRow w4.heap.size 43 opE.n (.slice a5 m5 c5) ((L.take j).map oneOp).length (cellsG opE ((L.take j).map oneOp))):=ho;have HB:Hid (Below w4.heap.size w4 wr):=hb;clear ho hb;obtain⟨B,hB⟩:∃B:Bool,B=(decide ((j:Int)<(n2:Int))&&decide ((j:Int)<20)):=⟨_,rfl⟩;have HBB:Hid ((decide ((j:Int)<(n2:Int))&&decide ((j:Int)<20))=B):=hB.symm;clear hB;have jb0:(0:Int)≤(j:Int):=by omega
   go_upto_region 7 with fail
   go_cut [50] from 43 to 49 (fun q w'=>q=.bool B∧w'=wr)
   case first =>
    by_cases hlt:j<n2
    ·have hlt2:(j:Int)<(n2:Int):=by omega
     have hbb:B=decide ((j:Int)<20):=by rw[←HBB.out];simp[hlt2]
     subst hbb;go_wp2
     go_meet
     case rel=>exact⟨rfl,rfl⟩
    have hlt2:¬(j:Int)<(n2:Int):=by omega
    have hbb:B=false:=by rw[←HBB.out];simp[hlt2]
    subst hbb;go_wp2
    go_meet
    case rel=>exact⟨rfl,rfl⟩
   case rest =>
    obtain⟨rfl,hwy⟩:=hcut;have hwx:=hwy.symm;subst hwx;clear hwy;cases B with
    | true =>
      have hb:=HBB.out;simp only[Bool.and_eq_true,decide_eq_true_eq] at hb;obtain⟨hjn,hj21⟩:=hb;have hjn2:j<n2:=by omega
      obtain⟨g,o,hae,hGA⟩:=HLA.out (by omega);subst hae;obtain⟨x0,x1,x2,x3,x4,x5,x6,x7,hjl,hLj,q0,q1,q2,q3,q4,q5,q6,q7⟩:=op_at (hGA.later (HB2.out.trans ((HB24.out.trans (HB.out.mono HB24.out.size)).mono HB2.out.size))) HLN.out hjn2;have HTO:Hid ((L.take (j+1)).map oneOp=(L.take j).map oneOp++[⟨1,x1,⟨x2,x3,x4,x5,x6,x7⟩⟩]):=take_one hjl hLj;have gl:=bLQ _ _ q0;obtain⟨LP,hLP⟩:∃LP,LP=(L.take j).map oneOp:=⟨_,rfl⟩;rw[←hLP] at HO HTO;have HLP:Hid (LP.length≤j):=by show _≤_;rw[hLP,List.length_map];exact List.length_take_le _ _
      clear hLP;clear hGA hLj HBB;go_upto_region 11 with fail;obtain⟨wa,hwa⟩:∃V,V=wr.alloc (.cells #[.int i64 1,.bool x1,.int i64 x2,.int i64 x3,.int i64 x4,.int i64 x5,.int i64 x6,.int i64 x7] 43):=⟨_,rfl⟩;have hc:=op_new wr 1 x1 x2 x3 x4 x5 x6 x7 43;have hba:Below wr.heap.size wr (wr.alloc (.cells #[.int i64 1,.bool x1,.int i64 x2,.int i64 x3,.int i64 x4,.int i64 x5,.int i64 x6,.int i64 x7] 43)):=(bRQ _ _).alloc (nLQ _) _;rw[←hwa] at hc hba ⊢;obtain⟨r0,r1,r2,r3,r4,r5,r6,r7⟩:=op_cells hc;simp only[Nat.zero_add] at r0 r1 r2 r3 r4 r5 r6 r7;have HOA:Hid (wa.ownsRow w4.heap.size 43 opE.n (.slice a5 m5 c5) LP.length (cellsG opE LP)):=own_below HO.out hba;have HBA:Hid (Below w4.heap.size w4 wa):=HB.out.trans (hba.mono HB.out.size);obtain⟨j1,hj1,hz0,hz1,hz2⟩:=info_parts op_info;have HI1:Hid (Tryd.prog.info? 43=some j1):=hj1;have HI2:Hid (j1.zero=some (.agg #[.int i64 0,.bool false,.int i64 0,.int i64 0,.int i64 0,.int i64 0,.int i64 0,.int i64 0])):=hz0;have HI3:Hid (j1.size=8):=hz1;have HI4:Hid (j1.bytes=64):=hz2;have HLV:Hid (LP.length+1≤maxLen∧(LP.length+1)*64≤140737488355328):=by
       have:=HLP.out;show _∧_;unfold maxLen;exact⟨by omega,by omega⟩
      clear q0 q1 q2 q3 q4 q5 q6 q7 hc hba hwa hj1 hz0 hz1 hz2 HO HB
      go_wp2_with (at_builtin;refine wpList_append_blk (E:=opE) _ rfl _ _ 24 43 rfl underlying24 j1 _ 64 HI1.out HI2.out HI3.out HI4.out op_zero w4.heap.size (.slice a5 m5 c5) rfl LP (HOA.out.alloc _) wa.heap.size 0 1 rfl (⟨1,x1,⟨x2,x3,x4,x5,x6,x7⟩⟩:Op8) (op_new wa 1 x1 x2 x3 x4 x5 x6 x7 43) HLV.out.1 HLV.out.2 ?mz ?_)
      case mz =>
       have:=HBA.out.size;simp;omega
      intro v' w9 ho9 hg9 hb9;obtain⟨a9,n9,c9,hv9⟩:∃a n c,v'=.slice a n c:=by obtain⟨a,c,h⟩:=own_form ho9;exact⟨a,_,c,h⟩
      subst hv9;have HO9:Hid (w9.ownsRow w4.heap.size 43 opE.n (.slice a9 n9 c9) ((L.take (j+1)).map oneOp).length (cellsG opE ((L.take (j+1)).map oneOp))):=by
       rw[HTO.out,List.length_append];exact ho9
      have HB9:Hid (Below w4.heap.size w4 w9):=by
       have h1:=HBA.out.alloc HBA.out.size (Obj.cells #[.int i64 1,.bool x1,.int i64 x2,.int i64 x3,.int i64 x4,.int i64 x5,.int i64 x6,.int i64 x7] 43);exact h1.grown hg9 h1.size (fun g hg=>(HOA.out.lt g hg).1)
      clear ho9 hg9 hb9 r0 r1 r2 r3 r4 r5 r6 r7;go_wp2;go_roundw
      case rel=>exact⟨j+1,_,_,_,by omega,by omega,by go_num,rfl,HO9.out,HB9.out⟩
      case measure=>simp[intOf];omega
    | false =>
      obtain⟨lo,hlo⟩:∃lo,lo=(L.take j).map oneOp:=⟨_,rfl⟩;rw[←hlo] at HO;have HLW:Hid (∀o∈lo,o.w=1):=by
       show ∀o∈lo,o.w=1;rw[hlo];exact one_w _
      have HLL:Hid (lo.length≤20):=by
       show _≤_;rw[hlo,List.length_map];exact Nat.le_trans (List.length_take_le _ _) hj20
      have hN:=HN4.out.later HB.out;rw[HS3.out] at hN;obtain⟨n0,n1,n2',n3'⟩:=hN;have HB2w:Hid (Below w2.heap.size w2 wr):=HB24.out.trans (HB.out.mono HB24.out.size);have HTr:Hid (TS wr (.slice (some ⟨w2.heap.size,0,none⟩) 1 1) [t]):=HT4.out.later HB.out;clear hlo HBB HLA HLN HN4 HT4;obtain⟨CG,hCG⟩:∃CG,CG=cgN 1 [] [] [t] lo:=⟨_,rfl⟩;have HCG:Hid (cgN 1 [] [] [t] lo=CG):=hCG.symm;clear hCG
      go_wp2_with fail
      refine (chApply_own 1 none 0 0 none 0 0 (some ⟨w2.heap.size,0,none⟩) 1 1 a5 m5 c5 [] [] [t] lo _ (GS.nil _) (GS.nil _) HTr.out (own_GS HO.out)).mono ?_;rintro e w5 ⟨b1,k1,d1,b2,k2,d2,b3,k3,d3,rfl,hna,hb5⟩;rw[HCG.out] at hna ⊢;have HB5:Hid (Below w2.heap.size w2 w5):=HB2w.out.trans (hb5.mono HB2w.out.size);have HNA:Hid (NA w5 wr.heap.size (.slice b1 k1 d1) (.slice b2 k2 d2) (.slice b3 k3 d3) (nvL CG []) (nvL CG []) (nvL CG (caT [t] lo))):=hna;have HR5:Hid (Below wr.heap.size wr w5):=hb5;clear hna hb5 n0 n1 n2' n3' HTr;by_cases hcg:CG=0
      ·subst hcg;have hca:caN 1 [t] lo=0:=by
        have h:=HCG.out;unfold cgN at h
        split at h
        ·split at h
         ·cases h
         exact h
        next h1=>exact absurd h h1
       obtain⟨hal,hcaT,hops⟩:=ca_one HLW.out hca;have HAL:Hid (alN t lo=0):=hal;have HOP:Hid (∀o∈lo,o.w=1∧o.r.n=0):=hops;obtain⟨w6,hw6⟩:∃V,V=w5.alloc (.cells #[.int i64 1,.slice b1 k1 d1,.slice b2 k2 d2,.slice b3 k3 d3] 37):=⟨_,rfl⟩;have HW6:Hid (w5.alloc (.cells #[.int i64 1,.slice b1 k1 d1,.slice b2 k2 d2,.slice b3 k3 d3] 37)=w6):=hw6.symm;have hb56:Below w5.heap.size w5 w6:=by rw[hw6];exact (bRQ _ _).alloc (nLQ _) _
       have HB56:Hid (Below w5.heap.size w5 w6):=hb56;have HB6:Hid (Below w2.heap.size w2 w6):=HB5.out.trans (hb56.mono HB5.out.size);have HBW:Hid (Below w.heap.size w w6):=HB2.out.trans (HB6.out.mono HB2.out.size);have HNB:Hid (NeBox w6 w5.heap.size 1 (.slice b1 k1 d1) (.slice b2 k2 d2) (.slice b3 k3 d3)):=by
        rw[hw6];exact nebox_new w5 _ _ _ _ _
       have HW:Hid (∃(x0:SlT) (g3:Nat),(.slice b3 k3 d3:Value)=.slice (some ⟨g3,0,none⟩) 1 d3∧(w2.heap.size≤g3∧g3<w6.heap.size)∧w6.cell? ⟨g3,0,none⟩=some (slV x0)∧SR w6 (slV x0) (alL t lo)∧(x0.2.1=0∨∀ad,x0.1=some ad→w2.heap.size≤ad.block∧ad.block<w6.heap.size)):=by
        obtain⟨vs,ht⟩:=HNA.out.t;have e0:nvL 0 (caT [t] lo)=[alL t lo]:=by rw[hcaT];rfl
        rw[e0] at ht;have hlv:=ht.lv;obtain⟨x0,rfl⟩:∃x0,vs=[x0]:=by
         match vs,hlv with
         | [x0],_=>exact⟨x0,rfl⟩
        have hr:=ht.rv 0 x0 (alL t lo) rfl rfl;have hz:=ht.rz 0 x0 rfl
        rcases ht.ov.2 with ⟨_,h0⟩ | ⟨g3,cap,cur,hv,hgb,_⟩
        ·cases h0
        have hl3:=ht.ov.lt g3 (by rw[hv];rfl);have hv2:(.slice b3 k3 d3:Value)=.slice (some ⟨g3,0,none⟩) 1 d3:=by
         cases hv;rfl
        have ho:=ht.ov;rw[hv2] at ho;have hc:=ho.cellAt 0 (by decide);have hss:=HB2w.out.size;refine⟨x0,g3,hv2,⟨by omega,Nat.lt_of_lt_of_le hl3.2 HB56.out.size⟩,cell_later HB56.out (hc.trans rfl),hr.1.later HB56.out,?_⟩
        rcases off_range hr.1 (fun b hb=>hz b (Nat.zero_le _) hb) with h | h
        ·exact .inl h
        exact .inr fun ad ha=>⟨by have:=(h ad ha).1;omega,Nat.lt_of_lt_of_le (h ad ha).2 HB56.out.size⟩
       have HP6:Hid (Pg w6 p w.heap.size O 1 (ag0 t)):=I.kb HP.out (Kb.of_below HB6.out fun b hl _=>hl);have HOR:Hid (∀W,Kb (fun b=>b<w.heap.size∨(w2.heap.size≤b∧b<w6.heap.size)) w6 W→GS opE W (.slice a5 m5 c5) lo):=fun W hk=>by
        have hb56':=HR5.out.trans (HB56.out.mono HR5.out.size);have ho6:=own_below HO.out hb56';refine gs_kb (own_GS ho6) hk fun ad ha=>?_
        have h1:=HO.out.lt ad.block (by rw[ha];rfl);have h2:=HB24.out.size;have h3:=hb56'.size;exact .inr ⟨by omega,by omega⟩
       have hml:lo.length=m5:=(own_GS HO.out).len;rw[show noV 0=.nilIface from rfl];rw[show nvS 0 1=1 from rfl];clear hw6 hb56 hca hal hcaT hops HNA HO HB HCG;go_upto_region 15 with fail;rw[HW6.out];clear HW6;subst hml
       go_wp2_with fail
       refine (I.hear (k:=0) 2 1 3 (lo.length:Int) 0 false 0 0 0 0 0 0 _ HP6.out (ok_new HTB.out) (by omega)).mono ?_;rintro e w7 ⟨a6,n6,c6,rfl,_,_,O1,hP7,hO7,_,hk7⟩;obtain⟨hq1,hq2⟩:=on_ask (t:=t) (l:=lo) (by have:=HLL.out;omega);have hq3:hrN 1 (askM (lo.length:Int))=0:=ask_fits (by omega) (by have:=HLL.out;omega);have hP7':Pg w7 p w.heap.size O1 1 (onS t lo []):=by
        have h:Pg w7 p w.heap.size O1 1 (hrS 1 (ag0 t) (askM (lo.length:Int))):=hP7;rw[hq1] at h;exact h
       have hok7:AgOK (onS t lo []) 1:=by
        rw[←hq1];exact ok_hr (ok_new HTB.out)
       have HS7:Hid (OnS Pg w w6 p w2.heap.size t lo O1 [] 1 w7):=by
        have hx:∀b,O b→b<w2.heap.size:=fun b hb=>(I.lt HP.out b hb).2
        refine⟨hP7',hok7,fun b h1 h2 h3=>?_,hk7.mono fun b hb hc=>?_⟩
        ·rcases hO7 b h3 with h4 | h4
         ·have:=hx b h4;omega
         omega
        rcases hc with hc | hc
        ·exact fun h=>by have:=(I.lt HP.out b h).1;omega
        exact fun h=>by have:=hx b h;omega
       rw[show hrN 1 ⟨2,1,3,(lo.length:Int),⟨0,false,⟨0,0,0,0,0,0⟩⟩⟩=0 from hq3];rw[show noV 0=.nilIface from rfl];clear hP7 hP7' hO7 hk7 hq1 hq2 hq3 hok7 HP6;have HN20:Hid (lo.length≤20):=HLL;go_wp2
       go_loopw [18,19] (fun v i wr=>∃(j:Nat) (a8:AdQ) (m8 c8:Nat),j≤lo.length∧i=.int i64 j∧v=.slice a8 m8 c8∧wr.ownsRow w7.heap.size 3 inE.n (.slice a8 m8 c8) ((List.range j).map Int.ofNat).length (cellsG inE ((List.range j).map Int.ofNat))∧Below w7.heap.size w7 wr) (fun _ i _=>lo.length-(intOf i).toNat)
       case atStart=>exact⟨0,none,0,0,by omega,rfl,rfl,World.ownsRow_nil _ _ _ _,bRQ _ _⟩
       case round =>
        obtain⟨j,a8,m8,c8,hj,rfl,rfl,ho,hb⟩:=hrel;have jb0:(0:Int)≤(j:Int):=by omega
        have hlo20:lo.length≤20:=HN20.out;by_cases hlt:j<lo.length
        ·obtain⟨RJ,hRJ⟩:∃RJ,RJ=(List.range j).map Int.ofNat:=⟨_,rfl⟩;have HRN:Hid ((List.range (j+1)).map Int.ofNat=RJ++[(j:Int)]):=by
          show _=_;rw[List.range_succ,List.map_append,hRJ];rfl
         have HRL:Hid (RJ.length=j):=by show _=_;rw[hRJ];simp
         rw[←hRJ] at ho;have HO8:Hid (wr.ownsRow w7.heap.size 3 inE.n (.slice a8 m8 c8) RJ.length (cellsG inE RJ)):=ho;have HB8:Hid (Below w7.heap.size w7 wr):=hb;obtain⟨j1,hj1,hz0,hz1,hz2⟩:=info_parts infoInt;have HI1:Hid (Tryd.prog.info? 3=some j1):=hj1;have HI2:Hid (j1.zero=some (.int i64 0)):=hz0;have HI3:Hid (j1.size=1):=hz1;have HI4:Hid (j1.bytes=8):=hz2;have HLV:Hid (RJ.length+1≤maxLen∧(RJ.length+1)*8≤140737488355328):=by
          have:=HRL.out;show _∧_;unfold maxLen;exact⟨by omega,by omega⟩
         clear hRJ ho hb hj1 hz0 hz1 hz2
         go_wp2_with (at_builtin;refine wpList_append_blk (E:=inE) _ rfl _ _ 25 3 rfl underlying25 j1 (.int i64 0) 8 HI1.out HI2.out HI3.out HI4.out rfl w7.heap.size (.slice a8 m8 c8) rfl RJ (HO8.out.alloc _) wr.heap.size 0 1 rfl (j:Int) (vat_new wr [.int i64 (j:Int)] _) HLV.out.1 HLV.out.2 ?mz ?_)
         case mz =>
          have:=HB8.out.size;simp;omega
         intro v' w9 ho9 hg9 hb9;obtain⟨a9,n9,c9,hv9⟩:∃a n c,v'=.slice a n c:=by obtain⟨a,c,h⟩:=own_form ho9;exact⟨a,_,c,h⟩
         subst hv9;have HO9:Hid (w9.ownsRow w7.heap.size 3 inE.n (.slice a9 n9 c9) ((List.range (j+1)).map Int.ofNat).length (cellsG inE ((List.range (j+1)).map Int.ofNat))):=by
          rw[HRN.out,List.length_append];exact ho9
         have HB9:Hid (Below w7.heap.size w7 w9):=by
          have h1:=HB8.out.alloc HB8.out.size (Obj.cells #[.int i64 (j:Int)] 3);exact h1.grown hg9 h1.size (fun g hg=>(HO8.out.lt g hg).1)
         clear ho9 hg9 hb9;go_wp2;go_roundw
         case rel=>exact⟨j+1,_,_,_,by omega,by go_num,rfl,HO9.out,HB9.out⟩
         case measure=>simp[intOf];omega
        obtain rfl:j=lo.length:=by omega
        have HS8:Hid (OnS Pg w w6 p w2.heap.size t lo O1 [] 1 wr):=HS7.out.later I hb;have HL8:Hid (GS inE wr (.slice a8 m8 c8) ((List.range lo.length).map Int.ofNat)):=own_GS ho;have HX8:Hid (∀ad,a8=some ad→¬O1 ad.block):=fun ad ha h=>by
         have h1:=(ho.lt ad.block (by rw[ha];rfl)).1;have h2:=(I.lt HS7.out.g _ h).2;omega
        clear ho hb HS7;go_wp2
        go_loopw [18,20] (fun v i wr=>∃(xs Lf:List Nat) (a8:AdQ) (m8 c8:Nat) (O:Nat→Prop),v=.slice a8 m8 c8∧i=.int i64 (xs.length:Nat)∧(xs++Lf).Perm (List.range lo.length)∧GS inE wr (.slice a8 m8 c8) (Lf.map Int.ofNat)∧(∀ad,a8=some ad→¬O ad.block)∧OnS Pg w w6 p w2.heap.size t lo O xs (1+2*xs.length) wr) (fun _ i _=>lo.length-(intOf i).toNat)
        case atStart=>exact⟨[],List.range lo.length,_,_,_,O1,rfl,rfl,List.Perm.refl _,HL8.out,HX8.out,HS8.out⟩
        case round =>
         obtain⟨xs,Lf,a8,m8,c8,O2,rfl,rfl,hpm,hgl,hgx,hS⟩:=hrel;have HPM:Hid ((xs++Lf).Perm (List.range lo.length)):=hpm;have hln:xs.length+Lf.length=lo.length:=by have:=hpm.length_eq;simpa using this
         have hm8:Lf.length=m8:=by have:=hgl.len;simpa using this
         subst hm8;have HGL:Hid (GS inE wr (.slice a8 Lf.length c8) (Lf.map Int.ofNat)):=hgl;have HGX:Hid (∀ad,a8=some ad→¬O2 ad.block):=hgx;have HS:Hid (OnS Pg w w6 p w2.heap.size t lo O2 xs (1+2*xs.length) wr):=hS;have hk100:1+2*xs.length≤900:=by have:=HLL.out;omega
         have HLO:Hid (lo.length≤20):=HLL;obtain⟨nl,hnl⟩:∃nl,nl=Lf.length:=⟨_,rfl⟩;obtain⟨i,hi⟩:∃i,i=xs.length:=⟨_,rfl⟩;rw[←hnl] at HGL hln ⊢;rw[←hi] at HS hk100 hln ⊢;have HNL:Hid (Lf.length=nl):=hnl.symm;have HIL:Hid (xs.length=i):=hi.symm;clear hpm hgl hgx hS hnl hi HL8 HX8 HS8;have ib0:(0:Int)≤(i:Int):=by omega
         have i20:i≤20:=by have:=HLO.out;omega
         by_cases hnz:0<nl
         ·have hnz2:(0:Int)<(nl:Int):=by omega
          have hnz3:(nl:Int) > 0:=hnz2;have nb20:nl≤20:=by have:=HLO.out;omega
          obtain⟨BK,hBK⟩:∃B:Bool,B=(decide ((i:Int)<(n3:Int))&&(decide (0≤K3.getD i 0)&&decide (K3.getD i 0<(nl:Int)))):=⟨_,rfl⟩;have HBK:Hid (BK=(decide ((i:Int)<(n3:Int))&&(decide (0≤K3.getD i 0)&&decide (K3.getD i 0<(nl:Int))))):=hBK;clear hBK;have HKC:Hid (i<n3→∃g3 o3 y,a3=some ⟨g3,o3,none⟩∧K3.getD i 0=y∧∀V,Below w.heap.size w V→V.cell? ⟨g3,o3+i,none⟩=some (.int i64 y)):=fun h=>by
           obtain⟨g3,o3,he3,hG3⟩:=HK3.out.2 (by omega);have hkl:i<K3.length:=by rw[HK3.out.1];exact h
           refine⟨g3,o3,K3[i],he3,by simp[List.getD,hkl],fun V hV=>?_⟩;have hc3:=(hG3.later hV) i hkl 0 _ rfl;have e0:o3+i*inE.n+0=o3+i:=by show o3+i*1+0=o3+i;omega
           rw[e0] at hc3;exact hc3
          have HBWr:Hid (Below w.heap.size w wr):=HS.out.below HBW.out;go_upto_region 27 with fail
          go_cut [114] from 95 to 113 (fun q w'=>q=.bool BK∧w'=wr)
          case first =>
           by_cases hlt:i<n3
           ·obtain⟨g3,o3,y,he3,hy,hc⟩:=HKC.out hlt;subst he3;have hc3:=hc wr HBWr.out;have hlt2:(i:Int)<(n3:Int):=by omega
            have hb:BK=(decide (0≤y)&&decide (y<(nl:Int))):=by rw[HBK.out,hy];simp[hlt2]
            clear hc;by_cases h0:0≤y
            ·have h0':y ≥ 0:=h0;have hb2:BK=decide (y<(nl:Int)):=by rw[hb,decide_eq_true h0,Bool.true_and]
             clear hb;subst hb2;go_wp2
             go_meet
             case rel=>exact⟨rfl,rfl⟩
            have h0':¬y ≥ 0:=h0;have hb2:BK=false:=by rw[hb,decide_eq_false h0,Bool.false_and]
            clear hb;subst hb2;go_wp2
            go_meet
            case rel=>exact⟨rfl,rfl⟩
           have hlt2:¬(i:Int)<(n3:Int):=by omega
           have hb:BK=false:=by rw[HBK.out];simp[hlt2]
           subst hb;go_wp2
           go_meet
           case rel=>exact⟨rfl,rfl⟩
          case rest =>
          obtain⟨rfl,hw0⟩:=hcut;have hw1:=hw0.symm;subst hw1;clear hw0
          go_upto_if 114 with fail
          go_cut [21] from 114 to 118 (fun v w'=>∃kk:Nat,kk<nl∧v=.int i64 (kk:Int)∧w'=wr)
          case first =>
           cases BK with
           | false =>
             go_wp2
             go_meet
             exact⟨0,hnz,rfl,rfl⟩
           | true =>
             have hb:=HBK.out;have hlt:i<n3:=by
              by_cases h:i<n3
              ·exact h
              have h2:¬(i:Int)<(n3:Int):=by omega
              simp[h2] at hb
             obtain⟨g3,o3,y,he3,hy,hc⟩:=HKC.out hlt;subst he3;have hc3:=hc wr HBWr.out;have hlt2:(i:Int)<(n3:Int):=by omega
             rw[hy] at hb;simp[hlt2] at hb;obtain⟨y',rfl⟩:∃y':Nat,y=(y':Int):=⟨y.toNat,by omega⟩;clear hc;go_wp2
             go_meet
             exact⟨y',by omega,rfl,rfl⟩
          case rest =>
          obtain⟨kk,hkk,rfl,hw0⟩:=hcut;have hw1:=hw0.symm;subst hw1;clear hw0 HBK HKC;have hkl:kk<Lf.length:=by rw[HNL.out];exact hkk
          obtain⟨X,hX⟩:∃X,X=Lf[kk]:=⟨_,rfl⟩;have hXm:X∈Lf:=by rw[hX];exact List.getElem_mem hkl
          have hXl:X<lo.length:=List.mem_range.1 (HPM.out.mem_iff.1 (List.mem_append_right _ hXm));have hXn:X ∉ xs:=fun h=>by
           have hnd:(xs++Lf).Nodup:=HPM.out.nodup_iff.2 List.nodup_range;rw[List.nodup_append] at hnd;exact hnd.2.2 _ h _ hXm rfl
          have HXE:Hid ((xs++[X]++Lf.eraseIdx kk).Perm (List.range lo.length)):=by
           refine List.Perm.trans ?_ HPM.out;rw[List.append_assoc];refine List.Perm.append_left _ ?_;rw[hX];exact pm_erase Lf kk hkl
          obtain⟨_,_,_,e8,hn8,_,_,ha8⟩:=HGL.out.form;cases e8;obtain⟨g8,o8,he8,hG8,_⟩:=ha8 hnz;subst he8;have hGc:=hG8 kk (by rw[List.length_map];exact hkl) 0 _ rfl;have e0:o8+kk*inE.n+0=o8+kk:=by show o8+kk*1+0=o8+kk;omega
          rw[e0,List.getElem_map,←hX] at hGc;have hGc2:wr.cell? ⟨g8,o8+kk,none⟩=some (.int i64 (X:Int)):=hGc;have H8L:Hid (g8<wr.heap.size):=bLQ _ _ hGc2;have HRDY:Hid (rdyN (onS t lo xs) = -1):=by
           show _=_;rw[on_ready,if_neg (fun h=>hXn (h X hXl))]
          have kb0:(0:Int)≤(kk:Int):=by omega
          have kb1:(kk:Int)<(nl:Int):=by omega
          have HXL:Hid (X<lo.length∧X ∉ xs):=⟨hXl,hXn⟩;clear hX hXm hG8 ha8 hn8 e0 hGc hXn
          go_wp2_with fail
          refine (I.ready _ HS.out.g HS.out.ok (by omega)).mono ?_;rintro e w10 ⟨rfl,hb10⟩;rw[HRDY.out];have HB10:Hid (Below wr.heap.size wr w10):=hb10;have HS10:Hid (OnS Pg w w6 p w2.heap.size t lo O2 xs (1+2*i) w10):=HS.out.later I hb10;obtain⟨_,_,_,el,hnlo,_,_,hal⟩:=(HOR.out w10 HS10.out.k).form;cases el;obtain⟨gl,ol,hel,hGl,_⟩:=hal (by omega);subst hel;obtain⟨y0,y1,y2,y3,y4,y5,y6,y7,hll,hlX,r0,r1,r2,r3,r4,r5,r6,r7⟩:=op_at hGl rfl hXl;have HDM:Hid (doM lo X=⟨1,1,3,(X:Int),⟨y0,y1,⟨y2,y3,y4,y5,y6,y7⟩⟩⟩):=by
           show _=_;rw[doM,List.getD_eq_getElem?_getD,List.getElem?_eq_getElem hll,hlX];rfl
          have Xb0:(0:Int)≤(X:Int):=by omega
          have Xb1:(X:Int)<(lo.length:Int):=by omega
          clear hb10 hGc2 hGl hlX hal hnlo HS HRDY hll;go_upto_region 33 with fail;obtain⟨w11,hw11⟩:∃V,V=w10.alloc (.cells #[.int i64 1,.int i64 1,.int i64 3,.int i64 (X:Int),.int i64 y0,.bool y1,.int i64 y2,.int i64 y3,.int i64 y4,.int i64 y5,.int i64 y6,.int i64 y7] 50):=⟨_,rfl⟩;have hmc:=msg_new w10 1 1 3 (X:Int) y0 y1 y2 y3 y4 y5 y6 y7 50;have hb11:Below w10.heap.size w10 (w10.alloc (.cells #[.int i64 1,.int i64 1,.int i64 3,.int i64 (X:Int),.int i64 y0,.bool y1,.int i64 y2,.int i64 y3,.int i64 y4,.int i64 y5,.int i64 y6,.int i64 y7] 50)):=(bRQ _ _).alloc (nLQ _) _;have hs11:(w10.alloc (.cells #[.int i64 1,.int i64 1,.int i64 3,.int i64 (X:Int),.int i64 y0,.bool y1,.int i64 y2,.int i64 y3,.int i64 y4,.int i64 y5,.int i64 y6,.int i64 y7] 50)).heap.size=w10.heap.size+1:=Array.size_push ..;rw[←hw11] at hmc hb11 hs11 ⊢;have HS11:Hid (OnS Pg w w6 p w2.heap.size t lo O2 xs (1+2*i) w11):=HS10.out.later I hb11;have HB11:Hid (Below wr.heap.size wr w11):=HB10.out.trans (hb11.mono HB10.out.size);have HS1:Hid (w11.heap.size=w10.heap.size+1):=hs11;have HMC:Hid (VAt w11 w10.heap.size 0 (msgE.c ⟨1,1,3,(X:Int),⟨y0,y1,⟨y2,y3,y4,y5,y6,y7⟩⟩⟩)):=hmc;have HON:Hid (¬O2 w10.heap.size):=fun h=>by have:=(I.lt HS10.out.g _ h).2;omega
          clear hw11 hb11 hs11 hmc r0 r1 r2 r3 r4 r5 r6 r7;obtain⟨q0,q1,q2,q3,q4,q5,q6,q7,q8,q9,q10,q11⟩:=msg_cells HMC.out;simp only[Nat.zero_add] at q0 q1 q2 q3 q4 q5 q6 q7 q8 q9 q10 q11
          go_wp2_with fail
          refine (I.hear 1 1 3 (X:Int) y0 y1 y2 y3 y4 y5 y6 y7 _ HS11.out.g HS11.out.ok (by omega)).mono ?_;rintro e w12 ⟨a6,n6,c6,rfl,_,_,O3,hP3,hO3,_,hk3⟩;have hdo:hrS 1 (onS t lo xs) (doM lo X)=onS t lo (xs++[X]):=on_do HXL.out.1 (by have:=HLO.out;omega) HOP.out HXL.out.2;have hdn:hrN 1 (doM lo X)=0:=do_fits HXL.out.1 (by have:=HLO.out;omega) HOP.out;have HAGN:Hid (hrS 1 (onS t lo (xs++[X])) (doM lo X)=onS t lo (xs++[X])):=by
           show _=_;have:=(hr_again (n:=1) (a:=onS t lo xs) (m:=doM lo X) HS11.out.ok.m).1;rw[hdo] at this;exact this
          have HOK3:Hid (AgOK (onS t lo (xs++[X])) (1+2*i+1)):=by
           show AgOK _ _;rw[←hdo];exact ok_hr HS11.out.ok
          rw[HDM.out] at hdo hdn;rw[hdo] at hP3;rw[hdn];rw[show noV 0=.nilIface from rfl];have HS12:Hid (OnS Pg w w6 p w2.heap.size t lo O3 (xs++[X]) (1+2*i+1) w12):=HS11.out.next I hP3 HOK3.out hO3 hk3;have HG12:Hid (GS inE w12 (.slice (some ⟨g8,o8,none⟩) nl c8) (Lf.map Int.ofNat)):=gs_kb (HGL.out.later HB11.out) hk3 HGX.out;have HX12:Hid (¬O3 g8):=fun h=>by
           rcases hO3 _ h with h1 | h1
           ·exact HGX.out _ rfl h1
           have:=H8L.out;have:=HB11.out.size;omega
          have HM12:Hid (VAt w12 w10.heap.size 0 (msgE.c ⟨1,1,3,(X:Int),⟨y0,y1,⟨y2,y3,y4,y5,y6,y7⟩⟩⟩)):=fun j u hu=>hk3.at (HMC.out j u hu) HON.out
          have HGS12:Hid (g8<w12.heap.size):=Nat.lt_of_lt_of_le H8L.out (Nat.le_trans HB11.out.size hk3.size);clear hP3 hO3 hk3 hdo hdn q0 q1 q2 q3 q4 q5 q6 q7 q8 q9 q10 q11 HMC HS11 HS10 HB11 HB10 HGX HON HS1;obtain⟨BA,hBA⟩:∃B:Bool,B=(decide ((i:Int)<(n4:Int))&&(K4.getD i 0==1)):=⟨_,rfl⟩;have HBA:Hid (BA=(decide ((i:Int)<(n4:Int))&&(K4.getD i 0==1))):=hBA;clear hBA;go_upto_region 36 with fail
          go_cut [150] from 140 to 149 (fun q w'=>q=.bool BA∧w'=w12)
          case first =>
           by_cases hlt:i<n4
           ·obtain⟨g3,o3,he3,hG3⟩:=HK4.out.2 (by omega);subst he3;have hkl4:i<K4.length:=by rw[HK4.out.1];exact hlt
            have hc3:=(hG3.later (HS12.out.below HBW.out)) i hkl4 0 _ rfl;have e0:o3+i*inE.n+0=o3+i:=by show o3+i*1+0=o3+i;omega
            rw[e0] at hc3;obtain⟨y,hy⟩:∃y,y=K4[i]:=⟨_,rfl⟩;rw[←hy] at hc3;have hb:BA=(y==1):=by
             rw[HBA.out,hy];have h1:(i:Int)<(n4:Int):=by omega
             simp[h1,List.getD,hkl4]
            have hlt2:(i:Int)<(n4:Int):=by omega
            subst hb;clear hG3 hy e0 hkl4;go_wp2
            go_meet
            case rel=>exact⟨rfl,rfl⟩
           have hlt2:¬(i:Int)<(n4:Int):=by omega
           have hb:BA=false:=by rw[HBA.out];simp[hlt2]
           subst hb;go_wp2
           go_meet
           case rel=>exact⟨rfl,rfl⟩
          case rest =>
          obtain⟨rfl,hw0⟩:=hcut;have hw1:=hw0.symm;subst hw1;clear hw0
          go_upto_if 150 with fail
          go_cut [] from 150 to 153 (fun w'=>∃O4:Nat→Prop,OnS Pg w w6 p w2.heap.size t lo O4 (xs++[X]) (1+2*i+2) w'∧¬O4 g8∧GS inE w' (.slice (some ⟨g8,o8,none⟩) nl c8) (Lf.map Int.ofNat)∧g8<w'.heap.size)
          case first =>
           cases BA with
           | false =>
             have HFX:Hid (OnS Pg w w6 p w2.heap.size t lo O3 (xs++[X]) (1+2*i+2) w12):=⟨HS12.out.g,HS12.out.ok.mono (by omega),HS12.out.x,HS12.out.k⟩;go_wp2
             go_meet
             exact⟨_,HFX.out,HX12.out,HG12.out,HGS12.out⟩
           | true =>
             obtain⟨q0,q1,q2,q3,q4,q5,q6,q7,q8,q9,q10,q11⟩:=msg_cells HM12.out;simp only[Nat.zero_add] at q0 q1 q2 q3 q4 q5 q6 q7 q8 q9 q10 q11
             go_wp2_with fail
             refine (I.hear 1 1 3 (X:Int) y0 y1 y2 y3 y4 y5 y6 y7 _ HS12.out.g HS12.out.ok (by omega)).mono ?_;rintro e w13 ⟨a6,n6,c6,rfl,_,_,O4,hP4,hO4,_,hk4⟩;have hag:=HAGN.out;rw[HDM.out] at hag;rw[hag] at hP4;have HS13:Hid (OnS Pg w w6 p w2.heap.size t lo O4 (xs++[X]) (1+2*i+2) w13):=HS12.out.next I hP4 (HOK3.out.mono (by omega)) hO4 hk4;have HG13:Hid (GS inE w13 (.slice (some ⟨g8,o8,none⟩) nl c8) (Lf.map Int.ofNat)):=gs_kb HG12.out hk4 fun ad ha=>by cases ha;exact HX12.out
             have HX13:Hid (¬O4 g8):=fun h=>by
              rcases hO4 _ h with h1 | h1
              ·exact HX12.out h1
              have:=HGS12.out;omega
             have HGS13:Hid (g8<w13.heap.size):=Nat.lt_of_lt_of_le HGS12.out hk4.size;clear hP4 hO4 hk4 q0 q1 q2 q3 q4 q5 q6 q7 q8 q9 q10 q11;go_wp2
             go_meet
             exact⟨_,HS13.out,HX13.out,HG13.out,HGS13.out⟩
          case rest =>
          obtain⟨O4,hS13,hX13,hG13,hg13⟩:=hcut;have HS13:Hid (OnS Pg w w6 p w2.heap.size t lo O4 (xs++[X]) (1+2*i+2) wc):=hS13;have HX13:Hid (¬O4 g8):=hX13;have HG13:Hid (GS inE wc (.slice (some ⟨g8,o8,none⟩) nl c8) (Lf.map Int.ofNat)):=hG13;clear hS13 hX13 hG13 hg13 HM12 HS12 HG12 HX12 HGS12 HGL
          go_wp2_with fail
          refine (I.table _ HS13.out.g HS13.out.ok (by omega)).mono ?_;rintro e w14 ⟨a5',n5',c5',rfl,hs14,hb14⟩;have HB14:Hid (Below wc.heap.size wc w14):=hb14;have HS14:Hid (OnS Pg w w6 p w2.heap.size t lo O4 (xs++[X]) (1+2*i+2) w14):=HS13.out.later I hb14;have HT14:Hid (SR w14 (.slice a5' n5' c5') t):=hs14;clear hs14 hb14
          go_wp2_with fail
          refine (tabs_any a5' n5' c5' ao k c t _ HT14.out (HT.out _ (HS14.out.below HBW.out))).mono ?_;rintro e w15 ⟨rfl,hb15⟩;have HS15:Hid (OnS Pg w w6 p w2.heap.size t lo O4 (xs++[X]) (1+2*i+2) w15):=HS14.out.later I hb15;have HB15:Hid (Below wc.heap.size wc w15):=HB14.out.trans (hb15.mono HB14.out.size);clear hb15 HT14;have hhd:hdN (onS t lo (xs++[X])).l 3=i+1:=by
           have:=on_heard lo (xs++[X]);rw[List.length_append,HIL.out] at this;exact this
          go_wp2_with fail
          refine (I.heard 3 _ HS15.out.g HS15.out.ok (by omega)).mono ?_;rintro e w16 ⟨rfl,hb16⟩;rw[hhd];have HS16:Hid (OnS Pg w w6 p w2.heap.size t lo O4 (xs++[X]) (1+2*i+2) w16):=HS15.out.later I hb16;have HB16:Hid (Below wc.heap.size wc w16):=HB15.out.trans (hb16.mono HB15.out.size);have HG16:Hid (GS inE w16 (.slice (some ⟨g8,o8,none⟩) nl c8) (Lf.map Int.ofNat)):=HG13.out.later HB16.out;have ib20:(i:Int)≤20:=by omega
          have hwi:IntKind.i64.wrap ((i:Int)+1)=((i+1:Nat):Int):=by rw[IntKind.wrap_i64];omega
          clear hb16 hhd HS15 HB15 HS14 HB14 HS13 HG13 HB16;go_upto_region 41 with fail;have hnc8:nl≤c8:=by
           obtain⟨_,_,_,e,_,_,h,_⟩:=HG16.out.form;cases e;exact h
          obtain⟨_,_,_,e8,hn8,hnm8,_,ha8⟩:=HG16.out.form;cases e8;obtain⟨g8',o8',he8',hG8,hcm8⟩:=ha8 hnz;cases he8';have HA8:Hid (GAt inE w16 g8 o8 ((Lf.map Int.ofNat).take kk)):=hG8.take kk;have HB8:Hid (GAt inE w16 g8 (o8+(kk+1)) ((Lf.map Int.ofNat).drop (kk+1))):=by
           have h:=hG8.drop (kk+1);have e0:o8+(kk+1)*inE.n=o8+(kk+1):=by show o8+(kk+1)*1=_;omega
           rw[e0] at h;exact h
          have HAL8:Hid (((Lf.map Int.ofNat).take kk).length=kk):=by
           show _=_;rw[List.length_take,List.length_map,HNL.out];omega
          have HBL8:Hid (((Lf.map Int.ofNat).drop (kk+1)).length=nl-(kk+1)):=by
           show _=_;rw[List.length_drop,List.length_map,HNL.out]
          have HER:Hid ((Lf.eraseIdx kk).map Int.ofNat=(Lf.map Int.ofNat).take kk++(Lf.map Int.ofNat).drop (kk+1)):=by
           show _=_;rw[List.eraseIdx_eq_take_drop_succ,List.map_append,List.map_take,List.map_drop]
          obtain⟨j1,hj1,hz0,hz1,hz2⟩:=info_parts infoInt;have HI1:Hid (Tryd.prog.info? 3=some j1):=hj1;have HI2:Hid (j1.zero=some (.int i64 0)):=hz0;have HI3:Hid (j1.size=1):=hz1;have HI4:Hid (j1.bytes=8):=hz2;have HLV:Hid (kk+(nl-(kk+1))≤maxLen∧(kk+(nl-(kk+1)))*8≤140737488355328):=by
           show _∧_;unfold maxLen;exact⟨by omega,by omega⟩
          have HFX:Hid (∀W b n c,GS inE W (.slice b n c) ((Lf.map Int.ofNat).take kk++(Lf.map Int.ofNat).drop (kk+1))→Below w16.heap.size w16 W→(∀ad,b=some ad→ad.block=g8∨ad.block=w16.heap.size)→GS inE W (.slice b n c) ((Lf.eraseIdx kk).map Int.ofNat)∧(∀ad,b=some ad→¬O4 ad.block)∧OnS Pg w w6 p w2.heap.size t lo O4 (xs++[X]) (1+2*i+2) W):=fun W b n c h1 h2 h3=>by
           refine⟨by rw[HER.out];exact h1,fun ad ha h=>?_,HS16.out.later I h2⟩
           rcases h3 ad ha with h4 | h4
           ·rw[h4] at h;exact HX13.out h
           have:=(I.lt HS16.out.g _ h).2;omega
          have HLX:Hid ((xs++[X]).length=i+1):=by
           show _=_;rw[List.length_append,HIL.out];rfl
          have hkc:(kk:Int)≤(c8:Int):=by omega
          have hk1:((kk+1:Nat):Int)≤(nl:Int):=by omega
          have hk2:((kk+1:Nat):Int)≤(c8:Int):=by omega
          have hnc2:(nl:Int)≤(c8:Int):=by omega
          have hwk0:IntKind.i64.wrap ((kk:Int)+1)=((kk+1:Nat):Int):=by rw[IntKind.wrap_i64];omega
          have HKX:Hid (1+2*(xs++[X]).length=1+2*i+2):=by
           show _=_;rw[HLX.out];omega
          have HIN:Hid (i<lo.length):=by
           show _<_;omega
          clear hG8 ha8 hn8 hj1 hz0 hz1 hz2 hwi;have hk0:(0:Int)≤(kk:Int)+1:=by omega
          have hk3:(kk:Int)+1≤(nl:Int):=by omega
          have ib3:(i:Int)+1≤21:=by omega
          by_cases hcz:c8=kk+1
          ·subst hcz;have hnk:nl=kk+1:=by omega
           have HNK:Hid (nl=kk+1):=hnk;clear hnk hnc8;refine wp_region_held_drew (S:=fun W=>Below w16.heap.size w16 W) (by kernel_rfl) (Below.drew (bRQ _ _)) (fun hHeld=>?_);refine wpAnyH_take (i:=0) (oi:=⟨_,_,_,_,_,_⟩) (v:=.slice (some ⟨g8,o8,none⟩) nl (kk+1)) rfl (by kernel_rfl) (by kernel_rfl) (by kernel_rfl) (fun _ _ _ h=>h) (Or.inl ⟨by rfl,?_⟩) hHeld ?_
           ·intro V hV;go_simp
           try simp only[Act.put,AP]
           refine wpAnyH_take (i:=1) (oi:=⟨_,_,_,_,_,_⟩) (v:=.int i64 (kk:Int)) rfl (by kernel_rfl) (by kernel_rfl) (by kernel_rfl) (fun _ _ _ h=>h) (Or.inl ⟨by rfl,?_⟩) hHeld ?_
           ·intro V hV;go_simp
           try simp only[Act.put,AP]
           refine wpAnyH_take (i:=2) (oi:=⟨_,_,_,_,_,_⟩) (v:=.int i64 (kk:Int)) rfl (by kernel_rfl) (by kernel_rfl) (by kernel_rfl) (fun _ _ _ h=>h) (Or.inl ⟨by rfl,?_⟩) hHeld ?_
           ·intro V hV;go_simp
           try simp only[Act.put,AP]
           refine wpAnyH_take (i:=3) (oi:=⟨_,_,_,_,_,_⟩) (v:=.slice (some ⟨g8,o8,none⟩) kk kk) rfl (by kernel_rfl) (by kernel_rfl) (by kernel_rfl) (fun _ _ _ h=>h) (Or.inl ⟨by rfl,?_⟩) hHeld ?_
           ·intro V hV;go_simp
            all_goals (intro h;exact absurd h (by omega))
           try simp only[Act.put,AP]
           refine wpAnyH_take (i:=4) (oi:=⟨_,_,_,_,_,_⟩) (v:=.slice (some ⟨g8,o8,none⟩) nl (kk+1)) rfl (by kernel_rfl) (by kernel_rfl) (by kernel_rfl) (fun _ _ _ h=>h) (Or.inl ⟨by rfl,?_⟩) hHeld ?_
           ·intro V hV;go_simp
           try simp only[Act.put,AP]
           refine wpAnyH_take (i:=5) (oi:=⟨_,_,_,_,_,_⟩) (v:=.int i64 (kk:Int)) rfl (by kernel_rfl) (by kernel_rfl) (by kernel_rfl) (fun _ _ _ h=>h) (Or.inl ⟨by rfl,?_⟩) hHeld ?_
           ·intro V hV;go_simp
           try simp only[Act.put,AP]
           refine wpAnyH_take (i:=6) (oi:=⟨_,_,_,_,_,_⟩) (v:=.int i64 ((kk:Int)+1)) rfl (by kernel_rfl) (by kernel_rfl) (by kernel_rfl) (fun _ _ _ h=>h) (Or.inl ⟨by rfl,?_⟩) hHeld ?_
           ·intro V hV;go_simp
           try simp only[Act.put,AP]
           refine wpAnyH_take (i:=7) (oi:=⟨_,_,_,_,_,_⟩) (v:=.slice (some ⟨g8,o8,none⟩) (nl-(kk+1)) 0) rfl (by kernel_rfl) (by kernel_rfl) (by kernel_rfl) (fun _ _ _ h=>h) (Or.inl ⟨by rfl,?_⟩) hHeld ?_
           ·intro V hV;go_simp
           try simp only[Act.put,AP]
           refine wpAnyH_ready (rs:=[8]) (by kernel_rfl) (by simp) ?_;refine AllReadyH.cons (o:=⟨_,_,_,_,_,_⟩) rfl (fun K hK=>?_) AllReadyH.nil;refine step_append_full (E:=inE) _ (by rfl) _ _ 25 3 (by rfl) underlying25 j1 (.int i64 0) 8 HI1.out HI2.out HI3.out HI4.out rfl g8 o8 kk (by rfl) ((Lf.map Int.ofNat).take kk) (HA8.out.later (Below.drew (bRQ _ _))) HAL8.out g8 o8 (nl-(kk+1)) 0 (by rfl) ((Lf.map Int.ofNat).drop (kk+1)) (fun i hi=>absurd hi (by rw[HBL8.out];have:=HNK.out;omega)) HBL8.out HLV.out.1 HLV.out.2 ?_;intro b9 n9 c9 W9 h1 h2 h3;have hbw:Below w16.heap.size w16 W9:=(Below.drew (bRQ _ _)).trans h2;have HF9:Hid _:=HFX.out W9 b9 n9 c9 h1 hbw h3;refine hK.out _ _ hbw (fun hHeld=>?_);clear hK K h1 h2 h3 hbw
           try simp only[Act.put,AP]
           refine wpAnyH_take (i:=9) (oi:=⟨_,_,_,_,_,_⟩) (v:=.slice b9 n9 c9) rfl (by kernel_rfl) (by kernel_rfl) (by kernel_rfl) (fun _ _ _ h=>h) (Or.inl ⟨by rfl,?_⟩) hHeld ?_
           ·intro V hV;go_simp
           try simp only[Act.put,AP]
           refine wpAnyH_done (by kernel_rfl) ?_ _;clear hHeld;go_wp2;go_roundw
           case rel =>
            clear hk0 hk1 hk2 hk3 hkc hnc2 hwk0 ib3;exact⟨xs++[X],Lf.eraseIdx kk,b9,n9,c9,O4,rfl,by rw[HLX.out];go_num,HXE.out,HF9.out.1,HF9.out.2.1,by rw[HKX.out];exact HF9.out.2.2⟩
           case measure =>
            clear hk0 hk1 hk2 hk3 hkc hnc2 hwk0 ib3;have hin:=HIN.out;simp[intOf];omega
          refine wp_region_held_drew (S:=fun W=>Below w16.heap.size w16 W) (by kernel_rfl) (Below.drew (bRQ _ _)) (fun hHeld=>?_);refine wpAnyH_take (i:=0) (oi:=⟨_,_,_,_,_,_⟩) (v:=.slice (some ⟨g8,o8,none⟩) nl c8) rfl (by kernel_rfl) (by kernel_rfl) (by kernel_rfl) (fun _ _ _ h=>h) (Or.inl ⟨by rfl,?_⟩) hHeld ?_
          ·intro V hV;go_simp
          try simp only[Act.put,AP]
          refine wpAnyH_take (i:=1) (oi:=⟨_,_,_,_,_,_⟩) (v:=.int i64 (kk:Int)) rfl (by kernel_rfl) (by kernel_rfl) (by kernel_rfl) (fun _ _ _ h=>h) (Or.inl ⟨by rfl,?_⟩) hHeld ?_
          ·intro V hV;go_simp
          try simp only[Act.put,AP]
          refine wpAnyH_take (i:=2) (oi:=⟨_,_,_,_,_,_⟩) (v:=.int i64 (kk:Int)) rfl (by kernel_rfl) (by kernel_rfl) (by kernel_rfl) (fun _ _ _ h=>h) (Or.inl ⟨by rfl,?_⟩) hHeld ?_
          ·intro V hV;go_simp
          try simp only[Act.put,AP]
          refine wpAnyH_take (i:=3) (oi:=⟨_,_,_,_,_,_⟩) (v:=.slice (some ⟨g8,o8,none⟩) kk kk) rfl (by kernel_rfl) (by kernel_rfl) (by kernel_rfl) (fun _ _ _ h=>h) (Or.inl ⟨by rfl,?_⟩) hHeld ?_
          ·intro V hV;go_simp
          try simp only[Act.put,AP]
          refine wpAnyH_take (i:=4) (oi:=⟨_,_,_,_,_,_⟩) (v:=.slice (some ⟨g8,o8,none⟩) nl c8) rfl (by kernel_rfl) (by kernel_rfl) (by kernel_rfl) (fun _ _ _ h=>h) (Or.inl ⟨by rfl,?_⟩) hHeld ?_
          ·intro V hV;go_simp
          try simp only[Act.put,AP]
          refine wpAnyH_take (i:=5) (oi:=⟨_,_,_,_,_,_⟩) (v:=.int i64 (kk:Int)) rfl (by kernel_rfl) (by kernel_rfl) (by kernel_rfl) (fun _ _ _ h=>h) (Or.inl ⟨by rfl,?_⟩) hHeld ?_
          ·intro V hV;go_simp
          try simp only[Act.put,AP]
          refine wpAnyH_take (i:=6) (oi:=⟨_,_,_,_,_,_⟩) (v:=.int i64 ((kk:Int)+1)) rfl (by kernel_rfl) (by kernel_rfl) (by kernel_rfl) (fun _ _ _ h=>h) (Or.inl ⟨by rfl,?_⟩) hHeld ?_
          ·intro V hV;go_simp
          try simp only[Act.put,AP]
          refine wpAnyH_take (i:=7) (oi:=⟨_,_,_,_,_,_⟩) (v:=.slice (some ⟨g8,o8+(kk+1),none⟩) (nl-(kk+1)) (c8-(kk+1))) rfl (by kernel_rfl) (by kernel_rfl) (by kernel_rfl) (fun _ _ _ h=>h) (Or.inl ⟨by rfl,?_⟩) hHeld ?_
          ·intro V hV;go_simp
          try simp only[Act.put,AP]
          refine wpAnyH_ready (rs:=[8]) (by kernel_rfl) (by simp) ?_;refine AllReadyH.cons (o:=⟨_,_,_,_,_,_⟩) rfl (fun K hK=>?_) AllReadyH.nil;refine step_append_full (E:=inE) _ (by rfl) _ _ 25 3 (by rfl) underlying25 j1 (.int i64 0) 8 HI1.out HI2.out HI3.out HI4.out rfl g8 o8 kk (by rfl) ((Lf.map Int.ofNat).take kk) (HA8.out.later (Below.drew (bRQ _ _))) HAL8.out g8 (o8+(kk+1)) (nl-(kk+1)) (c8-(kk+1)) (by rfl) ((Lf.map Int.ofNat).drop (kk+1)) (HB8.out.later (Below.drew (bRQ _ _))) HBL8.out HLV.out.1 HLV.out.2 ?_;intro b9 n9 c9 W9 h1 h2 h3;have hbw:Below w16.heap.size w16 W9:=(Below.drew (bRQ _ _)).trans h2;have HF9:Hid _:=HFX.out W9 b9 n9 c9 h1 hbw h3;refine hK.out _ _ hbw (fun hHeld=>?_);clear hK K h1 h2 h3 hbw
          try simp only[Act.put,AP]
          refine wpAnyH_take (i:=9) (oi:=⟨_,_,_,_,_,_⟩) (v:=.slice b9 n9 c9) rfl (by kernel_rfl) (by kernel_rfl) (by kernel_rfl) (fun _ _ _ h=>h) (Or.inl ⟨by rfl,?_⟩) hHeld ?_
          ·intro V hV;go_simp
          try simp only[Act.put,AP]
          refine wpAnyH_done (by kernel_rfl) ?_ _;clear hHeld;go_wp2;go_roundw
          case rel =>
           clear hk0 hk1 hk2 hk3 hkc hnc2 hwk0 hnc8 ib3 hcz;exact⟨xs++[X],Lf.eraseIdx kk,b9,n9,c9,O4,rfl,by rw[HLX.out];go_num,HXE.out,HF9.out.1,HF9.out.2.1,by rw[HKX.out];exact HF9.out.2.2⟩
          case measure =>
           clear hk0 hk1 hk2 hk3 hkc hnc2 hwk0 hnc8 ib3 hcz;have hin:=HIN.out;simp[intOf];omega
         obtain rfl:nl=0:=by omega
         have hLf:Lf=[]:=List.length_eq_zero_iff.1 HNL.out;have HALL:Hid (∀x,x<lo.length→x∈xs):=fun x hx=>by
          have h:=HPM.out;rw[hLf,List.append_nil] at h;exact h.mem_iff.2 (List.mem_range.2 hx)
         have HRDY:Hid (rdyN (onS t lo xs)=3):=by
          show _=_;rw[on_ready,if_pos HALL.out]
         have HWK:Hid (wkN (onS t lo xs)=0∧wkS (onS t lo xs)=onD t lo xs∧wkA 1 (onS t lo xs)=[yesM 1 3]):=on_work HALL.out;have HTA:Hid ((onD t lo xs).t=alL t lo):=by
          show wkTab t lo=_;rw[wkTab,if_pos HAL.out]
         have HOKD:Hid (AgOK (onD t lo xs) (1+2*i+1)):=by
          show AgOK _ _;rw[←HWK.out.2.1];exact ok_wk HS.out.ok
         clear HGL HGX HPM hLf HK3 HK4 HLW
         go_wp2_with fail
         refine (I.ready _ HS.out.g HS.out.ok (by omega)).mono ?_;rintro e w10 ⟨rfl,hb10⟩;rw[HRDY.out];have HS10:Hid (OnS Pg w w6 p w2.heap.size t lo O2 xs (1+2*i) w10):=HS.out.later I hb10;clear hb10 HS
         go_wp2_with fail
         refine (I.work _ HS10.out.g HS10.out.ok (by omega)).mono ?_;rintro e w11 ⟨a6,n6,c6,rfl,hg6,hn6,O3,hP3,hO3,hnO3,hk3⟩;rw[HWK.out.1];rw[HWK.out.2.1] at hP3;rw[HWK.out.2.2] at hg6;rw[show noV 0=.nilIface from rfl];have HP11:Hid (Pg w11 p w.heap.size O3 1 (onD t lo xs)):=hP3;have HK11:Hid (Kb (fun b=>b<w.heap.size∨(w2.heap.size≤b∧b<w6.heap.size)) w6 w11):=HS10.out.k.trans (hk3.mono fun b hb hc=>by
          rcases hc with hc | hc
          ·exact fun h1=>by have:=(I.lt HS10.out.g b h1).1;omega
          exact HS10.out.x b hc.1 hc.2)
         have HB11:Hid (Below w.heap.size w w11):=HBW.out.trans (HK11.out.below HBW.out.size fun b hb=>.inl hb);obtain⟨_,_,_,e6,hn6',_,_,ha6⟩:=hg6.form;cases e6;have hn61:n6=1:=hn6'.symm;subst hn61;obtain⟨g6,o6,he6,hG6,_⟩:=ha6 (by decide);subst he6;have HY11:Hid (GAt msgE w11 g6 o6 [yesM 1 3]):=hG6;have HYO:Hid (¬O3 g6):=hnO3 _ rfl;have HYL:Hid (g6<w11.heap.size):=bLQ _ _ (hG6 0 (by decide) 0 _ rfl);obtain⟨x0,g3,hv3,hg3,hc3,hs3,hx3⟩:=HW.out;cases hv3;have HX0:Hid (∀V,Below w11.heap.size w11 V→V.cell? ⟨w5.heap.size,3,none⟩=some (.slice (some ⟨g3,0,none⟩) 1 d3)∧V.cell? ⟨g3,0,none⟩=some (.slice x0.1 x0.2.1 x0.2.2)∧SR V (.slice x0.1 x0.2.1 x0.2.2) (alL t lo)):=fun V hV=>by
          have hk:Kb (fun b=>b<w.heap.size∨(w2.heap.size≤b∧b<w6.heap.size)) w6 V:=HK11.out.trans (Kb.of_below hV fun b hl _=>hl);refine⟨hk.at HNB.out.2.2.2 (.inr ⟨HB5.out.size,?_⟩),hk.at hc3 (.inr ⟨hg3.1,hg3.2⟩),hs3.kb hk (hx3.imp id fun h ad ha=>.inr (h ad ha))⟩;have:=bLQ _ _ HNB.out.1;exact this
         obtain⟨ax,nx,cx⟩:=x0;have HX1:Hid (∀V,Below w11.heap.size w11 V→V.cell? ⟨w5.heap.size,3,none⟩=some (.slice (some ⟨g3,0,none⟩) 1 d3)∧V.cell? ⟨g3,0,none⟩=some (.slice ax nx cx)∧SR V (.slice ax nx cx) (alL t lo)):=HX0;clear HX0 hP3 hO3 hnO3 hk3 hn6 hn6' ha6 hG6 hg6 hg3 hc3 hs3 hx3 HS10 HW HNB HK11;obtain⟨t0,t1,_⟩:=HX1.out w11 (bRQ _ _);go_upto_region 45 with fail
         go_cut [28] from 184 to 190 (fun q w'=>q=.bool true∧Below w11.heap.size w11 w')
         case first =>
          go_region_with (first | (go_at_call 11;refine (I.table _ (I.kb HP11.out (Kb.of_below (Below.drew (bRQ _ _)) fun b hl _=>hl)) HOKD.out (by omega)).mono ?_;rintro e w9 ⟨a5',n5',c5',rfl,hs5,hb5⟩;rw[HTA.out] at hs5;have HB9:Hid (Below w11.heap.size w11 w9):=(Below.drew (bRQ _ _)).trans hb5;obtain⟨t0',t1',_⟩:=HX1.out w9 HB9.out) | (go_at_call 10;refine (tabs_any a5' n5' c5' ax nx cx (alL t lo) _ hs5 (HX1.out _ HB9.out).2.2).mono ?_;rintro e w10 ⟨rfl,hb6⟩))
          all_goals (go_wp2_with fail;go_meet)
          all_goals exact⟨rfl,HB9.out.trans (hb6.mono HB9.out.size)⟩
         case rest =>
          obtain⟨rfl,hbc⟩:=hcut;have HBc:Hid (Below w11.heap.size w11 wc):=hbc;have HPc:Hid (Pg wc p w.heap.size O3 1 (onD t lo xs)):=I.kb HP11.out (Kb.of_below hbc fun b hl _=>hl);have HYc:Hid (GAt msgE wc g6 o6 [yesM 1 3]):=HY11.out.later hbc;have HBw:Hid (Below w.heap.size w wc):=HB11.out.trans (hbc.mono HB11.out.size);obtain⟨q0,q1,q2,q3,q4,q5,q6,q7,q8,q9,q10,q11⟩:=msg_cells (HYc.out 0 (by decide));simp only[Nat.zero_mul,Nat.add_zero] at q0 q1 q2 q3 q4 q5 q6 q7 q8 q9 q10 q11;clear hbc t0 t1 HX1 HP11 HY11
          go_wp2_with fail
          refine (I.work _ HPc.out HOKD.out (by omega)).mono ?_;obtain⟨h61,h62,h63⟩:=on_none t lo xs;rw[h61,h62,h63];rintro e w12 ⟨a7,n7,c7,rfl,_,_,O4,hP4,hO4,_,hk4⟩;have HP12:Hid (Pg w12 p w.heap.size O4 1 (onD t lo xs)):=hP4;have HY12:Hid (GAt msgE w12 g6 o6 [yesM 1 3]):=fun i hi j u hu=>hk4.at (HYc.out i hi j u hu) HYO.out
          have HYO4:Hid (¬O4 g6):=fun h=>by
           rcases hO4 _ h with h1 | h1
           ·exact HYO.out h1
           have:=HYL.out;have:=HBc.out.size;omega
          have HB12:Hid (Below w.heap.size w w12):=HBw.out.trans (hk4.below HBw.out.size fun b hb hc=>by have:=(I.lt HPc.out b hc).1;omega);have HYL12:Hid (g6<w12.heap.size):=Nat.lt_of_lt_of_le HYL.out (Nat.le_trans HBc.out.size hk4.size);clear hP4 hO4 hk4 h61 h62 h63 q0 q1 q2 q3 q4 q5 q6 q7 q8 q9 q10 q11 HPc HYc HBc
          go_wp2_with fail
          refine (same_noV 6 _ (HG.out _ HB12.out)).mono ?_;rintro e w13 ⟨rfl,hb13⟩;have HP13:Hid (Pg w13 p w.heap.size O4 1 (onD t lo xs)):=I.kb HP12.out (Kb.of_below hb13 fun b hl _=>hl);have HY13:Hid (GAt msgE w13 g6 o6 [yesM 1 3]):=HY12.out.later hb13;have HB13:Hid (Below w.heap.size w w13):=HB12.out.trans (hb13.mono HB12.out.size);have HYL13:Hid (g6<w13.heap.size):=Nat.lt_of_lt_of_le HYL12.out hb13.size;clear hb13 HP12 HY12
          go_wp2_with fail
          refine (I.hear 2 1 3 7 0 false 0 0 0 0 0 0 _ HP13.out HOKD.out (by omega)).mono ?_;rintro e w14 ⟨a8',n8',c8',rfl,hg8,hn8',O5,hP5,hO5,hnO5,hk5⟩;obtain⟨h71,h72⟩:=on_yes t lo xs;rw[show hrN 1 ⟨2,1,3,7,⟨0,false,⟨0,0,0,0,0,0⟩⟩⟩=0 from h71];rw[show noV 0=.nilIface from rfl];rw[show hrA 1 (onD t lo xs) ⟨2,1,3,7,⟨0,false,⟨0,0,0,0,0,0⟩⟩⟩=[yesM 1 3] from h72] at hg8;have HB14:Hid (Below w.heap.size w w14):=HB13.out.trans (hk5.below HB13.out.size fun b hb hc=>by have:=(I.lt HP13.out b hc).1;omega);obtain⟨_,_,_,e9,hn9,_,_,ha9⟩:=hg8.form;cases e9;have hn91:n8'=1:=hn9.symm;subst hn91;obtain⟨g9,o9,he9,hG9,_⟩:=ha9 (by decide);subst he9;have hY14:GAt msgE w14 g6 o6 [yesM 1 3]:=fun i hi j u hu=>hk5.at (HY13.out i hi j u hu) HYO4.out
          obtain⟨q0,q1,q2,q3,q4,q5,q6,q7,q8,q9,q10,q11⟩:=msg_cells (hY14 0 (by decide));simp only[Nat.zero_mul,Nat.add_zero] at q0 q1 q2 q3 q4 q5 q6 q7 q8 q9 q10 q11;obtain⟨r0,r1,r2,r3,r4,r5,r6,r7,r8,r9,r10,r11⟩:=msg_cells (hG9 0 (by decide));simp only[Nat.zero_mul,Nat.add_zero] at r0 r1 r2 r3 r4 r5 r6 r7 r8 r9 r10 r11;clear hg8 hn8' hP5 hO5 hnO5 hk5 h71 h72 hn9 ha9 hG9 hY14 HP13 HY13;go_upto_region 51 with fail;refine wp_region_quiet (C:=fun W=>Below w14.heap.size w14 W∧(W.cell? ⟨g6,o6,none⟩=some (.int i64 3)∧W.cell? ⟨g6,o6+1,none⟩=some (.int i64 1)∧W.cell? ⟨g6,o6+2,none⟩=some (.int i64 3)∧W.cell? ⟨g6,o6+3,none⟩=some (.int i64 0)∧W.cell? ⟨g6,o6+4,none⟩=some (.int i64 0)∧W.cell? ⟨g6,o6+5,none⟩=some (.bool false)∧W.cell? ⟨g6,o6+6,none⟩=some (.int i64 0)∧W.cell? ⟨g6,o6+7,none⟩=some (.int i64 0)∧W.cell? ⟨g6,o6+8,none⟩=some (.int i64 0)∧W.cell? ⟨g6,o6+9,none⟩=some (.int i64 0)∧W.cell? ⟨g6,o6+10,none⟩=some (.int i64 0)∧W.cell? ⟨g6,o6+11,none⟩=some (.int i64 0))∧W.cell? ⟨g9,o9,none⟩=some (.int i64 3)∧W.cell? ⟨g9,o9+1,none⟩=some (.int i64 1)∧W.cell? ⟨g9,o9+2,none⟩=some (.int i64 3)∧W.cell? ⟨g9,o9+3,none⟩=some (.int i64 0)∧W.cell? ⟨g9,o9+4,none⟩=some (.int i64 0)∧W.cell? ⟨g9,o9+5,none⟩=some (.bool false)∧W.cell? ⟨g9,o9+6,none⟩=some (.int i64 0)∧W.cell? ⟨g9,o9+7,none⟩=some (.int i64 0)∧W.cell? ⟨g9,o9+8,none⟩=some (.int i64 0)∧W.cell? ⟨g9,o9+9,none⟩=some (.int i64 0)∧W.cell? ⟨g9,o9+10,none⟩=some (.int i64 0)∧W.cell? ⟨g9,o9+11,none⟩=some (.int i64 0)) (by kernel_rfl) (by kernel_rfl) ⟨Below.drew (bRQ _ _),⟨q0,q1,q2,q3,q4,q5,q6,q7,q8,q9,q10,q11⟩,r0,r1,r2,r3,r4,r5,r6,r7,r8,r9,r10,r11⟩ ?_;simp only[List.toList_toArray];go_big_quiet_want;refine qv (.bool true) ?_ ?_
          ·rintro w' ⟨z,⟨z0,z1,z2,z3,z4,z5,z6,z7,z8,z9,z10,z11⟩,y0,y1,y2,y3,y4,y5,y6,y7,y8,y9,y10,y11⟩;go_simp
          simp only[Act.put,AP];go_big_quiet_on;go_big_quiet_want;refine qv (.bool true) ?_ ?_
          ·rintro w' ⟨z,⟨z0,z1,z2,z3,z4,z5,z6,z7,z8,z9,z10,z11⟩,y0,y1,y2,y3,y4,y5,y6,y7,y8,y9,y10,y11⟩;go_simp
          simp only[Act.put,AP];go_big_quiet_on;go_big_quiet_want;refine qv .nilIface ?_ ?_
          ·rintro w' ⟨z,⟨z0,z1,z2,z3,z4,z5,z6,z7,z8,z9,z10,z11⟩,y0,y1,y2,y3,y4,y5,y6,y7,y8,y9,y10,y11⟩;go_simp
          simp only[Act.put,AP];go_big_quiet_on;go_big_quiet_want;refine qv (.bool true) ?_ ?_
          ·rintro w' ⟨z,⟨z0,z1,z2,z3,z4,z5,z6,z7,z8,z9,z10,z11⟩,y0,y1,y2,y3,y4,y5,y6,y7,y8,y9,y10,y11⟩;go_simp
          simp only[Act.put,AP];go_big_quiet_on;go_big_quiet_want;refine qv (.bool true) ?_ ?_
          ·rintro w' ⟨z,⟨z0,z1,z2,z3,z4,z5,z6,z7,z8,z9,z10,z11⟩,y0,y1,y2,y3,y4,y5,y6,y7,y8,y9,y10,y11⟩;go_simp
          simp only[Act.put,AP];go_big_quiet_on;go_big_quiet_want;refine qv (.bool true) ?_ ?_
          ·rintro w' ⟨z,⟨z0,z1,z2,z3,z4,z5,z6,z7,z8,z9,z10,z11⟩,y0,y1,y2,y3,y4,y5,y6,y7,y8,y9,y10,y11⟩;go_simp
          simp only[Act.put,AP];go_big_quiet_on;go_big_quiet_want;refine qv (.slice (some ⟨g9,o9,none⟩) 1 c8') ?_ ?_
          ·rintro w' ⟨z,⟨z0,z1,z2,z3,z4,z5,z6,z7,z8,z9,z10,z11⟩,y0,y1,y2,y3,y4,y5,y6,y7,y8,y9,y10,y11⟩;go_simp
          simp only[Act.put,AP];go_big_quiet_on;go_big_quiet_want;refine qv (.int i64 1) ?_ ?_
          ·rintro w' ⟨z,⟨z0,z1,z2,z3,z4,z5,z6,z7,z8,z9,z10,z11⟩,y0,y1,y2,y3,y4,y5,y6,y7,y8,y9,y10,y11⟩;go_simp
          simp only[Act.put,AP];go_big_quiet_on;go_big_quiet_want;refine qv (.bool true) ?_ ?_
          ·rintro w' ⟨z,⟨z0,z1,z2,z3,z4,z5,z6,z7,z8,z9,z10,z11⟩,y0,y1,y2,y3,y4,y5,y6,y7,y8,y9,y10,y11⟩;go_simp
          simp only[Act.put,AP];go_big_quiet_on;go_big_quiet_want;refine qv (.bool true) ?_ ?_
          ·rintro w' ⟨z,⟨z0,z1,z2,z3,z4,z5,z6,z7,z8,z9,z10,z11⟩,y0,y1,y2,y3,y4,y5,y6,y7,y8,y9,y10,y11⟩;go_simp
          simp only[Act.put,AP];go_big_quiet_on;go_big_quiet_want;refine qv (.bool true) ?_ ?_
          ·rintro w' ⟨z,⟨z0,z1,z2,z3,z4,z5,z6,z7,z8,z9,z10,z11⟩,y0,y1,y2,y3,y4,y5,y6,y7,y8,y9,y10,y11⟩;go_simp
          simp only[Act.put,AP];go_big_quiet_on;go_big_quiet_want;refine qv (.slice (some ⟨g9,o9,none⟩) 1 c8') ?_ ?_
          ·rintro w' ⟨z,⟨z0,z1,z2,z3,z4,z5,z6,z7,z8,z9,z10,z11⟩,y0,y1,y2,y3,y4,y5,y6,y7,y8,y9,y10,y11⟩;go_simp
          simp only[Act.put,AP];go_big_quiet_on;go_big_quiet_want;refine qv (.pointer (some ⟨g9,o9,none⟩)) ?_ ?_
          ·rintro w' ⟨z,⟨z0,z1,z2,z3,z4,z5,z6,z7,z8,z9,z10,z11⟩,y0,y1,y2,y3,y4,y5,y6,y7,y8,y9,y10,y11⟩;go_simp
          simp only[Act.put,AP];go_big_quiet_on;go_big_quiet_want;refine qv (.agg #[.int i64 3,.int i64 1,.int i64 3,.int i64 0,.int i64 0,.bool false,.int i64 0,.int i64 0,.int i64 0,.int i64 0,.int i64 0,.int i64 0]) ?_ ?_
          ·rintro w' ⟨z,⟨z0,z1,z2,z3,z4,z5,z6,z7,z8,z9,z10,z11⟩,y0,y1,y2,y3,y4,y5,y6,y7,y8,y9,y10,y11⟩;go_simp
          simp only[Act.put,AP];go_big_quiet_on;go_big_quiet_want;refine qv (.slice (some ⟨g6,o6,none⟩) 1 c6) ?_ ?_
          ·rintro w' ⟨z,⟨z0,z1,z2,z3,z4,z5,z6,z7,z8,z9,z10,z11⟩,y0,y1,y2,y3,y4,y5,y6,y7,y8,y9,y10,y11⟩;go_simp
          simp only[Act.put,AP];go_big_quiet_on;go_big_quiet_want;refine qv (.pointer (some ⟨g6,o6,none⟩)) ?_ ?_
          ·rintro w' ⟨z,⟨z0,z1,z2,z3,z4,z5,z6,z7,z8,z9,z10,z11⟩,y0,y1,y2,y3,y4,y5,y6,y7,y8,y9,y10,y11⟩;go_simp
          simp only[Act.put,AP];go_big_quiet_on;go_big_quiet_want;refine qv (.agg #[.int i64 3,.int i64 1,.int i64 3,.int i64 0,.int i64 0,.bool false,.int i64 0,.int i64 0,.int i64 0,.int i64 0,.int i64 0,.int i64 0]) ?_ ?_
          ·rintro w' ⟨z,⟨z0,z1,z2,z3,z4,z5,z6,z7,z8,z9,z10,z11⟩,y0,y1,y2,y3,y4,y5,y6,y7,y8,y9,y10,y11⟩;go_simp
          simp only[Act.put,AP];go_big_quiet_on;go_big_quiet_want;refine quiet_val (v:=.bool true) (fun w' hC=>exec_bin rfl (by go_simp) (run_eql_of (b:=true) (msg_eq 3 1 3 0 0 false 0 0 0 0 0 0 3 1 3 0 0 false 0 0 0 0 0 0 w'))) ?_;simp only[Act.put,AP];go_big_quiet_on;go_big_quiet_want;refine qv (.bool true) ?_ ?_
          ·rintro w' ⟨z,⟨z0,z1,z2,z3,z4,z5,z6,z7,z8,z9,z10,z11⟩,y0,y1,y2,y3,y4,y5,y6,y7,y8,y9,y10,y11⟩;go_simp
          simp only[Act.put,AP];go_big_quiet_on;go_big_quiet_want;refine qv (.bool true) ?_ ?_
          ·rintro w' ⟨z,⟨z0,z1,z2,z3,z4,z5,z6,z7,z8,z9,z10,z11⟩,y0,y1,y2,y3,y4,y5,y6,y7,y8,y9,y10,y11⟩;go_simp
          simp only[Act.put,AP];go_big_quiet_on;refine wpQuiet_nil ?_;intro w' hC;have HFB:Hid (Below w.heap.size w w'):=HB14.out.trans (hC.1.mono HB14.out.size);clear hC;go_wp2;go_ret;exact⟨rfl,HFB.out⟩
      rw[no_ne hcg];have HBE:Hid (Below w.heap.size w (w5.alloc (.cells #[.int i64 (nvS CG 1),.slice b1 k1 d1,.slice b2 k2 d2,.slice b3 k3 d3] 37))):=(HB2.out.trans (HB5.out.mono HB2.out.size)).alloc (HB2.out.trans (HB5.out.mono HB2.out.size)).size _;go_wp2;go_ret;exact⟨rfl,HBE.out⟩
 rw[no_ne hE0];go_wp2;go_ret;exact⟨rfl,HB2.out⟩
end agentOnce
section
open Go.RowKit
def keptO (l:List Kp)(r i:Int):Option Op8:=(l.find? (kpB r i)).map Kp.o
theorem kept_has (l:List Kp)(r i:Int):(keptO l r i).isSome=hasK l r i:=by
 rw[keptO,hasK,Option.isSome_map]
 induction l with
 | nil=>rfl
 | cons x l ih =>
   rw[List.find?_cons,List.any_cons];cases kpB r i x with
   | true=>rfl
   | false=>rw[Bool.false_or];exact ih
theorem kept_op (l:List Kp)(r i:Int):(keptO l r i).getD zeP=opK l r i:=rfl
theorem kept_app (l:List Kp)(x:Kp)(r i:Int):keptO (l++[x]) r i=if (keptO l r i).isSome then keptO l r i else if kpB r i x=true then some x.o else none:=by
 unfold keptO;rw[List.find?_append];cases l.find? (kpB r i) with
 | some y=>rfl
 | none =>
   rw[Option.none_or,List.find?_singleton];cases kpB r i x <;> rfl
theorem kept_new {l:List Kp}{r i:Int}{o:Op8}(h:hasK l r i=false)(s j:Int):keptO (l++[⟨r,i,o⟩]) s j=if s=r∧j=i then some o else keptO l s j:=by
 rw[kept_app];by_cases h1:s=r∧j=i
 ·rw[if_pos h1];obtain⟨rfl,rfl⟩:=h1;rw[kept_has,h,if_neg (by simp),if_pos (by simp[kpB])]
 rw[if_neg h1];have:kpB s j ⟨r,i,o⟩=false:=by
  cases e:kpB s j ⟨r,i,o⟩ with
  | false=>rfl
  | true =>
    simp only[kpB,Bool.and_eq_true,beq_iff_eq] at e;exact absurd ⟨e.1.symm,e.2.symm⟩ h1
 rw[this];cases keptO l s j <;> rfl
def opV8 (o:Op8):Value:=.agg #[.int i64 o.w,.bool o.a,.int i64 o.r.p,.int i64 o.r.m,.int i64 o.r.b,.int i64 o.r.o,.int i64 o.r.s,.int i64 o.r.v]
theorem opv_zero (w:World):(zeroValue 43).run prog w=.ok (opV8 zeP) w:=by kernel_rfl
theorem getV_op (o:Option Op8):getV opV8 (opV8 zeP) o=opV8 (o.getD zeP):=by cases o <;> rfl
structure Pt where
 m:Option Nat
 h:Int
 a:Bool
 s:Int
 d:Bool
structure PtAt (W:World)(b o:Nat)(q:Pt):Prop where
 c0:W.cell? ⟨b,o,none⟩=some (.map q.m)
 c1:W.cell? ⟨b,o+1,none⟩=some (.int i64 q.h)
 c2:W.cell? ⟨b,o+2,none⟩=some (.bool q.a)
 c3:W.cell? ⟨b,o+3,none⟩=some (.int i64 q.s)
 c4:W.cell? ⟨b,o+4,none⟩=some (.bool q.d)
def MpA (W:World)(m:Option Nat)(M:List (Int×Op8)):Prop:=(m=none∧M=[])∨∃b,m=some b∧MAt intKey opV8 W b M
section
variable {W W':World}{b o:Nat}{q:Pt}{m:Option Nat}{M:List (Int×Op8)}
theorem PtAt.later (h:PtAt W b o q)(hb:Below W.heap.size W W'):PtAt W' b o q:=⟨cell_later hb h.c0,cell_later hb h.c1,cell_later hb h.c2,cell_later hb h.c3,cell_later hb h.c4⟩
theorem PtAt.kb {p:Nat→Prop}(h:PtAt W b o q)(hk:Kb p W W')(hp:p b):PtAt W' b o q:=⟨hk.at h.c0 hp,hk.at h.c1 hp,hk.at h.c2 hp,hk.at h.c3 hp,hk.at h.c4 hp⟩
theorem PtAt.lt (h:PtAt W b o q):b<W.heap.size:=bLQ _ _ h.c0
theorem MAt.kb {κ β:Type}{P:Program}{K:TypeId}{E:KeyE P K κ}{ve:β→Value}{B:Nat}{M:List (κ×β)}{p:Nat→Prop}(h:MAt E ve W B M)(hk:Kb p W W')(hp:p B):MAt E ve W' B M:=by
 have hlt:=h.lt;obtain⟨es,clock,h1,h2⟩:=h;exact⟨es,clock,(hk.block B hlt hp).trans h1,h2⟩
theorem MpA.kb {p:Nat→Prop}(h:MpA W m M)(hk:Kb p W W')(hp:∀b,m=some b→p b):MpA W' m M:=by
 rcases h with h | ⟨b,h1,h2⟩
 ·exact .inl h
 exact .inr ⟨b,h1,h2.kb hk (hp b h1)⟩
theorem MpA.later (h:MpA W m M)(hb:Below W.heap.size W W'):MpA W' m M:=h.kb (p:=fun _=>True) (Kb.of_below hb fun _ h _=>h) fun _ _=>trivial
theorem MpA.lt (h:MpA W m M)(b:Nat)(hb:m=some b):b<W.heap.size:=by
 rcases h with ⟨h,_⟩ | ⟨c,h1,h2⟩
 ·rw[h] at hb;cases hb
 rw[h1] at hb;cases hb;exact h2.lt
theorem mp_none (i:Int)(W:World)(ok:Bool):(Instr.lookup 76 (.map none) (.int i64 i) ok).run prog W=.ok (if ok then .tuple #[opV8 zeP,.bool false] else opV8 zeP) W:=by
 have hu:Tryd.prog.underlying 76=some (.map 3 43):=underlying76;have hc:=intKey.check true i W;have hf:=intKey.find i [] [] W rfl;have hc2:(Instr.checkKey true 10000 3 (.int i64 i)).run prog W=.ok () W:=hc;have hf2:(Instr.findKey 3 (.int i64 i) []).run prog W=.ok none W:=hf;simp only[Instr.lookup,Sem.run_bind,run_underlying hu,Result.andThen_ok,Sem.run_pure,Array.isEmpty_empty,hc2,hf2,opv_zero]
theorem MpA.look (h:MpA W m M)(i:Int):(Instr.lookup 76 (.map m) (.int i64 i) true).run prog W=.ok (.tuple #[opV8 ((mget qI i M).getD zeP),.bool (mget qI i M).isSome]) W:=by
 rcases h with ⟨rfl,rfl⟩ | ⟨b,rfl,h⟩
 ·exact mp_none i W true
 have:=run_lookup_M h 76 43 underlying76 (opV8 zeP) opv_zero i true;rw[getV_op] at this;exact this
theorem MpA.look1 (h:MpA W m M)(i:Int):(Instr.lookup 76 (.map m) (.int i64 i) false).run prog W=.ok (opV8 ((mget qI i M).getD zeP)) W:=by
 rcases h with ⟨rfl,rfl⟩ | ⟨b,rfl,h⟩
 ·exact mp_none i W false
 have:=run_lookup_M h 76 43 underlying76 (opV8 zeP) opv_zero i false;rw[getV_op] at this;exact this
end
end
section
open Go.ChangeShapes Go.WideShapes Go.ChangeAt Go.RowKit Go.Joins
def kptE:Enc (Kp) where
 c:=fun x=>[.int i64 x.r,.int i64 x.i,.int i64 x.o.w,.bool x.o.a,.int i64 x.o.r.p,.int i64 x.o.r.m,.int i64 x.o.r.b,.int i64 x.o.r.o,.int i64 x.o.r.s,.int i64 x.o.r.v]
 n:=10
 len:=fun _=>rfl
 pos:=by decide
 one:=by
  intro x u hu;simp at hu
  rcases hu with rfl | rfl | rfl | rfl | rfl | rfl | rfl | rfl | rfl | rfl <;> rfl
end
section
open Go.RowKit
def AgO (p:Nat)(vl vm vd:Value)(b:Nat):Prop:=b=p∨vl.ownBlock=some b∨vm.ownBlock=some b∨vd.ownBlock=some b
structure RfA (W:World)(p B0:Nat)(O:Nat→Prop)(n:Int)(a:AgT)(x:SlT)(vl vm vd:Value):Prop where
 c0:W.cell? ⟨p,0,none⟩=some (.int i64 n)
 c1:W.cell? ⟨p,1,none⟩=some (slV x)
 c2:W.cell? ⟨p,2,none⟩=some vl
 c3:W.cell? ⟨p,3,none⟩=some vm
 c4:W.cell? ⟨p,4,none⟩=some vd
 f:∀i,W.frozen? ⟨p,i,none⟩=false
 t:SR W (slV x) a.t
 tx:∀b,AgO p vl vm vd b→offB x b
 tr:x.2.1=0∨∀ad,x.1=some ad→ad.block<B0∨O ad.block
 l:W.ownsRow (p+1) 104 kptE.n vl a.l.length (cellsG kptE a.l)
 m:W.ownsRow (p+1) 3 inE.n vm a.m.length (cellsG inE a.m)
 d:W.ownsRow (p+1) 3 inE.n vd a.d.length (cellsG inE a.d)
 md:vm.ownBlock=none∨vm.ownBlock≠vd.ownBlock
 ob:∀b,AgO p vl vm vd b→O b
 lt:∀b,O b→B0≤b∧b<W.heap.size
section
variable {W W':World}{p B0:Nat}{O:Nat→Prop}{n:Int}{a:AgT}{x:SlT}{vl vm vd:Value}
theorem RfA.pO (h:RfA W p B0 O n a x vl vm vd):O p:=h.ob p (.inl rfl)
theorem RfA.pl (h:RfA W p B0 O n a x vl vm vd):p<W.heap.size:=(h.lt p h.pO).2
theorem RfA.kb (h:RfA W p B0 O n a x vl vm vd)(hk:Kb (fun b=>b<B0∨O b) W W'):RfA W' p B0 O n a x vl vm vd:=by
 have hp:(p<B0∨O p):=.inr h.pO;refine⟨hk.at h.c0 hp,hk.at h.c1 hp,hk.at h.c2 hp,hk.at h.c3 hp,hk.at h.c4 hp,fun i=>(hk.frozen (q:=⟨p,i,none⟩) h.pl hp).trans (h.f i),h.t.kb hk h.tr,h.tx,h.tr,?_,?_,?_,h.md,h.ob,fun b hb=>⟨(h.lt b hb).1,Nat.lt_of_lt_of_le (h.lt b hb).2 hk.size⟩⟩
 ·exact own_kb h.l hk fun b hb=>.inr (h.ob b (.inr (.inl hb)))
 ·exact own_kb h.m hk fun b hb=>.inr (h.ob b (.inr (.inr (.inl hb))))
 exact own_kb h.d hk fun b hb=>.inr (h.ob b (.inr (.inr (.inr hb))))
theorem RfA.later (h:RfA W p B0 O n a x vl vm vd)(hb:Below W.heap.size W W'):RfA W' p B0 O n a x vl vm vd:=h.kb (Kb.of_below hb fun b hl _=>hl)
theorem kept_int:(104:Nat)≠3:=by decide
theorem RfA.ld (h:RfA W p B0 O n a x vl vm vd):vl.ownBlock=none∨vl.ownBlock≠vd.ownBlock:=own_rows2 h.l h.d kept_int
theorem RfA.pne {v:Value}{e s k:Nat}{xs:List Value}(h:W.ownsRow (p+1) e s v k xs):some p≠v.ownBlock:=fun e=>by
 have:=(h.lt p e.symm).1;omega
theorem RfA.low {v u:Value}{e s k j:Nat}{xs:List Value}(h:W.ownsRow (p+1) e s v k xs):(W.setCell ⟨p,j,none⟩ u).ownsRow (p+1) e s v k xs:=h.kept (grown_set W p j u) (by
 cases hb:v.ownBlock with
 | none=>exact .inl rfl
 | some b=>exact .inr fun e2=>by cases e2;have:=(h.lt _ hb).1;omega)
theorem RfA.addD (h:RfA W p B0 O n a x vl vm vd){k:Int}{u:Value}(hg:W.grownBy W' vd.ownBlock)(ho:W'.ownsRow (p+1) 3 inE.n u (a.d++[k]).length (cellsG inE (a.d++[k])))(hb:u.ownBlock=vd.ownBlock∨u.ownBlock=some W.heap.size):
 RfA (W'.setCell ⟨p,4,none⟩ u) p B0 (fun b=>O b∨u.ownBlock=some b) n { a with d:=a.d++[k] } x vl vm u:=by
 have hne:some p≠vd.ownBlock:=RfA.pne h.d;have hx:∀b,AgO p vl vm u b→offB x b:=by
  rintro b (rfl | hb1 | hb1 | hb1)
  ·exact h.tx _ (.inl rfl)
  ·exact h.tx b (.inr (.inl hb1))
  ·exact h.tx b (.inr (.inr (.inl hb1)))
  rcases hb with hb | hb
  ·exact h.tx b (.inr (.inr (.inr (by rw[←hb];exact hb1))))
  rw[hb] at hb1;cases hb1;exact h.t.off (nLQ _)
 have hp2:p<W'.heap.size:=Nat.lt_of_lt_of_le h.pl hg.size;refine⟨?_,?_,?_,?_,World.cell?_setCell_same _ _ _ (hg.cell h.c4 hne),fun j=>?_,?_,hx,?_,RfA.low (h.l.kept hg h.ld),RfA.low (h.m.kept hg h.md),RfA.low ho,?_,?_,?_⟩
 ·rw[World.cell?_setCell_other _ _ _ _ (by simp)];exact hg.cell h.c0 hne
 ·rw[World.cell?_setCell_other _ _ _ _ (by simp)];exact hg.cell h.c1 hne
 ·rw[World.cell?_setCell_other _ _ _ _ (by simp)];exact hg.cell h.c2 hne
 ·rw[World.cell?_setCell_other _ _ _ _ (by simp)];exact hg.cell h.c3 hne
 ·rw[World.frozen?_setCell,World.frozen?_of_block (w:=W) (hg.block p h.pl hne)];exact h.f j
 ·have h1:SR W' (slV x) a.t:=h.t.grown hg fun b hb=>h.tx b (.inr (.inr (.inr hb)))
  exact h1.grown (grown_set W' p 4 u) fun b hb=>by cases hb;exact h.tx _ (.inl rfl)
 ·rcases h.tr with h1 | h1
  ·exact .inl h1
  exact .inr fun ad ha=>(h1 ad ha).imp id .inl
 ·rcases hb with hb | hb
  ·rw[hb];exact h.md
  cases hm:vm.ownBlock with
  | none=>exact .inl rfl
  | some b =>
    refine .inr fun e=>?_
    rw[hb] at e;cases e;have:=(h.m.lt _ hm).2;omega
 ·rintro b (rfl | hb1 | hb1 | hb1)
  ·exact .inl h.pO
  ·exact .inl (h.ob b (.inr (.inl hb1)))
  ·exact .inl (h.ob b (.inr (.inr (.inl hb1))))
  exact .inr hb1
 have hs:(W'.setCell ⟨p,4,none⟩ u).heap.size=W'.heap.size:=by simp[World.setCell]
 rintro b (hb1 | hb1)
 ·rw[hs];exact⟨(h.lt b hb1).1,Nat.lt_of_lt_of_le (h.lt b hb1).2 hg.size⟩
 have h1:=ho.lt b hb1;have h2:=(h.lt p h.pO).1;rw[hs];exact⟨by omega,h1.2⟩
theorem RfA.setT (h:RfA W p B0 O n a x vl vm vd){y:SlT}{t':List Ru}(hy:SR W (slV y) t')(hx:∀b,AgO p vl vm vd b→offB y b):
 RfA (W.setCell ⟨p,1,none⟩ (slV y)) p B0 (fun b=>O b∨∃ad,y.2.1≠0∧y.1=some ad∧B0≤ad.block∧ad.block<W.heap.size∧b=ad.block) n { a with t:=t' } y vl vm vd:=by
 have hy2:y.2.1=0∨∀ad,y.1=some ad→ad.block<W.heap.size:=by
  obtain⟨ao,k,c⟩:=y
  rcases hy with ⟨ao',cap',e,rfl⟩ | ⟨g,o,cap',e,h1,h2,h3⟩
  ·simp only[slV,Value.slice.injEq] at e;exact .inl e.2.1
  simp only[slV,Value.slice.injEq] at e;obtain⟨rfl,rfl,rfl⟩:=e;by_cases h0:t'.length=0
  ·exact .inl h0
  refine .inr fun ad ha=>?_
  cases ha;exact h3.lt (by omega)
 refine⟨?_,World.cell?_setCell_same _ _ _ h.c1,?_,?_,?_,fun j=>?_,?_,hx,?_,RfA.low h.l,RfA.low h.m,RfA.low h.d,h.md,fun b hb=>.inl (h.ob b hb),?_⟩
 ·rw[World.cell?_setCell_other _ _ _ _ (by simp)];exact h.c0
 ·rw[World.cell?_setCell_other _ _ _ _ (by simp)];exact h.c2
 ·rw[World.cell?_setCell_other _ _ _ _ (by simp)];exact h.c3
 ·rw[World.cell?_setCell_other _ _ _ _ (by simp)];exact h.c4
 ·rw[World.frozen?_setCell];exact h.f j
 ·exact hy.grown (grown_set W p 1 _) fun b hb=>by cases hb;exact hx _ (.inl rfl)
 ·by_cases h0:y.2.1=0
  ·exact .inl h0
  refine .inr fun ad ha=>?_
  by_cases h1:ad.block<B0
  ·exact .inl h1
  rcases hy2 with h2 | h2
  ·exact absurd h2 h0
  exact .inr (.inr ⟨ad,h0,ha,by omega,h2 ad ha,rfl⟩)
 have hs:(W.setCell ⟨p,1,none⟩ (slV y)).heap.size=W.heap.size:=by simp[World.setCell]
 rw[hs];rintro b (hb1 | ⟨ad,_,_,h1,h2,rfl⟩)
 ·exact h.lt b hb1
 exact⟨h1,h2⟩
end
def AgR (W:World)(p B0:Nat)(O:Nat→Prop)(n:Int)(a:AgT):Prop:=∃x vl vm vd,RfA W p B0 O n a x vl vm vd
theorem AgR.kb {W W':World}{p B0:Nat}{O:Nat→Prop}{n:Int}{a:AgT}(h:AgR W p B0 O n a)(hk:Kb (fun b=>b<B0∨O b) W W'):AgR W' p B0 O n a:=by
 obtain⟨x,vl,vm,vd,h⟩:=h;exact⟨x,vl,vm,vd,h.kb hk⟩
def updF {α:Type}(f:Nat→α)(r:Nat)(v:α)(s:Nat):α:=if s=r then v else f s
theorem upd_same {α:Type}(f:Nat→α)(r:Nat)(v:α):updF f r v r=v:=if_pos rfl
theorem upd_other {α:Type}(f:Nat→α){r s:Nat}(v:α)(h:s≠r):updF f r v s=f s:=if_neg h
def PgO (p:Nat)(pt:Nat→Pt)(vd:Value)(b:Nat):Prop:=b=p∨(∃r,r<20∧(pt r).m=some b)∨vd.ownBlock=some b
structure PgC (W:World)(p B0:Nat)(O:Nat→Prop)(n:Int)(t:List Ru)(d:List Int)(x:SlT)(pt:Nat→Pt)(mp:Nat→List (Int×Op8))(vd:Value):Prop where
 c0:W.cell? ⟨p,0,none⟩=some (.int i64 n)
 c1:W.cell? ⟨p,1,none⟩=some (slV x)
 pc:∀r,r<20→PtAt W p (2+r*5) (pt r)
 cd:W.cell? ⟨p,102,none⟩=some vd
 f:∀i,W.frozen? ⟨p,i,none⟩=false
 pm:∀r,r<20→MpA W (pt r).m (mp r)
 ma:∀r s b,r<20→s<20→r≠s→(pt r).m=some b→(pt s).m≠some b
 t:SR W (slV x) t
 tx:∀b,PgO p pt vd b→offB x b
 tr:x.2.1=0∨∀ad,x.1=some ad→ad.block<B0∨O ad.block
 d:W.ownsRow (p+1) 3 inE.n vd d.length (cellsG inE d)
 ob:∀b,PgO p pt vd b→O b
 lt:∀b,O b→B0≤b∧b<W.heap.size
theorem cell_off {W:World}{p i j:Nat}{u:Value}(h:W.cell? ⟨p,i,none⟩=some u)(hij:j≠i)(v:Value):(W.setCell ⟨p,j,none⟩ v).cell? ⟨p,i,none⟩=some u:=by
 rw[World.cell?_setCell_other _ _ _ _ (by intro e;cases e;exact hij rfl)];exact h
theorem PtAt.off {W:World}{p r s j:Nat}{q:Pt}(h:PtAt W p (2+s*5) q)(hs:s≠r)(hj:j<5)(v:Value):PtAt (W.setCell ⟨p,2+r*5+j,none⟩ v) p (2+s*5) q:=
 ⟨cell_off h.c0 (by omega) v,cell_off h.c1 (by omega) v,cell_off h.c2 (by omega) v,cell_off h.c3 (by omega) v,cell_off h.c4 (by omega) v⟩
theorem PtAt.off2 {W:World}{p s i:Nat}{q:Pt}(h:PtAt W p (2+s*5) q)(hs:s<20)(hi:i<2∨101<i)(v:Value):PtAt (W.setCell ⟨p,i,none⟩ v) p (2+s*5) q:=
 ⟨cell_off h.c0 (by omega) v,cell_off h.c1 (by omega) v,cell_off h.c2 (by omega) v,cell_off h.c3 (by omega) v,cell_off h.c4 (by omega) v⟩
theorem map_cell {W:World}{b:Nat}{M:List (Int×Op8)}(h:MAt intKey opV8 W b M)(i:Nat):W.cell? ⟨b,i,none⟩=none:=by
 obtain⟨es,clock,h1,_⟩:=h;simp[World.cell?,h1]
section
variable {W W':World}{p B0:Nat}{O:Nat→Prop}{n:Int}{t:List Ru}{d:List Int}{x:SlT}{pt:Nat→Pt}{mp:Nat→List (Int×Op8)}{vd:Value}
theorem PgC.pO (h:PgC W p B0 O n t d x pt mp vd):O p:=h.ob p (.inl rfl)
theorem PgC.pl (h:PgC W p B0 O n t d x pt mp vd):p<W.heap.size:=(h.lt p h.pO).2
theorem PgC.kb (h:PgC W p B0 O n t d x pt mp vd)(hk:Kb (fun b=>b<B0∨O b) W W'):PgC W' p B0 O n t d x pt mp vd:=by
 have hp:(p<B0∨O p):=.inr h.pO;refine⟨hk.at h.c0 hp,hk.at h.c1 hp,fun r hr=>(h.pc r hr).kb hk hp,hk.at h.cd hp,fun i=>(hk.frozen (q:=⟨p,i,none⟩) h.pl hp).trans (h.f i),fun r hr=>(h.pm r hr).kb hk fun b hb=>.inr (h.ob b (.inr (.inl ⟨r,hr,hb⟩))),h.ma,h.t.kb hk h.tr,h.tx,h.tr,?_,h.ob,fun b hb=>⟨(h.lt b hb).1,Nat.lt_of_lt_of_le (h.lt b hb).2 hk.size⟩⟩;exact own_kb h.d hk fun b hb=>.inr (h.ob b (.inr (.inr hb)))
theorem PgC.later (h:PgC W p B0 O n t d x pt mp vd)(hb:Below W.heap.size W W'):PgC W' p B0 O n t d x pt mp vd:=h.kb (Kb.of_below hb fun b hl _=>hl)
theorem PgC.mne (h:PgC W p B0 O n t d x pt mp vd){r b:Nat}(hr:r<20)(hb:(pt r).m=some b):b≠p:=by
 rintro rfl
 rcases h.pm r hr with ⟨h1,_⟩ | ⟨c,h1,h2⟩
 ·rw[h1] at hb;cases hb
 rw[h1] at hb;cases hb;have:=map_cell h2 0;rw[h.c0] at this;cases this
theorem PgC.md (h:PgC W p B0 O n t d x pt mp vd){r b:Nat}(hr:r<20)(hb:(pt r).m=some b):vd.ownBlock≠some b:=by
 intro e
 rcases h.pm r hr with ⟨h1,_⟩ | ⟨c,h1,h2⟩
 ·rw[h1] at hb;cases hb
 rw[h1] at hb;cases hb;obtain⟨es,clock,h3,_⟩:=h2
 rcases h.d.2 with ⟨e1,_⟩ | ⟨g,cap,cur,e1,_,hg,_⟩
 ·rw[e1] at e;cases e
 rw[e1] at e;cases e;rw[h3] at hg;cases hg
theorem PgC.dne (h:PgC W p B0 O n t d x pt mp vd){b:Nat}(hb:vd.ownBlock=some b):b≠p:=by
 have:=(h.d.lt b hb).1;omega
theorem PgC.rest (h:PgC W p B0 O n t d x pt mp vd)(i:Nat)(v:Value):(∀r,r<20→MpA (W.setCell ⟨p,i,none⟩ v) (pt r).m (mp r))∧SR (W.setCell ⟨p,i,none⟩ v) (slV x) t∧(W.setCell ⟨p,i,none⟩ v).ownsRow (p+1) 3 inE.n vd d.length (cellsG inE d)∧(W.setCell ⟨p,i,none⟩ v).heap.size=W.heap.size∧∀j,(W.setCell ⟨p,i,none⟩ v).frozen? ⟨p,j,none⟩=false:=by
 have hk:Kb (fun b=>b≠p) W (W.setCell ⟨p,i,none⟩ v):=(Kb.refl _ W).setCell (q:=⟨p,i,none⟩) (fun _ h=>h rfl) v;refine⟨fun r hr=>(h.pm r hr).kb hk fun b hb=>h.mne hr hb,h.t.kb hk (h.tx p (.inl rfl)),own_kb h.d hk fun b hb=>h.dne hb,by simp[World.setCell],fun j=>?_⟩;rw[World.frozen?_setCell];exact h.f j
theorem PgC.poke (h:PgC W p B0 O n t d x pt mp vd){r j:Nat}(hr:r<20)(hj:j<5){v:Value}{q:Pt}{M:List (Int×Op8)}(hq:PtAt (W.setCell ⟨p,2+r*5+j,none⟩ v) p (2+r*5) q)(hm:(q.m=(pt r).m∧M=mp r)∨(q.m=none∧M=[])):
 PgC (W.setCell ⟨p,2+r*5+j,none⟩ v) p B0 O n t d x (updF pt r q) (updF mp r M) vd:=by
 obtain⟨h1,h2,h3,h4,h5⟩:=h.rest (2+r*5+j) v;have hmm:∀s b,(updF pt r q s).m=some b→(pt s).m=some b:=by
  intro s b hb;by_cases hs:s=r
  ·subst hs;rw[upd_same] at hb
   rcases hm with ⟨e,_⟩ | ⟨e,_⟩
   ·rw[←e];exact hb
   rw[e] at hb;cases hb
  rwa [upd_other _ _ hs] at hb
 have hO:∀b,PgO p (updF pt r q) vd b→PgO p pt vd b:=by
  rintro b (e | ⟨s,hs,e⟩ | e)
  ·exact .inl e
  ·exact .inr (.inl ⟨s,hs,hmm s b e⟩)
  exact .inr (.inr e)
 refine⟨cell_off h.c0 (by omega) v,cell_off h.c1 (by omega) v,fun s hs=>?_,cell_off h.cd (by omega) v,h5,fun s hs=>?_,fun s u b hs hu hne e1 e2=>h.ma s u b hs hu hne (hmm _ _ e1) (hmm _ _ e2),h2,fun b hb=>h.tx b (hO b hb),h.tr,h3,fun b hb=>h.ob b (hO b hb),fun b hb=>by rw[h4];exact h.lt b hb⟩
 ·by_cases e:s=r
  ·subst e;rw[upd_same];exact hq
  rw[upd_other _ _ e];exact (h.pc s hs).off e hj v
 by_cases e:s=r
 ·subst e;rw[upd_same,upd_same]
  rcases hm with ⟨e1,e2⟩ | ⟨e1,e2⟩
  ·rw[e1,e2];exact h1 s hs
  exact .inl ⟨e1,e2⟩
 rw[upd_other _ _ e,upd_other _ _ e];exact h1 s hs
theorem PgC.newMap (h:PgC W p B0 O n t d x pt mp vd){r:Nat}(hr:r<20)(hn:(pt r).m=none){W1:World}{b:Nat}(hb:Below W.heap.size W W1)(hbl:W.heap.size≤b)(hM:MAt intKey opV8 W1 b []):
 PgC (W1.setCell ⟨p,2+r*5,none⟩ (.map (some b))) p B0 (fun c=>O c∨c=b) n t d x (updF pt r { pt r with m:=some b }) (updF mp r []) vd:=by
 have g:=h.later hb;obtain⟨h1,h2,h3,h4,h5⟩:=g.rest (2+r*5) (.map (some b));have hpl:=h.pl;have hbp:b≠p:=by omega
 have hlb:=hM.lt;have hB0:=(h.lt p h.pO).1;have hO:∀c,PgO p (updF pt r { pt r with m:=some b }) vd c→PgO p pt vd c∨c=b:=by
  rintro c (e | ⟨s,hs,e⟩ | e)
  ·exact .inl (.inl e)
  ·by_cases hs2:s=r
   ·subst hs2;rw[upd_same] at e;cases e;exact .inr rfl
   rw[upd_other _ _ hs2] at e;exact .inl (.inr (.inl ⟨s,hs,e⟩))
  exact .inl (.inr (.inr e))
 have hold:∀s c,s<20→(pt s).m=some c→c<W.heap.size:=fun s c hs e=>(h.pm s hs).lt c e
 refine⟨cell_off g.c0 (by omega) _,cell_off g.c1 (by omega) _,fun s hs=>?_,cell_off g.cd (by omega) _,h5,fun s hs=>?_,fun s u c hs hu hne e1 e2=>?_,h2,fun c hc=>?_,?_,h3,fun c hc=>?_,fun c hc=>?_⟩
 ·by_cases e:s=r
  ·subst e;rw[upd_same];have q:=g.pc s hs;exact⟨World.cell?_setCell_same _ _ _ q.c0,cell_off q.c1 (by omega) _,cell_off q.c2 (by omega) _,cell_off q.c3 (by omega) _,cell_off q.c4 (by omega) _⟩
  rw[upd_other _ _ e];exact (g.pc s hs).off e (j:=0) (by omega) _
 ·by_cases e:s=r
  ·subst e;rw[upd_same,upd_same];exact .inr ⟨b,rfl,hM.kb (p:=fun c=>c≠p) ((Kb.refl _ W1).setCell (q:=⟨p,2+s*5,none⟩) (fun _ h=>h rfl) _) hbp⟩
  rw[upd_other _ _ e,upd_other _ _ e];exact h1 s hs
 ·by_cases es:s=r
  ·subst es;rw[upd_same] at e1;cases e1;rw[upd_other _ _ (Ne.symm hne)] at e2;have:=hold u _ hu e2;omega
  rw[upd_other _ _ es] at e1;by_cases eu:u=r
  ·subst eu;rw[upd_same] at e2;cases e2;have:=hold s _ hs e1;omega
  rw[upd_other _ _ eu] at e2;exact h.ma s u c hs hu hne e1 e2
 ·rcases hO c hc with h6 | rfl
  ·exact h.tx c h6
  exact h.t.off hbl
 ·rcases h.tr with h6 | h6
  ·exact .inl h6
  exact .inr fun ad ha=>(h6 ad ha).imp id .inl
 ·rcases hO c hc with h6 | h6
  ·exact .inl (h.ob c h6)
  exact .inr h6
 rw[h4]
 rcases hc with h6 | rfl
 ·exact⟨(h.lt c h6).1,Nat.lt_of_lt_of_le (h.lt c h6).2 hb.size⟩
 exact⟨by omega,hlb⟩
theorem PgC.putMap (h:PgC W p B0 O n t d x pt mp vd){r b:Nat}(hr:r<20)(hb:(pt r).m=some b){M:List (Int×Op8)}(hg:W.grownBy W' (some b))(hM:MAt intKey opV8 W' b M):PgC W' p B0 O n t d x pt (updF mp r M) vd:=by
 have hbp:=h.mne hr hb;have hk:Kb (fun c=>c≠b) W W':=(Kb.refl _ W).grown hg fun c e _ h=>by cases e;exact h rfl
 have hp:p≠b:=Ne.symm hbp;refine⟨hk.at h.c0 hp,hk.at h.c1 hp,fun s hs=>(h.pc s hs).kb hk hp,hk.at h.cd hp,fun i=>(hk.frozen (q:=⟨p,i,none⟩) h.pl hp).trans (h.f i),fun s hs=>?_,h.ma,h.t.kb hk (h.tx b (.inr (.inl ⟨r,hr,hb⟩))),h.tx,h.tr,?_,h.ob,fun c hc=>⟨(h.lt c hc).1,Nat.lt_of_lt_of_le (h.lt c hc).2 hk.size⟩⟩
 ·by_cases e:s=r
  ·subst e;rw[upd_same];exact .inr ⟨b,hb,hM⟩
  rw[upd_other _ _ e];exact (h.pm s hs).kb hk fun c hc e2=>h.ma s r c hs hr e hc (by rw[e2];exact hb)
 exact own_kb h.d hk fun c hc e=>h.md hr hb (by rw[hc,e])
theorem PgC.setT (h:PgC W p B0 O n t d x pt mp vd){y:SlT}{t':List Ru}(hy:SR W (slV y) t')(hx:∀b,PgO p pt vd b→offB y b)(hr:y.2.1=0∨∀ad,y.1=some ad→B0≤ad.block∧ad.block<W.heap.size):
 PgC (W.setCell ⟨p,1,none⟩ (slV y)) p B0 (fun b=>O b∨∃ad,y.1=some ad∧B0≤ad.block∧ad.block<W.heap.size∧b=ad.block) n t' d y pt mp vd:=by
 obtain⟨h1,h2,h3,h4,h5⟩:=h.rest 1 (slV y);have hk:Kb (fun b=>b≠p) W (W.setCell ⟨p,1,none⟩ (slV y)):=(Kb.refl _ W).setCell (q:=⟨p,1,none⟩) (fun _ h=>h rfl) _;refine⟨cell_off h.c0 (by omega) _,World.cell?_setCell_same _ _ _ h.c1,fun s hs=>(h.pc s hs).off2 hs (by omega) _,cell_off h.cd (by omega) _,h5,h1,h.ma,hy.kb hk (hx p (.inl rfl)),hx,?_,h3,fun b hb=>.inl (h.ob b hb),fun b hb=>?_⟩
 ·rcases hr with h6 | h6
  ·exact .inl h6
  exact .inr fun ad ha=>.inr (.inr ⟨ad,ha,(h6 ad ha).1,(h6 ad ha).2,rfl⟩)
 rw[h4]
 rcases hb with h6 | ⟨ad,_,h6,h7,rfl⟩
 ·exact h.lt b h6
 exact⟨h6,h7⟩
theorem PgC.addD (h:PgC W p B0 O n t d x pt mp vd){k:Int}{u:Value}(hg:W.grownBy W' vd.ownBlock)(ho:W'.ownsRow (p+1) 3 inE.n u (d++[k]).length (cellsG inE (d++[k])))(hb:u.ownBlock=vd.ownBlock∨u.ownBlock=some W.heap.size):
 PgC (W'.setCell ⟨p,102,none⟩ u) p B0 (fun b=>O b∨u.ownBlock=some b) n t (d++[k]) x pt mp u:=by
 have hpd:vd.ownBlock≠some p:=fun e=>h.dne e rfl
 have hk:Kb (fun c=>vd.ownBlock≠some c) W W':=(Kb.refl _ W).grown hg fun c e _ h=>h e
 have hk2:Kb (fun c=>c≠p) W' (W'.setCell ⟨p,102,none⟩ u):=(Kb.refl _ W').setCell (q:=⟨p,102,none⟩) (fun _ h=>h rfl) _;have hO:∀b,PgO p pt u b→PgO p pt vd b∨u.ownBlock=some b:=by
  rintro b (e | e | e)
  ·exact .inl (.inl e)
  ·exact .inl (.inr (.inl e))
  exact .inr e
 refine⟨cell_off (hk.at h.c0 hpd) (by omega) _,cell_off (hk.at h.c1 hpd) (by omega) _,fun s hs=>((h.pc s hs).kb hk hpd).off2 hs (by omega) _,World.cell?_setCell_same _ _ _ (hk.at h.cd hpd),fun i=>?_,fun s hs=>((h.pm s hs).kb hk fun b hb=>h.md hs hb).kb hk2 fun b hb=>h.mne hs hb,h.ma,?_,?_,?_,?_,fun b hb=>(hO b hb).imp (h.ob b) id,?_⟩
 ·rw[World.frozen?_setCell];exact (hk.frozen (q:=⟨p,i,none⟩) h.pl hpd).trans (h.f i)
 ·have h1:SR W' (slV x) t:=h.t.grown hg fun b hb=>h.tx b (.inr (.inr hb))
  exact h1.kb hk2 (h.tx p (.inl rfl))
 ·intro b hb1
  rcases hO b hb1 with h1 | h1
  ·exact h.tx b h1
  rcases hb with h2 | h2
  ·exact h.tx b (.inr (.inr (by rw[←h2];exact h1)))
  rw[h2] at h1;cases h1;exact h.t.off (nLQ _)
 ·rcases h.tr with h1 | h1
  ·exact .inl h1
  exact .inr fun ad ha=>(h1 ad ha).imp id .inl
 ·exact own_kb ho hk2 fun b hb1=>by have:=(ho.lt b hb1).1;omega
 have hs:(W'.setCell ⟨p,102,none⟩ u).heap.size=W'.heap.size:=by simp[World.setCell]
 rw[hs];rintro b (h1 | h1)
 ·exact⟨(h.lt b h1).1,Nat.lt_of_lt_of_le (h.lt b h1).2 hg.size⟩
 have h2:=ho.lt b h1;have h3:=(h.lt p h.pO).1;exact⟨by omega,h2.2⟩
end
structure PtM (a:AgT)(r:Nat)(q:Pt)(M:List (Int×Op8)):Prop where
 hh:q.h=(hdN a.l (r:Int):Int)
 hd:q.d=doneK a (r:Int)
 ha:q.a=decide (0≤manyK a (r:Int))
 hs:q.a=true→q.s=manyK a (r:Int)
 hl:q.s≤1000
 hk:q.d=false→∀i,mget qI i M=keptO a.l (r:Int) i
def Pg (W:World)(p B0:Nat)(O:Nat→Prop)(n:Int)(a:AgT):Prop:=∃x pt mp vd,PgC W p B0 O n a.t a.d x pt mp vd∧(∀r,r<20→PtM a r (pt r) (mp r))∧∀q∈a.l,0≤q.r∧q.r<20
theorem Pg.kb {W W':World}{p B0:Nat}{O:Nat→Prop}{n:Int}{a:AgT}(h:Pg W p B0 O n a)(hk:Kb (fun b=>b<B0∨O b) W W'):Pg W' p B0 O n a:=by
 obtain⟨x,pt,mp,vd,h,h2⟩:=h;exact⟨x,pt,mp,vd,h.kb hk,h2⟩
theorem Pg.later {W W':World}{p B0:Nat}{O:Nat→Prop}{n:Int}{a:AgT}(h:Pg W p B0 O n a)(hb:Below W.heap.size W W'):Pg W' p B0 O n a:=by
 obtain⟨x,pt,mp,vd,h,h2⟩:=h;exact⟨x,pt,mp,vd,h.later hb,h2⟩
theorem Pg.lt {W:World}{p B0:Nat}{O:Nat→Prop}{n:Int}{a:AgT}(h:Pg W p B0 O n a):∀b,O b→B0≤b∧b<W.heap.size:=by
 obtain⟨x,pt,mp,vd,h,h2⟩:=h;exact h.lt
theorem all_M {a:AgT}{r:Nat}{q:Pt}{M:List (Int×Op8)}(h:PtM a r q M)(hd:q.d=false)(n:Nat):((List.range n).all fun (k:Nat)=>(mget qI (k:Int) M).isSome)=allK a.l (r:Int) n:=by
 rw[allK]
 congr 1
 funext k
 rw[h.hk hd,kept_has]
theorem pt_ready {a:AgT}{r:Nat}{q:Pt}{M:List (Int×Op8)}(h:PtM a r q M):(!q.d&&(q.a&&((List.range q.s.toNat).all fun (k:Nat)=>(mget qI (k:Int) M).isSome)))=rdyB a (r:Int):=by
 have e:rdyB a (r:Int)=(!doneK a (r:Int)&&decide (0≤manyK a (r:Int))&&allK a.l (r:Int) (manyK a (r:Int)).toNat):=rfl;rw[e,Bool.and_assoc,←h.hd,←h.ha];cases hd:q.d with
 | true=>rfl
 | false =>
   cases ha:q.a with
   | false=>rfl
   | true=>rw[all_M h hd,h.hs ha]
end
end Go.Proofs.YtcbapfgohocghaaDoor
