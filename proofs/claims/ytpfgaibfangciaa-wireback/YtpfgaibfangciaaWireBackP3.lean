/- Contracts and facts on the way to WireBack, joined into one text: WireBack. -/
import Derived.Test.YtpfgaibfangciaaWireBackP2
namespace Go.Proofs.Ytpfgaibfangciaa.wireBack
set_option linter.unusedSimpArgs false
set_option linter.unusedVariables false
set_option maxHeartbeats 16000000
set_option maxRecDepth 100000
open Go.Proofs.Try
open IntKind (i64)
section
open Go.RowKit
theorem fact_n:mgN ⟨3,2,1,0,⟨0,false,⟨0,0,0,0,0,0⟩⟩⟩=0:=by decide +kernel
theorem fact_e:enT ⟨3,2,1,0,⟨0,false,⟨0,0,0,0,0,0⟩⟩⟩=⟨#[3,2,1,0,6]⟩:=by
 apply ba_ext
 decide +kernel
def enL (l:List Mg)(k:Nat):List Int:=(List.range k).map fun j=>(mjE l (j+1):Int)
theorem en_len (l:List Mg)(k:Nat):(enL l k).length=k:=by simp[enL]
theorem en_up (l:List Mg)(k:Nat):enL l (k+1)=enL l k++[(mjE l (k+1):Int)]:=by simp[enL,List.range_succ]
theorem en_at (l:List Mg){k j:Nat}(h:j<(enL l k).length):(enL l k)[j]=(mjE l (j+1):Int):=by simp[enL]
theorem mje_take (l:List Mg){j k:Nat}(h:j≤k):mjE (l.take k) j=mjE l j:=by
 unfold mjE;rw[List.take_take,Nat.min_eq_left h]
theorem mjt_up (l:List Mg){k:Nat}(h:k<l.length):mjT (l.take (k+1))=mjT (l.take k)++mgT l[k]:=by
 rw[List.take_succ_eq_append_getElem h,mj_snoc]
theorem ok_up {l:List Mg}{k:Nat}(h:k<l.length)(h1:okM (l.take k))(h2:mgN l[k]=0):okM (l.take (k+1)):=by
 intro x hx;rw[List.take_succ_eq_append_getElem h,List.mem_append,List.mem_singleton] at hx
 rcases hx with hx | rfl
 ·exact h1 x hx
 exact h2
theorem wt_of {b:ByteArray}(h:wtN b=0):wtM b=some (wtL b,wtR b):=by
 unfold wtN at h;unfold wtL wtR;cases hw:wtM b with
 | none=>rw[hw] at h;cases h
 | some p=>rfl
theorem walk (ao:AdQ)(n cap:Nat)(l:List Mg)(cu a t:Int)(ht:0≤t∧t≤255)(w:World)(hs:GS msgE w (.slice ao n cap) l):
 Calls prog 3 #[.slice ao n cap,.int i64 cu,.int i64 a,.int .u8 t] w fun e w'=>e=.returned (.bool true)∧Below w.heap.size w w':=by
 obtain⟨ao',n',cap',e,hn,hn2,hn3,ha⟩:=hs.form;cases e;have HN:Hid (l.length=n):=hn;have HA:Hid (0<n→∃g o,ao=some ⟨g,o,none⟩∧GAt msgE w g o l∧cap≤maxLen):=ha;have HTO:Hid (0≤t∧t≤255):=ht;have hn63:n≤9223372036854775807:=by unfold maxLen at hn2;omega
 obtain⟨j0,hj,hy0,hy1,hy2⟩:=info_parts infoNum;have HJ:Hid (Try.prog.info? 3=some j0∧j0.zero=some (.int i64 0)∧j0.size=1∧j0.bytes=8):=⟨hj,hy0,hy1,hy2⟩;obtain⟨Fa,hF⟩:∃F,F=enT ⟨3,2,1,0,⟨0,false,⟨0,0,0,0,0,0⟩⟩⟩:=⟨_,rfl⟩;have HF:Hid (enT ⟨3,2,1,0,⟨0,false,⟨0,0,0,0,0,0⟩⟩⟩=Fa):=hF.symm;have hF5:(Fa.toList==[3,2,1,0,6])=true:=by rw[hF,fact_e,Lib.toList_data];rfl
 clear hs hn ha ht hj hy0 hy1 hy2 hF;go_enter func3,ntmps3
 go_wp2_with fail
 refine (wenc_any 3 2 1 0 0 false 0 0 0 0 0 0 w).mono ?_;rintro e w1 ⟨rfl,hb1⟩;rw[HF.out,fact_n,no_ok rfl];have HB1:Hid (Below w.heap.size w w1):=hb1;clear hb1
 go_upto_block 0 with fail
 go_cut [11,12] from 13 (fun v11 v12 w'=>∃k:Nat,k≤n∧l.take 20=l.take k∧k≤20∧okM (l.take k)∧v11=.string (mjT (l.take k))∧w'.ownsRow w.heap.size 3 inE.n v12 (enL l k).length (cellsG inE (enL l k))∧Below w.heap.size w w')
 case first =>
  go_wp2
  go_loopw [11,12,13] (fun v11 v12 i wr=>∃k:Nat,k≤n∧k≤20∧i=.int i64 (k:Int)∧okM (l.take k)∧v11=.string (mjT (l.take k))∧wr.ownsRow w.heap.size 3 inE.n v12 (enL l k).length (cellsG inE (enL l k))∧Below w.heap.size w wr) (fun _ _ i _=>n-(intOf i).toNat)
  case atStart=>exact⟨0,Nat.zero_le _,Nat.zero_le _,rfl,(fun m hm=>absurd hm (by simp)),rfl,World.ownsRow_nil _ _ _ _,HB1.out⟩
  case round =>
   obtain⟨k,hk,hk20,rfl,hok,rfl,hown,hB⟩:=hrel;have HOK:Hid (okM (l.take k)):=hok;have HB:Hid (Below w.heap.size w wr):=hB;have HOW:Hid (wr.ownsRow w.heap.size 3 inE.n u12 (enL l k).length (cellsG inE (enL l k))):=hown;obtain⟨A,hA⟩:∃A,A=mjT (l.take k):=⟨_,rfl⟩;have HAT:Hid (mjT (l.take k)=A):=hA.symm;rw[←hA];clear hok hown hA;by_cases hlt:k<n
   ·by_cases h20:k<20
    ·as_aux_lemma =>
      obtain⟨g,og,hao,hc,_⟩:=HA.out (by omega);subst hao;obtain⟨x0,x1,x2,x3,x4,x5,x6,x7,x8,x9,x10,x11,hkl,hLk,q0,q1,q2,q3,q4,q5,q6,q7,q8,q9,q10,q11⟩:=msg_at (hc.later hB) HN.out hlt;have HCL:Hid (∀W,Below w.heap.size w W→VAt W g (og+k*12) (msgE.c ⟨x0,x1,x2,x3,⟨x4,x5,⟨x6,x7,x8,x9,x10,x11⟩⟩⟩)):=fun W h=>by
       have:=(hc.later h) k hkl;rw[hLk] at this;exact this
      have HLK:Hid (l[k]=⟨x0,x1,x2,x3,⟨x4,x5,⟨x6,x7,x8,x9,x10,x11⟩⟩⟩):=hLk;obtain⟨Z,hZ⟩:∃Z,Z=mgN ⟨x0,x1,x2,x3,⟨x4,x5,⟨x6,x7,x8,x9,x10,x11⟩⟩⟩:=⟨_,rfl⟩;obtain⟨E,hE⟩:∃E,E=enT ⟨x0,x1,x2,x3,⟨x4,x5,⟨x6,x7,x8,x9,x10,x11⟩⟩⟩:=⟨_,rfl⟩;have HZ:Hid (mgN ⟨x0,x1,x2,x3,⟨x4,x5,⟨x6,x7,x8,x9,x10,x11⟩⟩⟩=Z∧enT ⟨x0,x1,x2,x3,⟨x4,x5,⟨x6,x7,x8,x9,x10,x11⟩⟩⟩=E):=⟨hZ.symm,hE.symm⟩;have i0:(0:Int)≤(k:Int):=by omega
      have i1:(k:Int)<(n:Int):=by omega
      have i2:(k:Int)<20:=by omega
      clear hB hc hLk hZ hE
      go_wp2_with fail
      refine (wenc_any x0 x1 x2 x3 x4 x5 x6 x7 x8 x9 x10 x11 wr).mono ?_;rintro e w2 ⟨rfl,hb2⟩;rw[HZ.out.1,HZ.out.2];have HB2:Hid (Below wr.heap.size wr w2):=hb2;have HBW2:Hid (Below w.heap.size w w2):=HB.out.trans (hb2.mono HB.out.size);clear hb2 q0 q1 q2 q3 q4 q5 q6 q7 q8 q9 q10 q11;obtain⟨q0,q1,q2,q3,q4,q5,q6,q7,q8,q9,q10,q11⟩:=msg_cells (HCL.out w2 HBW2.out);by_cases hz:Z=0
      ·have HZ0:Hid (mgN ⟨x0,x1,x2,x3,⟨x4,x5,⟨x6,x7,x8,x9,x10,x11⟩⟩⟩=0):=by rw[hz] at HZ;exact HZ.out.1
       have HET:Hid (mgT ⟨x0,x1,x2,x3,⟨x4,x5,⟨x6,x7,x8,x9,x10,x11⟩⟩⟩=E):=by show _=_;rw[←HZ.out.2,enT,if_pos HZ0.out]
       have HDC:Hid (dcV E=⟨x0,x1,x2,x3,⟨x4,x5,⟨x6,x7,x8,x9,x10,x11⟩⟩⟩∧noV (dcE E)=.nilIface):=by
        have h:=dc_back HZ0.out;rw[HET.out] at h;exact⟨h.2,(dc_yes h.1).2⟩
       subst hz;rw[no_ok rfl];clear q0 q1 q2 q3 q4 q5 q6 q7 q8 q9 q10 q11
       go_wp2_with fail
       refine (wdec_any E w2).mono ?_;rintro e w3 ⟨rfl,hb3⟩;rw[HDC.out.1,HDC.out.2]
       dsimp only[mgV]
       obtain⟨w4,hw4⟩:∃V,V=w3.alloc (.cells #[.int i64 x0,.int i64 x1,.int i64 x2,.int i64 x3,.int i64 x4,.bool x5,.int i64 x6,.int i64 x7,.int i64 x8,.int i64 x9,.int i64 x10,.int i64 x11] 34):=⟨_,rfl⟩;have hb4:Below w3.heap.size w3 w4:=by rw[hw4];exact (bRQ _ _).alloc (nLQ _) _
       have HB4:Hid (Below wr.heap.size wr w4):=HB2.out.trans ((hb3.trans (hb4.mono hb3.size)).mono HB2.out.size);have HBW4:Hid (Below w.heap.size w w4):=HB.out.trans (HB4.out.mono HB.out.size);have hm4:MgC w4 w3.heap.size x0 x1 x2 x3 x4 x5 x6 x7 x8 x9 x10 x11:=by rw[hw4];exact mgc_new w3 x0 x1 x2 x3 x4 x5 x6 x7 x8 x9 x10 x11 _
       have HW4:Hid (w3.alloc (.cells #[.int i64 x0,.int i64 x1,.int i64 x2,.int i64 x3,.int i64 x4,.bool x5,.int i64 x6,.int i64 x7,.int i64 x8,.int i64 x9,.int i64 x10,.int i64 x11] 34)=w4):=hw4.symm;clear hw4 hb3 hb4;go_upto_region 13 with fail;rw[HW4.out];obtain⟨m0,m1,m2,m3,m4,m5,m6,m7,m8,m9,m10,m11⟩:=hm4;obtain⟨q0,q1,q2,q3,q4,q5,q6,q7,q8,q9,q10,q11⟩:=msg_cells (HCL.out w4 HBW4.out)
       go_region
       have HOW4:Hid (w4.drew.ownsRow w.heap.size 3 inE.n u12 (enL l k).length (cellsG inE (enL l k))):=own_below HOW.out (HB4.out.drew);have HBD:Hid (Below w.heap.size w w4.drew):=HBW4.out.drew;have hszd:w.heap.size≤w4.heap.size:=HBW4.out.size;clear q0 q1 q2 q3 q4 q5 q6 q7 q8 q9 q10 q11 m0 m1 m2 m3 m4 m5 m6 m7 m8 m9 m10 m11;have HA2:Hid (mjT (l.take (k+1))=A++E):=by show _=_;rw[mjt_up l hkl,HLK.out,HET.out,HAT.out]
       have HEN:Hid (((A++E).size:Int)=(mjE l (k+1):Int)):=by
        show _=_;rw[←HA2.out];rfl
       have hAE:A.size+E.size≤9223372036854775807:=by
        have h1:=(mj_size HOK.out).2;rw[HAT.out] at h1;have h2:(l.take k).length≤20:=by rw[List.length_take];omega
        have h3:=(mg_len HZ0.out).2;rw[HET.out] at h3;have h4:E.size≤12:=by rw[h3];split <;> omega
        omega
       have hAE2:A.size+E.size≤maxLen:=by unfold maxLen;omega
       obtain⟨S,hS⟩:∃S:Int,((A++E).size:Int)=S:=⟨_,rfl⟩;have hS2:(A.size:Int)+(E.size:Int)=S:=by rw[←hS,ByteArray.size_append];omega
       have HSE:Hid (S=(mjE l (k+1):Int)):=by show _=_;rw[←hS];exact HEN.out
       go_wp2_with (at_builtin;refine wpList_append_blk (E:=inE) _ rfl _ _ 35 3 rfl underlying35 j0 _ 8 HJ.out.1 HJ.out.2.1 HJ.out.2.2.1 HJ.out.2.2.2 rfl w.heap.size _ rfl (enL l k) (HOW4.out.alloc _) w4.drew.heap.size 0 1 rfl S (vat_new w4.drew [.int i64 S] _) ?c1 ?c2 ?c3 ?_)
       case c1=>rw[en_len];unfold maxLen;omega
       case c2=>rw[en_len];omega
       case c3=>first | (simp;omega) | omega
       intro v' w5 hown5 hgrow _;have HB5:Hid (Below w.heap.size w w5):=(HBD.out.alloc hszd _).grown hgrow (by simp;omega) (fun g hg=>(HOW4.out.lt g hg).1);have HO5:Hid (w5.ownsRow w.heap.size 3 inE.n v' (enL l (k+1)).length (cellsG inE (enL l (k+1)))):=by
        show w5.ownsRow _ _ _ _ _ _;rw[en_up,List.length_append,←HSE.out];exact hown5
       have HOK5:Hid (okM (l.take (k+1))):=ok_up hkl HOK.out (by rw[HLK.out];exact HZ0.out);clear hgrow hown5 hS hS2;go_wp2;go_roundw
       case rel=>exact⟨k+1,by omega,by omega,by go_num,HOK5.out,by rw[HA2.out],HO5.out,HB5.out⟩
       case measure=>simp[intOf];omega
      rw[no_ne hz];have hz2:(Z != 0)=true:=by simpa using hz
      have hz3:(Z==0)=false:=by simpa using hz
      go_wp2_with fail
      refine (rmsg_any x0 x1 x2 x3 x4 x5 x6 x7 x8 x9 x10 x11 w2).mono ?_;rintro e w3 ⟨rfl,hb3⟩;rw[HZ.out.1];have HB3:Hid (Below w.heap.size w w3):=HBW2.out.trans (hb3.mono HBW2.out.size);clear hb3 q0 q1 q2 q3 q4 q5 q6 q7 q8 q9 q10 q11;go_wp2;refine bodyPost_ret (v:=.bool true) (by simp[results,results3,go_sem, *]) rfl ⟨rfl,?_⟩;exact HB3.out
    have hk20':k=20:=by omega
    have HT:Hid (l.take 20=l.take k):=by rw[hk20'];exact rfl
    have i1:(k:Int)<(n:Int):=by omega
    have i2:¬(k:Int)<20:=by omega
    clear hB hk20'
    go_wp2_with fail
    go_meet
    exact⟨k,hk,HT.out,hk20,HOK.out,by rw[HAT.out],HOW.out,HB.out⟩
   have HT:Hid (l.take 20=l.take k):=by
    have:=HN.out;show _=_;rw[List.take_of_length_le (by omega),List.take_of_length_le (by omega)]
   have i1:¬(k:Int)<(n:Int):=by omega
   clear hB
   go_wp2_with fail
   go_meet
   exact⟨k,hk,HT.out,hk20,HOK.out,by rw[HAT.out],HOW.out,HB.out⟩
 case rest =>
  obtain⟨k,hkn,hT20,hk20,hok,rfl,hown,hB⟩:=hcut;obtain⟨w2,hw2⟩:∃V,V=wc:=⟨_,rfl⟩;subst hw2;obtain⟨A,hA⟩:∃A,A=mjT (l.take k):=⟨_,rfl⟩;rw[←hA];have HAT:Hid (mjT (l.take k)=A∧mjT (l.take 20)=A∧okM (l.take k)∧okM (l.take 20)∧(l.take k).length=k):=⟨hA.symm,by rw[hT20];exact hA.symm,hok,by rw[hT20];exact hok,by rw[List.length_take,HN.out];omega⟩;have HASZ:Hid (A.size≤240):=by
   show _≤_;have h1:=(mj_size hok).2;rw[←hA] at h1;have h2:(l.take k).length≤20:=by rw[List.length_take];omega
   omega
  have HB2:Hid (Below w.heap.size w w2):=hB;obtain⟨ae,ne,ce,hue,hne,_,_,hae⟩:=(own_GS hown).form;rw[en_len] at hne;subst hne;subst hue;have HEN:Hid (∀j,j<k→∃g o,ae=some ⟨g,o,none⟩∧∀W,Below w2.heap.size w2 W→W.cell? ⟨g,o+j,none⟩=some (.int i64 (mjE l (j+1):Int))):=fun j hj=>by
   obtain⟨g,o,h1,h2,_⟩:=hae (by omega);refine⟨g,o,h1,fun W hW=>?_⟩;obtain⟨x,hxl,hx,hc⟩:=in_at (h2.later hW) (en_len l k) hj;rw[hc,←hx,en_at]
  clear hown hB hok hT20 hA hae;by_cases c0:cu<0
  ·go_wp2;refine bodyPost_ret (v:=.bool true) (by simp[results,results3,go_sem, *]) rfl ⟨rfl,?_⟩;exact HB2.out
  by_cases c1:(A.size:Int)<cu
  ·go_wp2;refine bodyPost_ret (v:=.bool true) (by simp[results,results3,go_sem, *]) rfl ⟨rfl,?_⟩;exact HB2.out
  obtain⟨c,hc⟩:∃c:Nat,cu=(c:Int):=⟨cu.toNat,by omega⟩;subst hc;have hcA:c≤A.size:=by omega
  have c2:(c:Int)≤(A.size:Int):=by omega
  have c3:(0:Int)≤(c:Int):=by omega
  obtain⟨T,hT⟩:∃T,T=A.extract 0 c:=⟨_,rfl⟩;have HT:Hid (A.extract 0 c=T):=hT.symm;have HTS:Hid (T.size≤1048576):=by
   show _≤_;rw[hT,ByteArray.size_extract];have:=HASZ.out;omega
  have HWT:Hid (∀j,j≤k→mjE l j≤c→(j=k∨c<mjE l (j+1))→wtM T=some (l.take j,A.extract (mjE l j) c)):=fun j hj h1 h2=>by
   have h:=wt_cut (L:=l.take k) HAT.out.2.2.1 (k:=j) (c:=c) (by rw[HAT.out.2.2.2.2];exact hj) (by rw[mje_take l hj];exact h1) (by rw[HAT.out.1];exact hcA) (by
    rw[HAT.out.2.2.2.2]
    rcases h2 with h2 | h2
    ·exact .inl h2
    rcases Nat.lt_or_ge j k with h3 | h3
    ·right;rw[mje_take l h3];exact h2
    exact .inl (by omega))
   rw[HAT.out.1,mje_take l hj,List.take_take,Nat.min_eq_left hj,←hT] at h;exact h
  clear hT
  go_wp2_with fail
  rw[HT.out];refine (wcut_any T HTS.out w2).mono ?_;rintro e w5 ⟨v5,rfl,hs5,hb5⟩;obtain⟨N2,hN2⟩:∃N,N=wtN T:=⟨_,rfl⟩;obtain⟨R,hR⟩:∃R,R=wtR T:=⟨_,rfl⟩;obtain⟨Mg5,hM5⟩:∃L,L=wtL T:=⟨_,rfl⟩;have HWN:Hid (wtN T=N2∧wtL T=Mg5∧wtR T=R):=⟨hN2.symm,hM5.symm,hR.symm⟩;rw[←hN2,←hR];rw[←hM5] at hs5;clear hN2 hR hM5;obtain⟨a5,n5,c5,hv5,hl5,_,_,ha5⟩:=hs5.form;subst hv5;have HL5:Hid (Mg5.length=n5):=hl5;have HA5:Hid (0<n5→∃g o,a5=some ⟨g,o,none⟩∧GAt msgE w5 g o Mg5∧c5≤maxLen):=ha5;have HB5:Hid (Below w2.heap.size w2 w5):=hb5;have HBW5:Hid (Below w.heap.size w w5):=HB2.out.trans (hb5.mono HB2.out.size);clear hs5 hb5 hl5 ha5
  go_upto_block 2 with fail
  go_cut [20,21] from 22 (fun nn fr w'=>∃j:Nat,j≤k∧nn=.int i64 (j:Int)∧fr=.int i64 (mjE l j:Int)∧mjE l j≤c∧(j=k∨c<mjE l (j+1))∧w'=w5)
  case first =>
   go_wp2
   go_loopw [20,21] (fun nn fr wr=>∃j:Nat,j≤k∧nn=.int i64 (j:Int)∧fr=.int i64 (mjE l j:Int)∧mjE l j≤c∧wr=w5) (fun nn _ _=>k-(intOf nn).toNat)
   case atStart=>exact⟨0,Nat.zero_le _,rfl,rfl,Nat.zero_le _,rfl⟩
   case round =>
    obtain⟨j,hj,rfl,rfl,hjc,hwr⟩:=hrel;have hwr2:=hwr.symm;subst hwr2;clear hwr;by_cases hjk:j<k
    ·obtain⟨ge,oe,hae,hce⟩:=HEN.out j hjk;subst hae;have p0:=hce w5 HB5.out;have j0':(0:Int)≤(j:Int):=by omega
     have j1:(j:Int)<(k:Int):=by omega
     obtain⟨Q,hQ⟩:∃Q:Nat,Q=mjE l (j+1):=⟨_,rfl⟩;have HQ:Hid (mjE l (j+1)=Q):=hQ.symm;rw[←hQ] at p0;clear hce hQ;by_cases hq:Q≤c
     ·have hq1:(Q:Int)≤(c:Int):=by omega
      go_wp2;go_roundw
      case rel=>exact⟨j+1,by omega,by go_num,by rw[HQ.out],by rw[HQ.out];exact hq,by first | exact trivial | rfl⟩
      case measure=>simp[intOf];omega
     have hq1:¬(Q:Int)≤(c:Int):=by omega
     have hq2:(c:Int)<(Q:Int):=by omega
     go_wp2_with fail
     go_meet
     exact⟨j,hj,rfl,rfl,hjc,.inr (by rw[HQ.out];omega),rfl⟩
    have j1:¬(j:Int)<(k:Int):=by omega
    go_wp2_with fail
    go_meet
    exact⟨j,hj,rfl,rfl,hjc,.inl (by omega),rfl⟩
  case rest =>
   obtain⟨j,hj,rfl,rfl,hjc,hje,hwc⟩:=hcut;have hwc2:=hwc.symm;subst hwc2;clear hwc;obtain⟨e1,e2,e3⟩:=wt_some (HWT.out j hj hjc hje);have hN0:N2=0:=by rw[←HWN.out.1];exact e1
   have hM5:Mg5=l.take j:=by rw[←HWN.out.2.1];exact e2
   have hn5:n5=j:=by rw[←HL5.out,hM5,List.length_take,HN.out];omega
   obtain⟨Q,hQ⟩:∃Q:Nat,Q=mjE l j:=⟨_,rfl⟩;rw[←hQ] at e3 hjc;rw[←hQ];have hRe:A.extract Q c=R:=by rw[←e3];exact HWN.out.2.2
   have hRR:(R.toList==R.toList)=true:=by simp
   subst hN0;subst hn5;rw[no_ok rfl];have q1:(0:Int)≤(Q:Int):=by omega
   have q2:(Q:Int)≤(c:Int):=by omega
   have hnn:((n5:Int) != (n5:Int))=false:=by simp
   have HM5:Hid (Mg5=l.take n5):=hM5;have HJK:Hid (n5≤k):=hj;clear e1 e2 e3 hje hM5 hQ hj
   go_upto_block 4 with fail
   go_cut [] from 22 (fun w'=>Below w.heap.size w w')
   case first =>
    clear hRe q1 q2 hRR;go_wp2
    go_loopw [22] (fun i wr=>∃k:Nat,k≤n5∧i=.int i64 (k:Int)∧Below w5.heap.size w5 wr) (fun i _=>n5-(intOf i).toNat)
    case atStart=>exact⟨0,Nat.zero_le _,rfl,bRQ _ _⟩
    case round =>
     rename_i k'
     obtain⟨k,hk,rfl,hB⟩:=hrel;have HBR:Hid (Below w.heap.size w wr):=HBW5.out.trans (hB.mono HBW5.out.size);by_cases hlt:k<n5
     ·obtain⟨g5,o5,ha5,hc5,_⟩:=HA5.out (by omega);subst ha5;obtain⟨g,og,hao,hc,_⟩:=HA.out (by have:=HJK.out;omega);subst hao;obtain⟨x0,x1,x2,x3,x4,x5,x6,x7,x8,x9,x10,x11,hxl,hxk,q0,q1,q2,q3,q4,q5,q6,q7,q8,q9,q10,q11⟩:=msg_at (hc5.later hB) HL5.out hlt;obtain⟨y0,y1,y2,y3,y4,y5,y6,y7,y8,y9,y10,y11,hyl,hyk,r0,r1,r2,r3,r4,r5,r6,r7,r8,r9,r10,r11⟩:=msg_at (hc.later HBR.out) HN.out (k:=k) (by have:=HJK.out;omega);have HXY:Hid ((⟨x0,x1,x2,x3,⟨x4,x5,⟨x6,x7,x8,x9,x10,x11⟩⟩⟩:Mg)=⟨y0,y1,y2,y3,⟨y4,y5,⟨y6,y7,y8,y9,y10,y11⟩⟩⟩):=by
       show _=_;rw[←hxk,←hyk];have h:=HM5.out;simp only[h,List.getElem_take]
      have HCE:Hid (msgCD w g5 (o5+k*12) x0 x1 x2 x3 x4 x5 x6 x7 x8 x9 x10 x11 g (og+k*12) y0 y1 y2 y3 y4 y5 y6 y7 y8 y9 y10 y11 wr):=⟨HBR.out,⟨q0,q1,q2,q3,q4,q5,q6,q7,q8,q9,q10,q11⟩,r0,r1,r2,r3,r4,r5,r6,r7,r8,r9,r10,r11⟩;have k0:(0:Int)≤(k:Int):=by omega
      have k1:(k:Int)<(n5:Int):=by omega
      have k2:(k:Int)<(n:Int):=by have:=HJK.out;omega
      have HEQ:Hid (msgB ⟨x0,x1,x2,x3,⟨x4,x5,⟨x6,x7,x8,x9,x10,x11⟩⟩⟩ ⟨y0,y1,y2,y3,⟨y4,y5,⟨y6,y7,y8,y9,y10,y11⟩⟩⟩=true):=(msgB_iff _ _).2 HXY.out;have HB0:Hid (Below w5.heap.size w5 wr):=hB;clear q0 q1 q2 q3 q4 q5 q6 q7 q8 q9 q10 q11 r0 r1 r2 r3 r4 r5 r6 r7 r8 r9 r10 r11 hB hc5 hc hxk hyk;go_upto_region 30 with fail
      go_cut [151] from 143 to 151 (fun c w'=>c=.bool (!msgB ⟨x0,x1,x2,x3,⟨x4,x5,⟨x6,x7,x8,x9,x10,x11⟩⟩⟩ ⟨y0,y1,y2,y3,⟨y4,y5,⟨y6,y7,y8,y9,y10,y11⟩⟩⟩)∧Below wr.heap.size wr w')
      case first =>
       as_aux_lemma =>
        refine wp_region_quiet (C:=msgCD wr g5 (o5+k*12) x0 x1 x2 x3 x4 x5 x6 x7 x8 x9 x10 x11 g (og+k*12) y0 y1 y2 y3 y4 y5 y6 y7 y8 y9 y10 y11) (by kernel_rfl) (by kernel_rfl) (msgCD.later (W:=wr) (Below.drew (bRQ _ _)) ⟨bRQ _ _,HCE.out.2⟩) ?_;simp only[List.toList_toArray];go_big_quiet_want;refine qv (.slice (some ⟨g5,o5,none⟩) n5 c5) ?_ ?_
        ·rintro w' ⟨z,⟨z0,z1,z2,z3,z4,z5,z6,z7,z8,z9,z10,z11⟩,u0,u1,u2,u3,u4,u5,u6,u7,u8,u9,u10,u11⟩;go_simp
        simp only[Act.put,AP];go_big_quiet_on;go_big_quiet_want;refine qv (.int i64 (k:Int)) ?_ ?_
        ·rintro w' ⟨z,⟨z0,z1,z2,z3,z4,z5,z6,z7,z8,z9,z10,z11⟩,u0,u1,u2,u3,u4,u5,u6,u7,u8,u9,u10,u11⟩;go_simp
        simp only[Act.put,AP];go_big_quiet_on;go_big_quiet_want;refine qv (.pointer (some ⟨g5,o5+k*12,none⟩)) ?_ ?_
        ·rintro w' ⟨z,⟨z0,z1,z2,z3,z4,z5,z6,z7,z8,z9,z10,z11⟩,u0,u1,u2,u3,u4,u5,u6,u7,u8,u9,u10,u11⟩;go_simp
        simp only[Act.put,AP];go_big_quiet_on;go_big_quiet_want;refine qv (.agg #[.int i64 x0,.int i64 x1,.int i64 x2,.int i64 x3,.int i64 x4,.bool x5,.int i64 x6,.int i64 x7,.int i64 x8,.int i64 x9,.int i64 x10,.int i64 x11]) ?_ ?_
        ·rintro w' ⟨z,⟨z0,z1,z2,z3,z4,z5,z6,z7,z8,z9,z10,z11⟩,u0,u1,u2,u3,u4,u5,u6,u7,u8,u9,u10,u11⟩;go_simp
        simp only[Act.put,AP];go_big_quiet_on;go_big_quiet_want;refine qv (.slice (some ⟨g,og,none⟩) n cap) ?_ ?_
        ·rintro w' ⟨z,⟨z0,z1,z2,z3,z4,z5,z6,z7,z8,z9,z10,z11⟩,u0,u1,u2,u3,u4,u5,u6,u7,u8,u9,u10,u11⟩;go_simp
        simp only[Act.put,AP];go_big_quiet_on;go_big_quiet_want;refine qv (.int i64 (k:Int)) ?_ ?_
        ·rintro w' ⟨z,⟨z0,z1,z2,z3,z4,z5,z6,z7,z8,z9,z10,z11⟩,u0,u1,u2,u3,u4,u5,u6,u7,u8,u9,u10,u11⟩;go_simp
        simp only[Act.put,AP];go_big_quiet_on;go_big_quiet_want;refine qv (.pointer (some ⟨g,og+k*12,none⟩)) ?_ ?_
        ·rintro w' ⟨z,⟨z0,z1,z2,z3,z4,z5,z6,z7,z8,z9,z10,z11⟩,u0,u1,u2,u3,u4,u5,u6,u7,u8,u9,u10,u11⟩;go_simp
        simp only[Act.put,AP];go_big_quiet_on;go_big_quiet_want;refine qv (.agg #[.int i64 y0,.int i64 y1,.int i64 y2,.int i64 y3,.int i64 y4,.bool y5,.int i64 y6,.int i64 y7,.int i64 y8,.int i64 y9,.int i64 y10,.int i64 y11]) ?_ ?_
        ·rintro w' ⟨z,⟨z0,z1,z2,z3,z4,z5,z6,z7,z8,z9,z10,z11⟩,u0,u1,u2,u3,u4,u5,u6,u7,u8,u9,u10,u11⟩;go_simp
        simp only[Act.put,AP];go_big_quiet_on;go_big_quiet_want;refine quiet_val (v:=.bool (!msgB ⟨x0,x1,x2,x3,⟨x4,x5,⟨x6,x7,x8,x9,x10,x11⟩⟩⟩ ⟨y0,y1,y2,y3,⟨y4,y5,⟨y6,y7,y8,y9,y10,y11⟩⟩⟩)) (fun w' hC=>exec_bin rfl (by go_simp) (run_neq_of (msg_eq x0 x1 x2 x3 x4 x5 x6 x7 x8 x9 x10 x11 y0 y1 y2 y3 y4 y5 y6 y7 y8 y9 y10 y11 w'))) ?_;simp only[Act.put,AP];go_big_quiet_on;refine wpQuiet_nil ?_;intro w' hC
        go_wp2_with fail
        go_meet
        case rel=>exact⟨rfl,hC.1⟩
      case rest =>
       obtain⟨rfl,hB2⟩:=hcut;rw[HEQ.out];have HB2':Hid (Below w5.heap.size w5 wc):=HB0.out.trans (hB2.mono HB0.out.size);clear hB2;go_wp2;go_roundw
       case rel=>exact⟨k+1,by omega,by go_num,HB2'.out⟩
       case measure=>simp[intOf];omega
     have k1:¬(k:Int)<(n5:Int):=by omega
     clear hB
     go_wp2_with fail
     go_meet
     exact HBR.out
   case rest =>
    have HBC:Hid (Below w.heap.size w wc):=hcut;obtain⟨w6,hw6⟩:∃V,V=wc:=⟨_,rfl⟩;subst hw6;clear hcut hRe q1 q2 hRR hnn;by_cases a0:a<0
    ·go_wp2;refine bodyPost_ret (v:=.bool true) (by simp[results,results3,go_sem, *]) rfl ⟨rfl,?_⟩;exact HBC.out
    by_cases a1:(A.size:Int)≤a
    ·go_wp2;refine bodyPost_ret (v:=.bool true) (by simp[results,results3,go_sem, *]) rfl ⟨rfl,?_⟩;exact HBC.out
    obtain⟨i,hi⟩:∃i:Nat,a=(i:Int):=⟨a.toNat,by omega⟩;subst hi;have hia:i<A.size:=by omega
    have i0:(0:Int)≤(i:Int):=by omega
    have i1:(i:Int)<(A.size:Int):=by omega
    by_cases h3:(A[i].toNat:Int)=t
    ·have h3':((A[i].toNat:Int)==t)=true:=by simpa using h3
     clear h3;go_wp2;refine bodyPost_ret (v:=.bool true) (by simp[results,results3,go_sem, *]) rfl ⟨rfl,?_⟩;exact HBC.out
    have h3':((A[i].toNat:Int)==t)=false:=by simpa using h3
    have HNO:Hid (∀R:ByteArray,R.size=0→¬wtM (chB A i t)=some (l,R)):=fun R hR h=>by
     rw[ba_nil hR] at h;have hb:=back_no (L:=l) (i:=i) (t:=t) HAT.out.2.2.2.1 (by rw[HAT.out.2.1];exact hia) HTO.out (by rw[HAT.out.2.1,byN_at A i hia];exact h3);rw[HAT.out.2.1] at hb;exact hb h
    obtain⟨w7,cap7,hcv,hcells,hfrz,hb7,hlt7⟩:=conv_new A w6;have q0:=hcells i hia;have q1:=hfrz i hia;have hback:=conv_back (cap:=cap7) hcells hia t;have HB7:Hid (Below w.heap.size w w7):=HBC.out.trans (hb7.mono HBC.out.size);have HG7:Hid (w.heap.size≤w6.heap.size):=HBC.out.size;obtain⟨X,hX⟩:∃X,X=chB A i t:=⟨_,rfl⟩;rw[←hX] at hback HNO;have HXS:Hid (X.size≤1048576):=by
     show _≤_;rw[hX,ch_size];have:=HASZ.out;omega
    clear hcells hfrz hb7 h3 hX
    go_wp2_with fail
    refine (wcut_any X HXS.out _).mono ?_;rintro e w8 ⟨v8,rfl,hs8,hb8⟩;obtain⟨N3,hN3⟩:∃N,N=wtN X:=⟨_,rfl⟩;obtain⟨R3,hR3⟩:∃R,R=wtR X:=⟨_,rfl⟩;obtain⟨M3,hM3⟩:∃L,L=wtL X:=⟨_,rfl⟩;have HWX:Hid (wtN X=N3∧wtL X=M3∧wtR X=R3):=⟨hN3.symm,hM3.symm,hR3.symm⟩;have hN23:N3=0∨N3=2:=by
     rw[hN3];unfold wtN
     split
     ·exact .inl rfl
     exact .inr rfl
    rw[←hN3,←hR3];rw[←hM3] at hs8;obtain⟨a8,n8,c8,hv8,hl8,hm8,_,ha8⟩:=hs8.form;subst hv8;have HL8:Hid (M3.length=n8):=hl8;have HA8:Hid (0<n8→∃g o,a8=some ⟨g,o,none⟩∧GAt msgE w8 g o M3∧c8≤maxLen):=ha8;have HB8:Hid (Below w.heap.size w w8):=(HB7.out.setCell HG7.out _).trans (hb8.mono (HB7.out.setCell HG7.out _).size);have hn863:n8≤9223372036854775807:=by unfold maxLen at hm8;omega
    clear hs8 hb8 hl8 ha8 hN3 hR3 hM3 q0 q1 hback hcv hm8;go_upto_region 37 with fail
    go_cut [26] from 180 (fun v w'=>∃q:Bool,v=.bool q∧(q=true→N3=0∧R3.size=0∧n8=n)∧w'=w8)
    case first =>
     as_aux_lemma =>
      rcases hN23 with h0 | h2
      ·subst h0;rw[no_ok rfl];by_cases hr:R3.size=0
       ·have e:R3=⟨#[]⟩:=by
         apply ByteArray.ext
         exact Array.eq_empty_of_size_eq_zero hr
        have hem:R3.toList.isEmpty=true:=by rw[e,Lib.toList_data];rfl
        have hem2:(R3.toList==[])=true:=by rw[e,Lib.toList_data];rfl
        clear e;by_cases hl:n8=n
        ·have hl1:((n8:Int)==(n:Int))=true:=by simp[hl]
         have HLN:Hid (n8=n):=hl;clear hl
         go_wp2_with fail
         go_meet
         exact⟨_,rfl,(fun _=>⟨by first | exact trivial | rfl,hr,HLN.out⟩),rfl⟩
        have hl1:((n8:Int)==(n:Int))=false:=by simp;omega
        go_wp2_with fail
        go_meet
        exact⟨false,rfl,(fun h=>by cases h),rfl⟩
       have hem:=emp_no hr;have hem2:=ne_emp hr
       go_wp2_with fail
       go_meet
       exact⟨false,rfl,(fun h=>by cases h),rfl⟩
      subst h2;rw[no_ne (by decide)]
      go_wp2_with fail
      go_meet
      exact⟨false,rfl,(fun h=>by cases h),rfl⟩
    case rest =>
     obtain⟨q,rfl,hq,hwc⟩:=hcut;have hwc2:=hwc.symm;subst hwc2;clear hwc;have HQ:Hid (q=true→N3=0∧R3.size=0∧n8=n):=hq;clear hq hN23;obtain⟨ev,hev⟩:∃e,e=noV N3:=⟨_,rfl⟩;rw[←hev];clear hev
     go_upto_block 6 with fail
     go_cut [26] from 27 (fun v w'=>v=.bool false∧Below w.heap.size w w')
     case first =>
      go_wp2
      go_loopw [26,27] (fun sm i wr=>∃(q:Bool) (k:Nat),sm=.bool q∧i=.int i64 (k:Int)∧k≤n8∧(q=true→(N3=0∧R3.size=0∧n8=n)∧∀j,j<k→∀(h1:j<M3.length) (h2:j<l.length),M3[j]=l[j])∧Below w8.heap.size w8 wr) (fun _ i _=>n8-(intOf i).toNat)
      case atStart=>exact⟨q,0,rfl,rfl,Nat.zero_le _,fun h=>⟨HQ.out h,fun j hj=>absurd hj (Nat.not_lt_zero _)⟩,bRQ _ _⟩
      case round =>
       obtain⟨q2,k2,rfl,rfl,hk2,hall,hB⟩:=hrel;have HALL:Hid (q2=true→(N3=0∧R3.size=0∧n8=n)∧∀j,j<k2→∀(h1:j<M3.length) (h2:j<l.length),M3[j]=l[j]):=hall;have HBR:Hid (Below w.heap.size w wr):=HB8.out.trans (hB.mono HB8.out.size);have HB0:Hid (Below w8.heap.size w8 wr):=hB;clear hall hB;by_cases hlt:k2<n8
       ·have k1:(k2:Int)<(n8:Int):=by omega
        cases q2 with
        | false =>
          go_wp2_with fail
          go_meet
          exact⟨rfl,HBR.out⟩
        | true =>
          as_aux_lemma =>
           obtain⟨⟨hq1,hq2,hq3⟩,hq4⟩:=HALL.out rfl;obtain⟨g8,o8,ha8,hc8,_⟩:=HA8.out (by omega);subst ha8;obtain⟨g,og,hao,hc,_⟩:=HA.out (by omega);subst hao;obtain⟨k,hk⟩:∃k,k=k2:=⟨_,rfl⟩;subst hk;obtain⟨x0,x1,x2,x3,x4,x5,x6,x7,x8,x9,x10,x11,hxl,hxk,q0,q1,q2,q3,q4,q5,q6,q7,q8,q9,q10,q11⟩:=msg_at (hc8.later HB0.out) HL8.out hlt;obtain⟨y0,y1,y2,y3,y4,y5,y6,y7,y8,y9,y10,y11,hyl,hyk,r0,r1,r2,r3,r4,r5,r6,r7,r8,r9,r10,r11⟩:=msg_at (hc.later HBR.out) HN.out (k:=k) (by omega);have HCE:Hid (msgCD wr g8 (o8+k*12)  x0 x1 x2 x3 x4 x5 x6 x7 x8 x9 x10 x11 g (og+k*12) y0 y1 y2 y3 y4 y5 y6 y7 y8 y9 y10 y11 wr):=⟨bRQ _ _,⟨q0,q1,q2,q3,q4,q5,q6,q7,q8,q9,q10,q11⟩,r0,r1,r2,r3,r4,r5,r6,r7,r8,r9,r10,r11⟩;have HNX:Hid (msgB ⟨x0,x1,x2,x3,⟨x4,x5,⟨x6,x7,x8,x9,x10,x11⟩⟩⟩ ⟨y0,y1,y2,y3,⟨y4,y5,⟨y6,y7,y8,y9,y10,y11⟩⟩⟩=true→(N3=0∧R3.size=0∧n8=n)∧∀j,j<k+1→∀(h1:j<M3.length) (h2:j<l.length),M3[j]=l[j]):=fun h=>⟨⟨hq1,hq2,hq3⟩,fun j hj h1 h2=>by
            by_cases e:j=k
            ·subst e;rw[hxk,hyk];exact (msgB_iff _ _).1 h
            exact hq4 j (by omega) h1 h2⟩
           have k0:(0:Int)≤(k:Int):=by omega
           have k3:(k:Int)<(n:Int):=by omega
           clear q0 q1 q2 q3 q4 q5 q6 q7 q8 q9 q10 q11 r0 r1 r2 r3 r4 r5 r6 r7 r8 r9 r10 r11 hc8 hc hxk hyk hq1 hq2 hq3 hq4;go_upto_region 41 with fail;refine wp_region_quiet (C:=msgCD wr g8 (o8+k*12) x0 x1 x2 x3 x4 x5 x6 x7 x8 x9 x10 x11 g (og+k*12) y0 y1 y2 y3 y4 y5 y6 y7 y8 y9 y10 y11) (by kernel_rfl) (by kernel_rfl) (msgCD.later (W:=wr) (Below.drew (bRQ _ _)) HCE.out) ?_;simp only[List.toList_toArray];go_big_quiet_want;refine qv (.slice (some ⟨g8,o8,none⟩) n8 c8) ?_ ?_
           ·rintro w' ⟨z,⟨z0,z1,z2,z3,z4,z5,z6,z7,z8,z9,z10,z11⟩,u0,u1,u2,u3,u4,u5,u6,u7,u8,u9,u10,u11⟩;go_simp
           simp only[Act.put,AP];go_big_quiet_on;go_big_quiet_want;refine qv (.int i64 (k:Int)) ?_ ?_
           ·rintro w' ⟨z,⟨z0,z1,z2,z3,z4,z5,z6,z7,z8,z9,z10,z11⟩,u0,u1,u2,u3,u4,u5,u6,u7,u8,u9,u10,u11⟩;go_simp
           simp only[Act.put,AP];go_big_quiet_on;go_big_quiet_want;refine qv (.pointer (some ⟨g8,o8+k*12,none⟩)) ?_ ?_
           ·rintro w' ⟨z,⟨z0,z1,z2,z3,z4,z5,z6,z7,z8,z9,z10,z11⟩,u0,u1,u2,u3,u4,u5,u6,u7,u8,u9,u10,u11⟩;go_simp
           simp only[Act.put,AP];go_big_quiet_on;go_big_quiet_want;refine qv (.agg #[.int i64 x0,.int i64 x1,.int i64 x2,.int i64 x3,.int i64 x4,.bool x5,.int i64 x6,.int i64 x7,.int i64 x8,.int i64 x9,.int i64 x10,.int i64 x11]) ?_ ?_
           ·rintro w' ⟨z,⟨z0,z1,z2,z3,z4,z5,z6,z7,z8,z9,z10,z11⟩,u0,u1,u2,u3,u4,u5,u6,u7,u8,u9,u10,u11⟩;go_simp
           simp only[Act.put,AP];go_big_quiet_on;go_big_quiet_want;refine qv (.slice (some ⟨g,og,none⟩) n cap) ?_ ?_
           ·rintro w' ⟨z,⟨z0,z1,z2,z3,z4,z5,z6,z7,z8,z9,z10,z11⟩,u0,u1,u2,u3,u4,u5,u6,u7,u8,u9,u10,u11⟩;go_simp
           simp only[Act.put,AP];go_big_quiet_on;go_big_quiet_want;refine qv (.int i64 (k:Int)) ?_ ?_
           ·rintro w' ⟨z,⟨z0,z1,z2,z3,z4,z5,z6,z7,z8,z9,z10,z11⟩,u0,u1,u2,u3,u4,u5,u6,u7,u8,u9,u10,u11⟩;go_simp
           simp only[Act.put,AP];go_big_quiet_on;go_big_quiet_want;refine qv (.pointer (some ⟨g,og+k*12,none⟩)) ?_ ?_
           ·rintro w' ⟨z,⟨z0,z1,z2,z3,z4,z5,z6,z7,z8,z9,z10,z11⟩,u0,u1,u2,u3,u4,u5,u6,u7,u8,u9,u10,u11⟩;go_simp
           simp only[Act.put,AP];go_big_quiet_on;go_big_quiet_want;refine qv (.agg #[.int i64 y0,.int i64 y1,.int i64 y2,.int i64 y3,.int i64 y4,.bool y5,.int i64 y6,.int i64 y7,.int i64 y8,.int i64 y9,.int i64 y10,.int i64 y11]) ?_ ?_
           ·rintro w' ⟨z,⟨z0,z1,z2,z3,z4,z5,z6,z7,z8,z9,z10,z11⟩,u0,u1,u2,u3,u4,u5,u6,u7,u8,u9,u10,u11⟩;go_simp
           simp only[Act.put,AP];go_big_quiet_on;go_big_quiet_want;refine quiet_val (v:=.bool (msgB ⟨x0,x1,x2,x3,⟨x4,x5,⟨x6,x7,x8,x9,x10,x11⟩⟩⟩ ⟨y0,y1,y2,y3,⟨y4,y5,⟨y6,y7,y8,y9,y10,y11⟩⟩⟩)) (fun w' hC=>exec_bin rfl (by go_simp) (run_eql_of (msg_eq x0 x1 x2 x3 x4 x5 x6 x7 x8 x9 x10 x11 y0 y1 y2 y3 y4 y5 y6 y7 y8 y9 y10 y11 w'))) ?_;simp only[Act.put,AP];go_big_quiet_on;go_big_quiet_want;refine qv (.bool (msgB ⟨x0,x1,x2,x3,⟨x4,x5,⟨x6,x7,x8,x9,x10,x11⟩⟩⟩ ⟨y0,y1,y2,y3,⟨y4,y5,⟨y6,y7,y8,y9,y10,y11⟩⟩⟩)) ?_ ?_
           ·rintro w' ⟨z,⟨z0,z1,z2,z3,z4,z5,z6,z7,z8,z9,z10,z11⟩,u0,u1,u2,u3,u4,u5,u6,u7,u8,u9,u10,u11⟩;go_simp
           simp only[Act.put,AP];go_big_quiet_on;refine wpQuiet_nil ?_;intro w' hC;have HB9:Hid (Below w8.heap.size w8 w'):=HB0.out.trans (hC.1.mono HB0.out.size);clear hC;go_wp2;go_roundw
           case rel=>exact⟨_,k+1,rfl,by go_num,by omega,HNX.out,HB9.out⟩
           case measure=>simp[intOf];omega
       have k1:¬(k2:Int)<(n8:Int):=by omega
       have hf:q2=false:=by
        cases q2 with
        | false=>rfl
        | true =>
          exfalso
          obtain⟨⟨hq1,hq2,hq3⟩,hq4⟩:=HALL.out rfl;refine HNO.out R3 hq2 ?_;have hw:=wt_of (b:=X) (by rw[HWX.out.1];exact hq1);rw[HWX.out.2.1,HWX.out.2.2] at hw;rw[hw];have:M3=l:=List.ext_getElem (by rw[HL8.out,HN.out];exact hq3) (fun j h1 h2=>hq4 j (by rw[HL8.out] at h1;omega) h1 h2);rw[this]
       subst hf
       go_wp2_with fail
       go_meet
       exact⟨rfl,HBR.out⟩
     case rest =>
      obtain⟨rfl,hBf⟩:=hcut;have HBF:Hid (Below w.heap.size w wc):=hBf;clear hBf;go_wp2;refine bodyPost_ret (v:=.bool true) (by simp[results,results3,go_sem, *]) rfl ⟨rfl,?_⟩;exact HBF.out
end
end Go.Proofs.Ytpfgaibfangciaa.wireBack
