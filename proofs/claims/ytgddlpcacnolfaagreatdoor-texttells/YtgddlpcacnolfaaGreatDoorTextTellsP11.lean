/- Contracts and facts on the way to TextTells, joined into one text: RefTopo, RuleTwo, RefTable, RefNet, RefNamed, RefWishes, RefReadN1, RefReadN0. -/
import Derived.Test.YtgddlpcacnolfaaGreatDoorTextTellsP10
namespace Go.Proofs.YtgddlpcacnolfaaGreatDoor
set_option linter.unusedSimpArgs false
set_option linter.unusedVariables false
set_option maxHeartbeats 16000000
set_option maxRecDepth 100000
open Go.Proofs.Tryz
open IntKind (i64)
section
open Go.RowKit
theorem below_drewN (w:World)(n:Nat):Below w.heap.size w (w.drewN n):=⟨rfl,rfl,rfl,nLQ _,fun _ _=>rfl⟩
theorem eq2_ways (a b c d:Int):((a==c&&b==d)=true∧(a==c)=true∧(b==d)=true)∨((a==c&&b==d)=false∧(a==c)=true∧(b==d)=false)∨((a==c&&b==d)=false∧(a==c)=false):=by
 cases a==c <;> cases b==d <;> simp
theorem pr_beq (a b c d:Int):(((a,b):Int×Int)==(c,d))=(a==c&&b==d):=rfl
theorem any_take {α:Type}{L:List α}{f:α→Bool}(h:(L.take L.length).any f=false):L.any f=false:=by simpa using h
theorem own_two {W:World}{B e:Nat}{v:Value}{U:List (Int×Int)}{m:Nat}{x0 x1 x2 x3:Int}(hm:U.length=m)(h:W.ownsRow B e 2 v (m+1+1) (cellsG spoE U++[.int i64 x0,.int i64 x1,.int i64 x2,.int i64 x3])):
 W.ownsRow B e 2 v (U++[(x0,x1),(x2,x3)]).length (cellsG spoE (U++[(x0,x1),(x2,x3)])):=by
 subst hm;have e1:cellsG spoE (U++[(x0,x1),(x2,x3)])=cellsG spoE U++[.int i64 x0,.int i64 x1,.int i64 x2,.int i64 x3]:=by
  rw[cellsG_app];simp[cellsG,spoE]
 rw[e1];simpa using h
theorem own_one1 {W:World}{B e:Nat}{v:Value}{U:List (Int×Int)}{m:Nat}{x0 x1:Int}(hm:U.length=m)(h:W.ownsRow B e 2 v (m+1) (cellsG spoE U++[.int i64 x0,.int i64 x1])):
 W.ownsRow B e 2 v (U++[(x0,x1)]).length (cellsG spoE (U++[(x0,x1)])):=by
 subst hm;have e1:cellsG spoE (U++[(x0,x1)])=cellsG spoE U++[.int i64 x0,.int i64 x1]:=by
  rw[cellsG_app];simp[cellsG,spoE]
 rw[e1];simpa using h
theorem grown_cell {W w':World}{v:Value}{g:Nat}(h:W.grownBy w' v.ownBlock)(hl:g<W.heap.size)(hn:∀k,v.ownBlock=some k→k≠g)(i:Nat):w'.cell? ⟨g,i,none⟩=W.cell? ⟨g,i,none⟩:=
 World.cell?_of_block (w:=W) (a:=⟨g,i,none⟩) (h.block g hl (fun e=>hn g (by first | exact e | exact e.symm) rfl))
theorem rtopo_any (S:Int)(ao:AdQ)(n cap:Nat)(ao2:AdQ)(n2 cap2:Nat)(Ls:LkQ)(Hs:HoQ)(w:World)
 (hL:GS lnkE w (.slice ao n cap) Ls) (hH:GS hstE w (.slice ao2 n2 cap2) Hs):
 Calls prog 13 #[.agg #[.int i64 S,.slice ao n cap,.slice ao2 n2 cap2]] w fun e w'=>e=.returned (.int i64 (tpN S Ls Hs))∧Below w.heap.size w w':=by
 obtain⟨_,_,_,e1,hLn,hLm,_,hLa⟩:=hL.form;cases e1;obtain⟨_,_,_,e2,hHn,hHm,_,hHa⟩:=hH.form;cases e2;have HLN:Hid (Ls.length=n):=hLn;have HHN:Hid (Hs.length=n2):=hHn;have HLA:Hid (0<n→∃g o,ao=some ⟨g,o,none⟩∧GAt lnkE w g o Ls∧cap≤maxLen):=hLa;have HHA:Hid (0<n2→∃g o,ao2=some ⟨g,o,none⟩∧GAt hstE w g o Hs∧cap2≤maxLen):=hHa;obtain⟨T,hT⟩:∃T,T=tpN S Ls Hs:=⟨_,rfl⟩;have HT:Hid (T=tpN S Ls Hs):=hT;rw[←hT];have hX:=tbox_new w S (.slice ao n cap) (.slice ao2 n2 cap2) 25;have hB:Below w.heap.size w (w.alloc (.cells #[.int i64 S,.slice ao n cap,.slice ao2 n2 cap2] 25)):=(bRQ _ _).alloc (nLQ _) _;have HB0':Hid (Below w.heap.size w (w.alloc (.cells #[.int i64 S,.slice ao n cap,.slice ao2 n2 cap2] 25))):=hB;by_cases h1:1≤S
 ·by_cases h6:S≤6
  ·by_cases h2:n≤200
   ·by_cases h8:n2≤8
    ·have s1:decide (S<1)=false:=by simp;omega
     have s2:decide (6<S)=false:=by simp;omega
     have s3:decide (200<(n:Int))=false:=by simp;omega
     have s4:decide (8<(n2:Int))=false:=by simp;omega
     have HM:Hid (T=if lkN S Ls []=0 then hoN S Hs [] (spsL Ls) else lkN S Ls []):=by
      show _=_;rw[hT];unfold tpN;have e3:(decide (1≤S)&&decide (S≤6))=true:=by simp[h1,h6]
      have e4:(decide (Ls.length≤200)&&decide (Hs.length≤8))=true:=by simp[hLn,hHn,h2,h8]
      rw[if_pos e3,if_pos e4]
     obtain⟨w0,hw0⟩:∃W,w.alloc (.cells #[.int i64 S,.slice ao n cap,.slice ao2 n2 cap2] 25)=W:=⟨_,rfl⟩;rw[hw0] at hX hB;have HX:Hid (TBox w0 w.heap.size S (.slice ao n cap) (.slice ao2 n2 cap2)):=hX;have HB:Hid (Below w.heap.size w w0):=hB;have HW0:Hid (w.alloc (.cells #[.int i64 S,.slice ao n cap,.slice ao2 n2 cap2] 25)=w0):=hw0;have H2:Hid (n≤200):=h2;have H8:Hid (n2≤8):=h8;obtain⟨i0,hi,hz0,hz1,hz2⟩:=info_parts spo_info;clear hL hH hLn hLm hLa hHn hHm hHa hT hX hB hw0 h1 h6 h2 h8 HB0' HT;go_enter func13,ntmps13;go_wp2;rw[HW0.out]
     go_loopw [3,4] (fun u i wr=>∃k:Nat,k≤n∧i=.int i64 k∧wr.ownsRow w0.heap.size 55 2 u (spsL (Ls.take k)).length (cellsG spoE (spsL (Ls.take k)))∧lkN S Ls []=lkN S (Ls.drop k) (spsL (Ls.take k))∧Below w0.heap.size w0 wr) (fun _ i _=>n-(intOf i).toNat)
     case atStart=>exact⟨0,by omega,rfl,by simpa[spsL,cellsG] using World.ownsRow_nil _ _ _ _,by simp[spsL],bRQ _ _⟩
     case round =>
      rename_i u3 u4
      obtain⟨k,hk,rfl,hown,hlk,hBr⟩:=hrel;obtain⟨ao3,cap3,rfl⟩:=own_form hown;obtain⟨wo,hwo⟩:∃x,x=wr:=⟨_,rfl⟩;subst hwo;have HOWN:Hid (wo.ownsRow w0.heap.size 55 2 (.slice ao3 (spsL (Ls.take k)).length cap3) (spsL (Ls.take k)).length (cellsG spoE (spsL (Ls.take k)))):=hown;have HLK:Hid (lkN S Ls []=lkN S (Ls.drop k) (spsL (Ls.take k))):=hlk;have HBr:Hid (Below w0.heap.size w0 wo):=hBr;have HBw:Hid (Below w.heap.size w wo):=HB.out.trans (hBr.mono HB.out.size);have HXr:Hid (TBox wo w.heap.size S (.slice ao n cap) (.slice ao2 n2 cap2)):=HX.out.later hBr;obtain⟨b0,b1,b2⟩:=HXr.out;have hlw:w.heap.size<wo.heap.size:=bLQ _ _ b0;have hn200:n≤200:=H2.out;have hlen:(spsL (Ls.take k)).length≤400:=by
       rw[sps_len,List.length_take];omega
      obtain⟨U,hU⟩:∃U,U=spsL (Ls.take k):=⟨_,rfl⟩;have HU:Hid (U=spsL (Ls.take k)):=hU;rw[←hU] at HOWN HLK hlen;rw[←hU];obtain⟨m,hm⟩:∃m,m=U.length:=⟨_,rfl⟩;have HMU:Hid (U.length=m):=hm.symm;rw[←hm] at HOWN hlen;rw[←hm];clear hown hlk hBr hU hm HW0;by_cases hlt:k<n
      ·have HK1:Hid (k+1≤n):=hlt;obtain⟨g,o,hao,hc,_⟩:=HLA.out (by omega);subst hao;obtain⟨x0,x1,x2,x3,hkl,hLk,q0,q1,q2,q3⟩:=lnk_at (hc.later HBw.out) HLN.out hlt;have HLK1:Hid (lkN S Ls []=if lk1 S U ((x0,x1),(x2,x3))=0 then lkN S (Ls.drop (k+1)) (U++[(x0,x1),(x2,x3)]) else lk1 S U ((x0,x1),(x2,x3))):=by
        show _=_;rw[HLK.out,List.drop_eq_getElem_cons hkl,lk_step,hLk]
       have HUN:Hid (spsL (Ls.take (k+1))=U++[(x0,x1),(x2,x3)]):=by
        show _=_;rw[sps_take hkl,hLk,HU.out]
       have HT7:Hid (lk1 S U ((x0,x1),(x2,x3))≠0→T=lk1 S U ((x0,x1),(x2,x3))):=fun h=>by
        have e:=HLK1.out;rw[if_neg h] at e;rw[HM.out,e,if_neg h]
       have HBA:Hid (Below wo.heap.size wo (wo.alloc (.cells #[.int i64 x0,.int i64 x1,.int i64 x2,.int i64 x3] 57))):=(bRQ _ _).alloc (nLQ _) _;have HBX:Hid (VAt (wo.alloc (.cells #[.int i64 x0,.int i64 x1,.int i64 x2,.int i64 x3] 57)) wo.heap.size 0 (lnkE.c ((x0,x1),(x2,x3)))):=lnk_new wo x0 x1 x2 x3 57;clear hLk hc
       go_wp2_with fail
       refine (rspot_any S (some ⟨g,o,none⟩) n cap ao2 n2 cap2 x0 x1 _).mono ?_;rintro e w2 ⟨rfl,hb2⟩;have hB2:Below wo.heap.size wo w2:=HBA.out.trans (hb2.mono HBA.out.size);have HB2:Hid (Below wo.heap.size wo w2):=hB2;have HV2:Hid (VAt w2 wo.heap.size 0 (lnkE.c ((x0,x1),(x2,x3)))):=HBX.out.later hb2;obtain⟨b0,b1,b2⟩:=HXr.out.later hB2;obtain⟨l0,l1,l2,l3⟩:=lnk_cells HV2.out;simp only[Nat.zero_add] at l0 l1 l2 l3;have hll:wo.heap.size<w2.heap.size:=bLQ _ _ l0;clear hb2 hB2 HBA HBX q0 q1 q2 q3
       go_wp2_with fail
       refine (rspot_any S (some ⟨g,o,none⟩) n cap ao2 n2 cap2 x2 x3 _).mono ?_;rintro e w3 ⟨rfl,hb3⟩;have hB3:Below wo.heap.size wo w3:=HB2.out.trans (hb3.mono HB2.out.size);have HB3:Hid (Below wo.heap.size wo w3):=hB3;have HB3w:Hid (Below w.heap.size w w3):=HBw.out.trans (hB3.mono HBw.out.size);have HV3:Hid (VAt w3 wo.heap.size 0 (lnkE.c ((x0,x1),(x2,x3)))):=HV2.out.later hb3;obtain⟨b0,b1,b2⟩:=HXr.out.later hB3;obtain⟨l0,l1,l2,l3⟩:=lnk_cells HV3.out;simp only[Nat.zero_add] at l0 l1 l2 l3;have hll:wo.heap.size<w3.heap.size:=bLQ _ _ l0;clear hb3 hB3 HV2 HB2;cases hsa:spB S (x0,x1)
       ·have HT1:Hid (T=1):=by
         have e:lk1 S U ((x0,x1),(x2,x3))=1:=by simp[lk1,hsa]
         have:=HT7.out (by rw[e];decide);rw[e] at this;exact this
        go_wp2;go_ret;exact⟨by rw[HT1.out];rfl,HB3w.out⟩
       cases hsb:spB S (x2,x3)
       ·have HT1:Hid (T=1):=by
         have e:lk1 S U ((x0,x1),(x2,x3))=1:=by simp[lk1,hsa,hsb]
         have:=HT7.out (by rw[e];decide);rw[e] at this;exact this
        go_wp2;go_ret;exact⟨by rw[HT1.out];rfl,HB3w.out⟩
       have HL7:Hid (lk1 S U ((x0,x1),(x2,x3))=if (x0==x2&&x1==x3) || (U.any fun u=>u==(x0,x1) || u==(x2,x3)) then 7 else 0):=by
        show _=_;simp only[lk1,hsa,hsb,Bool.and_self,if_true,pr_beq]
       rcases eq2_ways x0 x1 x2 x3 with ⟨g0,g1,g2⟩ | hne
       ·have HT1:Hid (T=7):=by
         have e:lk1 S U ((x0,x1),(x2,x3))=7:=by rw[HL7.out,g0];rfl
         have:=HT7.out (by rw[e];decide);rw[e] at this;exact this
        go_wp2;go_ret;exact⟨by rw[HT1.out];rfl,HB3w.out⟩
       have hg0:(x0==x2&&x1==x3)=false:=by
        rcases hne with ⟨h,_⟩ | ⟨h,_⟩ <;> exact h
       have HL8:Hid (lk1 S U ((x0,x1),(x2,x3))=if (U.any fun u=>u==(x0,x1) || u==(x2,x3)) then 7 else 0):=by
        show _=_;rw[HL7.out,hg0,Bool.false_or]
       obtain⟨_,_,_,e5,hUn,hUm,_,hUa⟩:=(own_GS (E:=spoE) (L:=U) (by rw[HMU.out];exact HOWN.out):GS spoE wo (.slice ao3 m cap3) U).form;cases e5;have HUA:Hid (0<m→∃g o,ao3=some ⟨g,o,none⟩∧GAt spoE wo g o U∧cap3≤maxLen):=hUa;clear hUn hUm hUa hg0;go_upto_region 14 with fail
       go_cut [63] from 59 to 63 (fun c w'=>c=.bool false∧w'=w3)
       case first =>
        rcases hne with ⟨_,g1,g2⟩ | ⟨_,g1⟩
        ·go_wp2_with fail
         go_meet
         case rel=>exact⟨rfl,rfl⟩
        go_wp2_with fail
        go_meet
        case rel=>exact⟨rfl,rfl⟩
       case rest =>
        obtain⟨rfl,hwc⟩:=hcut;subst hwc;clear hne;go_wp2
        go_loopw [8] (fun j wz=>∃q:Nat,q≤m∧j=.int i64 q∧(U.take q).any (fun u=>u==(x0,x1) || u==(x2,x3))=false∧Below wc.heap.size wc wz) (fun j _=>m-(intOf j).toNat)
        case atStart=>exact⟨0,by omega,rfl,by simp,bRQ _ _⟩
        case round =>
         obtain⟨q,hq,rfl,hno,hBz⟩:=hrel;have HNO:Hid ((U.take q).any (fun u=>u==(x0,x1) || u==(x2,x3))=false):=hno;have HBz:Hid (Below wo.heap.size wo wr):=HB3.out.trans (hBz.mono HB3.out.size);have HBc:Hid (Below wc.heap.size wc wr):=hBz;have HBzw:Hid (Below w.heap.size w wr):=HBw.out.trans (HBz.out.mono HBw.out.size);obtain⟨b0,b1,b2⟩:=HXr.out.later HBz.out;have HVz:Hid (VAt wr wo.heap.size 0 (lnkE.c ((x0,x1),(x2,x3)))):=HV3.out.later hBz;obtain⟨l0,l1,l2,l3⟩:=lnk_cells HVz.out;simp only[Nat.zero_add] at l0 l1 l2 l3;have hll:wo.heap.size<wr.heap.size:=bLQ _ _ l0;clear hno hBz;by_cases hqm:q<m
         ·obtain⟨g3,o3,hao3,hc3,_⟩:=HUA.out (by omega);subst hao3;obtain⟨v0,v1,hql,hUq,p0,p1⟩:=spo_at (hc3.later HBz.out) HMU.out hqm;have HUQ:Hid (U[q]=(v0,v1)):=hUq;have qb0:(0:Int)≤(q:Int):=by omega
          have qb1:(q:Int)<(m:Int):=by omega
          have hgl3:g3<wr.heap.size:=bLQ _ _ p0;have HHIT:Hid (((v0==x0&&v1==x1) || (v0==x2&&v1==x3))=true→T=7):=fun hy=>by
           have e:lk1 S U ((x0,x1),(x2,x3))=7:=by
            rw[HL8.out,any_hitG hql (by rw[HUQ.out];exact hy)];rfl
           have:=HT7.out (by rw[e];decide);rw[e] at this;exact this
          have HNXT:Hid (((v0==x0&&v1==x1) || (v0==x2&&v1==x3))=false→(U.take (q+1)).any (fun u=>u==(x0,x1) || u==(x2,x3))=false):=fun hy=>any_nextG hql HNO.out (by rw[HUQ.out];exact hy)
          clear hc3 hUq
          rcases eq2_ways v0 v1 x0 x1 with ⟨f0,f1,f2⟩ | ⟨f0,f1,f2⟩ | ⟨f0,f1⟩
          ·have HT1:Hid (T=7):=HHIT.out (by rw[f0];rfl)
           go_wp2_with fail
           go_quiet (fail)
           go_wp2;go_ret;exact⟨by rw[HT1.out];rfl,HBzw.out.trans ((below_drewN _ _).mono HBzw.out.size)⟩
          ·rcases eq2_ways v0 v1 x2 x3 with ⟨d0,d1,d2⟩ | ⟨d0,d1,d2⟩ | ⟨d0,d1⟩
           ·have HT1:Hid (T=7):=HHIT.out (by rw[f0,d0];rfl)
            go_wp2_with fail
            go_quiet (fail)
            go_wp2;go_ret;exact⟨by rw[HT1.out];rfl,HBzw.out.trans ((below_drewN _ _).mono HBzw.out.size)⟩
           ·have HN1:Hid ((U.take (q+1)).any (fun u=>u==(x0,x1) || u==(x2,x3))=false):=HNXT.out (by rw[f0,d0];rfl)
            go_wp2_with fail
            go_quiet (fail)
            go_wp2;go_roundw
            case rel=>exact⟨q+1,by omega,by go_num,HN1.out,HBc.out.trans ((below_drewN _ _).mono HBc.out.size)⟩
            case measure=>simp[intOf];omega
           have HN1:Hid ((U.take (q+1)).any (fun u=>u==(x0,x1) || u==(x2,x3))=false):=HNXT.out (by rw[f0,d0];rfl)
           go_wp2_with fail
           go_quiet (fail)
           go_wp2;go_roundw
           case rel=>exact⟨q+1,by omega,by go_num,HN1.out,HBc.out.trans ((below_drewN _ _).mono HBc.out.size)⟩
           case measure=>simp[intOf];omega
          rcases eq2_ways v0 v1 x2 x3 with ⟨d0,d1,d2⟩ | ⟨d0,d1,d2⟩ | ⟨d0,d1⟩
          ·have HT1:Hid (T=7):=HHIT.out (by rw[f0,d0];rfl)
           go_wp2_with fail
           go_quiet (fail)
           go_wp2;go_ret;exact⟨by rw[HT1.out];rfl,HBzw.out.trans ((below_drewN _ _).mono HBzw.out.size)⟩
          ·have HN1:Hid ((U.take (q+1)).any (fun u=>u==(x0,x1) || u==(x2,x3))=false):=HNXT.out (by rw[f0,d0];rfl)
           go_wp2_with fail
           go_quiet (fail)
           go_wp2;go_roundw
           case rel=>exact⟨q+1,by omega,by go_num,HN1.out,HBc.out.trans ((below_drewN _ _).mono HBc.out.size)⟩
           case measure=>simp[intOf];omega
          have HN1:Hid ((U.take (q+1)).any (fun u=>u==(x0,x1) || u==(x2,x3))=false):=HNXT.out (by rw[f0,d0];rfl)
          go_wp2_with fail
          go_quiet (fail)
          go_wp2;go_roundw
          case rel=>exact⟨q+1,by omega,by go_num,HN1.out,HBc.out.trans ((below_drewN _ _).mono HBc.out.size)⟩
          case measure=>simp[intOf];omega
         obtain rfl:q=m:=by omega
         have HAN:Hid ((U.any fun u=>u==(x0,x1) || u==(x2,x3))=false):=by
          have:=HNO.out;rw[←HMU.out] at this;exact any_take this
         have HL0:Hid (lkN S Ls []=lkN S (Ls.drop (k+1)) (U++[(x0,x1),(x2,x3)])):=by
          show _=_;have e:lk1 S U ((x0,x1),(x2,x3))=0:=by
           rw[HL8.out,HAN.out];rfl
          rw[HLK1.out,if_pos e]
         have HOZ:Hid (wr.ownsRow w0.heap.size 55 2 (.slice ao3 q cap3) q (cellsG spoE U)):=own_below HOWN.out HBz.out;have HBz0:Hid (Below w0.heap.size w0 wr):=HBr.out.trans (HBz.out.mono HBr.out.size);have hsz0:w0.heap.size≤wr.heap.size:=HBz0.out.size
         go_wp2_with (at_builtin;refine wpList_append_own _ rfl _ _ 91 rfl w0.heap.size 55 i0 (.agg #[.int i64 0,.int i64 0]) 2 16 underlying91 hi hz0 hz1 hz2 spo_zero (by decide) _ _ _ rfl (HOZ.out.alloc _) ⟨wr.heap.size,0,none⟩ 1 1 [.int i64 x0,.int i64 x1] rfl rfl ?m1 ?m2 ?m3 ?m4 ?m5 ?_)
         case m1 =>
          intro j u hj
          match j,hj with
          | 0,hj=>simp at hj;subst hj;simp[Addr.add]
          | 1,hj=>simp at hj;subst hj;simp[Addr.add]
         case m2=>intro u hu;simp at hu;rcases hu with rfl | rfl <;> rfl
         case m3=>unfold maxLen;omega
         case m4=>omega
         case m5=>simp;omega
         intro v5 w5 hown5 hgrow5 _;obtain⟨ao5,cap5,rfl⟩:=own_form hown5;have hb5:Below w0.heap.size wr w5:=((Below.refl _ wr).alloc hsz0 _).grown hgrow5 (by simp;omega) (fun g hg=>(HOZ.out.lt g hg).1);have HB5:Hid (Below w0.heap.size w0 w5):=HBz0.out.trans hb5;have hk5:∀i,w5.cell? ⟨wo.heap.size,i,none⟩=(wr.alloc (.cells #[.int i64 x0,.int i64 x1] 55)).cell? ⟨wo.heap.size,i,none⟩:=fun i=>grown_cell hgrow5 (by simp;omega) (fun g hg e=>by
          have:=(HOWN.out.lt g hg).2;omega) i
         have l2':=(hk5 2).trans (cell_later ((Below.refl _ wr).alloc (nLQ _) _) l2);have l3':=(hk5 3).trans (cell_later ((Below.refl _ wr).alloc (nLQ _) _) l3);obtain⟨b0',b1',b2'⟩:=HX.out.later HB5.out;have HO5:Hid (w5.ownsRow w0.heap.size 55 2 (.slice ao5 (q+1) cap5) (q+1) (cellsG spoE U++[.int i64 x0,.int i64 x1])):=hown5;have hsz5:w0.heap.size≤w5.heap.size:=HB5.out.size;clear hb5 hk5 hgrow5 hown5 b0 b1 b2 l0 l1 l2 l3
         go_wp2_with (at_builtin;refine wpList_append_own _ rfl _ _ 91 rfl w0.heap.size 55 i0 (.agg #[.int i64 0,.int i64 0]) 2 16 underlying91 hi hz0 hz1 hz2 spo_zero (by decide) _ _ _ rfl (HO5.out.alloc _) ⟨w5.heap.size,0,none⟩ 1 1 [.int i64 x2,.int i64 x3] rfl rfl ?k1 ?k2 ?k3 ?k4 ?k5 ?_)
         case k1 =>
          intro j u hj
          match j,hj with
          | 0,hj=>simp at hj;subst hj;simp[Addr.add]
          | 1,hj=>simp at hj;subst hj;simp[Addr.add]
         case k2=>intro u hu;simp at hu;rcases hu with rfl | rfl <;> rfl
         case k3=>unfold maxLen;omega
         case k4=>omega
         case k5=>simp;omega
         intro v6 w6 hown6 hgrow6 _;obtain⟨ao6,cap6,rfl⟩:=own_form hown6;have hb6:Below w0.heap.size w5 w6:=((Below.refl _ w5).alloc hsz5 _).grown hgrow6 (by simp;omega) (fun g hg=>(HO5.out.lt g hg).1);have HB6:Hid (Below w0.heap.size w0 w6):=HB5.out.trans hb6;have HO6:Hid (w6.ownsRow w0.heap.size 55 2 (.slice ao6 (q+1+1) cap6) (spsL (Ls.take (k+1))).length (cellsG spoE (spsL (Ls.take (k+1))))):=by
          show World.ownsRow _ _ _ _ _ _ _;rw[HUN.out];exact own_two HMU.out hown6
         have HL1:Hid (lkN S Ls []=lkN S (Ls.drop (k+1)) (spsL (Ls.take (k+1)))):=by
          show _=_;rw[HL0.out,HUN.out]
         clear hb6 hgrow6 hown6 b0' b1' b2' l2' l3';go_wp2;go_roundw
         case rel=>exact⟨k+1,HK1.out,by go_num,HO6.out,HL1.out,HB6.out⟩
         case measure =>
          have:=HK1.out;simp[intOf];omega
      obtain rfl:k=n:=by omega
      have hU2:U=spsL Ls:=by
       rw[HU.out,←HLN.out,List.take_length]
      have HM2:Hid (T=hoN S Hs [] (spsL Ls)):=by
       show _=_;have e:lkN S Ls []=0:=by
        rw[HLK.out,←HLN.out,List.drop_length];rfl
       rw[HM.out,if_pos e]
      subst hU2;clear HLK HU HLA HM;go_wp2
      go_loopw [3,9] (fun u i wz=>∃j:Nat,j≤n2∧i=.int i64 j∧wz.ownsRow w0.heap.size 55 2 u (spsL Ls++(Hs.take j).map (·.2)).length (cellsG spoE (spsL Ls++(Hs.take j).map (·.2)))∧T=hoN S (Hs.drop j) ((Hs.take j).map (·.1)) (spsL Ls++(Hs.take j).map (·.2))∧Below w0.heap.size w0 wz) (fun _ i _=>n2-(intOf i).toNat)
      case atStart=>exact⟨0,by omega,rfl,by simpa[HMU.out] using HOWN.out,by simpa using HM2.out,HBr.out⟩
      case round =>
       clear HMU HOWN HM2 HBr HBw HXr b0 b1 b2 hlw hlen;obtain⟨j,hj,rfl,hown,hTj,hBz⟩:=hrel;obtain⟨ao3,cap3,rfl⟩:=own_form hown;obtain⟨wp,hwp⟩:∃x,x=wr:=⟨_,rfl⟩;subst hwp;have hn8:n2≤8:=H8.out;obtain⟨U,hU⟩:∃U,U=spsL Ls++(Hs.take j).map (·.2):=⟨_,rfl⟩;obtain⟨N,hN⟩:∃N,N=(Hs.take j).map (·.1):=⟨_,rfl⟩;have HU:Hid (U=spsL Ls++(Hs.take j).map (·.2)):=hU;have HN:Hid (N=(Hs.take j).map (·.1)):=hN;rw[←hU] at hown;rw[←hU,←hN] at hTj;rw[←hU];have hlen:U.length≤410:=by
        rw[hU,List.length_append,sps_len,List.length_map,List.length_take];have:=HLN.out;omega
       obtain⟨m,hm⟩:∃m,m=U.length:=⟨_,rfl⟩;have HMU:Hid (U.length=m):=hm.symm;rw[←hm] at hown hlen;rw[←hm];have HOWN:Hid (wp.ownsRow w0.heap.size 55 2 (.slice ao3 m cap3) m (cellsG spoE U)):=hown;have HTJ:Hid (T=hoN S (Hs.drop j) N U):=hTj;have HBr:Hid (Below w0.heap.size w0 wp):=hBz;have HBw:Hid (Below w.heap.size w wp):=HB.out.trans (hBz.mono HB.out.size);have HXr:Hid (TBox wp w.heap.size S (.slice ao k cap) (.slice ao2 n2 cap2)):=HX.out.later hBz;obtain⟨b0,b1,b2⟩:=HXr.out;have hlw:w.heap.size<wp.heap.size:=bLQ _ _ b0;clear hown hTj hBz hU hN hm;by_cases hlt:j<n2
       ·have HK1:Hid (j+1≤n2):=hlt;obtain⟨g,o,hao,hc,_⟩:=HHA.out (by omega);subst hao;obtain⟨y0,y1,y2,hkl,hHk,q0,q1,q2⟩:=hst_at (hc.later HBw.out) HHN.out hlt;have HHC:Hid (GAt hstE wp g o Hs):=hc.later HBw.out;have HTN:Hid (T=if ho1 S N U (y0,(y1,y2))=0 then hoN S (Hs.drop (j+1)) (N++[y0]) (U++[(y1,y2)]) else ho1 S N U (y0,(y1,y2))):=by
         show _=_;rw[HTJ.out,List.drop_eq_getElem_cons hkl,ho_step,hHk]
        have HT7:Hid (ho1 S N U (y0,(y1,y2))≠0→T=ho1 S N U (y0,(y1,y2))):=fun h=>by
         have e:=HTN.out;rw[if_neg h] at e;exact e
        have HUN:Hid (spsL Ls++(Hs.take (j+1)).map (·.2)=U++[(y1,y2)]):=by
         show _=_;rw[List.take_succ_eq_append_getElem hkl,List.map_append,hHk,HU.out,List.append_assoc];rfl
        have HNN:Hid ((Hs.take (j+1)).map (·.1)=N++[y0]):=by
         show _=_;rw[List.take_succ_eq_append_getElem hkl,List.map_append,hHk,HN.out];rfl
        have HBA:Hid (Below wp.heap.size wp (wp.alloc (.cells #[Value.string y0,.int i64 y1,.int i64 y2] 59))):=(bRQ _ _).alloc (nLQ _) _;have HVA:Hid (VAt (wp.alloc (.cells #[Value.string y0,.int i64 y1,.int i64 y2] 59)) wp.heap.size 0 (hstE.c (y0,(y1,y2)))):=hst_new wp y0 y1 y2 59;clear hHk hc
        go_wp2_with fail
        refine (rname_any y0 _).mono ?_;rintro e w2 ⟨rfl,hw2⟩;subst hw2;obtain⟨w2,hw2⟩:∃W,wp.alloc (.cells #[Value.string y0,.int i64 y1,.int i64 y2] 59)=W:=⟨_,rfl⟩;rw[hw2] at HBA HVA ⊢;have HB2w:Hid (Below w.heap.size w w2):=HBw.out.trans (HBA.out.mono HBw.out.size);obtain⟨b0,b1,b2⟩:=HXr.out.later HBA.out;obtain⟨l0,l1,l2⟩:=hst_cells HVA.out;simp only[Nat.zero_add] at l0 l1 l2;clear hw2 q0 q1 q2;cases hna:nmB y0
        ·have HT1:Hid (T=2):=by
          have e:ho1 S N U (y0,(y1,y2))=2:=by simp[ho1,hna]
          have:=HT7.out (by rw[e];decide);rw[e] at this;exact this
         go_wp2;go_ret;exact⟨by rw[HT1.out];rfl,HB2w.out⟩
        go_wp2_with fail
        refine (rspot_any S ao k cap (some ⟨g,o,none⟩) n2 cap2 y1 y2 _).mono ?_;rintro e w3 ⟨rfl,hb3⟩;have hB3:Below wp.heap.size wp w3:=HBA.out.trans (hb3.mono HBA.out.size);have HB3:Hid (Below wp.heap.size wp w3):=hB3;have HB3w:Hid (Below w.heap.size w w3):=HBw.out.trans (hB3.mono HBw.out.size);have HV3:Hid (VAt w3 wp.heap.size 0 (hstE.c (y0,(y1,y2)))):=HVA.out.later hb3;obtain⟨b0,b1,b2⟩:=HXr.out.later hB3;obtain⟨l0,l1,l2⟩:=hst_cells HV3.out;simp only[Nat.zero_add] at l0 l1 l2;clear hb3 hB3 HBA HVA HB2w;cases hsp:spB S (y1,y2)
        ·have HT1:Hid (T=1):=by
          have e:ho1 S N U (y0,(y1,y2))=1:=by simp[ho1,hna,hsp]
          have:=HT7.out (by rw[e];decide);rw[e] at this;exact this
         go_wp2;go_ret;exact⟨by rw[HT1.out];rfl,HB3w.out⟩
        have HL7:Hid (ho1 S N U (y0,(y1,y2))=if (N.any fun n=>n==y0) || (U.any fun u=>u==(y1,y2)) then 7 else 0):=by
         show _=_;simp only[ho1,hna,hsp,if_true]
        have HNL:Hid (N.length=j):=by
         show _=_;rw[HN.out,List.length_map,List.length_take,HHN.out];omega
        have HNQ:Hid (∀q (h1:q<N.length) (h2:q<Hs.length),N[q]=(Hs[q]).1):=fun q h1 h2=>by
         have e:=HN.out;subst e;simp
        obtain⟨_,_,_,e5,hUn,hUm,_,hUa⟩:=(own_GS (E:=spoE) (L:=U) (by rw[HMU.out];exact HOWN.out):GS spoE wp (.slice ao3 m cap3) U).form;cases e5;have HUA:Hid (0<m→∃g o,ao3=some ⟨g,o,none⟩∧GAt spoE wp g o U∧cap3≤maxLen):=hUa;clear hUn hUm hUa b0 b1 b2 l0 l1 l2;go_wp2
        go_loopw [13] (fun i wz=>∃q:Nat,q≤j∧i=.int i64 q∧(N.take q).any (fun n=>n==y0)=false∧Below w3.heap.size w3 wz) (fun i _=>j-(intOf i).toNat)
        case atStart=>exact⟨0,by omega,rfl,by simp,bRQ _ _⟩
        case round =>
         obtain⟨q,hq,rfl,hno,hBz⟩:=hrel;obtain⟨wn,hwn⟩:∃x,x=wr:=⟨_,rfl⟩;subst hwn;have HNO:Hid ((N.take q).any (fun n=>n==y0)=false):=hno;have HBz:Hid (Below wp.heap.size wp wn):=HB3.out.trans (hBz.mono HB3.out.size);have HBc:Hid (Below w3.heap.size w3 wn):=hBz;have HBzw:Hid (Below w.heap.size w wn):=HBw.out.trans (HBz.out.mono HBw.out.size);obtain⟨b0,b1,b2⟩:=HXr.out.later HBz.out;have HVz:Hid (VAt wn wp.heap.size 0 (hstE.c (y0,(y1,y2)))):=HV3.out.later hBz;obtain⟨l0,l1,l2⟩:=hst_cells HVz.out;simp only[Nat.zero_add] at l0 l1 l2;have hll:wp.heap.size<wn.heap.size:=bLQ _ _ l0;have hlw:w.heap.size<wn.heap.size:=bLQ _ _ b0;clear hno hBz;by_cases hqj:q<j
         ·obtain⟨z0,z1,z2,hql,hHq,p0,p1,p2⟩:=hst_at (HHC.out.later HBz.out) HHN.out (show q<n2 by omega);have hqN:q<N.length:=by rw[HNL.out];exact hqj
          have hNq:N[q]=z0:=by rw[HNQ.out q hqN hql,hHq]
          have qb0:(0:Int)≤(q:Int):=by omega
          have qb1:(q:Int)<(n2:Int):=by omega
          have hgl3:g<wn.heap.size:=bLQ _ _ p0;have HHIT:Hid ((z0==y0)=true→T=7):=fun hy=>by
           have e:ho1 S N U (y0,(y1,y2))=7:=by
            rw[HL7.out,any_hitG hqN (by rw[hNq];exact hy)];rfl
           have:=HT7.out (by rw[e];decide);rw[e] at this;exact this
          have HNXT:Hid ((z0==y0)=false→(N.take (q+1)).any (fun n=>n==y0)=false):=fun hy=>any_nextG hqN HNO.out (by rw[hNq];exact hy)
          have hbe:=beq_toListBytes z0 y0;clear hHq hNq;cases hz:(z0==y0)
          ·have HN1:Hid ((N.take (q+1)).any (fun n=>n==y0)=false):=HNXT.out hz;rw[hbe] at hz;clear hbe
           go_wp2_with fail
           go_quiet (fail)
           go_wp2;go_roundw
           case rel=>exact⟨q+1,by omega,by go_num,HN1.out,HBc.out.trans ((below_drewN _ _).mono HBc.out.size)⟩
           case measure=>simp[intOf];omega
          have HT1:Hid (T=7):=HHIT.out hz;rw[hbe] at hz;clear hbe
          go_wp2_with fail
          go_quiet (fail)
          go_wp2;go_ret;exact⟨by rw[HT1.out];rfl,HBzw.out.trans ((below_drewN _ _).mono HBzw.out.size)⟩
         obtain rfl:q=j:=by omega
         have HAN:Hid ((N.any fun n=>n==y0)=false):=by
          have:=HNO.out;rw[←HNL.out] at this;exact any_take this
         have HL8:Hid (ho1 S N U (y0,(y1,y2))=if (U.any fun u=>u==(y1,y2)) then 7 else 0):=by
          show _=_;rw[HL7.out,HAN.out,Bool.false_or]
         clear b0 b1 b2 l0 l1 l2;go_wp2
         go_loopw [14] (fun i wz=>∃q:Nat,q≤m∧i=.int i64 q∧(U.take q).any (fun u=>u==(y1,y2))=false∧Below wn.heap.size wn wz) (fun i _=>m-(intOf i).toNat)
         case atStart=>exact⟨0,by omega,rfl,by simp,bRQ _ _⟩
         case round =>
          obtain⟨r,hr,rfl,hno,hBy⟩:=hrel;have HNO2:Hid ((U.take r).any (fun u=>u==(y1,y2))=false):=hno;have HBy:Hid (Below wp.heap.size wp wr):=HBz.out.trans (hBy.mono HBz.out.size);have HBcy:Hid (Below wn.heap.size wn wr):=hBy;have HByw:Hid (Below w.heap.size w wr):=HBw.out.trans (HBy.out.mono HBw.out.size);obtain⟨b0,b1,b2⟩:=HXr.out.later HBy.out;have HVy:Hid (VAt wr wp.heap.size 0 (hstE.c (y0,(y1,y2)))):=HVz.out.later hBy;obtain⟨l0,l1,l2⟩:=hst_cells HVy.out;simp only[Nat.zero_add] at l0 l1 l2;have hll:wp.heap.size<wr.heap.size:=bLQ _ _ l0;clear hno hBy;by_cases hrm:r<m
          ·obtain⟨g3,o3,hao3,hc3,_⟩:=HUA.out (by omega);subst hao3;obtain⟨v0,v1,hql,hUq,p0,p1⟩:=spo_at (hc3.later HBy.out) HMU.out hrm;have HUQ:Hid (U[r]=(v0,v1)):=hUq;have qb0:(0:Int)≤(r:Int):=by omega
           have qb1:(r:Int)<(m:Int):=by omega
           have hgl3:g3<wr.heap.size:=bLQ _ _ p0;have HHIT:Hid ((v0==y1&&v1==y2)=true→T=7):=fun hy=>by
            have e:ho1 S N U (y0,(y1,y2))=7:=by
             rw[HL8.out,any_hitG hql (by rw[HUQ.out];exact hy)];rfl
            have:=HT7.out (by rw[e];decide);rw[e] at this;exact this
           have HNXT:Hid ((v0==y1&&v1==y2)=false→(U.take (r+1)).any (fun u=>u==(y1,y2))=false):=fun hy=>any_nextG hql HNO2.out (by rw[HUQ.out];exact hy)
           clear hc3 hUq
           rcases eq2_ways v0 v1 y1 y2 with ⟨f0,f1,f2⟩ | ⟨f0,f1,f2⟩ | ⟨f0,f1⟩
           ·have HT1:Hid (T=7):=HHIT.out f0
            go_wp2_with fail
            go_quiet (fail)
            go_wp2;go_ret;exact⟨by rw[HT1.out];rfl,HByw.out.trans ((below_drewN _ _).mono HByw.out.size)⟩
           ·have HN1:Hid ((U.take (r+1)).any (fun u=>u==(y1,y2))=false):=HNXT.out f0
            go_wp2_with fail
            go_quiet (fail)
            go_wp2;go_roundw
            case rel=>exact⟨r+1,by omega,by go_num,HN1.out,HBcy.out.trans ((below_drewN _ _).mono HBcy.out.size)⟩
            case measure=>simp[intOf];omega
           have HN1:Hid ((U.take (r+1)).any (fun u=>u==(y1,y2))=false):=HNXT.out f0
           go_wp2_with fail
           go_quiet (fail)
           go_wp2;go_roundw
           case rel=>exact⟨r+1,by omega,by go_num,HN1.out,HBcy.out.trans ((below_drewN _ _).mono HBcy.out.size)⟩
           case measure=>simp[intOf];omega
          obtain rfl:r=m:=by omega
          have HT0:Hid (T=hoN S (Hs.drop (q+1)) ((Hs.take (q+1)).map (·.1)) (spsL Ls++(Hs.take (q+1)).map (·.2))):=by
           show _=_;have e:ho1 S N U (y0,(y1,y2))=0:=by
            have h2:=HNO2.out;rw[←HMU.out] at h2;rw[HL8.out,any_take h2];rfl
           rw[HTN.out,if_pos e,HUN.out,HNN.out]
          have HOZ:Hid (wr.ownsRow w0.heap.size 55 2 (.slice ao3 r cap3) r (cellsG spoE U)):=own_below HOWN.out HBy.out;have HBz0:Hid (Below w0.heap.size w0 wr):=HBr.out.trans (HBy.out.mono HBr.out.size);have hsz0:w0.heap.size≤wr.heap.size:=HBz0.out.size
          go_wp2_with (at_builtin;refine wpList_append_own _ rfl _ _ 91 rfl w0.heap.size 55 i0 (.agg #[.int i64 0,.int i64 0]) 2 16 underlying91 hi hz0 hz1 hz2 spo_zero (by decide) _ _ _ rfl (HOZ.out.alloc _) ⟨wr.heap.size,0,none⟩ 1 1 [.int i64 y1,.int i64 y2] rfl rfl ?n1 ?n2 ?n3 ?n4 ?n5 ?_)
          case n1 =>
           intro j u hj
           match j,hj with
           | 0,hj=>simp at hj;subst hj;simp[Addr.add]
           | 1,hj=>simp at hj;subst hj;simp[Addr.add]
          case n2=>intro u hu;simp at hu;rcases hu with rfl | rfl <;> rfl
          case n3=>unfold maxLen;omega
          case n4=>omega
          case n5=>simp;omega
          intro v5 w5 hown5 hgrow5 _;obtain⟨ao5,cap5,rfl⟩:=own_form hown5;have hb5:Below w0.heap.size wr w5:=((Below.refl _ wr).alloc hsz0 _).grown hgrow5 (by simp;omega) (fun g hg=>(HOZ.out.lt g hg).1);have HB5:Hid (Below w0.heap.size w0 w5):=HBz0.out.trans hb5;have HO5:Hid (w5.ownsRow w0.heap.size 55 2 (.slice ao5 (r+1) cap5) (spsL Ls++(Hs.take (q+1)).map (·.2)).length (cellsG spoE (spsL Ls++(Hs.take (q+1)).map (·.2)))):=by
           show World.ownsRow _ _ _ _ _ _ _;rw[HUN.out];exact own_one1 HMU.out hown5
          clear hb5 hgrow5 hown5 b0 b1 b2 l0 l1 l2;go_wp2;go_roundw
          case rel=>exact⟨q+1,HK1.out,by go_num,HO5.out,HT0.out,HB5.out⟩
          case measure =>
           have:=HK1.out;simp[intOf];omega
       obtain rfl:j=n2:=by omega
       have HT0:Hid (T=0):=by
        show _=_;rw[HTJ.out,←HHN.out,List.drop_length];rfl
       go_wp2;go_ret;exact⟨by rw[HT0.out];rfl,HBw.out⟩
    have s1:decide (S<1)=false:=by simp;omega
    have s2:decide (6<S)=false:=by simp;omega
    have s3:decide (200<(n:Int))=false:=by simp;omega
    have s4:decide (8<(n2:Int))=true:=by simp;omega
    have HTE:Hid (T=4):=by
     show _=_;have e1:(decide (1≤S)&&decide (S≤6))=true:=by simp[h1,h6]
     have e2:(decide (Ls.length≤200)&&decide (Hs.length≤8))=false:=by simp[hLn,hHn,h2];omega
     rw[hT,tpN,if_pos e1,e2];rfl
    clear hX hB HT hT hL hH hLn hHn hLm hHm hLa hHa h1 h6 h2 h8;go_enter func13,ntmps13;go_wp2;go_ret;exact⟨by rw[HTE.out];rfl,HB0'.out⟩
   have s1:decide (S<1)=false:=by simp;omega
   have s2:decide (6<S)=false:=by simp;omega
   have s3:decide (200<(n:Int))=true:=by simp;omega
   have HTE:Hid (T=4):=by
    show _=_;have e1:(decide (1≤S)&&decide (S≤6))=true:=by simp[h1,h6]
    have e2:(decide (Ls.length≤200)&&decide (Hs.length≤8))=false:=by simp[hLn];omega
    rw[hT,tpN,if_pos e1,e2];rfl
   clear hX hB HT hT hL hH hLn hHn hLm hHm hLa hHa h1 h6 h2;go_enter func13,ntmps13;go_wp2;go_ret;exact⟨by rw[HTE.out];rfl,HB0'.out⟩
  have s1:decide (S<1)=false:=by simp;omega
  have s2:decide (6<S)=true:=by simp;omega
  have HTE:Hid (T=1):=by
   show _=_;have e1:(decide (1≤S)&&decide (S≤6))=false:=by simp;omega
   rw[hT,tpN,e1];rfl
  clear hX hB HT hT hL hH hLn hHn hLm hHm hLa hHa h1 h6;go_enter func13,ntmps13;go_wp2;go_ret;exact⟨by rw[HTE.out];rfl,HB0'.out⟩
 have s1:decide (S<1)=true:=by simp;omega
 have HTE:Hid (T=1):=by
  show _=_;have e1:(decide (1≤S)&&decide (S≤6))=false:=by simp;omega
  rw[hT,tpN,e1];rfl
 clear hX hB HT hT hL hH hLn hHn hLm hHm hLa hHa h1;go_enter func13,ntmps13;go_wp2;go_ret;exact⟨by rw[HTE.out];rfl,HB0'.out⟩
def CD (w:World)(g o:Nat)(p m b q s v:Int)(g' o':Nat)(p' m' b' q' s' v':Int)(w':World):Prop:=
 Below w.heap.size w w'∧(w'.cell? ⟨g,o,none⟩=some (.int i64 p)∧w'.cell? ⟨g,o+1,none⟩=some (.int i64 m)∧w'.cell? ⟨g,o+2,none⟩=some (.int i64 b) ∧
  w'.cell? ⟨g,o+3,none⟩=some (.int i64 q)∧w'.cell? ⟨g,o+4,none⟩=some (.int i64 s)∧w'.cell? ⟨g,o+5,none⟩=some (.int i64 v)) ∧
 w'.cell? ⟨g',o',none⟩=some (.int i64 p')∧w'.cell? ⟨g',o'+1,none⟩=some (.int i64 m')∧w'.cell? ⟨g',o'+2,none⟩=some (.int i64 b') ∧
  w'.cell? ⟨g',o'+3,none⟩=some (.int i64 q')∧w'.cell? ⟨g',o'+4,none⟩=some (.int i64 s')∧w'.cell? ⟨g',o'+5,none⟩=some (.int i64 v')
theorem CD.later {w W W':World}{g o:Nat}{p m b q s v:Int}{g' o':Nat}{p' m' b' q' s' v':Int}(hb:Below W.heap.size W W')(h:CD w g o p m b q s v g' o' p' m' b' q' s' v' W):CD w g o p m b q s v g' o' p' m' b' q' s' v' W':=by
 obtain⟨h0,⟨h1,h2,h3,h4,h5,h6⟩,k1,k2,k3,k4,k5,k6⟩:=h;exact⟨h0.trans (hb.mono h0.size),⟨cell_later hb h1,cell_later hb h2,cell_later hb h3,cell_later hb h4,cell_later hb h5,cell_later hb h6⟩,cell_later hb k1,cell_later hb k2,cell_later hb k3,cell_later hb k4,cell_later hb k5,cell_later hb k6⟩
theorem to_badF {L:List Ru}{k:Nat}{r:Ru}(hk:k<L.length)(hr:L[k]=r)(h:tbTo L k=0)(h2:r.n≠0)(h12:L.length≤12):tbN L=r.n:=by
 have e:tbTo L (k+1)=r.n:=by rw[tbTo,if_pos h,getD_at hk,hr,if_neg h2]
 rw[tbN,if_neg (by omega),←e];exact to_le (by rw[e];exact h2) hk
theorem to_clashF {L:List Ru}{k:Nat}{r:Ru}(hk:k<L.length)(hr:L[k]=r)(h:tbTo L k=0)(h2:r.n=0)(h3:(L.take k).any (fun a=>keyB a r)=true)(h12:L.length≤12):tbN L=7:=by
 have e:tbTo L (k+1)=7:=by
  rw[tbTo,if_pos h,getD_at hk,hr,if_pos h2,h3];rfl
 rw[tbN,if_neg (by omega),←e];exact to_le (by rw[e];decide) hk
theorem to_nextF {L:List Ru}{k:Nat}{r:Ru}(hk:k<L.length)(hr:L[k]=r)(h:tbTo L k=0)(h2:r.n=0)(h3:(L.take k).any (fun a=>keyB a r)=false):tbTo L (k+1)=0:=by
 rw[tbTo,if_pos h,getD_at hk,hr,if_pos h2,h3];rfl
theorem tab_take {L:List Ru}{f:Ru→Bool}{q k:Nat}(hq:q<k)(hk:q<L.length)(h:f L[q]=true):(L.take k).any f=true:=
 List.any_eq_true.2 ⟨_,List.mem_take_iff_getElem.2 ⟨q,by omega,rfl⟩,h⟩
theorem refTable_some (g o cap n:Nat)(L:List Ru)(w:World)(hc:RAt w g o L)(hn:L.length=n)(hl:n≤12):
 Calls prog 14 #[.slice (some ⟨g,o,none⟩) n cap] w fun e w'=>e=.returned (.int i64 (tbN L))∧Below w.heap.size w w':=by
 have HN:Hid (L.length=n):=hn;clear hn;go_enter func14,ntmps14;go_wp2
 go_loopw [3] (fun i wr=>∃k:Nat,k≤n∧i=.int i64 k∧tbTo L k=0∧Below w.heap.size w wr) (fun i _=>n-(intOf i).toNat)
 case atStart=>exact⟨0,by omega,rfl,rfl,bRQ _ _⟩
 case round =>
  obtain⟨k,hk,rfl,hno,hB⟩:=hrel;have HB:Hid (Below w.heap.size w wr):=hB;have HNO:Hid (tbTo L k=0):=hno;clear hno;by_cases hlt:k<n
  ·obtain⟨p,m,b,q,s,v,hkl,hL,q0,q1,q2,q3,q4,q5⟩:=(hc.later hB).at HN.out hlt;have HL:Hid (L[k]=⟨p,m,b,q,s,v⟩):=hL;clear hL hB;by_cases ho:ruN p m b q s v=0
   ·have HO:Hid (ruN p m b q s v=0):=ho
    go_wp2_with fail
    refine (refRule_any _ _ _ _ _ _ _).mono ?_;rintro e w1 ⟨rfl,hb1⟩;rw[HO.out];have HB1:Hid (Below w.heap.size w w1):=HB.out.trans (hb1.mono HB.out.size);clear hb1 q0 q1 q2 q3 q4 q5 ho;go_wp2
    go_loopw [5] (fun j w2=>∃t:Nat,t≤k∧j=.int i64 t∧(L.take t).any (fun a=>keyB a ⟨p,m,b,q,s,v⟩)=false∧Below w.heap.size w w2) (fun j _=>k-(intOf j).toNat)
    case atStart=>exact⟨0,by omega,rfl,by simp,HB1.out⟩
    case round =>
     obtain⟨t,ht,rfl,hany,hB2⟩:=hrel;have HANY:Hid ((L.take t).any (fun a=>keyB a ⟨p,m,b,q,s,v⟩)=false):=hany;have HB2:Hid (Below w.heap.size w wr):=hB2;clear hany;by_cases hq:t<k
     ·obtain⟨p4,m4,b4,o4,s4,v4,htl,hLt,y0,y1,y2,y3,y4,y5⟩:=(hc.later hB2).at HN.out (show t<n by omega);obtain⟨p5,m5,b5,o5,s5,v5,_,hLk,r0,r1,r2,r3,r4,r5⟩:=(hc.later hB2).at HN.out hlt;rw[HL.out] at hLk;simp only[Ru.mk.injEq] at hLk;obtain⟨rfl,rfl,rfl,rfl,rfl,rfl⟩:=hLk;have HLT:Hid (L[t]=⟨p4,m4,b4,o4,s4,v4⟩):=hLt;have HCE:Hid (CD w g (o+t*6) p4 m4 b4 o4 s4 v4 g (o+k*6) p m b q s v wr):=⟨hB2,⟨y0,y1,y2,y3,y4,y5⟩,r0,r1,r2,r3,r4,r5⟩;clear y0 y1 y2 y3 y4 y5 r0 r1 r2 r3 r4 r5 hLt hB2;go_upto_region 12 with fail;have tb0:(0:Int)≤(t:Int):=by omega
      have tb1:(t:Int)<(n:Int):=by omega
      have kb0:(0:Int)≤(k:Int):=by omega
      have kb1:(k:Int)<(n:Int):=by omega
      go_cut [51] from 23 to 51 (fun c w'=>c=.bool (keyB ⟨p4,m4,b4,o4,s4,v4⟩ ⟨p,m,b,q,s,v⟩)∧Below w.heap.size w w')
      case first =>
       as_aux_lemma =>
        by_cases e1:p4=p
        ·have f1:(p4==p)=true:=by simpa using e1
         by_cases e2:m4=m∧b4=b
         ·obtain⟨e2,e3⟩:=e2;have hky:keyB ⟨p4,m4,b4,o4,s4,v4⟩ ⟨p,m,b,q,s,v⟩=true:=by rw[key_eq];simp[e1,e2,e3]
          have f2:(m4==m)=true:=by simpa using e2
          have f3:(b4==b)=true:=by simpa using e3
          have hC0:=HCE.out;clear e1 e2 e3;refine wp_region_quiet (C:=CD w g (o+t*6) p4 m4 b4 o4 s4 v4 g (o+k*6) p m b q s v) (by kernel_rfl) (by kernel_rfl) (CD.later (W:=wr) (Below.drew (bRQ _ _)) hC0) ?_;simp only[List.toList_toArray];go_big_quiet_want;refine qv (.slice (some ⟨g,o,none⟩) n cap) ?_ ?_
          ·rintro w' ⟨z0,⟨z1,z2,z3,z4,z5,z6⟩,y1,y2,y3,y4,y5,y6⟩;go_simp
          simp only[Act.put,AP];go_big_quiet_on;go_big_quiet_want;refine qv (.int i64 (t:Int)) ?_ ?_
          ·rintro w' ⟨z0,⟨z1,z2,z3,z4,z5,z6⟩,y1,y2,y3,y4,y5,y6⟩;go_simp
          simp only[Act.put,AP];go_big_quiet_on;go_big_quiet_want;refine qv (.pointer (some ⟨g,o+t*6,none⟩)) ?_ ?_
          ·rintro w' ⟨z0,⟨z1,z2,z3,z4,z5,z6⟩,y1,y2,y3,y4,y5,y6⟩;go_simp
          simp only[Act.put,AP];go_big_quiet_on;go_big_quiet_want;refine qv (.pointer (some ⟨g,o+t*6,none⟩)) ?_ ?_
          ·rintro w' ⟨z0,⟨z1,z2,z3,z4,z5,z6⟩,y1,y2,y3,y4,y5,y6⟩;go_simp
          simp only[Act.put,AP];go_big_quiet_on;go_big_quiet_want;refine qv (.int i64 p4) ?_ ?_
          ·rintro w' ⟨z0,⟨z1,z2,z3,z4,z5,z6⟩,y1,y2,y3,y4,y5,y6⟩;go_simp
          simp only[Act.put,AP];go_big_quiet_on;go_big_quiet_want;refine qv (.slice (some ⟨g,o,none⟩) n cap) ?_ ?_
          ·rintro w' ⟨z0,⟨z1,z2,z3,z4,z5,z6⟩,y1,y2,y3,y4,y5,y6⟩;go_simp
          simp only[Act.put,AP];go_big_quiet_on;go_big_quiet_want;refine qv (.int i64 (k:Int)) ?_ ?_
          ·rintro w' ⟨z0,⟨z1,z2,z3,z4,z5,z6⟩,y1,y2,y3,y4,y5,y6⟩;go_simp
          simp only[Act.put,AP];go_big_quiet_on;go_big_quiet_want;refine qv (.pointer (some ⟨g,o+k*6,none⟩)) ?_ ?_
          ·rintro w' ⟨z0,⟨z1,z2,z3,z4,z5,z6⟩,y1,y2,y3,y4,y5,y6⟩;go_simp
          simp only[Act.put,AP];go_big_quiet_on;go_big_quiet_want;refine qv (.pointer (some ⟨g,o+k*6,none⟩)) ?_ ?_
          ·rintro w' ⟨z0,⟨z1,z2,z3,z4,z5,z6⟩,y1,y2,y3,y4,y5,y6⟩;go_simp
          simp only[Act.put,AP];go_big_quiet_on;go_big_quiet_want;refine qv (.int i64 p) ?_ ?_
          ·rintro w' ⟨z0,⟨z1,z2,z3,z4,z5,z6⟩,y1,y2,y3,y4,y5,y6⟩;go_simp
          simp only[Act.put,AP];go_big_quiet_on;go_big_quiet_want;refine qv (.bool true) ?_ ?_
          ·rintro w' ⟨z0,⟨z1,z2,z3,z4,z5,z6⟩,y1,y2,y3,y4,y5,y6⟩;go_simp
          simp only[Act.put,AP];go_big_quiet_on;go_big_quiet_want;refine qv (.bool true) ?_ ?_
          ·rintro w' ⟨z0,⟨z1,z2,z3,z4,z5,z6⟩,y1,y2,y3,y4,y5,y6⟩;go_simp
          simp only[Act.put,AP];go_big_quiet_on;go_big_quiet_want;refine qv (.slice (some ⟨g,o,none⟩) n cap) ?_ ?_
          ·rintro w' ⟨z0,⟨z1,z2,z3,z4,z5,z6⟩,y1,y2,y3,y4,y5,y6⟩;go_simp
          simp only[Act.put,AP];go_big_quiet_on;go_big_quiet_want;refine qv (.int i64 (t:Int)) ?_ ?_
          ·rintro w' ⟨z0,⟨z1,z2,z3,z4,z5,z6⟩,y1,y2,y3,y4,y5,y6⟩;go_simp
          simp only[Act.put,AP];go_big_quiet_on;go_big_quiet_want;refine qv (.pointer (some ⟨g,o+t*6,none⟩)) ?_ ?_
          ·rintro w' ⟨z0,⟨z1,z2,z3,z4,z5,z6⟩,y1,y2,y3,y4,y5,y6⟩;go_simp
          simp only[Act.put,AP];go_big_quiet_on;go_big_quiet_want;refine qv (.pointer (some ⟨g,o+t*6+1,none⟩)) ?_ ?_
          ·rintro w' ⟨z0,⟨z1,z2,z3,z4,z5,z6⟩,y1,y2,y3,y4,y5,y6⟩;go_simp
          simp only[Act.put,AP];go_big_quiet_on;go_big_quiet_want;refine qv (.agg #[.int i64 m4,.int i64 b4]) ?_ ?_
          ·rintro w' ⟨z0,⟨z1,z2,z3,z4,z5,z6⟩,y1,y2,y3,y4,y5,y6⟩;go_simp
          simp only[Act.put,AP];go_big_quiet_on;go_big_quiet_want;refine qv (.slice (some ⟨g,o,none⟩) n cap) ?_ ?_
          ·rintro w' ⟨z0,⟨z1,z2,z3,z4,z5,z6⟩,y1,y2,y3,y4,y5,y6⟩;go_simp
          simp only[Act.put,AP];go_big_quiet_on;go_big_quiet_want;refine qv (.int i64 (k:Int)) ?_ ?_
          ·rintro w' ⟨z0,⟨z1,z2,z3,z4,z5,z6⟩,y1,y2,y3,y4,y5,y6⟩;go_simp
          simp only[Act.put,AP];go_big_quiet_on;go_big_quiet_want;refine qv (.pointer (some ⟨g,o+k*6,none⟩)) ?_ ?_
          ·rintro w' ⟨z0,⟨z1,z2,z3,z4,z5,z6⟩,y1,y2,y3,y4,y5,y6⟩;go_simp
          simp only[Act.put,AP];go_big_quiet_on;go_big_quiet_want;refine qv (.pointer (some ⟨g,o+k*6+1,none⟩)) ?_ ?_
          ·rintro w' ⟨z0,⟨z1,z2,z3,z4,z5,z6⟩,y1,y2,y3,y4,y5,y6⟩;go_simp
          simp only[Act.put,AP];go_big_quiet_on;go_big_quiet_want;refine qv (.agg #[.int i64 m,.int i64 b]) ?_ ?_
          ·rintro w' ⟨z0,⟨z1,z2,z3,z4,z5,z6⟩,y1,y2,y3,y4,y5,y6⟩;go_simp
          simp only[Act.put,AP];go_big_quiet_on;go_big_quiet_want;refine qv (.bool true) ?_ ?_
          ·rintro w' ⟨z0,⟨z1,z2,z3,z4,z5,z6⟩,y1,y2,y3,y4,y5,y6⟩;go_simp
          simp only[Act.put,AP];go_big_quiet_on;go_big_quiet_want;refine qv (.bool true) ?_ ?_
          ·rintro w' ⟨z0,⟨z1,z2,z3,z4,z5,z6⟩,y1,y2,y3,y4,y5,y6⟩;go_simp
          simp only[Act.put,AP];go_big_quiet_on;refine wpQuiet_nil ?_;intro w' hC
          go_wp2_with fail
          go_meet
          case rel=>exact⟨by rw[hky],hC.1⟩
         have hky:keyB ⟨p4,m4,b4,o4,s4,v4⟩ ⟨p,m,b,q,s,v⟩=false:=by
          rw[key_eq];simp only[e1,decide_true,Bool.true_and,Bool.and_eq_false_iff,decide_eq_false_iff_not];by_cases e3:m4=m
          ·exact .inr fun e4=>e2 ⟨e3,e4⟩
          exact .inl e3
         by_cases e3:m4=m
         ·have f3:¬b4=b:=fun e4=>e2 ⟨e3,e4⟩
          have f2:(m4==m)=true:=by simpa using e3
          have f4:(b4==b)=false:=by simpa using f3
          clear e2;have hC0:=HCE.out;clear e1;refine wp_region_quiet (C:=CD w g (o+t*6) p4 m4 b4 o4 s4 v4 g (o+k*6) p m b q s v) (by kernel_rfl) (by kernel_rfl) (CD.later (W:=wr) (Below.drew (bRQ _ _)) hC0) ?_;simp only[List.toList_toArray];go_big_quiet_want;refine qv (.slice (some ⟨g,o,none⟩) n cap) ?_ ?_
          ·rintro w' ⟨z0,⟨z1,z2,z3,z4,z5,z6⟩,y1,y2,y3,y4,y5,y6⟩;go_simp
          simp only[Act.put,AP];go_big_quiet_on;go_big_quiet_want;refine qv (.int i64 (t:Int)) ?_ ?_
          ·rintro w' ⟨z0,⟨z1,z2,z3,z4,z5,z6⟩,y1,y2,y3,y4,y5,y6⟩;go_simp
          simp only[Act.put,AP];go_big_quiet_on;go_big_quiet_want;refine qv (.pointer (some ⟨g,o+t*6,none⟩)) ?_ ?_
          ·rintro w' ⟨z0,⟨z1,z2,z3,z4,z5,z6⟩,y1,y2,y3,y4,y5,y6⟩;go_simp
          simp only[Act.put,AP];go_big_quiet_on;go_big_quiet_want;refine qv (.pointer (some ⟨g,o+t*6,none⟩)) ?_ ?_
          ·rintro w' ⟨z0,⟨z1,z2,z3,z4,z5,z6⟩,y1,y2,y3,y4,y5,y6⟩;go_simp
          simp only[Act.put,AP];go_big_quiet_on;go_big_quiet_want;refine qv (.int i64 p4) ?_ ?_
          ·rintro w' ⟨z0,⟨z1,z2,z3,z4,z5,z6⟩,y1,y2,y3,y4,y5,y6⟩;go_simp
          simp only[Act.put,AP];go_big_quiet_on;go_big_quiet_want;refine qv (.slice (some ⟨g,o,none⟩) n cap) ?_ ?_
          ·rintro w' ⟨z0,⟨z1,z2,z3,z4,z5,z6⟩,y1,y2,y3,y4,y5,y6⟩;go_simp
          simp only[Act.put,AP];go_big_quiet_on;go_big_quiet_want;refine qv (.int i64 (k:Int)) ?_ ?_
          ·rintro w' ⟨z0,⟨z1,z2,z3,z4,z5,z6⟩,y1,y2,y3,y4,y5,y6⟩;go_simp
          simp only[Act.put,AP];go_big_quiet_on;go_big_quiet_want;refine qv (.pointer (some ⟨g,o+k*6,none⟩)) ?_ ?_
          ·rintro w' ⟨z0,⟨z1,z2,z3,z4,z5,z6⟩,y1,y2,y3,y4,y5,y6⟩;go_simp
          simp only[Act.put,AP];go_big_quiet_on;go_big_quiet_want;refine qv (.pointer (some ⟨g,o+k*6,none⟩)) ?_ ?_
          ·rintro w' ⟨z0,⟨z1,z2,z3,z4,z5,z6⟩,y1,y2,y3,y4,y5,y6⟩;go_simp
          simp only[Act.put,AP];go_big_quiet_on;go_big_quiet_want;refine qv (.int i64 p) ?_ ?_
          ·rintro w' ⟨z0,⟨z1,z2,z3,z4,z5,z6⟩,y1,y2,y3,y4,y5,y6⟩;go_simp
          simp only[Act.put,AP];go_big_quiet_on;go_big_quiet_want;refine qv (.bool true) ?_ ?_
          ·rintro w' ⟨z0,⟨z1,z2,z3,z4,z5,z6⟩,y1,y2,y3,y4,y5,y6⟩;go_simp
          simp only[Act.put,AP];go_big_quiet_on;go_big_quiet_want;refine qv (.bool true) ?_ ?_
          ·rintro w' ⟨z0,⟨z1,z2,z3,z4,z5,z6⟩,y1,y2,y3,y4,y5,y6⟩;go_simp
          simp only[Act.put,AP];go_big_quiet_on;go_big_quiet_want;refine qv (.slice (some ⟨g,o,none⟩) n cap) ?_ ?_
          ·rintro w' ⟨z0,⟨z1,z2,z3,z4,z5,z6⟩,y1,y2,y3,y4,y5,y6⟩;go_simp
          simp only[Act.put,AP];go_big_quiet_on;go_big_quiet_want;refine qv (.int i64 (t:Int)) ?_ ?_
          ·rintro w' ⟨z0,⟨z1,z2,z3,z4,z5,z6⟩,y1,y2,y3,y4,y5,y6⟩;go_simp
          simp only[Act.put,AP];go_big_quiet_on;go_big_quiet_want;refine qv (.pointer (some ⟨g,o+t*6,none⟩)) ?_ ?_
          ·rintro w' ⟨z0,⟨z1,z2,z3,z4,z5,z6⟩,y1,y2,y3,y4,y5,y6⟩;go_simp
          simp only[Act.put,AP];go_big_quiet_on;go_big_quiet_want;refine qv (.pointer (some ⟨g,o+t*6+1,none⟩)) ?_ ?_
          ·rintro w' ⟨z0,⟨z1,z2,z3,z4,z5,z6⟩,y1,y2,y3,y4,y5,y6⟩;go_simp
          simp only[Act.put,AP];go_big_quiet_on;go_big_quiet_want;refine qv (.agg #[.int i64 m4,.int i64 b4]) ?_ ?_
          ·rintro w' ⟨z0,⟨z1,z2,z3,z4,z5,z6⟩,y1,y2,y3,y4,y5,y6⟩;go_simp
          simp only[Act.put,AP];go_big_quiet_on;go_big_quiet_want;refine qv (.slice (some ⟨g,o,none⟩) n cap) ?_ ?_
          ·rintro w' ⟨z0,⟨z1,z2,z3,z4,z5,z6⟩,y1,y2,y3,y4,y5,y6⟩;go_simp
          simp only[Act.put,AP];go_big_quiet_on;go_big_quiet_want;refine qv (.int i64 (k:Int)) ?_ ?_
          ·rintro w' ⟨z0,⟨z1,z2,z3,z4,z5,z6⟩,y1,y2,y3,y4,y5,y6⟩;go_simp
          simp only[Act.put,AP];go_big_quiet_on;go_big_quiet_want;refine qv (.pointer (some ⟨g,o+k*6,none⟩)) ?_ ?_
          ·rintro w' ⟨z0,⟨z1,z2,z3,z4,z5,z6⟩,y1,y2,y3,y4,y5,y6⟩;go_simp
          simp only[Act.put,AP];go_big_quiet_on;go_big_quiet_want;refine qv (.pointer (some ⟨g,o+k*6+1,none⟩)) ?_ ?_
          ·rintro w' ⟨z0,⟨z1,z2,z3,z4,z5,z6⟩,y1,y2,y3,y4,y5,y6⟩;go_simp
          simp only[Act.put,AP];go_big_quiet_on;go_big_quiet_want;refine qv (.agg #[.int i64 m,.int i64 b]) ?_ ?_
          ·rintro w' ⟨z0,⟨z1,z2,z3,z4,z5,z6⟩,y1,y2,y3,y4,y5,y6⟩;go_simp
          simp only[Act.put,AP];go_big_quiet_on;go_big_quiet_want;refine qv (.bool false) ?_ ?_
          ·rintro w' ⟨z0,⟨z1,z2,z3,z4,z5,z6⟩,y1,y2,y3,y4,y5,y6⟩;go_simp
          simp only[Act.put,AP];go_big_quiet_on;go_big_quiet_want;refine qv (.bool false) ?_ ?_
          ·rintro w' ⟨z0,⟨z1,z2,z3,z4,z5,z6⟩,y1,y2,y3,y4,y5,y6⟩;go_simp
          simp only[Act.put,AP];go_big_quiet_on;refine wpQuiet_nil ?_;intro w' hC
          go_wp2_with fail
          go_meet
          case rel=>exact⟨by rw[hky],hC.1⟩
         have f2:(m4==m)=false:=by simpa using e3
         clear e2;have hC0:=HCE.out;clear e1;refine wp_region_quiet (C:=CD w g (o+t*6) p4 m4 b4 o4 s4 v4 g (o+k*6) p m b q s v) (by kernel_rfl) (by kernel_rfl) (CD.later (W:=wr) (Below.drew (bRQ _ _)) hC0) ?_;simp only[List.toList_toArray];go_big_quiet_want;refine qv (.slice (some ⟨g,o,none⟩) n cap) ?_ ?_
         ·rintro w' ⟨z0,⟨z1,z2,z3,z4,z5,z6⟩,y1,y2,y3,y4,y5,y6⟩;go_simp
         simp only[Act.put,AP];go_big_quiet_on;go_big_quiet_want;refine qv (.int i64 (t:Int)) ?_ ?_
         ·rintro w' ⟨z0,⟨z1,z2,z3,z4,z5,z6⟩,y1,y2,y3,y4,y5,y6⟩;go_simp
         simp only[Act.put,AP];go_big_quiet_on;go_big_quiet_want;refine qv (.pointer (some ⟨g,o+t*6,none⟩)) ?_ ?_
         ·rintro w' ⟨z0,⟨z1,z2,z3,z4,z5,z6⟩,y1,y2,y3,y4,y5,y6⟩;go_simp
         simp only[Act.put,AP];go_big_quiet_on;go_big_quiet_want;refine qv (.pointer (some ⟨g,o+t*6,none⟩)) ?_ ?_
         ·rintro w' ⟨z0,⟨z1,z2,z3,z4,z5,z6⟩,y1,y2,y3,y4,y5,y6⟩;go_simp
         simp only[Act.put,AP];go_big_quiet_on;go_big_quiet_want;refine qv (.int i64 p4) ?_ ?_
         ·rintro w' ⟨z0,⟨z1,z2,z3,z4,z5,z6⟩,y1,y2,y3,y4,y5,y6⟩;go_simp
         simp only[Act.put,AP];go_big_quiet_on;go_big_quiet_want;refine qv (.slice (some ⟨g,o,none⟩) n cap) ?_ ?_
         ·rintro w' ⟨z0,⟨z1,z2,z3,z4,z5,z6⟩,y1,y2,y3,y4,y5,y6⟩;go_simp
         simp only[Act.put,AP];go_big_quiet_on;go_big_quiet_want;refine qv (.int i64 (k:Int)) ?_ ?_
         ·rintro w' ⟨z0,⟨z1,z2,z3,z4,z5,z6⟩,y1,y2,y3,y4,y5,y6⟩;go_simp
         simp only[Act.put,AP];go_big_quiet_on;go_big_quiet_want;refine qv (.pointer (some ⟨g,o+k*6,none⟩)) ?_ ?_
         ·rintro w' ⟨z0,⟨z1,z2,z3,z4,z5,z6⟩,y1,y2,y3,y4,y5,y6⟩;go_simp
         simp only[Act.put,AP];go_big_quiet_on;go_big_quiet_want;refine qv (.pointer (some ⟨g,o+k*6,none⟩)) ?_ ?_
         ·rintro w' ⟨z0,⟨z1,z2,z3,z4,z5,z6⟩,y1,y2,y3,y4,y5,y6⟩;go_simp
         simp only[Act.put,AP];go_big_quiet_on;go_big_quiet_want;refine qv (.int i64 p) ?_ ?_
         ·rintro w' ⟨z0,⟨z1,z2,z3,z4,z5,z6⟩,y1,y2,y3,y4,y5,y6⟩;go_simp
         simp only[Act.put,AP];go_big_quiet_on;go_big_quiet_want;refine qv (.bool true) ?_ ?_
         ·rintro w' ⟨z0,⟨z1,z2,z3,z4,z5,z6⟩,y1,y2,y3,y4,y5,y6⟩;go_simp
         simp only[Act.put,AP];go_big_quiet_on;go_big_quiet_want;refine qv (.bool true) ?_ ?_
         ·rintro w' ⟨z0,⟨z1,z2,z3,z4,z5,z6⟩,y1,y2,y3,y4,y5,y6⟩;go_simp
         simp only[Act.put,AP];go_big_quiet_on;go_big_quiet_want;refine qv (.slice (some ⟨g,o,none⟩) n cap) ?_ ?_
         ·rintro w' ⟨z0,⟨z1,z2,z3,z4,z5,z6⟩,y1,y2,y3,y4,y5,y6⟩;go_simp
         simp only[Act.put,AP];go_big_quiet_on;go_big_quiet_want;refine qv (.int i64 (t:Int)) ?_ ?_
         ·rintro w' ⟨z0,⟨z1,z2,z3,z4,z5,z6⟩,y1,y2,y3,y4,y5,y6⟩;go_simp
         simp only[Act.put,AP];go_big_quiet_on;go_big_quiet_want;refine qv (.pointer (some ⟨g,o+t*6,none⟩)) ?_ ?_
         ·rintro w' ⟨z0,⟨z1,z2,z3,z4,z5,z6⟩,y1,y2,y3,y4,y5,y6⟩;go_simp
         simp only[Act.put,AP];go_big_quiet_on;go_big_quiet_want;refine qv (.pointer (some ⟨g,o+t*6+1,none⟩)) ?_ ?_
         ·rintro w' ⟨z0,⟨z1,z2,z3,z4,z5,z6⟩,y1,y2,y3,y4,y5,y6⟩;go_simp
         simp only[Act.put,AP];go_big_quiet_on;go_big_quiet_want;refine qv (.agg #[.int i64 m4,.int i64 b4]) ?_ ?_
         ·rintro w' ⟨z0,⟨z1,z2,z3,z4,z5,z6⟩,y1,y2,y3,y4,y5,y6⟩;go_simp
         simp only[Act.put,AP];go_big_quiet_on;go_big_quiet_want;refine qv (.slice (some ⟨g,o,none⟩) n cap) ?_ ?_
         ·rintro w' ⟨z0,⟨z1,z2,z3,z4,z5,z6⟩,y1,y2,y3,y4,y5,y6⟩;go_simp
         simp only[Act.put,AP];go_big_quiet_on;go_big_quiet_want;refine qv (.int i64 (k:Int)) ?_ ?_
         ·rintro w' ⟨z0,⟨z1,z2,z3,z4,z5,z6⟩,y1,y2,y3,y4,y5,y6⟩;go_simp
         simp only[Act.put,AP];go_big_quiet_on;go_big_quiet_want;refine qv (.pointer (some ⟨g,o+k*6,none⟩)) ?_ ?_
         ·rintro w' ⟨z0,⟨z1,z2,z3,z4,z5,z6⟩,y1,y2,y3,y4,y5,y6⟩;go_simp
         simp only[Act.put,AP];go_big_quiet_on;go_big_quiet_want;refine qv (.pointer (some ⟨g,o+k*6+1,none⟩)) ?_ ?_
         ·rintro w' ⟨z0,⟨z1,z2,z3,z4,z5,z6⟩,y1,y2,y3,y4,y5,y6⟩;go_simp
         simp only[Act.put,AP];go_big_quiet_on;go_big_quiet_want;refine qv (.agg #[.int i64 m,.int i64 b]) ?_ ?_
         ·rintro w' ⟨z0,⟨z1,z2,z3,z4,z5,z6⟩,y1,y2,y3,y4,y5,y6⟩;go_simp
         simp only[Act.put,AP];go_big_quiet_on;go_big_quiet_want;refine qv (.bool false) ?_ ?_
         ·rintro w' ⟨z0,⟨z1,z2,z3,z4,z5,z6⟩,y1,y2,y3,y4,y5,y6⟩;go_simp
         simp only[Act.put,AP];go_big_quiet_on;go_big_quiet_want;refine qv (.bool false) ?_ ?_
         ·rintro w' ⟨z0,⟨z1,z2,z3,z4,z5,z6⟩,y1,y2,y3,y4,y5,y6⟩;go_simp
         simp only[Act.put,AP];go_big_quiet_on;refine wpQuiet_nil ?_;intro w' hC
         go_wp2_with fail
         go_meet
         case rel=>exact⟨by rw[hky],hC.1⟩
        have hky:keyB ⟨p4,m4,b4,o4,s4,v4⟩ ⟨p,m,b,q,s,v⟩=false:=by rw[key_eq];simp[e1]
        have f1:(p4==p)=false:=by simpa using e1
        have hC0:=HCE.out;clear e1;refine wp_region_quiet (C:=CD w g (o+t*6) p4 m4 b4 o4 s4 v4 g (o+k*6) p m b q s v) (by kernel_rfl) (by kernel_rfl) (CD.later (W:=wr) (Below.drew (bRQ _ _)) hC0) ?_;simp only[List.toList_toArray];go_big_quiet_want;refine qv (.slice (some ⟨g,o,none⟩) n cap) ?_ ?_
        ·rintro w' ⟨z0,⟨z1,z2,z3,z4,z5,z6⟩,y1,y2,y3,y4,y5,y6⟩;go_simp
        simp only[Act.put,AP];go_big_quiet_on;go_big_quiet_want;refine qv (.int i64 (t:Int)) ?_ ?_
        ·rintro w' ⟨z0,⟨z1,z2,z3,z4,z5,z6⟩,y1,y2,y3,y4,y5,y6⟩;go_simp
        simp only[Act.put,AP];go_big_quiet_on;go_big_quiet_want;refine qv (.pointer (some ⟨g,o+t*6,none⟩)) ?_ ?_
        ·rintro w' ⟨z0,⟨z1,z2,z3,z4,z5,z6⟩,y1,y2,y3,y4,y5,y6⟩;go_simp
        simp only[Act.put,AP];go_big_quiet_on;go_big_quiet_want;refine qv (.pointer (some ⟨g,o+t*6,none⟩)) ?_ ?_
        ·rintro w' ⟨z0,⟨z1,z2,z3,z4,z5,z6⟩,y1,y2,y3,y4,y5,y6⟩;go_simp
        simp only[Act.put,AP];go_big_quiet_on;go_big_quiet_want;refine qv (.int i64 p4) ?_ ?_
        ·rintro w' ⟨z0,⟨z1,z2,z3,z4,z5,z6⟩,y1,y2,y3,y4,y5,y6⟩;go_simp
        simp only[Act.put,AP];go_big_quiet_on;go_big_quiet_want;refine qv (.slice (some ⟨g,o,none⟩) n cap) ?_ ?_
        ·rintro w' ⟨z0,⟨z1,z2,z3,z4,z5,z6⟩,y1,y2,y3,y4,y5,y6⟩;go_simp
        simp only[Act.put,AP];go_big_quiet_on;go_big_quiet_want;refine qv (.int i64 (k:Int)) ?_ ?_
        ·rintro w' ⟨z0,⟨z1,z2,z3,z4,z5,z6⟩,y1,y2,y3,y4,y5,y6⟩;go_simp
        simp only[Act.put,AP];go_big_quiet_on;go_big_quiet_want;refine qv (.pointer (some ⟨g,o+k*6,none⟩)) ?_ ?_
        ·rintro w' ⟨z0,⟨z1,z2,z3,z4,z5,z6⟩,y1,y2,y3,y4,y5,y6⟩;go_simp
        simp only[Act.put,AP];go_big_quiet_on;go_big_quiet_want;refine qv (.pointer (some ⟨g,o+k*6,none⟩)) ?_ ?_
        ·rintro w' ⟨z0,⟨z1,z2,z3,z4,z5,z6⟩,y1,y2,y3,y4,y5,y6⟩;go_simp
        simp only[Act.put,AP];go_big_quiet_on;go_big_quiet_want;refine qv (.int i64 p) ?_ ?_
        ·rintro w' ⟨z0,⟨z1,z2,z3,z4,z5,z6⟩,y1,y2,y3,y4,y5,y6⟩;go_simp
        simp only[Act.put,AP];go_big_quiet_on;go_big_quiet_want;refine qv (.bool false) ?_ ?_
        ·rintro w' ⟨z0,⟨z1,z2,z3,z4,z5,z6⟩,y1,y2,y3,y4,y5,y6⟩;go_simp
        simp only[Act.put,AP];go_big_quiet_on;go_big_quiet_want;refine qv (.bool false) ?_ ?_
        ·rintro w' ⟨z0,⟨z1,z2,z3,z4,z5,z6⟩,y1,y2,y3,y4,y5,y6⟩;go_simp
        simp only[Act.put,AP];go_big_quiet_on;go_big_quiet_skip;go_big_quiet_skip;go_big_quiet_skip;go_big_quiet_skip;go_big_quiet_skip;go_big_quiet_skip;go_big_quiet_skip;go_big_quiet_skip;go_big_quiet_skip;go_big_quiet_skip;go_big_quiet_skip;go_big_quiet_want;refine qv (.bool false) ?_ ?_
        ·rintro w' ⟨z0,⟨z1,z2,z3,z4,z5,z6⟩,y1,y2,y3,y4,y5,y6⟩;go_simp
        simp only[Act.put,AP];go_big_quiet_on;refine wpQuiet_nil ?_;intro w' hC
        go_wp2_with fail
        go_meet
        case rel=>exact⟨by rw[hky],hC.1⟩
      case rest =>
       obtain⟨hc2,hB3⟩:=hcut;clear HCE;cases hky:keyB ⟨p4,m4,b4,o4,s4,v4⟩ ⟨p,m,b,q,s,v⟩
       ·rw[hky] at hc2;subst hc2;go_wp2;go_roundw
        case rel=>exact⟨t+1,by omega,by go_num,any_nextR htl HANY.out (by rw[HLT.out];exact hky),hB3⟩
        case measure=>simp[intOf];omega
       rw[hky] at hc2;subst hc2;have HT:Hid (tbN L=7):=to_clashF hkl HL.out HNO.out HO.out (tab_take hq htl (by rw[HLT.out];exact hky)) (by rw[HN.out];exact hl);go_wp2;go_ret;exact⟨by rw[HT.out];rfl,hB3⟩
     obtain rfl:t=k:=by omega
     clear hB2;go_wp2;go_roundw
     case rel=>exact⟨t+1,by omega,by go_num,to_nextF hkl HL.out HNO.out HO.out HANY.out,HB2.out⟩
     case measure=>simp[intOf];omega
   have HT:Hid (tbN L=ruN p m b q s v):=to_badF hkl HL.out HNO.out ho (by rw[HN.out];exact hl);have ho2:(ruN p m b q s v != 0)=true:=by simpa using ho
   clear ho
   go_wp2_with fail
   refine (refRule_any _ _ _ _ _ _ _).mono ?_;rintro e w1 ⟨rfl,hb1⟩;have HB1:=HB.out.trans (hb1.mono HB.out.size);clear hb1;go_wp2;go_ret;exact⟨by rw[HT.out];rfl,HB1⟩
  obtain rfl:k=n:=by omega
  go_wp2;go_ret;refine⟨?_,HB.out⟩;have e1:tbN L=0:=by
   rw[tbN,if_neg (by rw[HN.out];omega),HN.out];exact HNO.out
  rw[e1];rfl
theorem refTable_long (ao:AdQ)(cap n:Nat)(w:World)(hl:12<n):
 Calls prog 14 #[.slice ao n cap] w fun e w'=>e=.returned (.int i64 4)∧Below w.heap.size w w':=by
 go_enter func14,ntmps14;go_wp2;go_ret;exact⟨rfl,bRQ _ _⟩
theorem refTable_nil (ao:AdQ)(cap:Nat)(w:World):
 Calls prog 14 #[.slice ao 0 cap] w fun e w'=>e=.returned (.int i64 0)∧Below w.heap.size w w':=by
 go_enter func14,ntmps14;go_wp2
 go_loopw [3] (fun i wr=>i=.int i64 0∧wr=w) (fun i _=>0)
 case atStart=>exact⟨rfl,rfl⟩
 case round =>
  obtain⟨rfl,rfl⟩:=hrel;go_wp2;go_ret;exact⟨rfl,bRQ _ _⟩
theorem refTable_any (v:Value)(L:List Ru)(w:World)(h:SR w v L):
 Calls prog 14 #[v] w fun e w'=>e=.returned (.int i64 (tbN L))∧Below w.heap.size w w':=by
 rcases h with ⟨ao,cap,rfl,rfl⟩ | ⟨g,o,cap,rfl,h1,h2,hc⟩
 ·exact refTable_nil ao cap w
 by_cases h12:12<L.length
 ·have e:tbN L=4:=by simp[tbN,h12]
  rw[e];exact refTable_long _ _ _ _ h12
 exact refTable_some _ _ _ _ L w hc rfl (by omega)
theorem rnet_any (S:Int)(ao:AdQ)(n cap:Nat)(ao2:AdQ)(n2 cap2:Nat)(ao3:AdQ)(n3 cap3:Nat)(Ls:LkQ)(Hs:HoQ)(Ts:TsQ)(w:World)
 (hL:GS lnkE w (.slice ao n cap) Ls) (hH:GS hstE w (.slice ao2 n2 cap2) Hs) (hT:TS w (.slice ao3 n3 cap3) Ts):
 Calls prog 4 #[.agg #[.int i64 S,.slice ao n cap,.slice ao2 n2 cap2,.slice ao3 n3 cap3]] w fun e w'=>e=.returned (.int i64 (ntN S Ls Hs Ts))∧Below w.heap.size w w':=by
 have hb1:Below w.heap.size w (w.alloc (.cells #[.int i64 S,.slice ao n cap,.slice ao2 n2 cap2,.slice ao3 n3 cap3] 28)):=(bRQ _ _).alloc (nLQ _) _;obtain⟨C,hC⟩:∃C,C=ntN S Ls Hs Ts:=⟨_,rfl⟩;have HC:Hid (C=ntN S Ls Hs Ts):=hC;rw[←hC];have HL2:Hid (GS lnkE (w.alloc (.cells #[.int i64 S,.slice ao n cap,.slice ao2 n2 cap2,.slice ao3 n3 cap3] 28)) (.slice ao n cap) Ls):=hL.later hb1;have HH2:Hid (GS hstE (w.alloc (.cells #[.int i64 S,.slice ao n cap,.slice ao2 n2 cap2,.slice ao3 n3 cap3] 28)) (.slice ao2 n2 cap2) Hs):=hH.later hb1;have HT2:Hid (TS (w.alloc (.cells #[.int i64 S,.slice ao n cap,.slice ao2 n2 cap2,.slice ao3 n3 cap3] 28)) (.slice ao3 n3 cap3) Ts):=hT.later hb1;have HB2:Hid (Below w.heap.size w (w.alloc (.cells #[.int i64 S,.slice ao n cap,.slice ao2 n2 cap2,.slice ao3 n3 cap3] 28))):=hb1;have HX:Hid (NeBox (w.alloc (.cells #[.int i64 S,.slice ao n cap,.slice ao2 n2 cap2,.slice ao3 n3 cap3] 28)) w.heap.size S (.slice ao n cap) (.slice ao2 n2 cap2) (.slice ao3 n3 cap3)):=nebox_new w S _ _ _ 28;clear hC hb1 hL hH hT;go_enter func4,ntmps4
 go_wp2_with fail
 refine (rtopo_any S ao n cap ao2 n2 cap2 Ls Hs _ HL2.out HH2.out).mono ?_;rintro e w1 ⟨rfl,hb1⟩;obtain⟨T,hT⟩:∃T,T=tpN S Ls Hs:=⟨_,rfl⟩;have HT:Hid (T=tpN S Ls Hs):=hT;rw[←hT];have HB1:Hid (Below w.heap.size w w1):=HB2.out.trans (hb1.mono HB2.out.size);obtain⟨b0,b1,b2,b3⟩:=HX.out.later hb1;have HT1:Hid (TS w1 (.slice ao3 n3 cap3) Ts):=HT2.out.later hb1;clear hT hb1 HX HL2 HH2 HB2 HT2;by_cases h0:T=0
 ·subst h0;obtain⟨_,_,_,e2,hTn,hTm,_,hTa⟩:=HT1.out.form;cases e2;have HTN:Hid (Ts.length=n3):=hTn;have HTM:Hid (n3≤maxLen):=hTm;have HTA:Hid (0<n3→∃g o,ao3=some ⟨g,o,none⟩∧TAt w1 g o Ts∧cap3≤maxLen):=hTa;have n63:n3≤9223372036854775807:=by unfold maxLen at hTm;omega
  clear hTn hTm hTa HT1;by_cases hS:(n3:Int)=S
  ·have HC2:Hid (C=tsTo Ts n3):=by
    show _=_;rw[HC.out,ntN,if_pos HT.out.symm,if_pos (by rw[HTN.out];exact hS),HTN.out]
   have e1:((n3:Int) != S)=false:=by simp[hS]
   have HXB:Hid (NeBox w1 w.heap.size S (.slice ao n cap) (.slice ao2 n2 cap2) (.slice ao3 n3 cap3)):=⟨b0,b1,b2,b3⟩;clear hS HC;go_wp2
   go_loopw [4] (fun i wr=>∃k:Nat,k≤n3∧i=.int i64 k∧tsTo Ts k=0∧Below w1.heap.size w1 wr) (fun i _=>n3-(intOf i).toNat)
   case atStart=>exact⟨0,by omega,rfl,rfl,bRQ _ _⟩
   case round =>
    obtain⟨k,hk,rfl,hz,hB⟩:=hrel;have HZ:Hid (tsTo Ts k=0):=hz;have HB:Hid (Below w1.heap.size w1 wr):=hB;have HBw:Hid (Below w.heap.size w wr):=HB1.out.trans (hB.mono HB1.out.size);obtain⟨b0,b1,b2,b3⟩:=HXB.out.later hB;clear hz;by_cases hlt:k<n3
    ·obtain⟨g,o,hao,hc,_⟩:=HTA.out (by omega);subst hao;obtain⟨a4,n4,c4,q0,hs⟩:=(hc.later hB) k (by rw[HTN.out];exact hlt);have HS4:Hid (SR wr (.slice a4 n4 c4) (Ts.getD k [])):=by
      show SR _ _ _;rw[getT (by rw[HTN.out];exact hlt)];exact hs
     clear hs hc hB
     go_wp2_with fail
     refine (refTable_any _ (Ts.getD k []) _ HS4.out).mono ?_;rintro e w2 ⟨rfl,hb2⟩;obtain⟨R,hR⟩:∃R,R=tbN (Ts.getD k []):=⟨_,rfl⟩;have HR:Hid (tsTo Ts (k+1)=R):=by
      show _=_;rw[tsTo,if_pos HZ.out,hR]
     rw[←hR];have HB3:Hid (Below w1.heap.size w1 w2):=HB.out.trans (hb2.mono HB.out.size);have HBw3:Hid (Below w.heap.size w w2):=HBw.out.trans (hb2.mono HBw.out.size);clear hR hb2 q0;by_cases hN:R=0
     ·subst hN;go_wp2;go_roundw
      case rel=>exact⟨k+1,by omega,by go_num,HR.out,HB3.out⟩
      case measure=>simp[intOf];omega
     have e9:(R != 0)=true:=by simpa using hN
     have HCR:Hid (C=R):=by
      show _=_;rw[HC2.out,ts_le (k:=k+1) (by rw[HR.out];exact hN) (by omega),HR.out]
     have HNN:Hid (R≠0):=hN;clear hN;go_wp2;go_ret;exact⟨by rw[HCR.out];rfl,HBw3.out⟩
    obtain rfl:k=n3:=by omega
    have HCR:Hid (C=0):=by
     show _=_;rw[HC2.out,HZ.out]
    clear hB;go_wp2;go_ret;exact⟨by rw[HCR.out];rfl,HBw.out⟩
  have HC2:Hid (C=3):=by
   show _=_;rw[HC.out,ntN,if_pos HT.out.symm,if_neg (by rw[HTN.out];exact hS)]
  have e1:((n3:Int) != S)=true:=by simpa using hS
  clear hS HC;go_wp2;go_ret;exact⟨by rw[HC2.out];rfl,HB1.out⟩
 have e9:(T != 0)=true:=by simpa using h0
 have HC2:Hid (C=T):=by
  show _=_;rw[HC.out,ntN,←HT.out,if_neg h0]
 have HN0:Hid (T≠0):=h0;clear h0;go_wp2;go_ret;exact⟨by rw[HC2.out];rfl,HB1.out⟩
theorem rnamed_any (S:Int)(ao:AdQ)(n cap:Nat)(ao2:AdQ)(n2 cap2:Nat)(Hs:HoQ)(m:ByteArray)(w:World)(hH:GS hstE w (.slice ao2 n2 cap2) Hs):
 Calls prog 15 #[.agg #[.int i64 S,.slice ao n cap,.slice ao2 n2 cap2],.string m] w fun e w'=>e=.returned (.int i64 (whN Hs m))∧Below w.heap.size w w':=by
 obtain⟨_,_,_,e1,hHn,hHm,_,hHa⟩:=hH.form;cases e1;have HHN:Hid (Hs.length=n2):=hHn;have n63:n2≤9223372036854775807:=by unfold maxLen at hHm;omega
 have HHA:Hid (0<n2→∃g o,ao2=some ⟨g,o,none⟩∧GAt hstE w g o Hs∧cap2≤maxLen):=hHa;have hX:=tbox_new w S (.slice ao n cap) (.slice ao2 n2 cap2) 25;have hB:Below w.heap.size w (w.alloc (.cells #[.int i64 S,.slice ao n cap,.slice ao2 n2 cap2] 25)):=(bRQ _ _).alloc (nLQ _) _;obtain⟨w0,hw0⟩:∃W,w.alloc (.cells #[.int i64 S,.slice ao n cap,.slice ao2 n2 cap2] 25)=W:=⟨_,rfl⟩;rw[hw0] at hX hB;have HX:Hid (TBox w0 w.heap.size S (.slice ao n cap) (.slice ao2 n2 cap2)):=hX;have HB:Hid (Below w.heap.size w w0):=hB;have HW0:Hid (w.alloc (.cells #[.int i64 S,.slice ao n cap,.slice ao2 n2 cap2] 25)=w0):=hw0;clear hH hHn hHm hHa hX hw0 hB;go_enter func15,ntmps15;go_wp2;rw[HW0.out]
 go_loopw [5] (fun i wr=>∃k:Nat,k≤n2∧i=.int i64 k∧(Hs.take k).any (fun h=>h.1==m)=false∧wr=w0) (fun i _=>n2-(intOf i).toNat)
 case atStart=>exact⟨0,by omega,rfl,by simp,rfl⟩
 case round =>
  obtain⟨k,hk,rfl,hno,rfl⟩:=hrel;have HNO:Hid ((Hs.take k).any (fun h=>h.1==m)=false):=hno;obtain⟨b0,b1,b2⟩:=HX.out;clear hno HW0;by_cases hlt:k<n2
  ·obtain⟨g,o,hao,hc,_⟩:=HHA.out (by omega);subst hao;obtain⟨y0,y1,y2,hkl,hHk,q0,q1,q2⟩:=hst_at (hc.later HB.out) HHN.out hlt;have HHK:Hid (Hs[k]=(y0,(y1,y2))):=hHk;have hr:(y0==m)=(y0.toList==m.toList):=beq_toListBytes _ _;clear hHk hc;cases ho:(y0==m)
   ·have HN1:Hid ((Hs.take (k+1)).any (fun h=>h.1==m)=false):=any_nextG hkl HNO.out (by rw[HHK.out];exact ho);rw[hr] at ho;clear hr;go_wp2;go_roundw
    case rel=>exact⟨k+1,by omega,by go_num,HN1.out,by first | rfl | trivial⟩
    case measure=>simp[intOf];omega
   have HR:Hid (whN Hs m=k):=ixG_hit hkl HNO.out (by rw[HHK.out];exact ho);rw[hr] at ho;clear hr;go_wp2;go_ret;exact⟨by rw[HR.out];rfl,HB.out⟩
  obtain rfl:k=n2:=by omega
  have HR:Hid (whN Hs m = -1):=by
   have:=HNO.out;rw[←HHN.out,List.take_length] at this;exact ixG_no this
  go_wp2;go_ret;exact⟨by rw[HR.out];rfl,HB.out⟩
theorem ho_wh (Hs:HoQ)(m:ByteArray):decide (whN Hs m<0) = !hoB Hs m:=by
 have h:=ixG_any Hs (fun h=>h.1==m);have e:hoB Hs m=decide (0≤whN Hs m):=h.symm;rw[e];by_cases h0:whN Hs m<0
 ·simp[h0]
 have:0≤whN Hs m:=by omega
 simp[h0,this]
theorem rwishes_any (S:Int)(ao:AdQ)(n cap:Nat)(ao2:AdQ)(n2 cap2:Nat)(a4:AdQ)(n4 c4:Nat)(Ls:LkQ)(Hs:HoQ)(l:List Wi)(w:World)
 (hL:GS lnkE w (.slice ao n cap) Ls) (hH:GS hstE w (.slice ao2 n2 cap2) Hs) (hl:GS wisE w (.slice a4 n4 c4) l):
 Calls prog 5 #[.agg #[.int i64 S,.slice ao n cap,.slice ao2 n2 cap2],.slice a4 n4 c4] w fun e w'=>e=.returned (.int i64 (wsN S Ls Hs l))∧Below w.heap.size w w':=by
 have hX:=tbox_new w S (.slice ao n cap) (.slice ao2 n2 cap2) 25;have hB0:Below w.heap.size w (w.alloc (.cells #[.int i64 S,.slice ao n cap,.slice ao2 n2 cap2] 25)):=(bRQ _ _).alloc (nLQ _) _;obtain⟨w0,hw0⟩:∃W,w.alloc (.cells #[.int i64 S,.slice ao n cap,.slice ao2 n2 cap2] 25)=W:=⟨_,rfl⟩;rw[hw0] at hX hB0;have HX:Hid (TBox w0 w.heap.size S (.slice ao n cap) (.slice ao2 n2 cap2)):=hX;have HW0:Hid (w.alloc (.cells #[.int i64 S,.slice ao n cap,.slice ao2 n2 cap2] 25)=w0):=hw0;have HB0:Hid (Below w.heap.size w w0):=hB0;have HLW:Hid (∀W,Below w.heap.size w W→GS lnkE W (.slice ao n cap) Ls):=fun W hb=>hL.later hb
 have HHW:Hid (∀W,Below w.heap.size w W→GS hstE W (.slice ao2 n2 cap2) Hs):=fun W hb=>hH.later hb
 obtain⟨_,_,_,e5,hGn,hGm,_,hGa⟩:=hl.form;cases e5;have HGN:Hid (l.length=n4):=hGn;have HGA:Hid (0<n4→∃g o,a4=some ⟨g,o,none⟩∧GAt wisE w g o l∧c4≤maxLen):=hGa;obtain⟨R,hR⟩:∃R,R=wsN S Ls Hs l:=⟨_,rfl⟩;have HR:Hid (R=wsN S Ls Hs l):=hR;rw[←hR];have hn4:n4≤maxLen:=hGm;unfold maxLen at hn4;clear hX hB0 hw0 hL hH hl hGn hGm hGa hR;go_enter func5,ntmps5;go_upto_region 1 with fail;rw[HW0.out];obtain⟨b0,b1,b2⟩:=HX.out;clear HW0
 go_wp2_with fail
 refine (rtopo_any S ao n cap ao2 n2 cap2 Ls Hs _ (HLW.out _ HB0.out) (HHW.out _ HB0.out)).mono ?_;rintro e w1 ⟨rfl,hb1⟩;obtain⟨T,hT⟩:∃T,T=tpN S Ls Hs:=⟨_,rfl⟩;have HT:Hid (T=tpN S Ls Hs):=hT;rw[←hT];have HB1:Hid (Below w.heap.size w w1):=HB0.out.trans (hb1.mono HB0.out.size);have HX1:Hid (TBox w1 w.heap.size S (.slice ao n cap) (.slice ao2 n2 cap2)):=HX.out.later hb1;clear hT hb1 b0 b1 b2 HX;by_cases h0:T=0
 ·have HR1:Hid (R=if 8<l.length then 4 else wsTo S Hs l l.length):=by
   show _=_;rw[HR.out,wsN,if_pos (HT.out.symm.trans h0)]
  subst h0;by_cases h8:8<n4
  ·have HR2:Hid (R=4):=by
    show _=_;rw[HR1.out,if_pos (by rw[HGN.out];exact h8)]
   have h8':(8:Int)<(n4:Int):=by omega
   go_wp2;go_ret;exact⟨by rw[HR2.out];rfl,HB1.out⟩
  have HR2:Hid (R=wsTo S Hs l n4):=by
   show _=_;rw[HR1.out,if_neg (by rw[HGN.out];exact h8),HGN.out]
  have h8':¬(8:Int)<(n4:Int):=by omega
  clear HR HR1;go_wp2
  go_loopw [6] (fun i wr=>∃j:Nat,j≤n4∧i=.int i64 j∧wsTo S Hs l j=0∧Below w1.heap.size w1 wr) (fun i _=>n4-(intOf i).toNat)
  case atStart=>exact⟨0,by omega,rfl,rfl,bRQ _ _⟩
  case round =>
   obtain⟨j,hj,rfl,hno,hB⟩:=hrel;have HB:Hid (Below w1.heap.size w1 wr):=hB;have HBw:Hid (Below w.heap.size w wr):=HB1.out.trans (hB.mono HB1.out.size);have HNO:Hid (wsTo S Hs l j=0):=hno;have HXr:Hid (TBox wr w.heap.size S (.slice ao n cap) (.slice ao2 n2 cap2)):=HX1.out.later hB;clear hno hB;by_cases hlt:j<n4
   ·obtain⟨g,o,hao,hc,_⟩:=HGA.out (by omega);subst hao;obtain⟨k,f,t,v,hkl,hLk,q0,q1,q2,q3⟩:=wis_at (hc.later HBw.out) HGN.out hlt;obtain⟨N,hN⟩:∃q,q=woN S Hs ⟨k,f,t,v⟩:=⟨_,rfl⟩;have HN:Hid (woN S Hs ⟨k,f,t,v⟩=N):=hN.symm;have HST:Hid (wsTo S Hs l (j+1)=N):=by
     show _=_;rw[wsTo,if_pos HNO.out,getW hkl,hLk,←hN]
    have hba:Below wr.heap.size wr (wr.alloc (.cells #[.int i64 k,Value.string f,Value.string t,.int i64 v] 50)):=(bRQ _ _).alloc (nLQ _) _;have hwb:=wibox_new wr k f t v 50;have hxa:=HXr.out.later hba;obtain⟨w2,hw2⟩:∃W,wr.alloc (.cells #[.int i64 k,Value.string f,Value.string t,.int i64 v] 50)=W:=⟨_,rfl⟩;obtain⟨gw,hgw⟩:∃q,q=wr.heap.size:=⟨_,rfl⟩;rw[hw2] at hba hwb hxa;rw[←hgw] at hwb;have HW2:Hid (wr.alloc (.cells #[.int i64 k,Value.string f,Value.string t,.int i64 v] 50)=w2):=hw2;have HGW:Hid (wr.heap.size=gw):=hgw.symm;have HWB:Hid (WiBox w2 gw k f t v):=hwb;have HX2:Hid (TBox w2 w.heap.size S (.slice ao n cap) (.slice ao2 n2 cap2)):=hxa;have HB2:Hid (Below w1.heap.size w1 w2):=HB.out.trans (hba.mono HB.out.size);have kb0:(0:Int)≤(j:Int):=by omega
    have kb1:(j:Int)<(n4:Int):=by omega
    clear hc hLk hN hba hwb hxa hw2 hgw;go_upto_region 10 with fail;rw[HW2.out,HGW.out]
    try rw[show decide ((j:Int)<(n4:Int))=true from by simp;omega]
    clear HW2 HGW q0 q1 q2 q3 HXr;obtain⟨x0,x1,x2,x3⟩:=HWB.out;obtain⟨b0,b1,b2⟩:=HX2.out;obtain⟨Q,hQ⟩:∃q,q=(!wkB k || (!viB ⟨k,f,t,v⟩ S || veB ⟨k,f,t,v⟩)):=⟨_,rfl⟩;have HQ:Hid ((!wkB k || (!viB ⟨k,f,t,v⟩ S || veB ⟨k,f,t,v⟩))=Q):=hQ.symm;have HNQ:Hid (N=if Q then 1 else if k=4 then (if nlB ⟨k,f,t,v⟩ then 0 else 3) else if hoB Hs f&&hoB Hs t then 0 else 5):=by
     show _=_;rw[←HN.out,hQ];rfl
    clear hQ HN
    go_cut [60] from 26 to 61 (fun c w'=>c=.bool Q∧w'=w2)
    case first =>
     by_cases k1:k<1
     ·have hq:true=Q:=by
       rw[←HQ.out];have:wkB k=false:=by simp[wkB];omega
       simp[this]
      subst hq
      go_wp2_with fail
      go_meet
      exact⟨by first | rfl | simp[k1],rfl⟩
     by_cases k4:4<k
     ·have hq:true=Q:=by
       rw[←HQ.out];have:wkB k=false:=by simp[wkB];omega
       simp[this]
      subst hq
      go_wp2_with fail
      go_meet
      exact⟨by first | rfl | simp[k1,k4],rfl⟩
     have hwk:wkB k=true:=by simp[wkB];omega
     by_cases k3:k=3
     ·subst k3;by_cases v1:v<1
      ·have hq:true=Q:=by
        rw[←HQ.out];have:viB ⟨3,f,t,v⟩ S=false:=by simp[viB,swB];omega
        simp[this]
       subst hq
       go_wp2_with fail
       go_meet
       exact⟨by first | rfl | simp[v1],rfl⟩
      by_cases v2:S<v
      ·have hq:true=Q:=by
        rw[←HQ.out];have:viB ⟨3,f,t,v⟩ S=false:=by simp[viB,swB];omega
        simp[this]
       subst hq
       go_wp2_with fail
       go_meet
       exact⟨by first | rfl | simp[v1,v2],rfl⟩
      have hq:false=Q:=by
       rw[←HQ.out];have h1:viB ⟨3,f,t,v⟩ S=true:=by simp[viB,swB];omega
       have h2:veB ⟨3,f,t,v⟩=false:=by simp[veB]
       rw[hwk,h1,h2];rfl
      subst hq
      go_wp2_with fail
      go_meet
      exact⟨by first | rfl | simp[v1,v2],rfl⟩
     have hvi:viB ⟨k,f,t,v⟩ S=true:=by simp[viB,k3]
     by_cases v0:v=0
     ·subst v0;have hq:false=Q:=by
       rw[←HQ.out];have h2:veB ⟨k,f,t,0⟩=false:=by simp[veB]
       rw[hwk,hvi,h2];rfl
      subst hq
      go_wp2_with fail
      go_meet
      exact⟨by first | rfl | simp[k1,k3,k4],rfl⟩
     have hq:true=Q:=by
      rw[←HQ.out];have h2:veB ⟨k,f,t,v⟩=true:=by simp[veB,k3,v0]
      rw[h2];simp
     subst hq
     go_wp2_with fail
     go_meet
     exact⟨by first | rfl | simp[k1,k3,k4,v0],rfl⟩
    case rest =>
    obtain⟨rfl,hwc⟩:=hcut;subst hwc;have HBw2:Hid (Below w.heap.size w wc):=HB1.out.trans (HB2.out.mono HB1.out.size);cases Q with
    | true =>
      have HR3:Hid (R=1):=by
       show _=_;have h1:N=1:=by rw[HNQ.out,if_pos rfl]
       rw[HR2.out,ws_le (k:=j+1) (by rw[HST.out,h1];decide) (by omega),HST.out,h1]
      go_wp2;go_ret;exact⟨by rw[HR3.out];rfl,HBw2.out⟩
    | false =>
      by_cases k4:k=4
      ·subst k4;have HN1:Hid (N=if nlB ⟨4,f,t,v⟩ then 0 else 3):=by
        show _=_;rw[HNQ.out,if_neg (by decide),if_pos rfl]
       cases hf:f.toList.isEmpty
       ·have HR3:Hid (R=3):=by
         show _=_;have h1:nlB ⟨4,f,t,v⟩=false:=by simp[nlB,←emp_lst,hf]
         have h2:N=3:=by rw[HN1.out,h1];rfl
         rw[HR2.out,ws_le (k:=j+1) (by rw[HST.out,h2];decide) (by omega),HST.out,h2]
        go_wp2;go_ret;exact⟨by rw[HR3.out];rfl,HBw2.out⟩
       cases ht:t.toList.isEmpty
       ·have HR3:Hid (R=3):=by
         show _=_;have h1:nlB ⟨4,f,t,v⟩=false:=by simp[nlB,←emp_lst,ht]
         have h2:N=3:=by rw[HN1.out,h1];rfl
         rw[HR2.out,ws_le (k:=j+1) (by rw[HST.out,h2];decide) (by omega),HST.out,h2]
        go_wp2;go_ret;exact⟨by rw[HR3.out];rfl,HBw2.out⟩
       have HS2:Hid (wsTo S Hs l (j+1)=0):=by
        show _=_;have h1:nlB ⟨4,f,t,v⟩=true:=by simp[nlB,←emp_lst,hf,ht]
        rw[HST.out,HN1.out,h1];rfl
       go_wp2;go_roundw
       case rel=>exact⟨j+1,by omega,by go_num,HS2.out,HB2.out⟩
       case measure=>simp[intOf];omega
      have HN1:Hid (N=if hoB Hs f&&hoB Hs t then 0 else 5):=by
       show _=_;rw[HNQ.out,if_neg (by decide),if_neg k4]
      have hk4:(k==4)=false:=by simp[k4]
      clear HNQ
      go_wp2_with fail
      refine (rnamed_any S ao n cap ao2 n2 cap2 Hs f _ (HHW.out _ HBw2.out)).mono ?_;rintro e w3 ⟨rfl,hb3⟩;obtain⟨I1,hI1⟩:∃q,q=whN Hs f:=⟨_,rfl⟩;have HI1:Hid (decide (I1<0) = !hoB Hs f):=by
       show _=_;rw[hI1];exact ho_wh Hs f
      rw[←hI1];have HX3:Hid (TBox w3 w.heap.size S (.slice ao n cap) (.slice ao2 n2 cap2)):=HX2.out.later hb3;have HWB3:Hid (WiBox w3 gw k f t v):=HWB.out.later hb3;have HB3:Hid (Below w1.heap.size w1 w3):=HB2.out.trans (hb3.mono HB2.out.size);have HBw3:Hid (Below w.heap.size w w3):=HBw2.out.trans (hb3.mono HBw2.out.size);clear hI1 hb3 x0 x1 x2 x3 b0 b1 b2;obtain⟨x0,x1,x2,x3⟩:=HWB3.out;obtain⟨b0,b1,b2⟩:=HX3.out;by_cases i1:I1<0
      ·have HR3:Hid (R=5):=by
        show _=_;have h0:=HI1.out;have h1:hoB Hs f=false:=by simpa[i1] using h0
        have h2:N=5:=by rw[HN1.out,h1];rfl
        rw[HR2.out,ws_le (k:=j+1) (by rw[HST.out,h2];decide) (by omega),HST.out,h2]
       go_wp2;go_ret;exact⟨by rw[HR3.out];rfl,HBw3.out⟩
      have HF1:Hid (hoB Hs f=true):=by
       show _=_;have h0:=HI1.out;simpa[i1] using h0
      go_wp2_with fail
      refine (rnamed_any S ao n cap ao2 n2 cap2 Hs t _ (HHW.out _ HBw3.out)).mono ?_;rintro e w5 ⟨rfl,hb5⟩;obtain⟨I2,hI2⟩:∃q,q=whN Hs t:=⟨_,rfl⟩;have HI2:Hid (decide (I2<0) = !hoB Hs t):=by
       show _=_;rw[hI2];exact ho_wh Hs t
      rw[←hI2];have HB5:Hid (Below w1.heap.size w1 w5):=HB3.out.trans (hb5.mono HB3.out.size);have HBw5:Hid (Below w.heap.size w w5):=HBw3.out.trans (hb5.mono HBw3.out.size);clear hI2 hb5;by_cases i2:I2<0
      ·have HR3:Hid (R=5):=by
        show _=_;have h0:=HI2.out;have h1:hoB Hs t=false:=by simpa[i2] using h0
        have h2:N=5:=by rw[HN1.out,h1,Bool.and_false];rfl
        rw[HR2.out,ws_le (k:=j+1) (by rw[HST.out,h2];decide) (by omega),HST.out,h2]
       go_wp2;go_ret;exact⟨by rw[HR3.out];rfl,HBw5.out⟩
      have HS2:Hid (wsTo S Hs l (j+1)=0):=by
       show _=_;have h0:=HI2.out;have h1:hoB Hs t=true:=by simpa[i2] using h0
       rw[HST.out,HN1.out,HF1.out,h1];rfl
      go_wp2;go_roundw
      case rel=>exact⟨j+1,by omega,by go_num,HS2.out,HB5.out⟩
      case measure=>simp[intOf];omega
   obtain rfl:j=n4:=by omega
   have HR3:Hid (R=0):=by
    show _=_;rw[HR2.out,HNO.out]
   have kb1:¬(j:Int)<(j:Int):=by omega
   go_wp2;go_ret;exact⟨by rw[HR3.out];rfl,HBw.out⟩
 have HR1:Hid (R=T):=by
  show _=_;rw[HR.out,wsN,if_neg (by rw[←HT.out];exact h0),HT.out]
 have hT0:(T != 0)=true:=by simp[h0]
 go_wp2;go_ret;exact⟨by rw[HR1.out];rfl,HB1.out⟩
theorem rd_types:9≠57∧9≠59∧9≠48∧9≠50∧9≠64:=by decide
theorem rd_not {W:World}{gb B b8 n8 c8 g8:Nat}{d:RdT}{v1 v2 v3 v7:Value}{vs:List SlT}{xs:List Value}(m:RdM W gb B d v1 v2 v3 v7 vs)(l:W.ownsRow b8 9 1 (.slice (some ⟨g8,0,none⟩) n8 c8) n8 xs):¬DrX v1 v2 v3 v7 vs g8:=by
 have key:∀{e s n B:Nat} {v:Value} {ys:List Value},W.ownsRow B e s v n ys→9≠e→v.ownBlock≠some g8:=fun hr he h=>by
  rcases oo_apart l hr he with h1 | h1
  ·cases h1
  exact h1 h.symm
 rintro (h | h | h | h | ⟨x,hx,h⟩)
 ·exact key m.l rd_types.1 h
 ·exact key m.h rd_types.2.1 h
 ·exact key m.t.ov rd_types.2.2.1 h
 ·exact key m.w rd_types.2.2.2.1 h
 obtain⟨i,hi,e1⟩:=List.getElem_of_mem hx;have hi2:i<d.Ts.length:=by rw[←m.t.lv];exact hi
 exact key (m.t.rv i x _ (by rw[List.getElem?_eq_getElem hi,e1]) (List.getElem?_eq_getElem hi2)) rd_types.2.2.2.2 h
structure RR (w:World)(g8 c8:Nat)(s:ByteArray)(W:World):Prop where
 r:NeBox W w.heap.size 0 (.slice none 0 0) (.slice none 0 0) (.slice none 0 0)
 f:∀i,W.frozen? ⟨w.heap.size,i,none⟩=false
 l:W.ownsRow (w.heap.size+1+1) 9 1 (.slice (some ⟨g8,0,none⟩) (cutC 10 s).length c8) (cutC 10 s).length ((cutC 10 s).map Value.string)
 below:Below w.heap.size w W
section
variable {w W W':World}{g8 c8:Nat}{s:ByteArray}
theorem RR.lt (h:RR w g8 c8 s W):w.heap.size<W.heap.size:=bLQ W ⟨w.heap.size,0,none⟩ h.r.1
theorem RR.kb {p:Nat→Prop}(h:RR w g8 c8 s W)(hk:Kb p W W')(hp:∀b,b<w.heap.size+1→p b)(h8:p g8):RR w g8 c8 s W':=
 ⟨⟨hk.at h.r.1 (hp _ (Nat.lt_succ_self _)),hk.at h.r.2.1 (hp _ (Nat.lt_succ_self _)),hk.at h.r.2.2.1 (hp _ (Nat.lt_succ_self _)),hk.at h.r.2.2.2 (hp _ (Nat.lt_succ_self _))⟩,fun i=>by rw[hk.frozen (q:=⟨w.heap.size,i,none⟩) h.lt (hp _ (Nat.lt_succ_self _))];exact h.f i,ownKb h.l hk (fun g e=>by cases e;exact h8),h.below.trans (hk.below h.below.size fun b hb=>hp b (by omega))⟩
theorem RR.later (h:RR w g8 c8 s W)(hb:Below W.heap.size W W'):RR w g8 c8 s W':=h.kb (p:=fun _=>True) (Kb.of_below hb fun _ h _=>h) (fun _ _=>trivial) trivial
theorem RR.at (h:RR w g8 c8 s W){i:Nat}{x:ByteArray}(hx:(cutC 10 s)[i]?=some x):W.cell? ⟨g8,i,none⟩=some (.string x):=by
 have hc:=World.ownsRow.cells h.l (g:=g8) rfl i (.string x) (by rw[List.getElem?_map,hx];rfl);by_cases h0:i=0
 ·subst h0;simpa[Addr.add] using hc
 simpa[Addr.add,h0] using hc
end
structure RL (w:World)(g8 c8:Nat)(s:ByteArray)(e:RdT)(v1 v2 v3 v7:Value)(vs:List SlT)(k:Nat)(W:World):Prop where
 ls:lsO rd0 ((rtL s).take k)=.inl e
 ph:PhI e
 bd:BdI e k
 m:RdM W (w.heap.size+1) (w.heap.size+1+1) e v1 v2 v3 v7 vs
 rr:RR w g8 c8 s W
section
variable {w W W':World}{g8 c8:Nat}{s:ByteArray}{e f:RdT}{v1 v2 v3 v7 u1 u2 u3 u7:Value}{vs us:List SlT}{k:Nat}
theorem RL.later (h:RL w g8 c8 s e v1 v2 v3 v7 vs k W)(hb:Below W.heap.size W W'):RL w g8 c8 s e v1 v2 v3 v7 vs k W':=⟨h.ls,h.ph,h.bd,h.m.later hb,h.rr.later hb⟩
theorem RR.step {d:RdT}(m:RdM W (w.heap.size+1) (w.heap.size+1+1) d v1 v2 v3 v7 vs)(h:RR w g8 c8 s W)(hk:Kb (fun b=>b≠w.heap.size+1∧¬DrX v1 v2 v3 v7 vs b) W W'):RR w g8 c8 s W':=by
 refine h.kb hk (fun b hb=>⟨by omega,fun hx=>by have:=(m.xlt hx).1;omega⟩) ⟨?_,rd_not m h.l⟩;have:=(h.l.lt g8 rfl).1;omega
theorem ls_step {p:ByteArray}(hp:(rtL s)[k]?=some p)(h:lsO rd0 ((rtL s).take k)=.inl e):(∀f,lnO e p=some f→lsO rd0 ((rtL s).take (k+1))=.inl f)∧(lnO e p=none→lsO rd0 (rtL s)=.inr k):=by
 obtain⟨hk,e1⟩:=List.getElem?_eq_some_iff.1 hp;constructor
 ·intro f hf;rw[List.take_succ_eq_append_getElem hk,ls_app,h,e1];simp only[lsO];rw[hf]
 intro hn;have e2:rtL s=(rtL s).take k++(rtL s).drop k:=(List.take_append_drop k _).symm;rw[e2,ls_app,h,List.drop_eq_getElem_cons hk,e1];simp only[lsO];rw[hn];simp only[List.length_take]
 congr 1
 omega
theorem rt_bad (h1:s.size≤3000)(h0:s.size≠0)(h:lsO rd0 (rtL s)=.inr k):rtN s=2∧rtK s=k∧rxE s=rd0:=by
 have e1:rtN s=2:=by rw[rtN,if_neg (by omega),if_neg h0,h]
 exact⟨e1,by rw[rtK,if_neg (by omega),if_neg h0,h],by rw[rxE,e1];rfl⟩
theorem tk_nl (d:RdT)(p:ByteArray):tkO d (p++chW 10)=lnO d p:=tk_line d p
theorem phI_ln {p:ByteArray}(hP:PhI e)(h:lnO e p=some f):PhI f∧0≤f.ph:=ph_next hP (p:=p++chW 10) (by rw[tk_nl];exact h)
theorem bdI_ln {p:ByteArray}{n:Nat}(hB:BdI e n)(h:lnO e p=some f):BdI f (n+1):=bd_next hB (p:=p++chW 10) (by rw[tk_nl];exact h)
end
theorem ck_size (c:UInt8):∀(k:Nat) (s:ByteArray) (a:ByteArray),a∈cutK c k s→a.size≤s.size
 | 0,s,a,h=>by
   rw[cutK,List.mem_singleton] at h;rw[h];exact nLQ _
 | k+1,s,a,h=>by
   rcases ixq_cases c s with e | ⟨i,e,hi⟩
   ·rw[ck_miss _ e,List.mem_singleton] at h;rw[h];exact nLQ _
   rw[ck_hit _ e,List.mem_cons] at h
   rcases h with rfl | h
   ·rw[ByteArray.size_extract];omega
   have:=ck_size c k _ a h;rw[ByteArray.size_extract] at this;omega
section
variable {d:RdT}{s x y a:ByteArray}{r:List ByteArray}
theorem lq_sw1 (h:cutA s=[swcS,x]):lnO d s=if (decide (d.ph<0)&&dcOk x)=true then some { d with S:=dcN x,ph:=0 } else none:=by
 rw[lnO,h];simp only[if_true]
theorem lq_sw0 (h:cutA s=swcS :: r)(hr:r.length≠1):lnO d s=none:=by
 rw[lnO,h];simp only[if_true]
 match r,hr with
 | [],_=>rfl
 | [x],hr=>exact absurd rfl hr
 | x :: y :: t,_=>rfl
theorem lq_lk2 (h:cutA s=[lnkS,x,y]):lnO d s=if ((spK x&&spK y)&&phB d 1)=true then some { d with Ls:=d.Ls++[(spA x,spA y)],ph:=1 } else none:=by
 rw[lnO,h];simp only[if_true,kw_ne.1,if_false];rw[sp_ak x,sp_ak y];cases spK x <;> cases spK y <;> simp
theorem lq_lk0 (h:cutA s=lnkS :: r)(hr:r.length≠2):lnO d s=none:=by
 rw[lnO,h];simp only[if_true,kw_ne.1,if_false]
 match r,hr with
 | [],_=>rfl
 | [x],_=>rfl
 | [x,y],hr=>exact absurd rfl hr
 | x :: y :: z :: t,_=>rfl
theorem lq_ho2 (h:cutA s=[hosS,x,y]):lnO d s=if (spK y&&phB d 2)=true then some { d with Hs:=d.Hs++[(x,spA y)],ph:=2 } else none:=by
 rw[lnO,h];simp only[if_true,kw_ne.2.1,kw_ne.2.2.1,if_false];rw[sp_ak y];cases spK y <;> simp
theorem lq_ho0 (h:cutA s=hosS :: r)(hr:r.length≠2):lnO d s=none:=by
 rw[lnO,h];simp only[if_true,kw_ne.2.1,kw_ne.2.2.1,if_false]
 match r,hr with
 | [],_=>rfl
 | [x],_=>rfl
 | [x,y],hr=>exact absurd rfl hr
 | x :: y :: z :: t,_=>rfl
theorem lq_rl0 (h:cutA s=[rulS]):lnO d s=none:=by
 rw[lnO,h];simp only[if_true,kw_ne.2.2.2.1,kw_ne.2.2.2.2.1,kw_ne.2.2.2.2.2,if_false]
theorem lq_rl1 (h:cutA s=rulS :: x :: r)(hc:(raB d x&&phB d 3)=false):lnO d s=none:=by
 have hE:(dcOk x&&(decide (1≤dcN x)&&(decide (dcN x≤6)&&(decide ((d.Ts.length:Int)≤dcN x)&&phB d 3))))=false:=by
  rw[←hc];unfold raB;cases phB d 3 <;> cases dcOk x <;> simp
 rw[lnO,h];simp only[if_true,kw_ne.2.2.2.1,kw_ne.2.2.2.2.1,kw_ne.2.2.2.2.2,if_false];rw[hE];rfl
theorem lq_rl2 (h:cutA s=rulS :: x :: r)(hc:rlO r=none):lnO d s=none:=by
 rw[lnO,h];simp only[if_true,kw_ne.2.2.2.1,kw_ne.2.2.2.2.1,kw_ne.2.2.2.2.2,if_false];rw[hc];simp
theorem lq_rl3 {u:Ru}(h:cutA s=rulS :: x :: r)(hc:(raB d x&&phB d 3)=true)(hu:rlO r=some u):lnO d s=some { d with Ts:=tbP d.Ts (dcN x).toNat u,ph:=3 }:=by
 have hE:(dcOk x&&(decide (1≤dcN x)&&(decide (dcN x≤6)&&(decide ((d.Ts.length:Int)≤dcN x)&&phB d 3))))=true:=by
  rw[←hc];unfold raB;cases phB d 3 <;> cases dcOk x <;> simp
 rw[lnO,h];simp only[if_true,kw_ne.2.2.2.1,kw_ne.2.2.2.2.1,kw_ne.2.2.2.2.2,if_false];rw[hE,hu];simp
theorem lq_wi (h:cutA s=a :: r)(h1:a≠swcS)(h2:a≠lnkS)(h3:a≠hosS)(h4:a≠rulS):lnO d s=if ((rdO s).isSome&&phB d 4)=true then some { d with ws:=d.ws++[paW s],ph:=4 } else none:=by
 rw[lnO,h];simp only[h1,h2,h3,h4,if_false];unfold paW;cases rdO s <;> simp
theorem rl_rest (h:cutA s=rulS :: x :: r):(r=[]∧s.size=5+x.size)∨(6+x.size≤s.size∧cutA (s.extract (6+x.size) s.size)=r):=by
 have e4:rulS.size=4:=rfl;have e1:blW.size=1:=rfl
 rcases cut_parts h with ⟨e,_⟩ | ⟨t,e,e2⟩
 ·cases e
 rcases cut_parts e.symm with ⟨e5,e6⟩ | ⟨t2,e5,e6⟩
 ·left;refine⟨e5,?_⟩;rw[e2,e6,ByteArray.size_append,ByteArray.size_append,e4,e1];omega
 right;have hs:s.size=6+x.size+t2.size:=by
  rw[e2,e6,ByteArray.size_append,ByteArray.size_append,ByteArray.size_append,ByteArray.size_append,e4,e1];omega
 refine⟨by omega,?_⟩;have e7:s.extract (6+x.size) s.size=t2:=by
  apply wa_ext
  rw[Lib.extract_to_end,e2,e6];simp only[wa_app];rw[←List.append_assoc,←List.append_assoc,←List.append_assoc,List.drop_append];have hl:(rulS.data.toList++blW.data.toList++x.data.toList++blW.data.toList).length=6+x.size:=by
   simp only[List.length_append,←Lib.size_eq,e4,e1];omega
  rw[hl,List.drop_eq_nil_of_le (by omega)];simp
 rw[e7,e5]
end
theorem op_run {P:Program}{o:Oper}{a:Act}{w w':World}{v:Value}{K:Act→World→Prop}{Q:Exit→Act→World→Prop}(h:(execOp a.eval o).run P w=.ok (.value v) w')(hk:K (a.put o.dst v) w'):Oper.wp P o a w K Q:=by
 unfold Oper.wp;rw[h];exact hk
theorem op_skip {P:Program}{o:Oper}{a:Act}{w w':World}{K:Act→World→Prop}{Q:Exit→Act→World→Prop}(h:(execOp a.eval o).run P w=.ok .skip w')(hk:K (a.put o.dst undef) w'):Oper.wp P o a w K Q:=by
 unfold Oper.wp;rw[h];exact hk
theorem rb_run (ρ:Operand→Value)(V:World)(d:Option Tmp)(x:Operand)(p:String)(af:Array Edge)(x0 x1 x2 x3 x4 x5:Int)(h:ρ x=.agg #[.int i64 x0,.int i64 x1,.int i64 x2,.int i64 x3,.int i64 x4,.int i64 x5]):
 (execOp ρ { dst:=d,op:=.buildSlice 48 1 #[(0,x)],type:=48,pos:=p,after:=af,guard:=none }).run prog V=.ok (.value (.slice (some ⟨V.heap.size,0,none⟩) 1 1)) (V.alloc (.cells #[.int i64 x0,.int i64 x1,.int i64 x2,.int i64 x3,.int i64 x4,.int i64 x5] 64)):=by
 go_simp
theorem rt_run (ρ:Operand→Value)(V:World)(d:Option Tmp)(x:Operand)(p:String)(t:TypeId)(af:Array Edge)(q:Addr)(a:AdQ)(n c:Nat)(h:ρ x=.pointer (some q))(hq:V.cell? q=some (.slice a n c)):
 (execOp ρ { dst:=d,op:=.load 48 x,type:=t,pos:=p,after:=af,guard:=none }).run prog V=.ok (.value (.slice a n c)) V:=by
 go_simp
theorem rs_run (ρ:Operand→Value)(V:World)(d:Option Tmp)(x y:Operand)(p:String)(t:TypeId)(af:Array Edge)(q:Addr)(a:AdQ)(n c:Nat)(u:Value)(h:ρ x=.pointer (some q))(h2:ρ y=.slice a n c)(hq:V.cell? q=some u)(hf:V.frozen? q=false):
 (execOp ρ { dst:=d,op:=.store 48 x y,type:=t,pos:=p,after:=af,guard:=none }).run prog V=.ok .skip (V.setCell q (.slice a n c)):=by
 go_simp
end
end Go.Proofs.YtgddlpcacnolfaaGreatDoor
