/- Contracts and facts on the way to PlanLeast, joined into one text: RefTopo, RefRule, RefTable, RefNet, RefNamed, RuleItoa, RefWishes, RefReady, RefApply, RefFits, FtsAt, RefFate2, MixHas, RefLess. -/
import Derived.Test.YtiokpmlhmlcojaaGreatDoorPlanLeastP9
namespace Go.Proofs.YtiokpmlhmlcojaaGreatDoor
set_option linter.unusedSimpArgs false
set_option linter.unusedVariables false
set_option maxHeartbeats 16000000
set_option maxRecDepth 100000
open Go.Proofs.Tryz
open IntKind (i64)
section
open Go.RowKit
theorem below_drewN (w:World)(n:Nat):Below w.heap.size w (w.drewN n):=⟨rfl,rfl,rfl,nLQ _,fun _ _=>rfl⟩
theorem eq2_ways (a b c d:Int):((a==c&&b==d)=true∧(a==c)=true∧(b==d)=true)∨((a==c&&b==d)=false∧(a==c)=true∧(b==d)=false)∨((a==c&&b==d)=false∧(a==c)=false):=by
 cases a==c <;> cases b==d <;> simp
theorem pr_beq (a b c d:Int):(((a,b):Int×Int)==(c,d))=(a==c&&b==d):=rfl
theorem any_take {α:Type}{L:List α}{f:α→Bool}(h:(L.take L.length).any f=false):L.any f=false:=by simpa using h
theorem own_two {W:World}{B e:Nat}{v:Value}{U:List (Int×Int)}{m:Nat}{x0 x1 x2 x3:Int}(hm:U.length=m)(h:W.ownsRow B e 2 v (m+1+1) (cellsG spoE U++[.int i64 x0,.int i64 x1,.int i64 x2,.int i64 x3])):
 W.ownsRow B e 2 v (U++[(x0,x1),(x2,x3)]).length (cellsG spoE (U++[(x0,x1),(x2,x3)])):=by
 subst hm;have e1:cellsG spoE (U++[(x0,x1),(x2,x3)])=cellsG spoE U++[.int i64 x0,.int i64 x1,.int i64 x2,.int i64 x3]:=by
  rw[cellsG_app];simp[cellsG,spoE]
 rw[e1];simpa using h
theorem own_one1 {W:World}{B e:Nat}{v:Value}{U:List (Int×Int)}{m:Nat}{x0 x1:Int}(hm:U.length=m)(h:W.ownsRow B e 2 v (m+1) (cellsG spoE U++[.int i64 x0,.int i64 x1])):
 W.ownsRow B e 2 v (U++[(x0,x1)]).length (cellsG spoE (U++[(x0,x1)])):=by
 subst hm;have e1:cellsG spoE (U++[(x0,x1)])=cellsG spoE U++[.int i64 x0,.int i64 x1]:=by
  rw[cellsG_app];simp[cellsG,spoE]
 rw[e1];simpa using h
theorem grown_cell {W w':World}{v:Value}{g:Nat}(h:W.grownBy w' v.ownBlock)(hl:g<W.heap.size)(hn:∀k,v.ownBlock=some k→k≠g)(i:Nat):w'.cell? ⟨g,i,none⟩=W.cell? ⟨g,i,none⟩:=
 World.cell?_of_block (w:=W) (a:=⟨g,i,none⟩) (h.block g hl (fun e=>hn g (by first | exact e | exact e.symm) rfl))
theorem rtopo_any (S:Int)(ao:AdQ)(n cap:Nat)(ao2:AdQ)(n2 cap2:Nat)(Ls:LkQ)(Hs:HoQ)(w:World)
 (hL:GS lnkE w (.slice ao n cap) Ls) (hH:GS hstE w (.slice ao2 n2 cap2) Hs):
 Calls prog 48 #[.agg #[.int i64 S,.slice ao n cap,.slice ao2 n2 cap2]] w fun e w'=>e=.returned (.int i64 (tpN S Ls Hs))∧Below w.heap.size w w':=by
 obtain⟨_,_,_,e1,hLn,hLm,_,hLa⟩:=hL.form;cases e1;obtain⟨_,_,_,e2,hHn,hHm,_,hHa⟩:=hH.form;cases e2;have HLN:Hid (Ls.length=n):=hLn;have HHN:Hid (Hs.length=n2):=hHn;have HLA:Hid (0<n→∃g o,ao=some ⟨g,o,none⟩∧GAt lnkE w g o Ls∧cap≤maxLen):=hLa;have HHA:Hid (0<n2→∃g o,ao2=some ⟨g,o,none⟩∧GAt hstE w g o Hs∧cap2≤maxLen):=hHa;obtain⟨T,hT⟩:∃T,T=tpN S Ls Hs:=⟨_,rfl⟩;have HT:Hid (T=tpN S Ls Hs):=hT;rw[←hT];have hX:=tbox_new w S (.slice ao n cap) (.slice ao2 n2 cap2) 25;have hB:Below w.heap.size w (w.alloc (.cells #[.int i64 S,.slice ao n cap,.slice ao2 n2 cap2] 25)):=(bRQ _ _).alloc (nLQ _) _;have HB0':Hid (Below w.heap.size w (w.alloc (.cells #[.int i64 S,.slice ao n cap,.slice ao2 n2 cap2] 25))):=hB;by_cases h1:1≤S
 ·by_cases h6:S≤6
  ·by_cases h2:n≤200
   ·by_cases h8:n2≤8
    ·have s1:decide (S<1)=false:=by simp;omega
     have s2:decide (6<S)=false:=by simp;omega
     have s3:decide (200<(n:Int))=false:=by simp;omega
     have s4:decide (8<(n2:Int))=false:=by simp;omega
     have HM:Hid (T=if lkN S Ls []=0 then hoN S Hs [] (spsL Ls) else lkN S Ls []):=by
      show _=_;rw[hT];unfold tpN;have e3:(decide (1≤S)&&decide (S≤6))=true:=by simp[h1,h6]
      have e4:(decide (Ls.length≤200)&&decide (Hs.length≤8))=true:=by simp[hLn,hHn,h2,h8]
      rw[if_pos e3,if_pos e4]
     obtain⟨w0,hw0⟩:∃W,w.alloc (.cells #[.int i64 S,.slice ao n cap,.slice ao2 n2 cap2] 25)=W:=⟨_,rfl⟩;rw[hw0] at hX hB;have HX:Hid (TBox w0 w.heap.size S (.slice ao n cap) (.slice ao2 n2 cap2)):=hX;have HB:Hid (Below w.heap.size w w0):=hB;have HW0:Hid (w.alloc (.cells #[.int i64 S,.slice ao n cap,.slice ao2 n2 cap2] 25)=w0):=hw0;have H2:Hid (n≤200):=h2;have H8:Hid (n2≤8):=h8;obtain⟨i0,hi,hz0,hz1,hz2⟩:=info_parts spo_info;clear hL hH hLn hLm hLa hHn hHm hHa hT hX hB hw0 h1 h6 h2 h8 HB0' HT;go_enter func48,ntmps48;go_wp2;rw[HW0.out]
     go_loopw [3,4] (fun u i wr=>∃k:Nat,k≤n∧i=.int i64 k∧wr.ownsRow w0.heap.size 75 2 u (spsL (Ls.take k)).length (cellsG spoE (spsL (Ls.take k)))∧lkN S Ls []=lkN S (Ls.drop k) (spsL (Ls.take k))∧Below w0.heap.size w0 wr) (fun _ i _=>n-(intOf i).toNat)
     case atStart=>exact⟨0,by omega,rfl,by simpa[spsL,cellsG] using World.ownsRow_nil _ _ _ _,by simp[spsL],bRQ _ _⟩
     case round =>
      rename_i u3 u4
      obtain⟨k,hk,rfl,hown,hlk,hBr⟩:=hrel;obtain⟨ao3,cap3,rfl⟩:=own_form hown;obtain⟨wo,hwo⟩:∃x,x=wr:=⟨_,rfl⟩;subst hwo;have HOWN:Hid (wo.ownsRow w0.heap.size 75 2 (.slice ao3 (spsL (Ls.take k)).length cap3) (spsL (Ls.take k)).length (cellsG spoE (spsL (Ls.take k)))):=hown;have HLK:Hid (lkN S Ls []=lkN S (Ls.drop k) (spsL (Ls.take k))):=hlk;have HBr:Hid (Below w0.heap.size w0 wo):=hBr;have HBw:Hid (Below w.heap.size w wo):=HB.out.trans (hBr.mono HB.out.size);have HXr:Hid (TBox wo w.heap.size S (.slice ao n cap) (.slice ao2 n2 cap2)):=HX.out.later hBr;obtain⟨b0,b1,b2⟩:=HXr.out;have hlw:w.heap.size<wo.heap.size:=bLQ _ _ b0;have hn200:n≤200:=H2.out;have hlen:(spsL (Ls.take k)).length≤400:=by
       rw[sps_len,List.length_take];omega
      obtain⟨U,hU⟩:∃U,U=spsL (Ls.take k):=⟨_,rfl⟩;have HU:Hid (U=spsL (Ls.take k)):=hU;rw[←hU] at HOWN HLK hlen;rw[←hU];obtain⟨m,hm⟩:∃m,m=U.length:=⟨_,rfl⟩;have HMU:Hid (U.length=m):=hm.symm;rw[←hm] at HOWN hlen;rw[←hm];clear hown hlk hBr hU hm HW0;by_cases hlt:k<n
      ·have HK1:Hid (k+1≤n):=hlt;obtain⟨g,o,hao,hc,_⟩:=HLA.out (by omega);subst hao;obtain⟨x0,x1,x2,x3,hkl,hLk,q0,q1,q2,q3⟩:=lnk_at (hc.later HBw.out) HLN.out hlt;have HLK1:Hid (lkN S Ls []=if lk1 S U ((x0,x1),(x2,x3))=0 then lkN S (Ls.drop (k+1)) (U++[(x0,x1),(x2,x3)]) else lk1 S U ((x0,x1),(x2,x3))):=by
        show _=_;rw[HLK.out,List.drop_eq_getElem_cons hkl,lk_step,hLk]
       have HUN:Hid (spsL (Ls.take (k+1))=U++[(x0,x1),(x2,x3)]):=by
        show _=_;rw[sps_take hkl,hLk,HU.out]
       have HT7:Hid (lk1 S U ((x0,x1),(x2,x3))≠0→T=lk1 S U ((x0,x1),(x2,x3))):=fun h=>by
        have e:=HLK1.out;rw[if_neg h] at e;rw[HM.out,e,if_neg h]
       have HBA:Hid (Below wo.heap.size wo (wo.alloc (.cells #[.int i64 x0,.int i64 x1,.int i64 x2,.int i64 x3] 124))):=(bRQ _ _).alloc (nLQ _) _;have HBX:Hid (VAt (wo.alloc (.cells #[.int i64 x0,.int i64 x1,.int i64 x2,.int i64 x3] 124)) wo.heap.size 0 (lnkE.c ((x0,x1),(x2,x3)))):=lnk_new wo x0 x1 x2 x3 124;clear hLk hc
       go_wp2_with fail
       refine (rspot_any S (some ⟨g,o,none⟩) n cap ao2 n2 cap2 x0 x1 _).mono ?_;rintro e w2 ⟨rfl,hb2⟩;have hB2:Below wo.heap.size wo w2:=HBA.out.trans (hb2.mono HBA.out.size);have HB2:Hid (Below wo.heap.size wo w2):=hB2;have HV2:Hid (VAt w2 wo.heap.size 0 (lnkE.c ((x0,x1),(x2,x3)))):=HBX.out.later hb2;obtain⟨b0,b1,b2⟩:=HXr.out.later hB2;obtain⟨l0,l1,l2,l3⟩:=lnk_cells HV2.out;simp only[Nat.zero_add] at l0 l1 l2 l3;have hll:wo.heap.size<w2.heap.size:=bLQ _ _ l0;clear hb2 hB2 HBA HBX q0 q1 q2 q3
       go_wp2_with fail
       refine (rspot_any S (some ⟨g,o,none⟩) n cap ao2 n2 cap2 x2 x3 _).mono ?_;rintro e w3 ⟨rfl,hb3⟩;have hB3:Below wo.heap.size wo w3:=HB2.out.trans (hb3.mono HB2.out.size);have HB3:Hid (Below wo.heap.size wo w3):=hB3;have HB3w:Hid (Below w.heap.size w w3):=HBw.out.trans (hB3.mono HBw.out.size);have HV3:Hid (VAt w3 wo.heap.size 0 (lnkE.c ((x0,x1),(x2,x3)))):=HV2.out.later hb3;obtain⟨b0,b1,b2⟩:=HXr.out.later hB3;obtain⟨l0,l1,l2,l3⟩:=lnk_cells HV3.out;simp only[Nat.zero_add] at l0 l1 l2 l3;have hll:wo.heap.size<w3.heap.size:=bLQ _ _ l0;clear hb3 hB3 HV2 HB2;cases hsa:spB S (x0,x1)
       ·have HT1:Hid (T=1):=by
         have e:lk1 S U ((x0,x1),(x2,x3))=1:=by simp[lk1,hsa]
         have:=HT7.out (by rw[e];decide);rw[e] at this;exact this
        go_wp2;go_ret;exact⟨by rw[HT1.out];rfl,HB3w.out⟩
       cases hsb:spB S (x2,x3)
       ·have HT1:Hid (T=1):=by
         have e:lk1 S U ((x0,x1),(x2,x3))=1:=by simp[lk1,hsa,hsb]
         have:=HT7.out (by rw[e];decide);rw[e] at this;exact this
        go_wp2;go_ret;exact⟨by rw[HT1.out];rfl,HB3w.out⟩
       have HL7:Hid (lk1 S U ((x0,x1),(x2,x3))=if (x0==x2&&x1==x3) || (U.any fun u=>u==(x0,x1) || u==(x2,x3)) then 7 else 0):=by
        show _=_;simp only[lk1,hsa,hsb,Bool.and_self,if_true,pr_beq]
       rcases eq2_ways x0 x1 x2 x3 with ⟨g0,g1,g2⟩ | hne
       ·have HT1:Hid (T=7):=by
         have e:lk1 S U ((x0,x1),(x2,x3))=7:=by rw[HL7.out,g0];rfl
         have:=HT7.out (by rw[e];decide);rw[e] at this;exact this
        go_wp2;go_ret;exact⟨by rw[HT1.out];rfl,HB3w.out⟩
       have hg0:(x0==x2&&x1==x3)=false:=by
        rcases hne with ⟨h,_⟩ | ⟨h,_⟩ <;> exact h
       have HL8:Hid (lk1 S U ((x0,x1),(x2,x3))=if (U.any fun u=>u==(x0,x1) || u==(x2,x3)) then 7 else 0):=by
        show _=_;rw[HL7.out,hg0,Bool.false_or]
       obtain⟨_,_,_,e5,hUn,hUm,_,hUa⟩:=(own_GS (E:=spoE) (L:=U) (by rw[HMU.out];exact HOWN.out):GS spoE wo (.slice ao3 m cap3) U).form;cases e5;have HUA:Hid (0<m→∃g o,ao3=some ⟨g,o,none⟩∧GAt spoE wo g o U∧cap3≤maxLen):=hUa;clear hUn hUm hUa hg0;go_upto_region 14 with fail
       go_cut [63] from 59 to 63 (fun c w'=>c=.bool false∧w'=w3)
       case first =>
        rcases hne with ⟨_,g1,g2⟩ | ⟨_,g1⟩
        ·go_wp2_with fail
         go_meet
         case rel=>exact⟨rfl,rfl⟩
        go_wp2_with fail
        go_meet
        case rel=>exact⟨rfl,rfl⟩
       case rest =>
        obtain⟨rfl,hwc⟩:=hcut;subst hwc;clear hne;go_wp2
        go_loopw [8] (fun j wz=>∃q:Nat,q≤m∧j=.int i64 q∧(U.take q).any (fun u=>u==(x0,x1) || u==(x2,x3))=false∧Below wc.heap.size wc wz) (fun j _=>m-(intOf j).toNat)
        case atStart=>exact⟨0,by omega,rfl,by simp,bRQ _ _⟩
        case round =>
         obtain⟨q,hq,rfl,hno,hBz⟩:=hrel;have HNO:Hid ((U.take q).any (fun u=>u==(x0,x1) || u==(x2,x3))=false):=hno;have HBz:Hid (Below wo.heap.size wo wr):=HB3.out.trans (hBz.mono HB3.out.size);have HBc:Hid (Below wc.heap.size wc wr):=hBz;have HBzw:Hid (Below w.heap.size w wr):=HBw.out.trans (HBz.out.mono HBw.out.size);obtain⟨b0,b1,b2⟩:=HXr.out.later HBz.out;have HVz:Hid (VAt wr wo.heap.size 0 (lnkE.c ((x0,x1),(x2,x3)))):=HV3.out.later hBz;obtain⟨l0,l1,l2,l3⟩:=lnk_cells HVz.out;simp only[Nat.zero_add] at l0 l1 l2 l3;have hll:wo.heap.size<wr.heap.size:=bLQ _ _ l0;clear hno hBz;by_cases hqm:q<m
         ·obtain⟨g3,o3,hao3,hc3,_⟩:=HUA.out (by omega);subst hao3;obtain⟨v0,v1,hql,hUq,p0,p1⟩:=spo_at (hc3.later HBz.out) HMU.out hqm;have HUQ:Hid (U[q]=(v0,v1)):=hUq;have qb0:(0:Int)≤(q:Int):=by omega
          have qb1:(q:Int)<(m:Int):=by omega
          have hgl3:g3<wr.heap.size:=bLQ _ _ p0;have HHIT:Hid (((v0==x0&&v1==x1) || (v0==x2&&v1==x3))=true→T=7):=fun hy=>by
           have e:lk1 S U ((x0,x1),(x2,x3))=7:=by
            rw[HL8.out,any_hitG hql (by rw[HUQ.out];exact hy)];rfl
           have:=HT7.out (by rw[e];decide);rw[e] at this;exact this
          have HNXT:Hid (((v0==x0&&v1==x1) || (v0==x2&&v1==x3))=false→(U.take (q+1)).any (fun u=>u==(x0,x1) || u==(x2,x3))=false):=fun hy=>any_nextG hql HNO.out (by rw[HUQ.out];exact hy)
          clear hc3 hUq
          rcases eq2_ways v0 v1 x0 x1 with ⟨f0,f1,f2⟩ | ⟨f0,f1,f2⟩ | ⟨f0,f1⟩
          ·have HT1:Hid (T=7):=HHIT.out (by rw[f0];rfl)
           go_wp2_with fail
           go_quiet (fail)
           go_wp2;go_ret;exact⟨by rw[HT1.out];rfl,HBzw.out.trans ((below_drewN _ _).mono HBzw.out.size)⟩
          ·rcases eq2_ways v0 v1 x2 x3 with ⟨d0,d1,d2⟩ | ⟨d0,d1,d2⟩ | ⟨d0,d1⟩
           ·have HT1:Hid (T=7):=HHIT.out (by rw[f0,d0];rfl)
            go_wp2_with fail
            go_quiet (fail)
            go_wp2;go_ret;exact⟨by rw[HT1.out];rfl,HBzw.out.trans ((below_drewN _ _).mono HBzw.out.size)⟩
           ·have HN1:Hid ((U.take (q+1)).any (fun u=>u==(x0,x1) || u==(x2,x3))=false):=HNXT.out (by rw[f0,d0];rfl)
            go_wp2_with fail
            go_quiet (fail)
            go_wp2;go_roundw
            case rel=>exact⟨q+1,by omega,by go_num,HN1.out,HBc.out.trans ((below_drewN _ _).mono HBc.out.size)⟩
            case measure=>simp[intOf];omega
           have HN1:Hid ((U.take (q+1)).any (fun u=>u==(x0,x1) || u==(x2,x3))=false):=HNXT.out (by rw[f0,d0];rfl)
           go_wp2_with fail
           go_quiet (fail)
           go_wp2;go_roundw
           case rel=>exact⟨q+1,by omega,by go_num,HN1.out,HBc.out.trans ((below_drewN _ _).mono HBc.out.size)⟩
           case measure=>simp[intOf];omega
          rcases eq2_ways v0 v1 x2 x3 with ⟨d0,d1,d2⟩ | ⟨d0,d1,d2⟩ | ⟨d0,d1⟩
          ·have HT1:Hid (T=7):=HHIT.out (by rw[f0,d0];rfl)
           go_wp2_with fail
           go_quiet (fail)
           go_wp2;go_ret;exact⟨by rw[HT1.out];rfl,HBzw.out.trans ((below_drewN _ _).mono HBzw.out.size)⟩
          ·have HN1:Hid ((U.take (q+1)).any (fun u=>u==(x0,x1) || u==(x2,x3))=false):=HNXT.out (by rw[f0,d0];rfl)
           go_wp2_with fail
           go_quiet (fail)
           go_wp2;go_roundw
           case rel=>exact⟨q+1,by omega,by go_num,HN1.out,HBc.out.trans ((below_drewN _ _).mono HBc.out.size)⟩
           case measure=>simp[intOf];omega
          have HN1:Hid ((U.take (q+1)).any (fun u=>u==(x0,x1) || u==(x2,x3))=false):=HNXT.out (by rw[f0,d0];rfl)
          go_wp2_with fail
          go_quiet (fail)
          go_wp2;go_roundw
          case rel=>exact⟨q+1,by omega,by go_num,HN1.out,HBc.out.trans ((below_drewN _ _).mono HBc.out.size)⟩
          case measure=>simp[intOf];omega
         obtain rfl:q=m:=by omega
         have HAN:Hid ((U.any fun u=>u==(x0,x1) || u==(x2,x3))=false):=by
          have:=HNO.out;rw[←HMU.out] at this;exact any_take this
         have HL0:Hid (lkN S Ls []=lkN S (Ls.drop (k+1)) (U++[(x0,x1),(x2,x3)])):=by
          show _=_;have e:lk1 S U ((x0,x1),(x2,x3))=0:=by
           rw[HL8.out,HAN.out];rfl
          rw[HLK1.out,if_pos e]
         have HOZ:Hid (wr.ownsRow w0.heap.size 75 2 (.slice ao3 q cap3) q (cellsG spoE U)):=own_below HOWN.out HBz.out;have HBz0:Hid (Below w0.heap.size w0 wr):=HBr.out.trans (HBz.out.mono HBr.out.size);have hsz0:w0.heap.size≤wr.heap.size:=HBz0.out.size
         go_wp2_with (at_builtin;refine wpList_append_own _ rfl _ _ 176 rfl w0.heap.size 75 i0 (.agg #[.int i64 0,.int i64 0]) 2 16 underlying176 hi hz0 hz1 hz2 spo_zero (by decide) _ _ _ rfl (HOZ.out.alloc _) ⟨wr.heap.size,0,none⟩ 1 1 [.int i64 x0,.int i64 x1] rfl rfl ?m1 ?m2 ?m3 ?m4 ?m5 ?_)
         case m1 =>
          intro j u hj
          match j,hj with
          | 0,hj=>simp at hj;subst hj;simp[Addr.add]
          | 1,hj=>simp at hj;subst hj;simp[Addr.add]
         case m2=>intro u hu;simp at hu;rcases hu with rfl | rfl <;> rfl
         case m3=>unfold maxLen;omega
         case m4=>omega
         case m5=>simp;omega
         intro v5 w5 hown5 hgrow5 _;obtain⟨ao5,cap5,rfl⟩:=own_form hown5;have hb5:Below w0.heap.size wr w5:=((Below.refl _ wr).alloc hsz0 _).grown hgrow5 (by simp;omega) (fun g hg=>(HOZ.out.lt g hg).1);have HB5:Hid (Below w0.heap.size w0 w5):=HBz0.out.trans hb5;have hk5:∀i,w5.cell? ⟨wo.heap.size,i,none⟩=(wr.alloc (.cells #[.int i64 x0,.int i64 x1] 75)).cell? ⟨wo.heap.size,i,none⟩:=fun i=>grown_cell hgrow5 (by simp;omega) (fun g hg e=>by
          have:=(HOWN.out.lt g hg).2;omega) i
         have l2':=(hk5 2).trans (cell_later ((Below.refl _ wr).alloc (nLQ _) _) l2);have l3':=(hk5 3).trans (cell_later ((Below.refl _ wr).alloc (nLQ _) _) l3);obtain⟨b0',b1',b2'⟩:=HX.out.later HB5.out;have HO5:Hid (w5.ownsRow w0.heap.size 75 2 (.slice ao5 (q+1) cap5) (q+1) (cellsG spoE U++[.int i64 x0,.int i64 x1])):=hown5;have hsz5:w0.heap.size≤w5.heap.size:=HB5.out.size;clear hb5 hk5 hgrow5 hown5 b0 b1 b2 l0 l1 l2 l3
         go_wp2_with (at_builtin;refine wpList_append_own _ rfl _ _ 176 rfl w0.heap.size 75 i0 (.agg #[.int i64 0,.int i64 0]) 2 16 underlying176 hi hz0 hz1 hz2 spo_zero (by decide) _ _ _ rfl (HO5.out.alloc _) ⟨w5.heap.size,0,none⟩ 1 1 [.int i64 x2,.int i64 x3] rfl rfl ?k1 ?k2 ?k3 ?k4 ?k5 ?_)
         case k1 =>
          intro j u hj
          match j,hj with
          | 0,hj=>simp at hj;subst hj;simp[Addr.add]
          | 1,hj=>simp at hj;subst hj;simp[Addr.add]
         case k2=>intro u hu;simp at hu;rcases hu with rfl | rfl <;> rfl
         case k3=>unfold maxLen;omega
         case k4=>omega
         case k5=>simp;omega
         intro v6 w6 hown6 hgrow6 _;obtain⟨ao6,cap6,rfl⟩:=own_form hown6;have hb6:Below w0.heap.size w5 w6:=((Below.refl _ w5).alloc hsz5 _).grown hgrow6 (by simp;omega) (fun g hg=>(HO5.out.lt g hg).1);have HB6:Hid (Below w0.heap.size w0 w6):=HB5.out.trans hb6;have HO6:Hid (w6.ownsRow w0.heap.size 75 2 (.slice ao6 (q+1+1) cap6) (spsL (Ls.take (k+1))).length (cellsG spoE (spsL (Ls.take (k+1))))):=by
          show World.ownsRow _ _ _ _ _ _ _;rw[HUN.out];exact own_two HMU.out hown6
         have HL1:Hid (lkN S Ls []=lkN S (Ls.drop (k+1)) (spsL (Ls.take (k+1)))):=by
          show _=_;rw[HL0.out,HUN.out]
         clear hb6 hgrow6 hown6 b0' b1' b2' l2' l3';go_wp2;go_roundw
         case rel=>exact⟨k+1,HK1.out,by go_num,HO6.out,HL1.out,HB6.out⟩
         case measure =>
          have:=HK1.out;simp[intOf];omega
      obtain rfl:k=n:=by omega
      have hU2:U=spsL Ls:=by
       rw[HU.out,←HLN.out,List.take_length]
      have HM2:Hid (T=hoN S Hs [] (spsL Ls)):=by
       show _=_;have e:lkN S Ls []=0:=by
        rw[HLK.out,←HLN.out,List.drop_length];rfl
       rw[HM.out,if_pos e]
      subst hU2;clear HLK HU HLA HM;go_wp2
      go_loopw [3,9] (fun u i wz=>∃j:Nat,j≤n2∧i=.int i64 j∧wz.ownsRow w0.heap.size 75 2 u (spsL Ls++(Hs.take j).map (·.2)).length (cellsG spoE (spsL Ls++(Hs.take j).map (·.2)))∧T=hoN S (Hs.drop j) ((Hs.take j).map (·.1)) (spsL Ls++(Hs.take j).map (·.2))∧Below w0.heap.size w0 wz) (fun _ i _=>n2-(intOf i).toNat)
      case atStart=>exact⟨0,by omega,rfl,by simpa[HMU.out] using HOWN.out,by simpa using HM2.out,HBr.out⟩
      case round =>
       clear HMU HOWN HM2 HBr HBw HXr b0 b1 b2 hlw hlen;obtain⟨j,hj,rfl,hown,hTj,hBz⟩:=hrel;obtain⟨ao3,cap3,rfl⟩:=own_form hown;obtain⟨wp,hwp⟩:∃x,x=wr:=⟨_,rfl⟩;subst hwp;have hn8:n2≤8:=H8.out;obtain⟨U,hU⟩:∃U,U=spsL Ls++(Hs.take j).map (·.2):=⟨_,rfl⟩;obtain⟨N,hN⟩:∃N,N=(Hs.take j).map (·.1):=⟨_,rfl⟩;have HU:Hid (U=spsL Ls++(Hs.take j).map (·.2)):=hU;have HN:Hid (N=(Hs.take j).map (·.1)):=hN;rw[←hU] at hown;rw[←hU,←hN] at hTj;rw[←hU];have hlen:U.length≤410:=by
        rw[hU,List.length_append,sps_len,List.length_map,List.length_take];have:=HLN.out;omega
       obtain⟨m,hm⟩:∃m,m=U.length:=⟨_,rfl⟩;have HMU:Hid (U.length=m):=hm.symm;rw[←hm] at hown hlen;rw[←hm];have HOWN:Hid (wp.ownsRow w0.heap.size 75 2 (.slice ao3 m cap3) m (cellsG spoE U)):=hown;have HTJ:Hid (T=hoN S (Hs.drop j) N U):=hTj;have HBr:Hid (Below w0.heap.size w0 wp):=hBz;have HBw:Hid (Below w.heap.size w wp):=HB.out.trans (hBz.mono HB.out.size);have HXr:Hid (TBox wp w.heap.size S (.slice ao k cap) (.slice ao2 n2 cap2)):=HX.out.later hBz;obtain⟨b0,b1,b2⟩:=HXr.out;have hlw:w.heap.size<wp.heap.size:=bLQ _ _ b0;clear hown hTj hBz hU hN hm;by_cases hlt:j<n2
       ·have HK1:Hid (j+1≤n2):=hlt;obtain⟨g,o,hao,hc,_⟩:=HHA.out (by omega);subst hao;obtain⟨y0,y1,y2,hkl,hHk,q0,q1,q2⟩:=hst_at (hc.later HBw.out) HHN.out hlt;have HHC:Hid (GAt hstE wp g o Hs):=hc.later HBw.out;have HTN:Hid (T=if ho1 S N U (y0,(y1,y2))=0 then hoN S (Hs.drop (j+1)) (N++[y0]) (U++[(y1,y2)]) else ho1 S N U (y0,(y1,y2))):=by
         show _=_;rw[HTJ.out,List.drop_eq_getElem_cons hkl,ho_step,hHk]
        have HT7:Hid (ho1 S N U (y0,(y1,y2))≠0→T=ho1 S N U (y0,(y1,y2))):=fun h=>by
         have e:=HTN.out;rw[if_neg h] at e;exact e
        have HUN:Hid (spsL Ls++(Hs.take (j+1)).map (·.2)=U++[(y1,y2)]):=by
         show _=_;rw[List.take_succ_eq_append_getElem hkl,List.map_append,hHk,HU.out,List.append_assoc];rfl
        have HNN:Hid ((Hs.take (j+1)).map (·.1)=N++[y0]):=by
         show _=_;rw[List.take_succ_eq_append_getElem hkl,List.map_append,hHk,HN.out];rfl
        have HBA:Hid (Below wp.heap.size wp (wp.alloc (.cells #[Value.string y0,.int i64 y1,.int i64 y2] 77))):=(bRQ _ _).alloc (nLQ _) _;have HVA:Hid (VAt (wp.alloc (.cells #[Value.string y0,.int i64 y1,.int i64 y2] 77)) wp.heap.size 0 (hstE.c (y0,(y1,y2)))):=hst_new wp y0 y1 y2 77;clear hHk hc
        go_wp2_with fail
        refine (rname_any y0 _).mono ?_;rintro e w2 ⟨rfl,hw2⟩;subst hw2;obtain⟨w2,hw2⟩:∃W,wp.alloc (.cells #[Value.string y0,.int i64 y1,.int i64 y2] 77)=W:=⟨_,rfl⟩;rw[hw2] at HBA HVA ⊢;have HB2w:Hid (Below w.heap.size w w2):=HBw.out.trans (HBA.out.mono HBw.out.size);obtain⟨b0,b1,b2⟩:=HXr.out.later HBA.out;obtain⟨l0,l1,l2⟩:=hst_cells HVA.out;simp only[Nat.zero_add] at l0 l1 l2;clear hw2 q0 q1 q2;cases hna:nmB y0
        ·have HT1:Hid (T=2):=by
          have e:ho1 S N U (y0,(y1,y2))=2:=by simp[ho1,hna]
          have:=HT7.out (by rw[e];decide);rw[e] at this;exact this
         go_wp2;go_ret;exact⟨by rw[HT1.out];rfl,HB2w.out⟩
        go_wp2_with fail
        refine (rspot_any S ao k cap (some ⟨g,o,none⟩) n2 cap2 y1 y2 _).mono ?_;rintro e w3 ⟨rfl,hb3⟩;have hB3:Below wp.heap.size wp w3:=HBA.out.trans (hb3.mono HBA.out.size);have HB3:Hid (Below wp.heap.size wp w3):=hB3;have HB3w:Hid (Below w.heap.size w w3):=HBw.out.trans (hB3.mono HBw.out.size);have HV3:Hid (VAt w3 wp.heap.size 0 (hstE.c (y0,(y1,y2)))):=HVA.out.later hb3;obtain⟨b0,b1,b2⟩:=HXr.out.later hB3;obtain⟨l0,l1,l2⟩:=hst_cells HV3.out;simp only[Nat.zero_add] at l0 l1 l2;clear hb3 hB3 HBA HVA HB2w;cases hsp:spB S (y1,y2)
        ·have HT1:Hid (T=1):=by
          have e:ho1 S N U (y0,(y1,y2))=1:=by simp[ho1,hna,hsp]
          have:=HT7.out (by rw[e];decide);rw[e] at this;exact this
         go_wp2;go_ret;exact⟨by rw[HT1.out];rfl,HB3w.out⟩
        have HL7:Hid (ho1 S N U (y0,(y1,y2))=if (N.any fun n=>n==y0) || (U.any fun u=>u==(y1,y2)) then 7 else 0):=by
         show _=_;simp only[ho1,hna,hsp,if_true]
        have HNL:Hid (N.length=j):=by
         show _=_;rw[HN.out,List.length_map,List.length_take,HHN.out];omega
        have HNQ:Hid (∀q (h1:q<N.length) (h2:q<Hs.length),N[q]=(Hs[q]).1):=fun q h1 h2=>by
         have e:=HN.out;subst e;simp
        obtain⟨_,_,_,e5,hUn,hUm,_,hUa⟩:=(own_GS (E:=spoE) (L:=U) (by rw[HMU.out];exact HOWN.out):GS spoE wp (.slice ao3 m cap3) U).form;cases e5;have HUA:Hid (0<m→∃g o,ao3=some ⟨g,o,none⟩∧GAt spoE wp g o U∧cap3≤maxLen):=hUa;clear hUn hUm hUa b0 b1 b2 l0 l1 l2;go_wp2
        go_loopw [13] (fun i wz=>∃q:Nat,q≤j∧i=.int i64 q∧(N.take q).any (fun n=>n==y0)=false∧Below w3.heap.size w3 wz) (fun i _=>j-(intOf i).toNat)
        case atStart=>exact⟨0,by omega,rfl,by simp,bRQ _ _⟩
        case round =>
         obtain⟨q,hq,rfl,hno,hBz⟩:=hrel;obtain⟨wn,hwn⟩:∃x,x=wr:=⟨_,rfl⟩;subst hwn;have HNO:Hid ((N.take q).any (fun n=>n==y0)=false):=hno;have HBz:Hid (Below wp.heap.size wp wn):=HB3.out.trans (hBz.mono HB3.out.size);have HBc:Hid (Below w3.heap.size w3 wn):=hBz;have HBzw:Hid (Below w.heap.size w wn):=HBw.out.trans (HBz.out.mono HBw.out.size);obtain⟨b0,b1,b2⟩:=HXr.out.later HBz.out;have HVz:Hid (VAt wn wp.heap.size 0 (hstE.c (y0,(y1,y2)))):=HV3.out.later hBz;obtain⟨l0,l1,l2⟩:=hst_cells HVz.out;simp only[Nat.zero_add] at l0 l1 l2;have hll:wp.heap.size<wn.heap.size:=bLQ _ _ l0;have hlw:w.heap.size<wn.heap.size:=bLQ _ _ b0;clear hno hBz;by_cases hqj:q<j
         ·obtain⟨z0,z1,z2,hql,hHq,p0,p1,p2⟩:=hst_at (HHC.out.later HBz.out) HHN.out (show q<n2 by omega);have hqN:q<N.length:=by rw[HNL.out];exact hqj
          have hNq:N[q]=z0:=by rw[HNQ.out q hqN hql,hHq]
          have qb0:(0:Int)≤(q:Int):=by omega
          have qb1:(q:Int)<(n2:Int):=by omega
          have hgl3:g<wn.heap.size:=bLQ _ _ p0;have HHIT:Hid ((z0==y0)=true→T=7):=fun hy=>by
           have e:ho1 S N U (y0,(y1,y2))=7:=by
            rw[HL7.out,any_hitG hqN (by rw[hNq];exact hy)];rfl
           have:=HT7.out (by rw[e];decide);rw[e] at this;exact this
          have HNXT:Hid ((z0==y0)=false→(N.take (q+1)).any (fun n=>n==y0)=false):=fun hy=>any_nextG hqN HNO.out (by rw[hNq];exact hy)
          have hbe:=beq_toListBytes z0 y0;clear hHq hNq;cases hz:(z0==y0)
          ·have HN1:Hid ((N.take (q+1)).any (fun n=>n==y0)=false):=HNXT.out hz;rw[hbe] at hz;clear hbe
           go_wp2_with fail
           go_quiet (fail)
           go_wp2;go_roundw
           case rel=>exact⟨q+1,by omega,by go_num,HN1.out,HBc.out.trans ((below_drewN _ _).mono HBc.out.size)⟩
           case measure=>simp[intOf];omega
          have HT1:Hid (T=7):=HHIT.out hz;rw[hbe] at hz;clear hbe
          go_wp2_with fail
          go_quiet (fail)
          go_wp2;go_ret;exact⟨by rw[HT1.out];rfl,HBzw.out.trans ((below_drewN _ _).mono HBzw.out.size)⟩
         obtain rfl:q=j:=by omega
         have HAN:Hid ((N.any fun n=>n==y0)=false):=by
          have:=HNO.out;rw[←HNL.out] at this;exact any_take this
         have HL8:Hid (ho1 S N U (y0,(y1,y2))=if (U.any fun u=>u==(y1,y2)) then 7 else 0):=by
          show _=_;rw[HL7.out,HAN.out,Bool.false_or]
         clear b0 b1 b2 l0 l1 l2;go_wp2
         go_loopw [14] (fun i wz=>∃q:Nat,q≤m∧i=.int i64 q∧(U.take q).any (fun u=>u==(y1,y2))=false∧Below wn.heap.size wn wz) (fun i _=>m-(intOf i).toNat)
         case atStart=>exact⟨0,by omega,rfl,by simp,bRQ _ _⟩
         case round =>
          obtain⟨r,hr,rfl,hno,hBy⟩:=hrel;have HNO2:Hid ((U.take r).any (fun u=>u==(y1,y2))=false):=hno;have HBy:Hid (Below wp.heap.size wp wr):=HBz.out.trans (hBy.mono HBz.out.size);have HBcy:Hid (Below wn.heap.size wn wr):=hBy;have HByw:Hid (Below w.heap.size w wr):=HBw.out.trans (HBy.out.mono HBw.out.size);obtain⟨b0,b1,b2⟩:=HXr.out.later HBy.out;have HVy:Hid (VAt wr wp.heap.size 0 (hstE.c (y0,(y1,y2)))):=HVz.out.later hBy;obtain⟨l0,l1,l2⟩:=hst_cells HVy.out;simp only[Nat.zero_add] at l0 l1 l2;have hll:wp.heap.size<wr.heap.size:=bLQ _ _ l0;clear hno hBy;by_cases hrm:r<m
          ·obtain⟨g3,o3,hao3,hc3,_⟩:=HUA.out (by omega);subst hao3;obtain⟨v0,v1,hql,hUq,p0,p1⟩:=spo_at (hc3.later HBy.out) HMU.out hrm;have HUQ:Hid (U[r]=(v0,v1)):=hUq;have qb0:(0:Int)≤(r:Int):=by omega
           have qb1:(r:Int)<(m:Int):=by omega
           have hgl3:g3<wr.heap.size:=bLQ _ _ p0;have HHIT:Hid ((v0==y1&&v1==y2)=true→T=7):=fun hy=>by
            have e:ho1 S N U (y0,(y1,y2))=7:=by
             rw[HL8.out,any_hitG hql (by rw[HUQ.out];exact hy)];rfl
            have:=HT7.out (by rw[e];decide);rw[e] at this;exact this
           have HNXT:Hid ((v0==y1&&v1==y2)=false→(U.take (r+1)).any (fun u=>u==(y1,y2))=false):=fun hy=>any_nextG hql HNO2.out (by rw[HUQ.out];exact hy)
           clear hc3 hUq
           rcases eq2_ways v0 v1 y1 y2 with ⟨f0,f1,f2⟩ | ⟨f0,f1,f2⟩ | ⟨f0,f1⟩
           ·have HT1:Hid (T=7):=HHIT.out f0
            go_wp2_with fail
            go_quiet (fail)
            go_wp2;go_ret;exact⟨by rw[HT1.out];rfl,HByw.out.trans ((below_drewN _ _).mono HByw.out.size)⟩
           ·have HN1:Hid ((U.take (r+1)).any (fun u=>u==(y1,y2))=false):=HNXT.out f0
            go_wp2_with fail
            go_quiet (fail)
            go_wp2;go_roundw
            case rel=>exact⟨r+1,by omega,by go_num,HN1.out,HBcy.out.trans ((below_drewN _ _).mono HBcy.out.size)⟩
            case measure=>simp[intOf];omega
           have HN1:Hid ((U.take (r+1)).any (fun u=>u==(y1,y2))=false):=HNXT.out f0
           go_wp2_with fail
           go_quiet (fail)
           go_wp2;go_roundw
           case rel=>exact⟨r+1,by omega,by go_num,HN1.out,HBcy.out.trans ((below_drewN _ _).mono HBcy.out.size)⟩
           case measure=>simp[intOf];omega
          obtain rfl:r=m:=by omega
          have HT0:Hid (T=hoN S (Hs.drop (q+1)) ((Hs.take (q+1)).map (·.1)) (spsL Ls++(Hs.take (q+1)).map (·.2))):=by
           show _=_;have e:ho1 S N U (y0,(y1,y2))=0:=by
            have h2:=HNO2.out;rw[←HMU.out] at h2;rw[HL8.out,any_take h2];rfl
           rw[HTN.out,if_pos e,HUN.out,HNN.out]
          have HOZ:Hid (wr.ownsRow w0.heap.size 75 2 (.slice ao3 r cap3) r (cellsG spoE U)):=own_below HOWN.out HBy.out;have HBz0:Hid (Below w0.heap.size w0 wr):=HBr.out.trans (HBy.out.mono HBr.out.size);have hsz0:w0.heap.size≤wr.heap.size:=HBz0.out.size
          go_wp2_with (at_builtin;refine wpList_append_own _ rfl _ _ 176 rfl w0.heap.size 75 i0 (.agg #[.int i64 0,.int i64 0]) 2 16 underlying176 hi hz0 hz1 hz2 spo_zero (by decide) _ _ _ rfl (HOZ.out.alloc _) ⟨wr.heap.size,0,none⟩ 1 1 [.int i64 y1,.int i64 y2] rfl rfl ?n1 ?n2 ?n3 ?n4 ?n5 ?_)
          case n1 =>
           intro j u hj
           match j,hj with
           | 0,hj=>simp at hj;subst hj;simp[Addr.add]
           | 1,hj=>simp at hj;subst hj;simp[Addr.add]
          case n2=>intro u hu;simp at hu;rcases hu with rfl | rfl <;> rfl
          case n3=>unfold maxLen;omega
          case n4=>omega
          case n5=>simp;omega
          intro v5 w5 hown5 hgrow5 _;obtain⟨ao5,cap5,rfl⟩:=own_form hown5;have hb5:Below w0.heap.size wr w5:=((Below.refl _ wr).alloc hsz0 _).grown hgrow5 (by simp;omega) (fun g hg=>(HOZ.out.lt g hg).1);have HB5:Hid (Below w0.heap.size w0 w5):=HBz0.out.trans hb5;have HO5:Hid (w5.ownsRow w0.heap.size 75 2 (.slice ao5 (r+1) cap5) (spsL Ls++(Hs.take (q+1)).map (·.2)).length (cellsG spoE (spsL Ls++(Hs.take (q+1)).map (·.2)))):=by
           show World.ownsRow _ _ _ _ _ _ _;rw[HUN.out];exact own_one1 HMU.out hown5
          clear hb5 hgrow5 hown5 b0 b1 b2 l0 l1 l2;go_wp2;go_roundw
          case rel=>exact⟨q+1,HK1.out,by go_num,HO5.out,HT0.out,HB5.out⟩
          case measure =>
           have:=HK1.out;simp[intOf];omega
       obtain rfl:j=n2:=by omega
       have HT0:Hid (T=0):=by
        show _=_;rw[HTJ.out,←HHN.out,List.drop_length];rfl
       go_wp2;go_ret;exact⟨by rw[HT0.out];rfl,HBw.out⟩
    have s1:decide (S<1)=false:=by simp;omega
    have s2:decide (6<S)=false:=by simp;omega
    have s3:decide (200<(n:Int))=false:=by simp;omega
    have s4:decide (8<(n2:Int))=true:=by simp;omega
    have HTE:Hid (T=4):=by
     show _=_;have e1:(decide (1≤S)&&decide (S≤6))=true:=by simp[h1,h6]
     have e2:(decide (Ls.length≤200)&&decide (Hs.length≤8))=false:=by simp[hLn,hHn,h2];omega
     rw[hT,tpN,if_pos e1,e2];rfl
    clear hX hB HT hT hL hH hLn hHn hLm hHm hLa hHa h1 h6 h2 h8;go_enter func48,ntmps48;go_wp2;go_ret;exact⟨by rw[HTE.out];rfl,HB0'.out⟩
   have s1:decide (S<1)=false:=by simp;omega
   have s2:decide (6<S)=false:=by simp;omega
   have s3:decide (200<(n:Int))=true:=by simp;omega
   have HTE:Hid (T=4):=by
    show _=_;have e1:(decide (1≤S)&&decide (S≤6))=true:=by simp[h1,h6]
    have e2:(decide (Ls.length≤200)&&decide (Hs.length≤8))=false:=by simp[hLn];omega
    rw[hT,tpN,if_pos e1,e2];rfl
   clear hX hB HT hT hL hH hLn hHn hLm hHm hLa hHa h1 h6 h2;go_enter func48,ntmps48;go_wp2;go_ret;exact⟨by rw[HTE.out];rfl,HB0'.out⟩
  have s1:decide (S<1)=false:=by simp;omega
  have s2:decide (6<S)=true:=by simp;omega
  have HTE:Hid (T=1):=by
   show _=_;have e1:(decide (1≤S)&&decide (S≤6))=false:=by simp;omega
   rw[hT,tpN,e1];rfl
  clear hX hB HT hT hL hH hLn hHn hLm hHm hLa hHa h1 h6;go_enter func48,ntmps48;go_wp2;go_ret;exact⟨by rw[HTE.out];rfl,HB0'.out⟩
 have s1:decide (S<1)=true:=by simp;omega
 have HTE:Hid (T=1):=by
  show _=_;have e1:(decide (1≤S)&&decide (S≤6))=false:=by simp;omega
  rw[hT,tpN,e1];rfl
 clear hX hB HT hT hL hH hLn hHn hLm hHm hLa hHa h1;go_enter func48,ntmps48;go_wp2;go_ret;exact⟨by rw[HTE.out];rfl,HB0'.out⟩
theorem set_okB {s v:Int}(h:rngB s v=true):okB s v=(bits .andNot .i64 v s==0):=by simp[okB,h]
theorem refRule_prio (p m b o s v:Int)(w:World)(h:ruP p o=false):
 Calls prog 30 #[.agg #[.int i64 p,.int i64 m,.int i64 b,.int i64 o,.int i64 s,.int i64 v]] w fun e w'=>e=.returned (.int i64 1)∧Below w.heap.size w w':=by
 have hc:p<0∨(0≤p∧99<p)∨((0≤p∧p≤99)∧o<0)∨((0≤p∧p≤99)∧(0≤o∧4<o)):=by
  simp[ruP] at h;omega
 clear h
 rcases hc with h1 | ⟨h1,h2⟩ | ⟨⟨h1,h2⟩,h3⟩ | ⟨⟨h1,h2⟩,h3,h4⟩
 ·have e1:decide (p<0)=true:=by simp;omega
  go_enter func30,ntmps30
  go_wp2_with fail
  refine (header_any _ _).mono ?_;rintro e w' ⟨rfl,rfl⟩
  go_wp2_with fail
  refine (header_any _ _).mono ?_;rintro e w' ⟨rfl,rfl⟩;go_wp2;go_ret;exact⟨rfl,(bRQ _ _).alloc (nLQ _) _⟩
 ·have e1:decide (p<0)=false:=by simp;omega
  have e2:decide (99<p)=true:=by simp;omega
  go_enter func30,ntmps30
  go_wp2_with fail
  refine (header_any _ _).mono ?_;rintro e w' ⟨rfl,rfl⟩
  go_wp2_with fail
  refine (header_any _ _).mono ?_;rintro e w' ⟨rfl,rfl⟩;go_wp2;go_ret;exact⟨rfl,(bRQ _ _).alloc (nLQ _) _⟩
 ·have e1:decide (p<0)=false:=by simp;omega
  have e2:decide (99<p)=false:=by simp;omega
  have e3:decide (o<0)=true:=by simp;omega
  go_enter func30,ntmps30
  go_wp2_with fail
  refine (header_any _ _).mono ?_;rintro e w' ⟨rfl,rfl⟩
  go_wp2_with fail
  refine (header_any _ _).mono ?_;rintro e w' ⟨rfl,rfl⟩;go_wp2;go_ret;exact⟨rfl,(bRQ _ _).alloc (nLQ _) _⟩
 have e1:decide (p<0)=false:=by simp;omega
 have e2:decide (99<p)=false:=by simp;omega
 have e3:decide (o<0)=false:=by simp;omega
 have e4:decide (4<o)=true:=by simp;omega
 go_enter func30,ntmps30
 go_wp2_with fail
 refine (header_any _ _).mono ?_;rintro e w' ⟨rfl,rfl⟩
 go_wp2_with fail
 refine (header_any _ _).mono ?_;rintro e w' ⟨rfl,rfl⟩;go_wp2;go_ret;exact⟨rfl,(bRQ _ _).alloc (nLQ _) _⟩
theorem refRule_set (p m b o s v:Int)(w:World)(h:ruP p o=true)(h2:rngB s v=false):
 Calls prog 30 #[.agg #[.int i64 p,.int i64 m,.int i64 b,.int i64 o,.int i64 s,.int i64 v]] w fun e w'=>e=.returned (.int i64 1)∧Below w.heap.size w w':=by
 obtain⟨e1,e2,e3,e4⟩:=ruP_of h;clear h;cases hs:hdrB s
 ·clear h2;go_enter func30,ntmps30
  go_wp2_with fail
  refine (header_any _ _).mono ?_;rintro e w' ⟨rfl,rfl⟩;rw[hs]
  go_wp2_with fail
  refine (header_any _ _).mono ?_;rintro e w' ⟨rfl,rfl⟩;go_wp2;go_ret;exact⟨rfl,(bRQ _ _).alloc (nLQ _) _⟩
 have hv:hdrB v=false:=by simpa[rngB,hs] using h2
 clear h2;go_enter func30,ntmps30
 go_wp2_with fail
 refine (header_any _ _).mono ?_;rintro e w' ⟨rfl,rfl⟩;rw[hs]
 go_wp2_with fail
 refine (header_any _ _).mono ?_;rintro e w' ⟨rfl,rfl⟩;rw[hv];go_wp2;go_ret;exact⟨rfl,(bRQ _ _).alloc (nLQ _) _⟩
theorem refRule_cube (p m b o s v:Int)(w:World)(h:ruP p o=true)(h2:rngB s v=true)(h3:okB m b=false):
 Calls prog 30 #[.agg #[.int i64 p,.int i64 m,.int i64 b,.int i64 o,.int i64 s,.int i64 v]] w fun e w'=>e=.returned (.int i64 (refN m b))∧Below w.heap.size w w':=by
 obtain⟨e1,e2,e3,e4⟩:=ruP_of h;have hs:hdrB s=true:=by simp only[rngB,Bool.and_eq_true] at h2;exact h2.1
 have hv:hdrB v=true:=by simp only[rngB,Bool.and_eq_true] at h2;exact h2.2
 have hn:(refN m b != 0)=true:=by have:=ok_refN m b;rw[h3] at this;simpa using this
 clear h h2 h3;go_enter func30,ntmps30
 go_wp2_with fail
 refine (header_any _ _).mono ?_;rintro e w' ⟨rfl,rfl⟩;rw[hs]
 go_wp2_with fail
 refine (header_any _ _).mono ?_;rintro e w' ⟨rfl,rfl⟩;rw[hv]
 go_wp2_with fail
 refine (refCube_any _ _ _).mono ?_;rintro e w1 ⟨rfl,hb1⟩;go_wp2;go_ret;exact⟨rfl,((bRQ _ _).alloc (nLQ _) _).trans (hb1.mono (by simp))⟩
theorem refRule_end (p m b o s v:Int)(w:World)(h:ruP p o=true)(h2:rngB s v=true)(h3:okB m b=true)(x:Int)(hx:x=if ruSet o s v then 0 else 3):
 Calls prog 30 #[.agg #[.int i64 p,.int i64 m,.int i64 b,.int i64 o,.int i64 s,.int i64 v]] w fun e w'=>e=.returned (.int i64 x)∧Below w.heap.size w w':=by
 obtain⟨e1,e2,e3,e4⟩:=ruP_of h;have hs:hdrB s=true:=by simp only[rngB,Bool.and_eq_true] at h2;exact h2.1
 have hv:hdrB v=true:=by simp only[rngB,Bool.and_eq_true] at h2;exact h2.2
 have hn:refN m b=0:=refN_ok h3;have hlt:w.heap.size<(w.alloc (.cells #[.int i64 p,.int i64 m,.int i64 b,.int i64 o,.int i64 s,.int i64 v] 88)).heap.size:=by simp
 have ha0:=set_okB h2;clear h h2 h3;cases ha:(bits .andNot .i64 v s==0)
 ·have hx3:x=3:=by rw[hx];simp[ruSet,ha]
  subst hx3;have hz:(refN s v != 0)=true:=by have:=ok_refN s v;rw[ha0,ha] at this;simpa using this
  clear hx ha0;go_enter func30,ntmps30
  go_wp2_with fail
  refine (header_any _ _).mono ?_;rintro e w' ⟨rfl,rfl⟩;rw[hs]
  go_wp2_with fail
  refine (header_any _ _).mono ?_;rintro e w' ⟨rfl,rfl⟩;rw[hv]
  go_wp2_with fail
  refine (refCube_any _ _ _).mono ?_;rintro e w1 ⟨rfl,hb1⟩;rw[hn];obtain⟨hc1,hf1⟩:=bcell hb1;have hB:=((Below.refl w.heap.size w).alloc (nLQ _) (Obj.cells #[.int i64 p,.int i64 m,.int i64 b,.int i64 o,.int i64 s,.int i64 v] 88)).trans (hb1.mono (by simp));have hlt2:w.heap.size<w1.heap.size:=by have:=hb1.size;omega
  clear hb1
  go_wp2_with fail
  refine (refCube_any _ _ _).mono ?_;rintro e w2 ⟨rfl,hb2⟩
  generalize refN s v=N at *
  obtain⟨hc2,hf2⟩:=bcell hb2;have hB2:=hB.trans (hb2.mono (by omega));clear hb2 hB;go_wp2;go_ret;exact⟨rfl,hB2⟩
 have hz:refN s v=0:=refN_ok (by rw[ha0,ha]);clear ha0;cases ho:(o==0)
 ·have hx3:x=0:=by rw[hx];simp[ruSet,ha,ho]
  subst hx3;clear hx;go_enter func30,ntmps30
  go_wp2_with fail
  refine (header_any _ _).mono ?_;rintro e w' ⟨rfl,rfl⟩;rw[hs]
  go_wp2_with fail
  refine (header_any _ _).mono ?_;rintro e w' ⟨rfl,rfl⟩;rw[hv]
  go_wp2_with fail
  refine (refCube_any _ _ _).mono ?_;rintro e w1 ⟨rfl,hb1⟩;rw[hn];obtain⟨hc1,hf1⟩:=bcell hb1;have hB:=((Below.refl w.heap.size w).alloc (nLQ _) (Obj.cells #[.int i64 p,.int i64 m,.int i64 b,.int i64 o,.int i64 s,.int i64 v] 88)).trans (hb1.mono (by simp));have hlt2:w.heap.size<w1.heap.size:=by have:=hb1.size;omega
  clear hb1
  go_wp2_with fail
  refine (refCube_any _ _ _).mono ?_;rintro e w2 ⟨rfl,hb2⟩;rw[hz];obtain⟨hc2,hf2⟩:=bcell hb2;have hB2:=hB.trans (hb2.mono (by omega));clear hb2 hB;go_wp2;go_ret;exact⟨rfl,hB2⟩
 have hz2:x=if (s==0) then 0 else 3:=by rw[hx];simp[ruSet,ha,ho]
 clear hx;cases hs0:(s==0)
 ·rw[hs0] at hz2;have hs1:(s != 0)=true:=by simpa using hs0
  simp only[Bool.false_eq_true,if_false] at hz2;subst hz2;go_enter func30,ntmps30
  go_wp2_with fail
  refine (header_any _ _).mono ?_;rintro e w' ⟨rfl,rfl⟩;rw[hs]
  go_wp2_with fail
  refine (header_any _ _).mono ?_;rintro e w' ⟨rfl,rfl⟩;rw[hv]
  go_wp2_with fail
  refine (refCube_any _ _ _).mono ?_;rintro e w1 ⟨rfl,hb1⟩;rw[hn];obtain⟨hc1,hf1⟩:=bcell hb1;have hB:=((Below.refl w.heap.size w).alloc (nLQ _) (Obj.cells #[.int i64 p,.int i64 m,.int i64 b,.int i64 o,.int i64 s,.int i64 v] 88)).trans (hb1.mono (by simp));have hlt2:w.heap.size<w1.heap.size:=by have:=hb1.size;omega
  clear hb1
  go_wp2_with fail
  refine (refCube_any _ _ _).mono ?_;rintro e w2 ⟨rfl,hb2⟩;rw[hz];obtain⟨hc2,hf2⟩:=bcell hb2;have hB2:=hB.trans (hb2.mono (by omega));clear hb2 hB;go_wp2;go_ret;exact⟨rfl,hB2⟩
 rw[hs0] at hz2;have hs1:(s != 0)=false:=by simpa using hs0
 simp only[if_true] at hz2;subst hz2;go_enter func30,ntmps30
 go_wp2_with fail
 refine (header_any _ _).mono ?_;rintro e w' ⟨rfl,rfl⟩;rw[hs]
 go_wp2_with fail
 refine (header_any _ _).mono ?_;rintro e w' ⟨rfl,rfl⟩;rw[hv]
 go_wp2_with fail
 refine (refCube_any _ _ _).mono ?_;rintro e w1 ⟨rfl,hb1⟩;rw[hn];obtain⟨hc1,hf1⟩:=bcell hb1;have hB:=((Below.refl w.heap.size w).alloc (nLQ _) (Obj.cells #[.int i64 p,.int i64 m,.int i64 b,.int i64 o,.int i64 s,.int i64 v] 88)).trans (hb1.mono (by simp));have hlt2:w.heap.size<w1.heap.size:=by have:=hb1.size;omega
 clear hb1
 go_wp2_with fail
 refine (refCube_any _ _ _).mono ?_;rintro e w2 ⟨rfl,hb2⟩;rw[hz];obtain⟨hc2,hf2⟩:=bcell hb2;have hB2:=hB.trans (hb2.mono (by omega));clear hb2 hB;go_wp2;go_ret;exact⟨rfl,hB2⟩
theorem refRule_any (p m b o s v:Int)(w:World):
 Calls prog 30 #[.agg #[.int i64 p,.int i64 m,.int i64 b,.int i64 o,.int i64 s,.int i64 v]] w fun e w'=>e=.returned (.int i64 (ruN p m b o s v))∧Below w.heap.size w w':=by
 cases h1:ruP p o
 ·have e:ruN p m b o s v=1:=by simp[ruN,ruIn,h1]
  rw[e];exact refRule_prio p m b o s v w h1
 cases h2:rngB s v
 ·have e:ruN p m b o s v=1:=by simp[ruN,ruIn,h2]
  rw[e];exact refRule_set p m b o s v w h1 h2
 cases h3:okB m b
 ·have e:ruN p m b o s v=refN m b:=by simp[ruN,ruIn,h1,h2,h3]
  rw[e];exact refRule_cube p m b o s v w h1 h2 h3
 exact refRule_end p m b o s v w h1 h2 h3 _ (by simp[ruN,ruIn,h1,h2,h3])
theorem to_badF {L:List Ru}{k:Nat}{r:Ru}(hk:k<L.length)(hr:L[k]=r)(h:tbTo L k=0)(h2:r.n≠0)(h12:L.length≤12):tbN L=r.n:=by
 have e:tbTo L (k+1)=r.n:=by rw[tbTo,if_pos h,getD_at hk,hr,if_neg h2]
 rw[tbN,if_neg (by omega),←e];exact to_le (by rw[e];exact h2) hk
theorem to_clashF {L:List Ru}{k:Nat}{r:Ru}(hk:k<L.length)(hr:L[k]=r)(h:tbTo L k=0)(h2:r.n=0)(h3:(L.take k).any (fun a=>keyB a r)=true)(h12:L.length≤12):tbN L=7:=by
 have e:tbTo L (k+1)=7:=by
  rw[tbTo,if_pos h,getD_at hk,hr,if_pos h2,h3];rfl
 rw[tbN,if_neg (by omega),←e];exact to_le (by rw[e];decide) hk
theorem to_nextF {L:List Ru}{k:Nat}{r:Ru}(hk:k<L.length)(hr:L[k]=r)(h:tbTo L k=0)(h2:r.n=0)(h3:(L.take k).any (fun a=>keyB a r)=false):tbTo L (k+1)=0:=by
 rw[tbTo,if_pos h,getD_at hk,hr,if_pos h2,h3];rfl
theorem tab_take {L:List Ru}{f:Ru→Bool}{q k:Nat}(hq:q<k)(hk:q<L.length)(h:f L[q]=true):(L.take k).any f=true:=
 List.any_eq_true.2 ⟨_,List.mem_take_iff_getElem.2 ⟨q,by omega,rfl⟩,h⟩
theorem refTable_some (g o cap n:Nat)(L:List Ru)(w:World)(hc:RAt w g o L)(hn:L.length=n)(hl:n≤12):
 Calls prog 49 #[.slice (some ⟨g,o,none⟩) n cap] w fun e w'=>e=.returned (.int i64 (tbN L))∧Below w.heap.size w w':=by
 have HN:Hid (L.length=n):=hn;clear hn;go_enter func49,ntmps49;go_wp2
 go_loopw [3] (fun i wr=>∃k:Nat,k≤n∧i=.int i64 k∧tbTo L k=0∧Below w.heap.size w wr) (fun i _=>n-(intOf i).toNat)
 case atStart=>exact⟨0,by omega,rfl,rfl,bRQ _ _⟩
 case round =>
  obtain⟨k,hk,rfl,hno,hB⟩:=hrel;have HB:Hid (Below w.heap.size w wr):=hB;have HNO:Hid (tbTo L k=0):=hno;clear hno;by_cases hlt:k<n
  ·obtain⟨p,m,b,q,s,v,hkl,hL,q0,q1,q2,q3,q4,q5⟩:=(hc.later hB).at HN.out hlt;have HL:Hid (L[k]=⟨p,m,b,q,s,v⟩):=hL;clear hL hB;by_cases ho:ruN p m b q s v=0
   ·have HO:Hid (ruN p m b q s v=0):=ho
    go_wp2_with fail
    refine (refRule_any _ _ _ _ _ _ _).mono ?_;rintro e w1 ⟨rfl,hb1⟩;rw[HO.out];have HB1:Hid (Below w.heap.size w w1):=HB.out.trans (hb1.mono HB.out.size);clear hb1 q0 q1 q2 q3 q4 q5 ho;go_wp2
    go_loopw [5] (fun j w2=>∃t:Nat,t≤k∧j=.int i64 t∧(L.take t).any (fun a=>keyB a ⟨p,m,b,q,s,v⟩)=false∧Below w.heap.size w w2) (fun j _=>k-(intOf j).toNat)
    case atStart=>exact⟨0,by omega,rfl,by simp,HB1.out⟩
    case round =>
     obtain⟨t,ht,rfl,hany,hB2⟩:=hrel;have HANY:Hid ((L.take t).any (fun a=>keyB a ⟨p,m,b,q,s,v⟩)=false):=hany;have HB2:Hid (Below w.heap.size w wr):=hB2;clear hany;by_cases hq:t<k
     ·obtain⟨p4,m4,b4,o4,s4,v4,htl,hLt,y0,y1,y2,y3,y4,y5⟩:=(hc.later hB2).at HN.out (show t<n by omega);obtain⟨p5,m5,b5,o5,s5,v5,_,hLk,r0,r1,r2,r3,r4,r5⟩:=(hc.later hB2).at HN.out hlt;rw[HL.out] at hLk;simp only[Ru.mk.injEq] at hLk;obtain⟨rfl,rfl,rfl,rfl,rfl,rfl⟩:=hLk;have HLT:Hid (L[t]=⟨p4,m4,b4,o4,s4,v4⟩):=hLt;have HCE:Hid (CD w g (o+t*6) p4 m4 b4 o4 s4 v4 g (o+k*6) p m b q s v wr):=⟨hB2,⟨y0,y1,y2,y3,y4,y5⟩,r0,r1,r2,r3,r4,r5⟩;clear y0 y1 y2 y3 y4 y5 r0 r1 r2 r3 r4 r5 hLt hB2;go_upto_region 12 with fail;have tb0:(0:Int)≤(t:Int):=by omega
      have tb1:(t:Int)<(n:Int):=by omega
      have kb0:(0:Int)≤(k:Int):=by omega
      have kb1:(k:Int)<(n:Int):=by omega
      go_cut [51] from 23 to 51 (fun c w'=>c=.bool (keyB ⟨p4,m4,b4,o4,s4,v4⟩ ⟨p,m,b,q,s,v⟩)∧Below w.heap.size w w')
      case first =>
       as_aux_lemma =>
        by_cases e1:p4=p
        ·have f1:(p4==p)=true:=by simpa using e1
         by_cases e2:m4=m∧b4=b
         ·obtain⟨e2,e3⟩:=e2;have hky:keyB ⟨p4,m4,b4,o4,s4,v4⟩ ⟨p,m,b,q,s,v⟩=true:=by rw[key_eq];simp[e1,e2,e3]
          have f2:(m4==m)=true:=by simpa using e2
          have f3:(b4==b)=true:=by simpa using e3
          have hC0:=HCE.out;clear e1 e2 e3;refine wp_region_quiet (C:=CD w g (o+t*6) p4 m4 b4 o4 s4 v4 g (o+k*6) p m b q s v) (by kernel_rfl) (by kernel_rfl) (CD.later (W:=wr) (Below.drew (bRQ _ _)) hC0) ?_;simp only[List.toList_toArray];go_big_quiet_want;refine qv (.slice (some ⟨g,o,none⟩) n cap) ?_ ?_
          ·rintro w' ⟨z0,⟨z1,z2,z3,z4,z5,z6⟩,y1,y2,y3,y4,y5,y6⟩;go_simp
          simp only[Act.put,AP];go_big_quiet_on;go_big_quiet_want;refine qv (.int i64 (t:Int)) ?_ ?_
          ·rintro w' ⟨z0,⟨z1,z2,z3,z4,z5,z6⟩,y1,y2,y3,y4,y5,y6⟩;go_simp
          simp only[Act.put,AP];go_big_quiet_on;go_big_quiet_want;refine qv (.pointer (some ⟨g,o+t*6,none⟩)) ?_ ?_
          ·rintro w' ⟨z0,⟨z1,z2,z3,z4,z5,z6⟩,y1,y2,y3,y4,y5,y6⟩;go_simp
          simp only[Act.put,AP];go_big_quiet_on;go_big_quiet_want;refine qv (.pointer (some ⟨g,o+t*6,none⟩)) ?_ ?_
          ·rintro w' ⟨z0,⟨z1,z2,z3,z4,z5,z6⟩,y1,y2,y3,y4,y5,y6⟩;go_simp
          simp only[Act.put,AP];go_big_quiet_on;go_big_quiet_want;refine qv (.int i64 p4) ?_ ?_
          ·rintro w' ⟨z0,⟨z1,z2,z3,z4,z5,z6⟩,y1,y2,y3,y4,y5,y6⟩;go_simp
          simp only[Act.put,AP];go_big_quiet_on;go_big_quiet_want;refine qv (.slice (some ⟨g,o,none⟩) n cap) ?_ ?_
          ·rintro w' ⟨z0,⟨z1,z2,z3,z4,z5,z6⟩,y1,y2,y3,y4,y5,y6⟩;go_simp
          simp only[Act.put,AP];go_big_quiet_on;go_big_quiet_want;refine qv (.int i64 (k:Int)) ?_ ?_
          ·rintro w' ⟨z0,⟨z1,z2,z3,z4,z5,z6⟩,y1,y2,y3,y4,y5,y6⟩;go_simp
          simp only[Act.put,AP];go_big_quiet_on;go_big_quiet_want;refine qv (.pointer (some ⟨g,o+k*6,none⟩)) ?_ ?_
          ·rintro w' ⟨z0,⟨z1,z2,z3,z4,z5,z6⟩,y1,y2,y3,y4,y5,y6⟩;go_simp
          simp only[Act.put,AP];go_big_quiet_on;go_big_quiet_want;refine qv (.pointer (some ⟨g,o+k*6,none⟩)) ?_ ?_
          ·rintro w' ⟨z0,⟨z1,z2,z3,z4,z5,z6⟩,y1,y2,y3,y4,y5,y6⟩;go_simp
          simp only[Act.put,AP];go_big_quiet_on;go_big_quiet_want;refine qv (.int i64 p) ?_ ?_
          ·rintro w' ⟨z0,⟨z1,z2,z3,z4,z5,z6⟩,y1,y2,y3,y4,y5,y6⟩;go_simp
          simp only[Act.put,AP];go_big_quiet_on;go_big_quiet_want;refine qv (.bool true) ?_ ?_
          ·rintro w' ⟨z0,⟨z1,z2,z3,z4,z5,z6⟩,y1,y2,y3,y4,y5,y6⟩;go_simp
          simp only[Act.put,AP];go_big_quiet_on;go_big_quiet_want;refine qv (.bool true) ?_ ?_
          ·rintro w' ⟨z0,⟨z1,z2,z3,z4,z5,z6⟩,y1,y2,y3,y4,y5,y6⟩;go_simp
          simp only[Act.put,AP];go_big_quiet_on;go_big_quiet_want;refine qv (.slice (some ⟨g,o,none⟩) n cap) ?_ ?_
          ·rintro w' ⟨z0,⟨z1,z2,z3,z4,z5,z6⟩,y1,y2,y3,y4,y5,y6⟩;go_simp
          simp only[Act.put,AP];go_big_quiet_on;go_big_quiet_want;refine qv (.int i64 (t:Int)) ?_ ?_
          ·rintro w' ⟨z0,⟨z1,z2,z3,z4,z5,z6⟩,y1,y2,y3,y4,y5,y6⟩;go_simp
          simp only[Act.put,AP];go_big_quiet_on;go_big_quiet_want;refine qv (.pointer (some ⟨g,o+t*6,none⟩)) ?_ ?_
          ·rintro w' ⟨z0,⟨z1,z2,z3,z4,z5,z6⟩,y1,y2,y3,y4,y5,y6⟩;go_simp
          simp only[Act.put,AP];go_big_quiet_on;go_big_quiet_want;refine qv (.pointer (some ⟨g,o+t*6+1,none⟩)) ?_ ?_
          ·rintro w' ⟨z0,⟨z1,z2,z3,z4,z5,z6⟩,y1,y2,y3,y4,y5,y6⟩;go_simp
          simp only[Act.put,AP];go_big_quiet_on;go_big_quiet_want;refine qv (.agg #[.int i64 m4,.int i64 b4]) ?_ ?_
          ·rintro w' ⟨z0,⟨z1,z2,z3,z4,z5,z6⟩,y1,y2,y3,y4,y5,y6⟩;go_simp
          simp only[Act.put,AP];go_big_quiet_on;go_big_quiet_want;refine qv (.slice (some ⟨g,o,none⟩) n cap) ?_ ?_
          ·rintro w' ⟨z0,⟨z1,z2,z3,z4,z5,z6⟩,y1,y2,y3,y4,y5,y6⟩;go_simp
          simp only[Act.put,AP];go_big_quiet_on;go_big_quiet_want;refine qv (.int i64 (k:Int)) ?_ ?_
          ·rintro w' ⟨z0,⟨z1,z2,z3,z4,z5,z6⟩,y1,y2,y3,y4,y5,y6⟩;go_simp
          simp only[Act.put,AP];go_big_quiet_on;go_big_quiet_want;refine qv (.pointer (some ⟨g,o+k*6,none⟩)) ?_ ?_
          ·rintro w' ⟨z0,⟨z1,z2,z3,z4,z5,z6⟩,y1,y2,y3,y4,y5,y6⟩;go_simp
          simp only[Act.put,AP];go_big_quiet_on;go_big_quiet_want;refine qv (.pointer (some ⟨g,o+k*6+1,none⟩)) ?_ ?_
          ·rintro w' ⟨z0,⟨z1,z2,z3,z4,z5,z6⟩,y1,y2,y3,y4,y5,y6⟩;go_simp
          simp only[Act.put,AP];go_big_quiet_on;go_big_quiet_want;refine qv (.agg #[.int i64 m,.int i64 b]) ?_ ?_
          ·rintro w' ⟨z0,⟨z1,z2,z3,z4,z5,z6⟩,y1,y2,y3,y4,y5,y6⟩;go_simp
          simp only[Act.put,AP];go_big_quiet_on;go_big_quiet_want;refine qv (.bool true) ?_ ?_
          ·rintro w' ⟨z0,⟨z1,z2,z3,z4,z5,z6⟩,y1,y2,y3,y4,y5,y6⟩;go_simp
          simp only[Act.put,AP];go_big_quiet_on;go_big_quiet_want;refine qv (.bool true) ?_ ?_
          ·rintro w' ⟨z0,⟨z1,z2,z3,z4,z5,z6⟩,y1,y2,y3,y4,y5,y6⟩;go_simp
          simp only[Act.put,AP];go_big_quiet_on;refine wpQuiet_nil ?_;intro w' hC
          go_wp2_with fail
          go_meet
          case rel=>exact⟨by rw[hky],hC.1⟩
         have hky:keyB ⟨p4,m4,b4,o4,s4,v4⟩ ⟨p,m,b,q,s,v⟩=false:=by
          rw[key_eq];simp only[e1,decide_true,Bool.true_and,Bool.and_eq_false_iff,decide_eq_false_iff_not];by_cases e3:m4=m
          ·exact .inr fun e4=>e2 ⟨e3,e4⟩
          exact .inl e3
         by_cases e3:m4=m
         ·have f3:¬b4=b:=fun e4=>e2 ⟨e3,e4⟩
          have f2:(m4==m)=true:=by simpa using e3
          have f4:(b4==b)=false:=by simpa using f3
          clear e2;have hC0:=HCE.out;clear e1;refine wp_region_quiet (C:=CD w g (o+t*6) p4 m4 b4 o4 s4 v4 g (o+k*6) p m b q s v) (by kernel_rfl) (by kernel_rfl) (CD.later (W:=wr) (Below.drew (bRQ _ _)) hC0) ?_;simp only[List.toList_toArray];go_big_quiet_want;refine qv (.slice (some ⟨g,o,none⟩) n cap) ?_ ?_
          ·rintro w' ⟨z0,⟨z1,z2,z3,z4,z5,z6⟩,y1,y2,y3,y4,y5,y6⟩;go_simp
          simp only[Act.put,AP];go_big_quiet_on;go_big_quiet_want;refine qv (.int i64 (t:Int)) ?_ ?_
          ·rintro w' ⟨z0,⟨z1,z2,z3,z4,z5,z6⟩,y1,y2,y3,y4,y5,y6⟩;go_simp
          simp only[Act.put,AP];go_big_quiet_on;go_big_quiet_want;refine qv (.pointer (some ⟨g,o+t*6,none⟩)) ?_ ?_
          ·rintro w' ⟨z0,⟨z1,z2,z3,z4,z5,z6⟩,y1,y2,y3,y4,y5,y6⟩;go_simp
          simp only[Act.put,AP];go_big_quiet_on;go_big_quiet_want;refine qv (.pointer (some ⟨g,o+t*6,none⟩)) ?_ ?_
          ·rintro w' ⟨z0,⟨z1,z2,z3,z4,z5,z6⟩,y1,y2,y3,y4,y5,y6⟩;go_simp
          simp only[Act.put,AP];go_big_quiet_on;go_big_quiet_want;refine qv (.int i64 p4) ?_ ?_
          ·rintro w' ⟨z0,⟨z1,z2,z3,z4,z5,z6⟩,y1,y2,y3,y4,y5,y6⟩;go_simp
          simp only[Act.put,AP];go_big_quiet_on;go_big_quiet_want;refine qv (.slice (some ⟨g,o,none⟩) n cap) ?_ ?_
          ·rintro w' ⟨z0,⟨z1,z2,z3,z4,z5,z6⟩,y1,y2,y3,y4,y5,y6⟩;go_simp
          simp only[Act.put,AP];go_big_quiet_on;go_big_quiet_want;refine qv (.int i64 (k:Int)) ?_ ?_
          ·rintro w' ⟨z0,⟨z1,z2,z3,z4,z5,z6⟩,y1,y2,y3,y4,y5,y6⟩;go_simp
          simp only[Act.put,AP];go_big_quiet_on;go_big_quiet_want;refine qv (.pointer (some ⟨g,o+k*6,none⟩)) ?_ ?_
          ·rintro w' ⟨z0,⟨z1,z2,z3,z4,z5,z6⟩,y1,y2,y3,y4,y5,y6⟩;go_simp
          simp only[Act.put,AP];go_big_quiet_on;go_big_quiet_want;refine qv (.pointer (some ⟨g,o+k*6,none⟩)) ?_ ?_
          ·rintro w' ⟨z0,⟨z1,z2,z3,z4,z5,z6⟩,y1,y2,y3,y4,y5,y6⟩;go_simp
          simp only[Act.put,AP];go_big_quiet_on;go_big_quiet_want;refine qv (.int i64 p) ?_ ?_
          ·rintro w' ⟨z0,⟨z1,z2,z3,z4,z5,z6⟩,y1,y2,y3,y4,y5,y6⟩;go_simp
          simp only[Act.put,AP];go_big_quiet_on;go_big_quiet_want;refine qv (.bool true) ?_ ?_
          ·rintro w' ⟨z0,⟨z1,z2,z3,z4,z5,z6⟩,y1,y2,y3,y4,y5,y6⟩;go_simp
          simp only[Act.put,AP];go_big_quiet_on;go_big_quiet_want;refine qv (.bool true) ?_ ?_
          ·rintro w' ⟨z0,⟨z1,z2,z3,z4,z5,z6⟩,y1,y2,y3,y4,y5,y6⟩;go_simp
          simp only[Act.put,AP];go_big_quiet_on;go_big_quiet_want;refine qv (.slice (some ⟨g,o,none⟩) n cap) ?_ ?_
          ·rintro w' ⟨z0,⟨z1,z2,z3,z4,z5,z6⟩,y1,y2,y3,y4,y5,y6⟩;go_simp
          simp only[Act.put,AP];go_big_quiet_on;go_big_quiet_want;refine qv (.int i64 (t:Int)) ?_ ?_
          ·rintro w' ⟨z0,⟨z1,z2,z3,z4,z5,z6⟩,y1,y2,y3,y4,y5,y6⟩;go_simp
          simp only[Act.put,AP];go_big_quiet_on;go_big_quiet_want;refine qv (.pointer (some ⟨g,o+t*6,none⟩)) ?_ ?_
          ·rintro w' ⟨z0,⟨z1,z2,z3,z4,z5,z6⟩,y1,y2,y3,y4,y5,y6⟩;go_simp
          simp only[Act.put,AP];go_big_quiet_on;go_big_quiet_want;refine qv (.pointer (some ⟨g,o+t*6+1,none⟩)) ?_ ?_
          ·rintro w' ⟨z0,⟨z1,z2,z3,z4,z5,z6⟩,y1,y2,y3,y4,y5,y6⟩;go_simp
          simp only[Act.put,AP];go_big_quiet_on;go_big_quiet_want;refine qv (.agg #[.int i64 m4,.int i64 b4]) ?_ ?_
          ·rintro w' ⟨z0,⟨z1,z2,z3,z4,z5,z6⟩,y1,y2,y3,y4,y5,y6⟩;go_simp
          simp only[Act.put,AP];go_big_quiet_on;go_big_quiet_want;refine qv (.slice (some ⟨g,o,none⟩) n cap) ?_ ?_
          ·rintro w' ⟨z0,⟨z1,z2,z3,z4,z5,z6⟩,y1,y2,y3,y4,y5,y6⟩;go_simp
          simp only[Act.put,AP];go_big_quiet_on;go_big_quiet_want;refine qv (.int i64 (k:Int)) ?_ ?_
          ·rintro w' ⟨z0,⟨z1,z2,z3,z4,z5,z6⟩,y1,y2,y3,y4,y5,y6⟩;go_simp
          simp only[Act.put,AP];go_big_quiet_on;go_big_quiet_want;refine qv (.pointer (some ⟨g,o+k*6,none⟩)) ?_ ?_
          ·rintro w' ⟨z0,⟨z1,z2,z3,z4,z5,z6⟩,y1,y2,y3,y4,y5,y6⟩;go_simp
          simp only[Act.put,AP];go_big_quiet_on;go_big_quiet_want;refine qv (.pointer (some ⟨g,o+k*6+1,none⟩)) ?_ ?_
          ·rintro w' ⟨z0,⟨z1,z2,z3,z4,z5,z6⟩,y1,y2,y3,y4,y5,y6⟩;go_simp
          simp only[Act.put,AP];go_big_quiet_on;go_big_quiet_want;refine qv (.agg #[.int i64 m,.int i64 b]) ?_ ?_
          ·rintro w' ⟨z0,⟨z1,z2,z3,z4,z5,z6⟩,y1,y2,y3,y4,y5,y6⟩;go_simp
          simp only[Act.put,AP];go_big_quiet_on;go_big_quiet_want;refine qv (.bool false) ?_ ?_
          ·rintro w' ⟨z0,⟨z1,z2,z3,z4,z5,z6⟩,y1,y2,y3,y4,y5,y6⟩;go_simp
          simp only[Act.put,AP];go_big_quiet_on;go_big_quiet_want;refine qv (.bool false) ?_ ?_
          ·rintro w' ⟨z0,⟨z1,z2,z3,z4,z5,z6⟩,y1,y2,y3,y4,y5,y6⟩;go_simp
          simp only[Act.put,AP];go_big_quiet_on;refine wpQuiet_nil ?_;intro w' hC
          go_wp2_with fail
          go_meet
          case rel=>exact⟨by rw[hky],hC.1⟩
         have f2:(m4==m)=false:=by simpa using e3
         clear e2;have hC0:=HCE.out;clear e1;refine wp_region_quiet (C:=CD w g (o+t*6) p4 m4 b4 o4 s4 v4 g (o+k*6) p m b q s v) (by kernel_rfl) (by kernel_rfl) (CD.later (W:=wr) (Below.drew (bRQ _ _)) hC0) ?_;simp only[List.toList_toArray];go_big_quiet_want;refine qv (.slice (some ⟨g,o,none⟩) n cap) ?_ ?_
         ·rintro w' ⟨z0,⟨z1,z2,z3,z4,z5,z6⟩,y1,y2,y3,y4,y5,y6⟩;go_simp
         simp only[Act.put,AP];go_big_quiet_on;go_big_quiet_want;refine qv (.int i64 (t:Int)) ?_ ?_
         ·rintro w' ⟨z0,⟨z1,z2,z3,z4,z5,z6⟩,y1,y2,y3,y4,y5,y6⟩;go_simp
         simp only[Act.put,AP];go_big_quiet_on;go_big_quiet_want;refine qv (.pointer (some ⟨g,o+t*6,none⟩)) ?_ ?_
         ·rintro w' ⟨z0,⟨z1,z2,z3,z4,z5,z6⟩,y1,y2,y3,y4,y5,y6⟩;go_simp
         simp only[Act.put,AP];go_big_quiet_on;go_big_quiet_want;refine qv (.pointer (some ⟨g,o+t*6,none⟩)) ?_ ?_
         ·rintro w' ⟨z0,⟨z1,z2,z3,z4,z5,z6⟩,y1,y2,y3,y4,y5,y6⟩;go_simp
         simp only[Act.put,AP];go_big_quiet_on;go_big_quiet_want;refine qv (.int i64 p4) ?_ ?_
         ·rintro w' ⟨z0,⟨z1,z2,z3,z4,z5,z6⟩,y1,y2,y3,y4,y5,y6⟩;go_simp
         simp only[Act.put,AP];go_big_quiet_on;go_big_quiet_want;refine qv (.slice (some ⟨g,o,none⟩) n cap) ?_ ?_
         ·rintro w' ⟨z0,⟨z1,z2,z3,z4,z5,z6⟩,y1,y2,y3,y4,y5,y6⟩;go_simp
         simp only[Act.put,AP];go_big_quiet_on;go_big_quiet_want;refine qv (.int i64 (k:Int)) ?_ ?_
         ·rintro w' ⟨z0,⟨z1,z2,z3,z4,z5,z6⟩,y1,y2,y3,y4,y5,y6⟩;go_simp
         simp only[Act.put,AP];go_big_quiet_on;go_big_quiet_want;refine qv (.pointer (some ⟨g,o+k*6,none⟩)) ?_ ?_
         ·rintro w' ⟨z0,⟨z1,z2,z3,z4,z5,z6⟩,y1,y2,y3,y4,y5,y6⟩;go_simp
         simp only[Act.put,AP];go_big_quiet_on;go_big_quiet_want;refine qv (.pointer (some ⟨g,o+k*6,none⟩)) ?_ ?_
         ·rintro w' ⟨z0,⟨z1,z2,z3,z4,z5,z6⟩,y1,y2,y3,y4,y5,y6⟩;go_simp
         simp only[Act.put,AP];go_big_quiet_on;go_big_quiet_want;refine qv (.int i64 p) ?_ ?_
         ·rintro w' ⟨z0,⟨z1,z2,z3,z4,z5,z6⟩,y1,y2,y3,y4,y5,y6⟩;go_simp
         simp only[Act.put,AP];go_big_quiet_on;go_big_quiet_want;refine qv (.bool true) ?_ ?_
         ·rintro w' ⟨z0,⟨z1,z2,z3,z4,z5,z6⟩,y1,y2,y3,y4,y5,y6⟩;go_simp
         simp only[Act.put,AP];go_big_quiet_on;go_big_quiet_want;refine qv (.bool true) ?_ ?_
         ·rintro w' ⟨z0,⟨z1,z2,z3,z4,z5,z6⟩,y1,y2,y3,y4,y5,y6⟩;go_simp
         simp only[Act.put,AP];go_big_quiet_on;go_big_quiet_want;refine qv (.slice (some ⟨g,o,none⟩) n cap) ?_ ?_
         ·rintro w' ⟨z0,⟨z1,z2,z3,z4,z5,z6⟩,y1,y2,y3,y4,y5,y6⟩;go_simp
         simp only[Act.put,AP];go_big_quiet_on;go_big_quiet_want;refine qv (.int i64 (t:Int)) ?_ ?_
         ·rintro w' ⟨z0,⟨z1,z2,z3,z4,z5,z6⟩,y1,y2,y3,y4,y5,y6⟩;go_simp
         simp only[Act.put,AP];go_big_quiet_on;go_big_quiet_want;refine qv (.pointer (some ⟨g,o+t*6,none⟩)) ?_ ?_
         ·rintro w' ⟨z0,⟨z1,z2,z3,z4,z5,z6⟩,y1,y2,y3,y4,y5,y6⟩;go_simp
         simp only[Act.put,AP];go_big_quiet_on;go_big_quiet_want;refine qv (.pointer (some ⟨g,o+t*6+1,none⟩)) ?_ ?_
         ·rintro w' ⟨z0,⟨z1,z2,z3,z4,z5,z6⟩,y1,y2,y3,y4,y5,y6⟩;go_simp
         simp only[Act.put,AP];go_big_quiet_on;go_big_quiet_want;refine qv (.agg #[.int i64 m4,.int i64 b4]) ?_ ?_
         ·rintro w' ⟨z0,⟨z1,z2,z3,z4,z5,z6⟩,y1,y2,y3,y4,y5,y6⟩;go_simp
         simp only[Act.put,AP];go_big_quiet_on;go_big_quiet_want;refine qv (.slice (some ⟨g,o,none⟩) n cap) ?_ ?_
         ·rintro w' ⟨z0,⟨z1,z2,z3,z4,z5,z6⟩,y1,y2,y3,y4,y5,y6⟩;go_simp
         simp only[Act.put,AP];go_big_quiet_on;go_big_quiet_want;refine qv (.int i64 (k:Int)) ?_ ?_
         ·rintro w' ⟨z0,⟨z1,z2,z3,z4,z5,z6⟩,y1,y2,y3,y4,y5,y6⟩;go_simp
         simp only[Act.put,AP];go_big_quiet_on;go_big_quiet_want;refine qv (.pointer (some ⟨g,o+k*6,none⟩)) ?_ ?_
         ·rintro w' ⟨z0,⟨z1,z2,z3,z4,z5,z6⟩,y1,y2,y3,y4,y5,y6⟩;go_simp
         simp only[Act.put,AP];go_big_quiet_on;go_big_quiet_want;refine qv (.pointer (some ⟨g,o+k*6+1,none⟩)) ?_ ?_
         ·rintro w' ⟨z0,⟨z1,z2,z3,z4,z5,z6⟩,y1,y2,y3,y4,y5,y6⟩;go_simp
         simp only[Act.put,AP];go_big_quiet_on;go_big_quiet_want;refine qv (.agg #[.int i64 m,.int i64 b]) ?_ ?_
         ·rintro w' ⟨z0,⟨z1,z2,z3,z4,z5,z6⟩,y1,y2,y3,y4,y5,y6⟩;go_simp
         simp only[Act.put,AP];go_big_quiet_on;go_big_quiet_want;refine qv (.bool false) ?_ ?_
         ·rintro w' ⟨z0,⟨z1,z2,z3,z4,z5,z6⟩,y1,y2,y3,y4,y5,y6⟩;go_simp
         simp only[Act.put,AP];go_big_quiet_on;go_big_quiet_want;refine qv (.bool false) ?_ ?_
         ·rintro w' ⟨z0,⟨z1,z2,z3,z4,z5,z6⟩,y1,y2,y3,y4,y5,y6⟩;go_simp
         simp only[Act.put,AP];go_big_quiet_on;refine wpQuiet_nil ?_;intro w' hC
         go_wp2_with fail
         go_meet
         case rel=>exact⟨by rw[hky],hC.1⟩
        have hky:keyB ⟨p4,m4,b4,o4,s4,v4⟩ ⟨p,m,b,q,s,v⟩=false:=by rw[key_eq];simp[e1]
        have f1:(p4==p)=false:=by simpa using e1
        have hC0:=HCE.out;clear e1;refine wp_region_quiet (C:=CD w g (o+t*6) p4 m4 b4 o4 s4 v4 g (o+k*6) p m b q s v) (by kernel_rfl) (by kernel_rfl) (CD.later (W:=wr) (Below.drew (bRQ _ _)) hC0) ?_;simp only[List.toList_toArray];go_big_quiet_want;refine qv (.slice (some ⟨g,o,none⟩) n cap) ?_ ?_
        ·rintro w' ⟨z0,⟨z1,z2,z3,z4,z5,z6⟩,y1,y2,y3,y4,y5,y6⟩;go_simp
        simp only[Act.put,AP];go_big_quiet_on;go_big_quiet_want;refine qv (.int i64 (t:Int)) ?_ ?_
        ·rintro w' ⟨z0,⟨z1,z2,z3,z4,z5,z6⟩,y1,y2,y3,y4,y5,y6⟩;go_simp
        simp only[Act.put,AP];go_big_quiet_on;go_big_quiet_want;refine qv (.pointer (some ⟨g,o+t*6,none⟩)) ?_ ?_
        ·rintro w' ⟨z0,⟨z1,z2,z3,z4,z5,z6⟩,y1,y2,y3,y4,y5,y6⟩;go_simp
        simp only[Act.put,AP];go_big_quiet_on;go_big_quiet_want;refine qv (.pointer (some ⟨g,o+t*6,none⟩)) ?_ ?_
        ·rintro w' ⟨z0,⟨z1,z2,z3,z4,z5,z6⟩,y1,y2,y3,y4,y5,y6⟩;go_simp
        simp only[Act.put,AP];go_big_quiet_on;go_big_quiet_want;refine qv (.int i64 p4) ?_ ?_
        ·rintro w' ⟨z0,⟨z1,z2,z3,z4,z5,z6⟩,y1,y2,y3,y4,y5,y6⟩;go_simp
        simp only[Act.put,AP];go_big_quiet_on;go_big_quiet_want;refine qv (.slice (some ⟨g,o,none⟩) n cap) ?_ ?_
        ·rintro w' ⟨z0,⟨z1,z2,z3,z4,z5,z6⟩,y1,y2,y3,y4,y5,y6⟩;go_simp
        simp only[Act.put,AP];go_big_quiet_on;go_big_quiet_want;refine qv (.int i64 (k:Int)) ?_ ?_
        ·rintro w' ⟨z0,⟨z1,z2,z3,z4,z5,z6⟩,y1,y2,y3,y4,y5,y6⟩;go_simp
        simp only[Act.put,AP];go_big_quiet_on;go_big_quiet_want;refine qv (.pointer (some ⟨g,o+k*6,none⟩)) ?_ ?_
        ·rintro w' ⟨z0,⟨z1,z2,z3,z4,z5,z6⟩,y1,y2,y3,y4,y5,y6⟩;go_simp
        simp only[Act.put,AP];go_big_quiet_on;go_big_quiet_want;refine qv (.pointer (some ⟨g,o+k*6,none⟩)) ?_ ?_
        ·rintro w' ⟨z0,⟨z1,z2,z3,z4,z5,z6⟩,y1,y2,y3,y4,y5,y6⟩;go_simp
        simp only[Act.put,AP];go_big_quiet_on;go_big_quiet_want;refine qv (.int i64 p) ?_ ?_
        ·rintro w' ⟨z0,⟨z1,z2,z3,z4,z5,z6⟩,y1,y2,y3,y4,y5,y6⟩;go_simp
        simp only[Act.put,AP];go_big_quiet_on;go_big_quiet_want;refine qv (.bool false) ?_ ?_
        ·rintro w' ⟨z0,⟨z1,z2,z3,z4,z5,z6⟩,y1,y2,y3,y4,y5,y6⟩;go_simp
        simp only[Act.put,AP];go_big_quiet_on;go_big_quiet_want;refine qv (.bool false) ?_ ?_
        ·rintro w' ⟨z0,⟨z1,z2,z3,z4,z5,z6⟩,y1,y2,y3,y4,y5,y6⟩;go_simp
        simp only[Act.put,AP];go_big_quiet_on;go_big_quiet_skip;go_big_quiet_skip;go_big_quiet_skip;go_big_quiet_skip;go_big_quiet_skip;go_big_quiet_skip;go_big_quiet_skip;go_big_quiet_skip;go_big_quiet_skip;go_big_quiet_skip;go_big_quiet_skip;go_big_quiet_want;refine qv (.bool false) ?_ ?_
        ·rintro w' ⟨z0,⟨z1,z2,z3,z4,z5,z6⟩,y1,y2,y3,y4,y5,y6⟩;go_simp
        simp only[Act.put,AP];go_big_quiet_on;refine wpQuiet_nil ?_;intro w' hC
        go_wp2_with fail
        go_meet
        case rel=>exact⟨by rw[hky],hC.1⟩
      case rest =>
       obtain⟨hc2,hB3⟩:=hcut;clear HCE;cases hky:keyB ⟨p4,m4,b4,o4,s4,v4⟩ ⟨p,m,b,q,s,v⟩
       ·rw[hky] at hc2;subst hc2;go_wp2;go_roundw
        case rel=>exact⟨t+1,by omega,by go_num,any_nextR htl HANY.out (by rw[HLT.out];exact hky),hB3⟩
        case measure=>simp[intOf];omega
       rw[hky] at hc2;subst hc2;have HT:Hid (tbN L=7):=to_clashF hkl HL.out HNO.out HO.out (tab_take hq htl (by rw[HLT.out];exact hky)) (by rw[HN.out];exact hl);go_wp2;go_ret;exact⟨by rw[HT.out];rfl,hB3⟩
     obtain rfl:t=k:=by omega
     clear hB2;go_wp2;go_roundw
     case rel=>exact⟨t+1,by omega,by go_num,to_nextF hkl HL.out HNO.out HO.out HANY.out,HB2.out⟩
     case measure=>simp[intOf];omega
   have HT:Hid (tbN L=ruN p m b q s v):=to_badF hkl HL.out HNO.out ho (by rw[HN.out];exact hl);have ho2:(ruN p m b q s v != 0)=true:=by simpa using ho
   clear ho
   go_wp2_with fail
   refine (refRule_any _ _ _ _ _ _ _).mono ?_;rintro e w1 ⟨rfl,hb1⟩;have HB1:=HB.out.trans (hb1.mono HB.out.size);clear hb1;go_wp2;go_ret;exact⟨by rw[HT.out];rfl,HB1⟩
  obtain rfl:k=n:=by omega
  go_wp2;go_ret;refine⟨?_,HB.out⟩;have e1:tbN L=0:=by
   rw[tbN,if_neg (by rw[HN.out];omega),HN.out];exact HNO.out
  rw[e1];rfl
theorem refTable_long (ao:AdQ)(cap n:Nat)(w:World)(hl:12<n):
 Calls prog 49 #[.slice ao n cap] w fun e w'=>e=.returned (.int i64 4)∧Below w.heap.size w w':=by
 go_enter func49,ntmps49;go_wp2;go_ret;exact⟨rfl,bRQ _ _⟩
theorem refTable_nil (ao:AdQ)(cap:Nat)(w:World):
 Calls prog 49 #[.slice ao 0 cap] w fun e w'=>e=.returned (.int i64 0)∧Below w.heap.size w w':=by
 go_enter func49,ntmps49;go_wp2
 go_loopw [3] (fun i wr=>i=.int i64 0∧wr=w) (fun i _=>0)
 case atStart=>exact⟨rfl,rfl⟩
 case round =>
  obtain⟨rfl,rfl⟩:=hrel;go_wp2;go_ret;exact⟨rfl,bRQ _ _⟩
theorem refTable_any (v:Value)(L:List Ru)(w:World)(h:SR w v L):
 Calls prog 49 #[v] w fun e w'=>e=.returned (.int i64 (tbN L))∧Below w.heap.size w w':=by
 rcases h with ⟨ao,cap,rfl,rfl⟩ | ⟨g,o,cap,rfl,h1,h2,hc⟩
 ·exact refTable_nil ao cap w
 by_cases h12:12<L.length
 ·have e:tbN L=4:=by simp[tbN,h12]
  rw[e];exact refTable_long _ _ _ _ h12
 exact refTable_some _ _ _ _ L w hc rfl (by omega)
theorem rnet_any (S:Int)(ao:AdQ)(n cap:Nat)(ao2:AdQ)(n2 cap2:Nat)(ao3:AdQ)(n3 cap3:Nat)(Ls:LkQ)(Hs:HoQ)(Ts:TsQ)(w:World)
 (hL:GS lnkE w (.slice ao n cap) Ls) (hH:GS hstE w (.slice ao2 n2 cap2) Hs) (hT:TS w (.slice ao3 n3 cap3) Ts):
 Calls prog 25 #[.agg #[.int i64 S,.slice ao n cap,.slice ao2 n2 cap2,.slice ao3 n3 cap3]] w fun e w'=>e=.returned (.int i64 (ntN S Ls Hs Ts))∧Below w.heap.size w w':=by
 have hb1:Below w.heap.size w (w.alloc (.cells #[.int i64 S,.slice ao n cap,.slice ao2 n2 cap2,.slice ao3 n3 cap3] 28)):=(bRQ _ _).alloc (nLQ _) _;obtain⟨C,hC⟩:∃C,C=ntN S Ls Hs Ts:=⟨_,rfl⟩;have HC:Hid (C=ntN S Ls Hs Ts):=hC;rw[←hC];have HL2:Hid (GS lnkE (w.alloc (.cells #[.int i64 S,.slice ao n cap,.slice ao2 n2 cap2,.slice ao3 n3 cap3] 28)) (.slice ao n cap) Ls):=hL.later hb1;have HH2:Hid (GS hstE (w.alloc (.cells #[.int i64 S,.slice ao n cap,.slice ao2 n2 cap2,.slice ao3 n3 cap3] 28)) (.slice ao2 n2 cap2) Hs):=hH.later hb1;have HT2:Hid (TS (w.alloc (.cells #[.int i64 S,.slice ao n cap,.slice ao2 n2 cap2,.slice ao3 n3 cap3] 28)) (.slice ao3 n3 cap3) Ts):=hT.later hb1;have HB2:Hid (Below w.heap.size w (w.alloc (.cells #[.int i64 S,.slice ao n cap,.slice ao2 n2 cap2,.slice ao3 n3 cap3] 28))):=hb1;have HX:Hid (NeBox (w.alloc (.cells #[.int i64 S,.slice ao n cap,.slice ao2 n2 cap2,.slice ao3 n3 cap3] 28)) w.heap.size S (.slice ao n cap) (.slice ao2 n2 cap2) (.slice ao3 n3 cap3)):=nebox_new w S _ _ _ 28;clear hC hb1 hL hH hT;go_enter func25,ntmps25
 go_wp2_with fail
 refine (rtopo_any S ao n cap ao2 n2 cap2 Ls Hs _ HL2.out HH2.out).mono ?_;rintro e w1 ⟨rfl,hb1⟩;obtain⟨T,hT⟩:∃T,T=tpN S Ls Hs:=⟨_,rfl⟩;have HT:Hid (T=tpN S Ls Hs):=hT;rw[←hT];have HB1:Hid (Below w.heap.size w w1):=HB2.out.trans (hb1.mono HB2.out.size);obtain⟨b0,b1,b2,b3⟩:=HX.out.later hb1;have HT1:Hid (TS w1 (.slice ao3 n3 cap3) Ts):=HT2.out.later hb1;clear hT hb1 HX HL2 HH2 HB2 HT2;by_cases h0:T=0
 ·subst h0;obtain⟨_,_,_,e2,hTn,hTm,_,hTa⟩:=HT1.out.form;cases e2;have HTN:Hid (Ts.length=n3):=hTn;have HTM:Hid (n3≤maxLen):=hTm;have HTA:Hid (0<n3→∃g o,ao3=some ⟨g,o,none⟩∧TAt w1 g o Ts∧cap3≤maxLen):=hTa;have n63:n3≤9223372036854775807:=by unfold maxLen at hTm;omega
  clear hTn hTm hTa HT1;by_cases hS:(n3:Int)=S
  ·have HC2:Hid (C=tsTo Ts n3):=by
    show _=_;rw[HC.out,ntN,if_pos HT.out.symm,if_pos (by rw[HTN.out];exact hS),HTN.out]
   have e1:((n3:Int) != S)=false:=by simp[hS]
   have HXB:Hid (NeBox w1 w.heap.size S (.slice ao n cap) (.slice ao2 n2 cap2) (.slice ao3 n3 cap3)):=⟨b0,b1,b2,b3⟩;clear hS HC;go_wp2
   go_loopw [4] (fun i wr=>∃k:Nat,k≤n3∧i=.int i64 k∧tsTo Ts k=0∧Below w1.heap.size w1 wr) (fun i _=>n3-(intOf i).toNat)
   case atStart=>exact⟨0,by omega,rfl,rfl,bRQ _ _⟩
   case round =>
    obtain⟨k,hk,rfl,hz,hB⟩:=hrel;have HZ:Hid (tsTo Ts k=0):=hz;have HB:Hid (Below w1.heap.size w1 wr):=hB;have HBw:Hid (Below w.heap.size w wr):=HB1.out.trans (hB.mono HB1.out.size);obtain⟨b0,b1,b2,b3⟩:=HXB.out.later hB;clear hz;by_cases hlt:k<n3
    ·obtain⟨g,o,hao,hc,_⟩:=HTA.out (by omega);subst hao;obtain⟨a4,n4,c4,q0,hs⟩:=(hc.later hB) k (by rw[HTN.out];exact hlt);have HS4:Hid (SR wr (.slice a4 n4 c4) (Ts.getD k [])):=by
      show SR _ _ _;rw[getT (by rw[HTN.out];exact hlt)];exact hs
     clear hs hc hB
     go_wp2_with fail
     refine (refTable_any _ (Ts.getD k []) _ HS4.out).mono ?_;rintro e w2 ⟨rfl,hb2⟩;obtain⟨R,hR⟩:∃R,R=tbN (Ts.getD k []):=⟨_,rfl⟩;have HR:Hid (tsTo Ts (k+1)=R):=by
      show _=_;rw[tsTo,if_pos HZ.out,hR]
     rw[←hR];have HB3:Hid (Below w1.heap.size w1 w2):=HB.out.trans (hb2.mono HB.out.size);have HBw3:Hid (Below w.heap.size w w2):=HBw.out.trans (hb2.mono HBw.out.size);clear hR hb2 q0;by_cases hN:R=0
     ·subst hN;go_wp2;go_roundw
      case rel=>exact⟨k+1,by omega,by go_num,HR.out,HB3.out⟩
      case measure=>simp[intOf];omega
     have e9:(R != 0)=true:=by simpa using hN
     have HCR:Hid (C=R):=by
      show _=_;rw[HC2.out,ts_le (k:=k+1) (by rw[HR.out];exact hN) (by omega),HR.out]
     have HNN:Hid (R≠0):=hN;clear hN;go_wp2;go_ret;exact⟨by rw[HCR.out];rfl,HBw3.out⟩
    obtain rfl:k=n3:=by omega
    have HCR:Hid (C=0):=by
     show _=_;rw[HC2.out,HZ.out]
    clear hB;go_wp2;go_ret;exact⟨by rw[HCR.out];rfl,HBw.out⟩
  have HC2:Hid (C=3):=by
   show _=_;rw[HC.out,ntN,if_pos HT.out.symm,if_neg (by rw[HTN.out];exact hS)]
  have e1:((n3:Int) != S)=true:=by simpa using hS
  clear hS HC;go_wp2;go_ret;exact⟨by rw[HC2.out];rfl,HB1.out⟩
 have e9:(T != 0)=true:=by simpa using h0
 have HC2:Hid (C=T):=by
  show _=_;rw[HC.out,ntN,←HT.out,if_neg h0]
 have HN0:Hid (T≠0):=h0;clear h0;go_wp2;go_ret;exact⟨by rw[HC2.out];rfl,HB1.out⟩
theorem rnamed_any (S:Int)(ao:AdQ)(n cap:Nat)(ao2:AdQ)(n2 cap2:Nat)(Hs:HoQ)(m:ByteArray)(w:World)(hH:GS hstE w (.slice ao2 n2 cap2) Hs):
 Calls prog 50 #[.agg #[.int i64 S,.slice ao n cap,.slice ao2 n2 cap2],.string m] w fun e w'=>e=.returned (.int i64 (whN Hs m))∧Below w.heap.size w w':=by
 obtain⟨_,_,_,e1,hHn,hHm,_,hHa⟩:=hH.form;cases e1;have HHN:Hid (Hs.length=n2):=hHn;have n63:n2≤9223372036854775807:=by unfold maxLen at hHm;omega
 have HHA:Hid (0<n2→∃g o,ao2=some ⟨g,o,none⟩∧GAt hstE w g o Hs∧cap2≤maxLen):=hHa;have hX:=tbox_new w S (.slice ao n cap) (.slice ao2 n2 cap2) 25;have hB:Below w.heap.size w (w.alloc (.cells #[.int i64 S,.slice ao n cap,.slice ao2 n2 cap2] 25)):=(bRQ _ _).alloc (nLQ _) _;obtain⟨w0,hw0⟩:∃W,w.alloc (.cells #[.int i64 S,.slice ao n cap,.slice ao2 n2 cap2] 25)=W:=⟨_,rfl⟩;rw[hw0] at hX hB;have HX:Hid (TBox w0 w.heap.size S (.slice ao n cap) (.slice ao2 n2 cap2)):=hX;have HB:Hid (Below w.heap.size w w0):=hB;have HW0:Hid (w.alloc (.cells #[.int i64 S,.slice ao n cap,.slice ao2 n2 cap2] 25)=w0):=hw0;clear hH hHn hHm hHa hX hw0 hB;go_enter func50,ntmps50;go_wp2;rw[HW0.out]
 go_loopw [5] (fun i wr=>∃k:Nat,k≤n2∧i=.int i64 k∧(Hs.take k).any (fun h=>h.1==m)=false∧wr=w0) (fun i _=>n2-(intOf i).toNat)
 case atStart=>exact⟨0,by omega,rfl,by simp,rfl⟩
 case round =>
  obtain⟨k,hk,rfl,hno,rfl⟩:=hrel;have HNO:Hid ((Hs.take k).any (fun h=>h.1==m)=false):=hno;obtain⟨b0,b1,b2⟩:=HX.out;clear hno HW0;by_cases hlt:k<n2
  ·obtain⟨g,o,hao,hc,_⟩:=HHA.out (by omega);subst hao;obtain⟨y0,y1,y2,hkl,hHk,q0,q1,q2⟩:=hst_at (hc.later HB.out) HHN.out hlt;have HHK:Hid (Hs[k]=(y0,(y1,y2))):=hHk;have hr:(y0==m)=(y0.toList==m.toList):=beq_toListBytes _ _;clear hHk hc;cases ho:(y0==m)
   ·have HN1:Hid ((Hs.take (k+1)).any (fun h=>h.1==m)=false):=any_nextG hkl HNO.out (by rw[HHK.out];exact ho);rw[hr] at ho;clear hr;go_wp2;go_roundw
    case rel=>exact⟨k+1,by omega,by go_num,HN1.out,by first | rfl | trivial⟩
    case measure=>simp[intOf];omega
   have HR:Hid (whN Hs m=k):=ixG_hit hkl HNO.out (by rw[HHK.out];exact ho);rw[hr] at ho;clear hr;go_wp2;go_ret;exact⟨by rw[HR.out];rfl,HB.out⟩
  obtain rfl:k=n2:=by omega
  have HR:Hid (whN Hs m = -1):=by
   have:=HNO.out;rw[←HHN.out,List.take_length] at this;exact ixG_no this
  go_wp2;go_ret;exact⟨by rw[HR.out];rfl,HB.out⟩
theorem ho_wh (Hs:HoQ)(m:ByteArray):decide (whN Hs m<0) = !hoB Hs m:=by
 have h:=ixG_any Hs (fun h=>h.1==m);have e:hoB Hs m=decide (0≤whN Hs m):=h.symm;rw[e];by_cases h0:whN Hs m<0
 ·simp[h0]
 have:0≤whN Hs m:=by omega
 simp[h0,this]
theorem rwishes_any (S:Int)(ao:AdQ)(n cap:Nat)(ao2:AdQ)(n2 cap2:Nat)(a4:AdQ)(n4 c4:Nat)(Ls:LkQ)(Hs:HoQ)(l:List Wi)(w:World)
 (hL:GS lnkE w (.slice ao n cap) Ls) (hH:GS hstE w (.slice ao2 n2 cap2) Hs) (hl:GS wisE w (.slice a4 n4 c4) l):
 Calls prog 27 #[.agg #[.int i64 S,.slice ao n cap,.slice ao2 n2 cap2],.slice a4 n4 c4] w fun e w'=>e=.returned (.int i64 (wsN S Ls Hs l))∧Below w.heap.size w w':=by
 have hX:=tbox_new w S (.slice ao n cap) (.slice ao2 n2 cap2) 25;have hB0:Below w.heap.size w (w.alloc (.cells #[.int i64 S,.slice ao n cap,.slice ao2 n2 cap2] 25)):=(bRQ _ _).alloc (nLQ _) _;obtain⟨w0,hw0⟩:∃W,w.alloc (.cells #[.int i64 S,.slice ao n cap,.slice ao2 n2 cap2] 25)=W:=⟨_,rfl⟩;rw[hw0] at hX hB0;have HX:Hid (TBox w0 w.heap.size S (.slice ao n cap) (.slice ao2 n2 cap2)):=hX;have HW0:Hid (w.alloc (.cells #[.int i64 S,.slice ao n cap,.slice ao2 n2 cap2] 25)=w0):=hw0;have HB0:Hid (Below w.heap.size w w0):=hB0;have HLW:Hid (∀W,Below w.heap.size w W→GS lnkE W (.slice ao n cap) Ls):=fun W hb=>hL.later hb
 have HHW:Hid (∀W,Below w.heap.size w W→GS hstE W (.slice ao2 n2 cap2) Hs):=fun W hb=>hH.later hb
 obtain⟨_,_,_,e5,hGn,hGm,_,hGa⟩:=hl.form;cases e5;have HGN:Hid (l.length=n4):=hGn;have HGA:Hid (0<n4→∃g o,a4=some ⟨g,o,none⟩∧GAt wisE w g o l∧c4≤maxLen):=hGa;obtain⟨R,hR⟩:∃R,R=wsN S Ls Hs l:=⟨_,rfl⟩;have HR:Hid (R=wsN S Ls Hs l):=hR;rw[←hR];have hn4:n4≤maxLen:=hGm;unfold maxLen at hn4;clear hX hB0 hw0 hL hH hl hGn hGm hGa hR;go_enter func27,ntmps27;go_upto_region 1 with fail;rw[HW0.out];obtain⟨b0,b1,b2⟩:=HX.out;clear HW0
 go_wp2_with fail
 refine (rtopo_any S ao n cap ao2 n2 cap2 Ls Hs _ (HLW.out _ HB0.out) (HHW.out _ HB0.out)).mono ?_;rintro e w1 ⟨rfl,hb1⟩;obtain⟨T,hT⟩:∃T,T=tpN S Ls Hs:=⟨_,rfl⟩;have HT:Hid (T=tpN S Ls Hs):=hT;rw[←hT];have HB1:Hid (Below w.heap.size w w1):=HB0.out.trans (hb1.mono HB0.out.size);have HX1:Hid (TBox w1 w.heap.size S (.slice ao n cap) (.slice ao2 n2 cap2)):=HX.out.later hb1;clear hT hb1 b0 b1 b2 HX;by_cases h0:T=0
 ·have HR1:Hid (R=if 8<l.length then 4 else wsTo S Hs l l.length):=by
   show _=_;rw[HR.out,wsN,if_pos (HT.out.symm.trans h0)]
  subst h0;by_cases h8:8<n4
  ·have HR2:Hid (R=4):=by
    show _=_;rw[HR1.out,if_pos (by rw[HGN.out];exact h8)]
   have h8':(8:Int)<(n4:Int):=by omega
   go_wp2;go_ret;exact⟨by rw[HR2.out];rfl,HB1.out⟩
  have HR2:Hid (R=wsTo S Hs l n4):=by
   show _=_;rw[HR1.out,if_neg (by rw[HGN.out];exact h8),HGN.out]
  have h8':¬(8:Int)<(n4:Int):=by omega
  clear HR HR1;go_wp2
  go_loopw [6] (fun i wr=>∃j:Nat,j≤n4∧i=.int i64 j∧wsTo S Hs l j=0∧Below w1.heap.size w1 wr) (fun i _=>n4-(intOf i).toNat)
  case atStart=>exact⟨0,by omega,rfl,rfl,bRQ _ _⟩
  case round =>
   obtain⟨j,hj,rfl,hno,hB⟩:=hrel;have HB:Hid (Below w1.heap.size w1 wr):=hB;have HBw:Hid (Below w.heap.size w wr):=HB1.out.trans (hB.mono HB1.out.size);have HNO:Hid (wsTo S Hs l j=0):=hno;have HXr:Hid (TBox wr w.heap.size S (.slice ao n cap) (.slice ao2 n2 cap2)):=HX1.out.later hB;clear hno hB;by_cases hlt:j<n4
   ·obtain⟨g,o,hao,hc,_⟩:=HGA.out (by omega);subst hao;obtain⟨k,f,t,v,hkl,hLk,q0,q1,q2,q3⟩:=wis_at (hc.later HBw.out) HGN.out hlt;obtain⟨N,hN⟩:∃q,q=woN S Hs ⟨k,f,t,v⟩:=⟨_,rfl⟩;have HN:Hid (woN S Hs ⟨k,f,t,v⟩=N):=hN.symm;have HST:Hid (wsTo S Hs l (j+1)=N):=by
     show _=_;rw[wsTo,if_pos HNO.out,getW hkl,hLk,←hN]
    have hba:Below wr.heap.size wr (wr.alloc (.cells #[.int i64 k,Value.string f,Value.string t,.int i64 v] 80)):=(bRQ _ _).alloc (nLQ _) _;have hwb:=wibox_new wr k f t v 80;have hxa:=HXr.out.later hba;obtain⟨w2,hw2⟩:∃W,wr.alloc (.cells #[.int i64 k,Value.string f,Value.string t,.int i64 v] 80)=W:=⟨_,rfl⟩;obtain⟨gw,hgw⟩:∃q,q=wr.heap.size:=⟨_,rfl⟩;rw[hw2] at hba hwb hxa;rw[←hgw] at hwb;have HW2:Hid (wr.alloc (.cells #[.int i64 k,Value.string f,Value.string t,.int i64 v] 80)=w2):=hw2;have HGW:Hid (wr.heap.size=gw):=hgw.symm;have HWB:Hid (WiBox w2 gw k f t v):=hwb;have HX2:Hid (TBox w2 w.heap.size S (.slice ao n cap) (.slice ao2 n2 cap2)):=hxa;have HB2:Hid (Below w1.heap.size w1 w2):=HB.out.trans (hba.mono HB.out.size);have kb0:(0:Int)≤(j:Int):=by omega
    have kb1:(j:Int)<(n4:Int):=by omega
    clear hc hLk hN hba hwb hxa hw2 hgw;go_upto_region 10 with fail;rw[HW2.out,HGW.out]
    try rw[show decide ((j:Int)<(n4:Int))=true from by simp;omega]
    clear HW2 HGW q0 q1 q2 q3 HXr;obtain⟨x0,x1,x2,x3⟩:=HWB.out;obtain⟨b0,b1,b2⟩:=HX2.out;obtain⟨Q,hQ⟩:∃q,q=(!wkB k || (!viB ⟨k,f,t,v⟩ S || veB ⟨k,f,t,v⟩)):=⟨_,rfl⟩;have HQ:Hid ((!wkB k || (!viB ⟨k,f,t,v⟩ S || veB ⟨k,f,t,v⟩))=Q):=hQ.symm;have HNQ:Hid (N=if Q then 1 else if k=4 then (if nlB ⟨k,f,t,v⟩ then 0 else 3) else if hoB Hs f&&hoB Hs t then 0 else 5):=by
     show _=_;rw[←HN.out,hQ];rfl
    clear hQ HN
    go_cut [60] from 26 to 61 (fun c w'=>c=.bool Q∧w'=w2)
    case first =>
     by_cases k1:k<1
     ·have hq:true=Q:=by
       rw[←HQ.out];have:wkB k=false:=by simp[wkB];omega
       simp[this]
      subst hq
      go_wp2_with fail
      go_meet
      exact⟨by first | rfl | simp[k1],rfl⟩
     by_cases k4:4<k
     ·have hq:true=Q:=by
       rw[←HQ.out];have:wkB k=false:=by simp[wkB];omega
       simp[this]
      subst hq
      go_wp2_with fail
      go_meet
      exact⟨by first | rfl | simp[k1,k4],rfl⟩
     have hwk:wkB k=true:=by simp[wkB];omega
     by_cases k3:k=3
     ·subst k3;by_cases v1:v<1
      ·have hq:true=Q:=by
        rw[←HQ.out];have:viB ⟨3,f,t,v⟩ S=false:=by simp[viB,swB];omega
        simp[this]
       subst hq
       go_wp2_with fail
       go_meet
       exact⟨by first | rfl | simp[v1],rfl⟩
      by_cases v2:S<v
      ·have hq:true=Q:=by
        rw[←HQ.out];have:viB ⟨3,f,t,v⟩ S=false:=by simp[viB,swB];omega
        simp[this]
       subst hq
       go_wp2_with fail
       go_meet
       exact⟨by first | rfl | simp[v1,v2],rfl⟩
      have hq:false=Q:=by
       rw[←HQ.out];have h1:viB ⟨3,f,t,v⟩ S=true:=by simp[viB,swB];omega
       have h2:veB ⟨3,f,t,v⟩=false:=by simp[veB]
       rw[hwk,h1,h2];rfl
      subst hq
      go_wp2_with fail
      go_meet
      exact⟨by first | rfl | simp[v1,v2],rfl⟩
     have hvi:viB ⟨k,f,t,v⟩ S=true:=by simp[viB,k3]
     by_cases v0:v=0
     ·subst v0;have hq:false=Q:=by
       rw[←HQ.out];have h2:veB ⟨k,f,t,0⟩=false:=by simp[veB]
       rw[hwk,hvi,h2];rfl
      subst hq
      go_wp2_with fail
      go_meet
      exact⟨by first | rfl | simp[k1,k3,k4],rfl⟩
     have hq:true=Q:=by
      rw[←HQ.out];have h2:veB ⟨k,f,t,v⟩=true:=by simp[veB,k3,v0]
      rw[h2];simp
     subst hq
     go_wp2_with fail
     go_meet
     exact⟨by first | rfl | simp[k1,k3,k4,v0],rfl⟩
    case rest =>
    obtain⟨rfl,hwc⟩:=hcut;subst hwc;have HBw2:Hid (Below w.heap.size w wc):=HB1.out.trans (HB2.out.mono HB1.out.size);cases Q with
    | true =>
      have HR3:Hid (R=1):=by
       show _=_;have h1:N=1:=by rw[HNQ.out,if_pos rfl]
       rw[HR2.out,ws_le (k:=j+1) (by rw[HST.out,h1];decide) (by omega),HST.out,h1]
      go_wp2;go_ret;exact⟨by rw[HR3.out];rfl,HBw2.out⟩
    | false =>
      by_cases k4:k=4
      ·subst k4;have HN1:Hid (N=if nlB ⟨4,f,t,v⟩ then 0 else 3):=by
        show _=_;rw[HNQ.out,if_neg (by decide),if_pos rfl]
       cases hf:f.toList.isEmpty
       ·have HR3:Hid (R=3):=by
         show _=_;have h1:nlB ⟨4,f,t,v⟩=false:=by simp[nlB,←emp_lst,hf]
         have h2:N=3:=by rw[HN1.out,h1];rfl
         rw[HR2.out,ws_le (k:=j+1) (by rw[HST.out,h2];decide) (by omega),HST.out,h2]
        go_wp2;go_ret;exact⟨by rw[HR3.out];rfl,HBw2.out⟩
       cases ht:t.toList.isEmpty
       ·have HR3:Hid (R=3):=by
         show _=_;have h1:nlB ⟨4,f,t,v⟩=false:=by simp[nlB,←emp_lst,ht]
         have h2:N=3:=by rw[HN1.out,h1];rfl
         rw[HR2.out,ws_le (k:=j+1) (by rw[HST.out,h2];decide) (by omega),HST.out,h2]
        go_wp2;go_ret;exact⟨by rw[HR3.out];rfl,HBw2.out⟩
       have HS2:Hid (wsTo S Hs l (j+1)=0):=by
        show _=_;have h1:nlB ⟨4,f,t,v⟩=true:=by simp[nlB,←emp_lst,hf,ht]
        rw[HST.out,HN1.out,h1];rfl
       go_wp2;go_roundw
       case rel=>exact⟨j+1,by omega,by go_num,HS2.out,HB2.out⟩
       case measure=>simp[intOf];omega
      have HN1:Hid (N=if hoB Hs f&&hoB Hs t then 0 else 5):=by
       show _=_;rw[HNQ.out,if_neg (by decide),if_neg k4]
      have hk4:(k==4)=false:=by simp[k4]
      clear HNQ
      go_wp2_with fail
      refine (rnamed_any S ao n cap ao2 n2 cap2 Hs f _ (HHW.out _ HBw2.out)).mono ?_;rintro e w3 ⟨rfl,hb3⟩;obtain⟨I1,hI1⟩:∃q,q=whN Hs f:=⟨_,rfl⟩;have HI1:Hid (decide (I1<0) = !hoB Hs f):=by
       show _=_;rw[hI1];exact ho_wh Hs f
      rw[←hI1];have HX3:Hid (TBox w3 w.heap.size S (.slice ao n cap) (.slice ao2 n2 cap2)):=HX2.out.later hb3;have HWB3:Hid (WiBox w3 gw k f t v):=HWB.out.later hb3;have HB3:Hid (Below w1.heap.size w1 w3):=HB2.out.trans (hb3.mono HB2.out.size);have HBw3:Hid (Below w.heap.size w w3):=HBw2.out.trans (hb3.mono HBw2.out.size);clear hI1 hb3 x0 x1 x2 x3 b0 b1 b2;obtain⟨x0,x1,x2,x3⟩:=HWB3.out;obtain⟨b0,b1,b2⟩:=HX3.out;by_cases i1:I1<0
      ·have HR3:Hid (R=5):=by
        show _=_;have h0:=HI1.out;have h1:hoB Hs f=false:=by simpa[i1] using h0
        have h2:N=5:=by rw[HN1.out,h1];rfl
        rw[HR2.out,ws_le (k:=j+1) (by rw[HST.out,h2];decide) (by omega),HST.out,h2]
       go_wp2;go_ret;exact⟨by rw[HR3.out];rfl,HBw3.out⟩
      have HF1:Hid (hoB Hs f=true):=by
       show _=_;have h0:=HI1.out;simpa[i1] using h0
      go_wp2_with fail
      refine (rnamed_any S ao n cap ao2 n2 cap2 Hs t _ (HHW.out _ HBw3.out)).mono ?_;rintro e w5 ⟨rfl,hb5⟩;obtain⟨I2,hI2⟩:∃q,q=whN Hs t:=⟨_,rfl⟩;have HI2:Hid (decide (I2<0) = !hoB Hs t):=by
       show _=_;rw[hI2];exact ho_wh Hs t
      rw[←hI2];have HB5:Hid (Below w1.heap.size w1 w5):=HB3.out.trans (hb5.mono HB3.out.size);have HBw5:Hid (Below w.heap.size w w5):=HBw3.out.trans (hb5.mono HBw3.out.size);clear hI2 hb5;by_cases i2:I2<0
      ·have HR3:Hid (R=5):=by
        show _=_;have h0:=HI2.out;have h1:hoB Hs t=false:=by simpa[i2] using h0
        have h2:N=5:=by rw[HN1.out,h1,Bool.and_false];rfl
        rw[HR2.out,ws_le (k:=j+1) (by rw[HST.out,h2];decide) (by omega),HST.out,h2]
       go_wp2;go_ret;exact⟨by rw[HR3.out];rfl,HBw5.out⟩
      have HS2:Hid (wsTo S Hs l (j+1)=0):=by
       show _=_;have h0:=HI2.out;have h1:hoB Hs t=true:=by simpa[i2] using h0
       rw[HST.out,HN1.out,HF1.out,h1];rfl
      go_wp2;go_roundw
      case rel=>exact⟨j+1,by omega,by go_num,HS2.out,HB5.out⟩
      case measure=>simp[intOf];omega
   obtain rfl:j=n4:=by omega
   have HR3:Hid (R=0):=by
    show _=_;rw[HR2.out,HNO.out]
   have kb1:¬(j:Int)<(j:Int):=by omega
   go_wp2;go_ret;exact⟨by rw[HR3.out];rfl,HBw.out⟩
 have HR1:Hid (R=T):=by
  show _=_;rw[HR.out,wsN,if_neg (by rw[←HT.out];exact h0),HT.out]
 have hT0:(T != 0)=true:=by simp[h0]
 go_wp2;go_ret;exact⟨by rw[HR1.out];rfl,HB1.out⟩
theorem rready_any (S:Int)(v1 v2 v3:Value)(S':Int)(u1 u2 u3 v4:Value)(Ls:List LkT)(Hs:List HoT)(Ts:TsQ)(Ls':List LkT)(Hs':List HoT)(Ts':TsQ)(ws:List Wi)(w:World)
 (hN:NI w v1 v2 v3 Ls Hs Ts) (hM:NI w u1 u2 u3 Ls' Hs' Ts') (hw:GS wisE w v4 ws):
 Calls prog 9 #[.agg #[.int i64 S,v1,v2,v3],.agg #[.int i64 S',u1,u2,u3],v4] w fun e w'=>∃v,e=.returned (.tuple #[v,.int i64 (pdN S Ls Hs Ts S' Ls' Hs' Ts' ws)])∧NO w' w.heap.size v (pdL S Ls Hs Ts S' Ls' Hs' Ts' ws)∧Below w.heap.size w w':=by
 obtain⟨ao,n,cap,ao2,n2,cap2,ao3,n3,cap3,rfl,rfl,rfl⟩:=hN.form;obtain⟨bo,m,dap,bo2,m2,dap2,bo3,m3,dap3,rfl,rfl,rfl⟩:=hM.form;obtain⟨a4,n4,c4,rfl,_⟩:=hw.form;obtain⟨w1,hw1⟩:∃W,W=(w.alloc (.cells #[.int i64 S,.slice ao n cap,.slice ao2 n2 cap2,.slice ao3 n3 cap3] 28)).alloc (.cells #[.int i64 S',.slice bo m dap,.slice bo2 m2 dap2,.slice bo3 m3 dap3] 28):=⟨_,rfl⟩;have hb1:Below w.heap.size w w1:=by rw[hw1];exact ((bRQ _ _).alloc (nLQ _) _).alloc (by simp) _
 have hnn:NN w1 w.heap.size S (.slice ao n cap) (.slice ao2 n2 cap2) (.slice ao3 n3 cap3) S' (.slice bo m dap) (.slice bo2 m2 dap2) (.slice bo3 m3 dap3):=by rw[hw1];exact nn_new w S _ _ _ S' _ _ _ 28
 have HNW:Hid (∀W,Below w1.heap.size w1 W→NI W (.slice ao n cap) (.slice ao2 n2 cap2) (.slice ao3 n3 cap3) Ls Hs Ts∧NI W (.slice bo m dap) (.slice bo2 m2 dap2) (.slice bo3 m3 dap3) Ls' Hs' Ts'∧GS wisE W (.slice a4 n4 c4) ws):=fun W h=>⟨(hN.later hb1).later h,(hM.later hb1).later h,(hw.later hb1).later h⟩
 have HNB:Hid (∀W,Below w1.heap.size w1 W→NeBox W w.heap.size S (.slice ao n cap) (.slice ao2 n2 cap2) (.slice ao3 n3 cap3)∧NeBox W (w.heap.size+1) S' (.slice bo m dap) (.slice bo2 m2 dap2) (.slice bo3 m3 dap3)):=fun W h=>⟨hnn.1.later h,hnn.2.later h⟩
 have HB1:Hid (Below w.heap.size w w1):=hb1;have HW1:Hid ((w.alloc (.cells #[.int i64 S,.slice ao n cap,.slice ao2 n2 cap2,.slice ao3 n3 cap3] 28)).alloc (.cells #[.int i64 S',.slice bo m dap,.slice bo2 m2 dap2,.slice bo3 m3 dap3] 28)=w1):=hw1.symm;obtain⟨E,hE⟩:∃q,q=ntN S Ls Hs Ts:=⟨_,rfl⟩;have HE:Hid (ntN S Ls Hs Ts=E):=hE.symm;obtain⟨Y,hY⟩:∃q,q=nwN S Ls Hs Ts S' Ls' Hs' Ts':=⟨_,rfl⟩;have HY:Hid (nwN S Ls Hs Ts S' Ls' Hs' Ts'=Y):=hY.symm;have HYE:Hid (Y=if E=0 then ntN S' Ls' Hs' Ts' else E):=by rw[hY,hE];exact rfl
 obtain⟨T,hT⟩:∃q,q=tpB S S' Ls Ls' Hs Hs':=⟨_,rfl⟩;have HT:Hid (tpB S S' Ls Ls' Hs Hs'=T):=hT.symm;obtain⟨U,hU⟩:∃q,q=wsN S Ls Hs ws:=⟨_,rfl⟩;have HU:Hid (wsN S Ls Hs ws=U):=hU.symm;obtain⟨X,hX⟩:∃q,q=pdN S Ls Hs Ts S' Ls' Hs' Ts' ws:=⟨_,rfl⟩;have HX:Hid (pdN S Ls Hs Ts S' Ls' Hs' Ts' ws=X):=hX.symm;have HXV:Hid (X=if Y=0 then (if T=true then U else 3) else Y):=by
  show X=_;rw[hX,pdN,diN,←hY,←hT,←hU];by_cases h1:Y=0
  ·by_cases h2:T=true
   ·simp[h1,h2]
   simp[h1,h2]
  simp[h1]
 obtain⟨D,hD⟩:∃q,q=pdL S Ls Hs Ts S' Ls' Hs' Ts' ws:=⟨_,rfl⟩;have HDN:Hid (X≠0→D=[]):=fun h=>by rw[hD,pdL,←hX,if_neg h]
 have HDC:Hid (X=0→D=cdL Ts Ts' Ts.length):=fun h=>by rw[hD];exact (pd_ok (hX.symm.trans h)).1.d
 rw[←hX,←hD];clear hN hM hw hb1 hnn hw1 hE hY hT hU hX hD;go_enter func9,ntmps9;go_upto_region 1 with fail;rw[HW1.out];clear HW1;obtain⟨⟨q0,q1,q2,q3⟩,r0,r1,r2,r3⟩:=HNB.out w1 (bRQ _ _)
 go_wp2_with fail
 refine (rnet_any S ao n cap ao2 n2 cap2 ao3 n3 cap3 Ls Hs Ts w1 (HNW.out _ (bRQ _ _)).1.l (HNW.out _ (bRQ _ _)).1.h (HNW.out _ (bRQ _ _)).1.t).mono ?_;rintro e w2 ⟨rfl,hb2⟩;rw[HE.out];have HB2:Hid (Below w1.heap.size w1 w2):=hb2;clear hb2 q0 q1 q2 q3 r0 r1 r2 r3
 go_upto_if 13 with fail
 go_cut [8] from 9 (fun e w'=>e=.int i64 Y∧Below w2.heap.size w2 w')
 case first =>
  by_cases hE0:E=0
  ·have hY2:ntN S' Ls' Hs' Ts'=Y:=(HYE.out.trans (if_pos hE0)).symm;have HY2:Hid (ntN S' Ls' Hs' Ts'=Y):=hY2;subst hE0;obtain⟨_,r0,r1,r2,r3⟩:=HNB.out w2 HB2.out
   go_wp2_with fail
   refine (rnet_any S' bo m dap bo2 m2 dap2 bo3 m3 dap3 Ls' Hs' Ts' w2 (HNW.out _ HB2.out).2.1.l (HNW.out _ HB2.out).2.1.h (HNW.out _ HB2.out).2.1.t).mono ?_;rintro e w3 ⟨rfl,hb3⟩;rw[HY2.out];have HB3:Hid (Below w2.heap.size w2 w3):=hb3;clear hb3 hY2
   go_wp2_with fail
   go_meet
   case rel=>exact⟨rfl,HB3.out⟩
  have hYE:Y=E:=HYE.out.trans (if_neg hE0);subst hYE;have hq:(Y==0)=false:=by simpa using hE0
  go_wp2_with fail
  go_meet
  case rel=>exact⟨rfl,bRQ _ _⟩
 case rest =>
 obtain⟨rfl,hb3⟩:=hcut;obtain⟨w3,hw3⟩:∃X,X=wc:=⟨_,rfl⟩;subst hw3;have HB3:Hid (Below w1.heap.size w1 w3):=HB2.out.trans (hb3.mono HB2.out.size);clear hb3;by_cases hY0:Y=0
 ·have HXA:Hid (X=if T=true then U else 3):=HXV.out.trans (if_pos hY0);have HNW0:Hid (nwN S Ls Hs Ts S' Ls' Hs' Ts'=0):=HY.out.trans hY0;subst hY0;obtain⟨⟨q0,q1,q2,q3⟩,r0,r1,r2,r3⟩:=HNB.out w3 HB3.out
  go_wp2_with fail
  refine (refAlike_any S ao n cap ao2 n2 cap2 Ls Hs S' bo m dap bo2 m2 dap2 Ls' Hs' w3 (HNW.out _ HB3.out).1.l (HNW.out _ HB3.out).1.h (HNW.out _ HB3.out).2.1.l (HNW.out _ HB3.out).2.1.h).mono ?_;rintro e w4 ⟨rfl,hb4⟩;rw[HT.out];have HB4:Hid (Below w1.heap.size w1 w4):=HB3.out.trans (hb4.mono HB3.out.size);clear hb4 q0 q1 q2 q3 r0 r1 r2 r3;cases T with
  | false =>
    have hX3:X=3:=HXA.out.trans (by simp);have HX3:Hid (X=3):=hX3;have HDE:Hid (D=[]):=HDN.out (by rw[hX3];decide);have HBW:Hid (Below w.heap.size w w4):=HB1.out.trans (HB4.out.mono HB1.out.size);clear hX3;go_wp2;refine bodyPost_ret (v:=.tuple #[.slice none 0 0,.int i64 3]) (by simp[results,results9,go_sem, *]) rfl ⟨.slice none 0 0,by rw[HX3.out],by rw[HDE.out];exact NO.nil _ _,HBW.out⟩
  | true =>
    have hXU:X=U:=HXA.out.trans (by simp);subst hXU;obtain⟨⟨q0,q1,q2,q3⟩,r0,r1,r2,r3⟩:=HNB.out w4 HB4.out
    go_wp2_with fail
    refine (rwishes_any S ao n cap ao2 n2 cap2 a4 n4 c4 Ls Hs ws w4 (HNW.out _ HB4.out).1.l (HNW.out _ HB4.out).1.h (HNW.out _ HB4.out).2.2).mono ?_;rintro e w5 ⟨rfl,hb5⟩;rw[HU.out];have HB5:Hid (Below w1.heap.size w1 w5):=HB4.out.trans (hb5.mono HB4.out.size);have HBW:Hid (Below w.heap.size w w5):=HB1.out.trans (HB5.out.mono HB1.out.size);clear hb5 q0 q1 q2 q3 r0 r1 r2 r3;by_cases hX0:X=0
    ·have HX0:Hid (X=0):=hX0;obtain⟨hpk,_,_,hlen⟩:=pd_ok (HX.out.trans hX0);have HDE:Hid (D=cdL Ts Ts' Ts.length):=HDC.out hX0;have HCH:Hid (Calls prog 13 #[.agg #[.int i64 S,.slice ao n cap,.slice ao2 n2 cap2,.slice ao3 n3 cap3],.agg #[.int i64 S',.slice bo m dap,.slice bo2 m2 dap2,.slice bo3 m3 dap3]] w5 fun e w'=>∃v,e=.returned v∧NO w' w5.heap.size v (cdL Ts Ts' Ts.length)∧Below w5.heap.size w5 w'):=refChanges_any S _ _ ao3 n3 cap3 S' _ _ bo3 m3 dap3 Ts Ts' w5 rfl rfl rfl rfl (HNW.out _ HB5.out).1.t (HNW.out _ HB5.out).2.1.t hlen (by have:=hpk.len.2;omega) hpk.tw;subst hX0;obtain⟨⟨q0,q1,q2,q3⟩,r0,r1,r2,r3⟩:=HNB.out w5 HB5.out;clear hpk hlen
     go_wp2_with fail
     refine HCH.out.mono ?_;rintro e w6 ⟨v,rfl,hNO,hb6⟩;have HNO:Hid (NO w6 w.heap.size v D):=by rw[HDE.out];exact hNO.mono HBW.out.size
     have HB6:Hid (Below w.heap.size w w6):=HBW.out.trans (hb6.mono HBW.out.size);clear hNO hb6 q0 q1 q2 q3 r0 r1 r2 r3;go_wp2;refine bodyPost_ret (v:=.tuple #[v,.int i64 0]) (by simp[results,results9,go_sem, *]) rfl ⟨v,rfl,HNO.out,HB6.out⟩
    have HDE:Hid (D=[]):=HDN.out hX0;have hq:(X==0)=false:=by simpa using hX0
    clear hX0;go_wp2;refine bodyPost_ret (v:=.tuple #[.slice none 0 0,.int i64 X]) (by simp[results,results9,go_sem, *]) rfl ⟨.slice none 0 0,rfl,by rw[HDE.out];exact NO.nil _ _,HBW.out⟩
 have hXY:X=Y:=HXV.out.trans (if_neg hY0);subst hXY;have HDE:Hid (D=[]):=HDN.out hY0;have hq:(X==0)=false:=by simpa using hY0
 have HBW:Hid (Below w.heap.size w w3):=HB1.out.trans (HB3.out.mono HB1.out.size);clear hY0;go_wp2;refine bodyPost_ret (v:=.tuple #[.slice none 0 0,.int i64 X]) (by simp[results,results9,go_sem, *]) rfl ⟨.slice none 0 0,rfl,by rw[HDE.out];exact NO.nil _ _,HBW.out⟩
def OffQ (Qp:Nat→Prop)(vs:List SlT):Prop:=∀x∈vs,∀b,Qp b→offB x b
theorem OffQ.set {Qp:Nat→Prop}{vs:List SlT}(h:OffQ Qp vs){i:Nat}{x:SlT}(hx:∀b,Qp b→offB x b):OffQ Qp (vs.set i x):=fun y hy b hb=>by
 rcases List.mem_or_eq_of_mem_set hy with h1 | h1
 ·exact h y h1 b hb
 rw[h1];exact hx b hb
theorem wpList_append_tabs2 (w:World){ops:Array Oper}{rest:List Oper}{o:Oper}{a:Act}{Q:Exit→Act→World→Prop}(hgd:o.guard=none)(s x:Operand)(t:TypeId)
 (ho:o.op=.call { callee:=.builtin .append,args:=#[s,x],argTypes:=#[t,t] }) (ht:Tryz.prog.underlying t=some (.slice 93))
 (hs:a.eval s=.slice none 0 0) (u:Value) (hx:a.eval x=u) (Ts:TsQ) (w0:World) (hM:TS w0 u Ts) (hb:Below w0.heap.size w0 w) (h100:Ts.length≤1000000)
 (h:∀v' w' vs,TR 93 w' w0.heap.size w.heap.size v' vs Ts→w.grownBy w' none→GS slE w0 u vs→wpList prog ops Q rest (a.put o.dst v') w'):wpList prog ops Q (o :: rest) a w:=by
 obtain⟨i0,hi,hz0,hz1,hz2⟩:=info_parts ta_info;obtain⟨vs,g1,g2,g3⟩:=ts_sl hM;refine wpList_append_GS (E:=slE) w hgd s x t 93 ho ht i0 _ 24 hi hz0 hz1 hz2 ta_zero w.heap.size _ hs [] (World.ownsRow_nil _ _ _ _) u hx vs (g1.later hb) (by unfold maxLen;simp[g2];omega) (by simp[g2];omega) (nLQ _) ?_;intro v' w' h1 h2;exact h v' w' vs (tr_copy g2 g3 hb h2 hb.size h1) h2 g1
theorem refApply_far (S:Int)(ao:AdQ)(n cap:Nat)(ao2:AdQ)(n2 cap2:Nat)(ao3:AdQ)(n3 cap3:Nat)(a4:AdQ)(n4 c4:Nat)(Ls:LkQ)(Hs:HoQ)(Ts:TsQ)(l:List Op8)(w0 w:World)
 (hT:TS w0 (.slice ao3 n3 cap3) Ts) (hw0:Below w0.heap.size w0 w) (hl:GS opE w (.slice a4 n4 c4) l) (hN:ntN S Ls Hs Ts=0) (Qp:Nat→Prop) (hQ:∀b,Qp b→b<w.heap.size∧∀vs0,GS slE w0 (.slice ao3 n3 cap3) vs0→∀x∈vs0,offB x b):
 Calls prog 11 #[.agg #[.int i64 S,.slice ao n cap,.slice ao2 n2 cap2,.slice ao3 n3 cap3],.slice a4 n4 c4] w fun e w'=>∃b3 k3 d3,e=.returned (.tuple #[.agg #[.int i64 (nvS (cgN S Ls Hs Ts l) S),nvV (cgN S Ls Hs Ts l) (.slice ao n cap),nvV (cgN S Ls Hs Ts l) (.slice ao2 n2 cap2),.slice b3 k3 d3],.int i64 (cgN S Ls Hs Ts l)])∧(∃vs,TR 93 w' w0.heap.size w.heap.size (.slice b3 k3 d3) vs (nvL (cgN S Ls Hs Ts l) (caT Ts l))∧OffQ Qp vs)∧Below w.heap.size w w':=by
 have HQ:Hid (∀b,Qp b→b<w.heap.size∧∀vs0,GS slE w0 (.slice ao3 n3 cap3) vs0→∀x∈vs0,offB x b):=hQ;clear hQ;have HW0:Hid (Below w0.heap.size w0 w):=hw0;have hb0:Below w.heap.size w ((w.alloc (.cells #[.int i64 S,.slice ao n cap,.slice ao2 n2 cap2,.slice ao3 n3 cap3] 28)).alloc (.cells #[.int i64 0,.slice none 0 0,.slice none 0 0,.slice none 0 0] 28)):=((bRQ _ _).alloc (nLQ _) _).alloc (by simp) _;have HAB0:=ab_new w S (.slice ao n cap) (.slice ao2 n2 cap2) (.slice ao3 n3 cap3) 28;have HB0:Hid (Below w.heap.size w ((w.alloc (.cells #[.int i64 S,.slice ao n cap,.slice ao2 n2 cap2,.slice ao3 n3 cap3] 28)).alloc (.cells #[.int i64 0,.slice none 0 0,.slice none 0 0,.slice none 0 0] 28))):=hb0;have HT0:=hT;obtain⟨_,_,_,e,hn,hn2,hn3,ha⟩:=hl.form;cases e;have HN:Hid (l.length=n4):=hn;have HA:Hid (0<n4→∃g o,a4=some ⟨g,o,none⟩∧GAt opE w g o l∧c4≤maxLen):=ha;have HNT:Hid (ntN S Ls Hs Ts=0):=hN;obtain⟨t1,t2,t3⟩:=nt_0 hN;have HOK:Hid (tsOk Ts):=ok_ts t3;have HSL:Hid ((Ts.length:Int)=S):=t2;have hS6:1≤S∧S≤1000:=by
  unfold tpN at t1;cases e:(decide (1≤S)&&decide (S≤6))
  ·rw[e] at t1;simp at t1
  simp at e;omega
 have n63:n4≤9223372036854775807:=by unfold maxLen at hn2;omega
 have HTL:Hid (Ts.length≤1000000):=by
  show _≤_;omega
 clear hT hl hN hn hn2 ha hb0 t1 t2 t3 hw0;obtain⟨X,hX⟩:∃X,X=cgN S Ls Hs Ts l:=⟨_,rfl⟩;have HX:Hid (X=if 200<l.length then 4 else caN S Ts l):=by
  show _=_;rw[hX,cgN,if_pos HNT.out]
 rw[←hX];clear hX;by_cases h200:200<n4
 ·have HX4:Hid (X=4):=by
   show _=_;rw[HX.out,if_pos (by rw[HN.out];exact h200)]
  obtain⟨q0,q1,q2,q3⟩:=HAB0.r;have rf:=HAB0.f;have f0:=rf 0;have f1:=rf 1;have f2:=rf 2;have f3:=rf 3;have e4:decide ((200:Int)<(n4:Int))=true:=by simp;omega
  clear rf;go_enter func11,ntmps11;go_wp2;refine bodyPost_ret (v:=.tuple #[.agg #[.int i64 0,.slice none 0 0,.slice none 0 0,.slice none 0 0],.int i64 4]) (by simp[results,results11,go_sem, *]) rfl ?_;rw[HX4.out];exact⟨_,_,_,rfl,⟨[],tr_nil _ _ _ _,fun x h=>absurd h (by simp)⟩,HB0.out⟩
 have HXC:Hid (X=caN S Ts l):=by
  show _=_;rw[HX.out,if_neg (by rw[HN.out];exact h200)]
 have e4:decide ((200:Int)<(n4:Int))=false:=by simp;omega
 have HSZ:Hid (((w.alloc (.cells #[.int i64 S,.slice ao n cap,.slice ao2 n2 cap2,.slice ao3 n3 cap3] 28)).alloc (.cells #[.int i64 0,.slice none 0 0,.slice none 0 0,.slice none 0 0] 28)).heap.size=w.heap.size+2):=by
  show _=_;simp
 go_enter func11,ntmps11
 go_wp2_with (at_builtin;refine wpList_append_tabs2 _ rfl _ _ 26 rfl underlying26 rfl _ rfl Ts w0 HT0 (HW0.out.trans (HB0.out.mono HW0.out.size)) HTL.out ?_)
 intro v' w1 vs hTR hg hgs;have HVO1:Hid (OffQ Qp vs):=fun x hx b hb=>(HQ.out b hb).2 vs hgs x hx
 clear hgs
 replace hTR:TR 93 w1 w0.heap.size (w.heap.size+2) v' vs Ts:=by first | exact hTR | (have h:=hTR;simp only[World.size_alloc] at h;exact h) | (have h:=hTR;rw[HSZ.out] at h;exact h)
 have HAB1:Hid (AB w1 w.heap.size S (.slice ao n cap) (.slice ao2 n2 cap2) (.slice ao3 n3 cap3)):=HAB0.grown hg (fun g hg=>by cases hg);have HB1:Hid (Below w.heap.size w w1):=HB0.out.grown hg HB0.out.size (fun g hg=>by cases hg);obtain⟨g,cap',rfl⟩:∃g cap',v'=.slice (some ⟨g,0,none⟩) Ts.length cap':=by
  have hlv:=hTR.lv;have hts:=HSL.out
  rcases hTR.ov.2 with ⟨_,h0⟩ | ⟨g,cap',_,rfl,_⟩
  ·omega
  exact⟨g,cap',by rw[hlv]⟩
 have HTR1:Hid (TR 93 w1 w0.heap.size (w.heap.size+2) (.slice (some ⟨g,0,none⟩) Ts.length cap') vs Ts):=hTR;obtain⟨N,hNN⟩:∃N,N=Ts.length:=⟨_,rfl⟩;have HNN:Hid (N=Ts.length):=hNN;have HNS:Hid ((N:Int)=S):=by
  show _=_;rw[hNN];exact HSL.out
 rw[←hNN];rw[←hNN] at HTR1;clear hTR hg HAB0 HB0 HSZ HT0 hNN;go_wp2
 go_loopw [7] (fun i wr=>∃(k:Nat) (vs:List SlT),k≤n4∧i=.int i64 k∧caN S Ts (l.take k)=0∧TR 93 wr w0.heap.size (w.heap.size+2) (.slice (some ⟨g,0,none⟩) N cap') vs (caT Ts (l.take k))∧OffQ Qp vs∧AB wr w.heap.size S (.slice ao n cap) (.slice ao2 n2 cap2) (.slice ao3 n3 cap3)∧Below w.heap.size w wr) (fun i _=>n4-(intOf i).toNat)
 case atStart=>exact⟨0,vs,by omega,rfl,rfl,HTR1.out,HVO1.out,HAB1.out,HB1.out⟩
 case round =>
  obtain⟨k,vs,hk,rfl,hca,hTR,hVO,hAB,hB⟩:=hrel;have HVO:Hid (OffQ Qp vs):=hVO;clear hVO;clear HTR1 HAB1 HB1;have HB:Hid (Below w.heap.size w wr):=hB;have HCA:Hid (caN S Ts (l.take k)=0):=hca;have HAB:Hid (AB wr w.heap.size S (.slice ao n cap) (.slice ao2 n2 cap2) (.slice ao3 n3 cap3)):=hAB;obtain⟨Tk,hTk⟩:∃T,T=caT Ts (l.take k):=⟨_,rfl⟩;have HTK:Hid (Tk=caT Ts (l.take k)):=hTk;rw[←hTk] at hTR;have HTR:Hid (TR 93 wr w0.heap.size (w.heap.size+2) (.slice (some ⟨g,0,none⟩) N cap') vs Tk):=hTR;have HTkL:Hid (Tk.length=N):=by
   show _=_;rw[hTk,ca_len,HNN.out]
  have HOKk:Hid (tsOk Tk):=by
   rw[hTk];exact ca_right HOK.out hca
  clear hca hTR hTk;by_cases hlt:k<n4
  ·obtain⟨gl,ol,hao,hc,_⟩:=HA.out (by omega);subst hao;obtain⟨y0,ya,p,m,b,q,s,v,hkl,hLk,r0,r1,r2,r3,r4,r5,r6,r7⟩:=op_at (hc.later hB) HN.out hlt;have HLK:Hid (l[k]=⟨y0,ya,⟨p,m,b,q,s,v⟩⟩):=hLk;have HCAT:Hid (caN S Ts l=caN S Tk (⟨y0,ya,⟨p,m,b,q,s,v⟩⟩ :: l.drop (k+1))):=by
    show _=_;rw[HTK.out,←hLk,ca_split hkl HCA.out]
   have hltl:gl<wr.heap.size:=bLQ _ _ r0;obtain⟨q0,q1,q2,q3⟩:=hAB.r;obtain⟨n0,_,_,_⟩:=hAB.n;have hltB:=hAB.lt;have hlt0:w.heap.size<wr.heap.size:=by omega
   have f0:=hAB.f 0;have f1:=hAB.f 1;have f2:=hAB.f 2;have f3:=hAB.f 3;have kb0:(0:Int)≤(k:Int):=by omega
   have kb1:(k:Int)<(n4:Int):=by omega
   clear hLk hB hc hAB;cases hsw:swB S y0
   ·have HX1:Hid (X=1):=by
     show _=_;rw[HXC.out,HCAT.out,caN,hsw];rfl
    by_cases hy:y0<1
    ·have e5:decide (y0<1)=true:=by simpa using hy
     go_wp2;refine bodyPost_ret (v:=.tuple #[.agg #[.int i64 0,.slice none 0 0,.slice none 0 0,.slice none 0 0],.int i64 1]) (by simp[results,results11,go_sem, *]) rfl ?_;rw[HX1.out];exact⟨_,_,_,by rw[nvS,nvV,nvV,if_neg (by decide),if_neg (by decide),if_neg (by decide)],⟨[],by rw[nvL,if_neg (by decide)];exact⟨tr_nil _ _ _ _,fun x h=>absurd h (by simp)⟩⟩,(below_pn4 HB.out (w.heap.size+1) (by omega) _ _ _ _).alloc (Nat.le_trans HB.out.size (grown_put4 wr (w.heap.size+1) _ _ _ _).size) _⟩
    have e5:decide (y0<1)=false:=by simpa using hy
    have e6:decide (S<y0)=true:=by
     simp only[swB,Bool.and_eq_false_iff,decide_eq_false_iff_not] at hsw;simp;omega
    go_wp2;refine bodyPost_ret (v:=.tuple #[.agg #[.int i64 0,.slice none 0 0,.slice none 0 0,.slice none 0 0],.int i64 1]) (by simp[results,results11,go_sem, *]) rfl ?_;rw[HX1.out];exact⟨_,_,_,by rw[nvS,nvV,nvV,if_neg (by decide),if_neg (by decide),if_neg (by decide)],⟨[],by rw[nvL,if_neg (by decide)];exact⟨tr_nil _ _ _ _,fun x h=>absurd h (by simp)⟩⟩,(below_pn4 HB.out (w.heap.size+1) (by omega) _ _ _ _).alloc (Nat.le_trans HB.out.size (grown_put4 wr (w.heap.size+1) _ _ _ _).size) _⟩
   have hw:=sw_of.1 hsw;obtain⟨i,hi⟩:∃i:Nat,y0=(i:Int)+1:=⟨(y0-1).toNat,by omega⟩;have HI:Hid (y0=(i:Int)+1):=hi;have hiN:i<N:=by have:=HNS.out;omega
   have e5:decide (y0<1)=false:=by simp;omega
   have e6:decide (S<y0)=false:=by simp;omega
   have iw:IntKind.i64.wrap (y0-1)=(i:Int):=by rw[IntKind.wrap_i64];omega
   have ib0:(0:Int)≤(i:Int):=by omega
   have ib1:(i:Int)<(N:Int):=by omega
   have hBA:Below wr.heap.size wr (wr.alloc (.cells #[.int i64 y0,.bool ya,.int i64 p,.int i64 m,.int i64 b,.int i64 q,.int i64 s,.int i64 v] 90)):=(bRQ _ _).alloc (nLQ _) _;have HBA:Hid (Below wr.heap.size wr (wr.alloc (.cells #[.int i64 y0,.bool ya,.int i64 p,.int i64 m,.int i64 b,.int i64 q,.int i64 s,.int i64 v] 90))):=hBA;have HOB:=op_new wr y0 ya p m b q s v 90;have HTA:Hid (taT Tk y0=Tk.getD i []):=by
    show _=_;rw[taT]
    congr 1
    omega
   have HTO:Hid (tbN (taT Tk y0)=0):=HOKk.out _ (ta_mem (by omega) (by rw[HTkL.out];have:=HNS.out;omega));have HXI:Hid (X=if doN (taT Tk y0) ya ⟨p,m,b,q,s,v⟩=0 then caN S (Tk.set i (doL (taT Tk y0) ya ⟨p,m,b,q,s,v⟩)) (l.drop (k+1)) else doN (taT Tk y0) ya ⟨p,m,b,q,s,v⟩):=by
    show _=_;have e7:(y0-1).toNat=i:=by have:=HI.out;omega
    rw[HXC.out,HCAT.out,caN,hsw,if_pos rfl,e7]
   clear hBA hsw hw hi
   go_wp2_with fail
   refine (refRule_any _ _ _ _ _ _ _).mono ?_;rintro e w2 ⟨rfl,hb2⟩;obtain⟨RN,hRN⟩:∃r,r=ruN p m b q s v:=⟨_,rfl⟩;have HRN:Hid (RN=ruN p m b q s v):=hRN;rw[←hRN];have HBr:Hid (Below wr.heap.size wr w2):=HBA.out.trans (hb2.mono HBA.out.size);have HB2:Hid (Below w.heap.size w w2):=HB.out.trans (HBr.out.mono HB.out.size);have HAB2:Hid (AB w2 w.heap.size S (.slice ao n cap) (.slice ao2 n2 cap2) (.slice ao3 n3 cap3)):=HAB.out.later HBr.out;have HTR2:Hid (TR 93 w2 w0.heap.size (w.heap.size+2) (.slice (some ⟨g,0,none⟩) N cap') vs Tk):=HTR.out.later HBr.out;have HOB2:Hid (VAt w2 wr.heap.size 0 (opE.c ⟨y0,ya,⟨p,m,b,q,s,v⟩⟩)):=HOB.later hb2;have hltw:wr.heap.size<w2.heap.size:=bLQ _ _ (op_cells HOB2.out).1;clear hb2 hRN HBA HOB q0 q1 q2 q3 f0 f1 f2 f3 n0 r0 r1 r2 r3 r4 r5 r6 r7;obtain⟨q0,q1,q2,q3⟩:=HAB2.out.r;have hltB2:=HAB2.out.lt;have hlt02:w.heap.size<w2.heap.size:=by omega
   have f0:=HAB2.out.f 0;have f1:=HAB2.out.f 1;have f2:=HAB2.out.f 2;have f3:=HAB2.out.f 3;by_cases hR:RN=0
   ·subst hR;have HDN:Hid (doN (taT Tk y0) ya ⟨p,m,b,q,s,v⟩=chN (taT Tk y0) ya ⟨p,m,b,q,s,v⟩∧doL (taT Tk y0) ya ⟨p,m,b,q,s,v⟩=chL (taT Tk y0) ya ⟨p,m,b,q,s,v⟩):=do_ch2 HTO.out HRN.out.symm;obtain⟨x,hx1,hx2,hx3,hx0,hx4,hx5⟩:=HTR2.out.at (i:=i) (by rw[HTkL.out];exact hiN);clear hx0;obtain⟨a5,n5,c5⟩:=x;have HSR:Hid (SR w2 (.slice a5 n5 c5) (taT Tk y0)):=by
     rw[HTA.out];exact hx2
    have hx1':w2.cell? ⟨g,i,none⟩=some (.slice a5 n5 c5):=hx1;have HDO:Hid (∀W,Below w2.heap.size w2 W→Calls prog 31 #[.slice a5 n5 c5,.bool ya,.agg #[.int i64 p,.int i64 m,.int i64 b,.int i64 q,.int i64 s,.int i64 v]] W fun e w'=>∃u,e=.returned (.tuple #[u,.int i64 (chN (taT Tk y0) ya ⟨p,m,b,q,s,v⟩)])∧NR w' w2.heap.size u (chL (taT Tk y0) ya ⟨p,m,b,q,s,v⟩)∧Below w2.heap.size w2 w'):=fun W hW=>by
     refine (refDo_any a5 n5 c5 ya p m b q s v _ W (HSR.out.later hW) HTO.out).mono ?_;rintro e w' ⟨u,h1,h2,h3⟩;exact⟨u,h1,h2.mono hW.size,hW.trans (h3.mono hW.size)⟩
    have HMK:Hid (∀W,Below w2.heap.size w2 W→Below w2.heap.size w2 W∧W.cell? ⟨g,i,none⟩=some (.slice a5 n5 c5)∧W.cell? ⟨wr.heap.size,0,none⟩=some (.int i64 y0)∧W.cell? ⟨wr.heap.size,1,none⟩=some (.bool ya)∧W.cell? ⟨wr.heap.size,2,none⟩=some (.int i64 p)∧W.cell? ⟨wr.heap.size,3,none⟩=some (.int i64 m)∧W.cell? ⟨wr.heap.size,4,none⟩=some (.int i64 b)∧W.cell? ⟨wr.heap.size,5,none⟩=some (.int i64 q)∧W.cell? ⟨wr.heap.size,6,none⟩=some (.int i64 s)∧W.cell? ⟨wr.heap.size,7,none⟩=some (.int i64 v)):=by
     intro W hW;obtain⟨c0,c1,c2,c3,c4,c5,c6,c7⟩:=op_cells (HOB2.out.later hW);simp only[Nat.zero_add] at c0 c1 c2 c3 c4 c5 c6 c7;exact⟨hW,cell_later hW hx1',c0,c1,c2,c3,c4,c5,c6,c7⟩
    obtain⟨_,_,d0,d1,d2,d3,d4,d5,d6,d7⟩:=HMK.out w2 (bRQ _ _);go_upto_region 14 with fail;clear q0 q1 q2 q3 f0 f1 f2 f3 hx3 hx4 hltB2 hlt02
    go_cut [9,10] from 19 to 71 (fun e t w'=>e=.int i64 (chN (taT Tk y0) ya ⟨p,m,b,q,s,v⟩)∧NR w' w2.heap.size t (chL (taT Tk y0) ya ⟨p,m,b,q,s,v⟩)∧Below w2.heap.size w2 w')
    case first =>
     clear HXI HCAT HDN HTO HTA HLK HCA HTK HTR HTR2 HAB HAB2 HB HB2 HOB2 HSR HBr hx1 hx2 hx5
     go_region_held3 (fun W=>Below w2.heap.size w2 W∧W.cell? ⟨g,i,none⟩=some (.slice a5 n5 c5)∧W.cell? ⟨wr.heap.size,0,none⟩=some (.int i64 y0)∧W.cell? ⟨wr.heap.size,1,none⟩=some (.bool ya)∧W.cell? ⟨wr.heap.size,2,none⟩=some (.int i64 p)∧W.cell? ⟨wr.heap.size,3,none⟩=some (.int i64 m)∧W.cell? ⟨wr.heap.size,4,none⟩=some (.int i64 b)∧W.cell? ⟨wr.heap.size,5,none⟩=some (.int i64 q)∧W.cell? ⟨wr.heap.size,6,none⟩=some (.int i64 s)∧W.cell? ⟨wr.heap.size,7,none⟩=some (.int i64 v))
      (first | assumption | exact HMK.out _ (Below.drew (bRQ _ _)) | exact HMK.out _ HBX.out)
      (first | (go_at_call 31;refine (HDO.out _ (by first | exact Below.drew (bRQ _ _) | exact bRQ _ _)).mono ?_;rintro e w' ⟨u,rfl,hG,hb⟩;have HBX:Hid (Below w2.heap.size w2 w'):=hb;have HGX:Hid (NR w' w2.heap.size u (chL (taT Tk y0) ya ⟨p,m,b,q,s,v⟩)):=hG;clear hb hG))
     all_goals (go_wp2_with fail;go_meet)
     all_goals exact⟨rfl,HGX.out,HBX.out⟩
    case rest =>
     obtain⟨rfl,hG,hb3⟩:=hcut;have HB3:Hid (Below w.heap.size w wc):=HB2.out.trans (hb3.mono HB2.out.size);have HAB3:Hid (AB wc w.heap.size S (.slice ao n cap) (.slice ao2 n2 cap2) (.slice ao3 n3 cap3)):=HAB2.out.later hb3;have HTR3:Hid (TR 93 wc w0.heap.size (w.heap.size+2) (.slice (some ⟨g,0,none⟩) N cap') vs Tk):=HTR2.out.later hb3;obtain⟨_,_,d0,d1,d2,d3,d4,d5,d6,d7⟩:=HMK.out wc hb3;have hltw3:wr.heap.size<wc.heap.size:=bLQ _ _ d0;obtain⟨⟨a6,n6,c6⟩,hx,hoff⟩:=hG.sl
     replace hx:_=Value.slice a6 n6 c6:=hx
     subst hx;have HG3:Hid (SR wc (.slice a6 n6 c6) (chL (taT Tk y0) ya ⟨p,m,b,q,s,v⟩)):=hG.sr;have HOFF:Hid (∀b,b<w2.heap.size→offB (a6,n6,c6) b):=hoff;obtain⟨C,hC⟩:∃c,c=chN (taT Tk y0) ya ⟨p,m,b,q,s,v⟩:=⟨_,rfl⟩;have HC:Hid (C=chN (taT Tk y0) ya ⟨p,m,b,q,s,v⟩):=hC;rw[←hC];clear hb3 hG hC hoff HMK HDO;obtain⟨q0,q1,q2,q3⟩:=HAB3.out.r;have hltB3:=HAB3.out.lt;have hlt03:w.heap.size<wc.heap.size:=by omega
     have f0:=HAB3.out.f 0;have f1:=HAB3.out.f 1;have f2:=HAB3.out.f 2;have f3:=HAB3.out.f 3;by_cases h0:C=0
     ·subst h0;obtain⟨yx,hy1,hy2,hy3,hy0,hy4,hy5⟩:=HTR3.out.at (i:=i) (by rw[HTkL.out];exact hiN);clear hy0 hy2;have HTR4:Hid (TR 93 (wc.setCell ⟨g,i,none⟩ (.slice a6 n6 c6)) w0.heap.size (w.heap.size+2) (.slice (some ⟨g,0,none⟩) N cap') (vs.set i (a6,n6,c6)) (caT Ts (l.take (k+1)))):=by
       have:=HTR3.out.put (i:=i) (x:=(a6,n6,c6)) HG3.out (HOFF.out g hx5) (fun b h1 h2=>HOFF.out b (by omega));rw[(cs_take hkl HCA.out).2,←HTK.out,HLK.out,caT,caT,HDN.out.2];have e7:(y0-1).toNat=i:=by have:=HI.out;omega
       rw[e7];exact this
      have HCA4:Hid (caN S Ts (l.take (k+1))=0):=by
       show _=_;rw[(cs_take hkl HCA.out).1,←HTK.out,HLK.out,caN];show (if swB S y0=true then (if doN (taT Tk y0) ya ⟨p,m,b,q,s,v⟩=0 then _ else _) else _)=_;rw[if_pos (sw_of.2 ⟨by have:=HI.out;omega,by have:=HI.out;have:=HNS.out;omega⟩),HDN.out.1,←HC.out,if_pos rfl,caN]
      have HAB4:Hid (AB (wc.setCell ⟨g,i,none⟩ (.slice a6 n6 c6)) w.heap.size S (.slice ao n cap) (.slice ao2 n2 cap2) (.slice ao3 n3 cap3)):=HAB3.out.grown (grown_set wc g i (.slice a6 n6 c6)) (fun b hb=>by cases hb;exact hy4);have HB4:Hid (Below w.heap.size w (wc.setCell ⟨g,i,none⟩ (.slice a6 n6 c6))):=HB3.out.setCell (p:=⟨g,i,none⟩) (show w.heap.size≤g by omega) _;go_wp2;go_roundw
      case rel=>exact⟨k+1,vs.set i (a6,n6,c6),by omega,by go_num,HCA4.out,HTR4.out,HVO.out.set (fun b hb=>HOFF.out b (by have:=(HQ.out b hb).1;omega)),HAB4.out,HB4.out⟩
      case measure=>simp[intOf];omega
     have HNZ:Hid (C≠0):=h0;have HXC2:Hid (X=C):=by
      show _=_;rw[HXI.out,HDN.out.1,←HC.out,if_neg h0]
     have e9:(C==0)=false:=by simpa using h0
     have e10:(C != 0)=true:=by rw[bne,e9];rfl
     clear h0;go_wp2;refine bodyPost_ret (v:=.tuple #[.agg #[.int i64 0,.slice none 0 0,.slice none 0 0,.slice none 0 0],.int i64 C]) (by simp[results,results11,go_sem, *]) rfl ?_;rw[HXC2.out];exact⟨_,_,_,by rw[nvS,nvV,nvV,if_neg (HNZ.out),if_neg (HNZ.out),if_neg (HNZ.out)],⟨[],by rw[nvL,if_neg (HNZ.out)];exact⟨tr_nil _ _ _ _,fun x h=>absurd h (by simp)⟩⟩,below_pn4 HB3.out (w.heap.size+1) (by omega) _ _ _ _⟩
   have HNZ:Hid (RN≠0):=hR;have HXC2:Hid (X=RN):=by
    show _=_;have e8:doN (taT Tk y0) ya ⟨p,m,b,q,s,v⟩=RN:=(do_ru2 (r:=⟨p,m,b,q,s,v⟩) HTO.out (show ruN p m b q s v≠0 by rw[←HRN.out];exact hR)).trans HRN.out.symm;rw[HXI.out,e8,if_neg hR]
   have e9:(RN==0)=false:=by simpa using hR
   have e10:(RN != 0)=true:=by rw[bne,e9];rfl
   clear hR;go_wp2;refine bodyPost_ret (v:=.tuple #[.agg #[.int i64 0,.slice none 0 0,.slice none 0 0,.slice none 0 0],.int i64 RN]) (by simp[results,results11,go_sem, *]) rfl ?_;rw[HXC2.out];exact⟨_,_,_,by rw[nvS,nvV,nvV,if_neg (HNZ.out),if_neg (HNZ.out),if_neg (HNZ.out)],⟨[],by rw[nvL,if_neg (HNZ.out)];exact⟨tr_nil _ _ _ _,fun x h=>absurd h (by simp)⟩⟩,below_pn4 HB2.out (w.heap.size+1) (by omega) _ _ _ _⟩
  obtain rfl:k=n4:=by omega
  have HX0:Hid (X=0):=by
   show _=_;have:=HCA.out;rw[←HN.out,List.take_length] at this;rw[HXC.out,this]
  have HTE:Hid (Tk=caT Ts l):=by
   show _=_;rw[HTK.out,←HN.out,List.take_length]
  obtain⟨q0,q1,q2,q3⟩:=hAB.r;obtain⟨n0,n1,n2_,n3_⟩:=hAB.n;have hltB:=hAB.lt;have hlt0:w.heap.size<wr.heap.size:=by omega
  have f0:=hAB.f 0;have f1:=hAB.f 1;have f2:=hAB.f 2;have f3:=hAB.f 3;clear hB hAB;go_wp2;refine bodyPost_ret (v:=.tuple #[.agg #[.int i64 S,.slice ao n cap,.slice ao2 n2 cap2,.slice (some ⟨g,0,none⟩) N cap'],.int i64 0]) (by simp[results,results11,go_sem, *]) rfl ?_;rw[HX0.out];have hBE:=below_pn4 HB.out (w.heap.size+1) (by omega) (.int i64 S) (.slice ao n cap) (.slice ao2 n2 cap2) (.slice (some ⟨g,0,none⟩) N cap');have hTE:=(HTR.out.grown (grown_put4 wr (w.heap.size+1) (.int i64 S) (.slice ao n cap) (.slice ao2 n2 cap2) (.slice (some ⟨g,0,none⟩) N cap')) (Nat.le_trans HW0.out.size (by omega)) (by omega)).mono (B':=w.heap.size) (by omega);rw[HTE.out] at hTE;exact⟨_,_,_,rfl,⟨vs,hTE,HVO.out⟩,hBE⟩
theorem refApply_own (S:Int)(ao:AdQ)(n cap:Nat)(ao2:AdQ)(n2 cap2:Nat)(ao3:AdQ)(n3 cap3:Nat)(a4:AdQ)(n4 c4:Nat)(Ls:LkQ)(Hs:HoQ)(Ts:TsQ)(l:List Op8)(w0 w:World)
 (hT:TS w0 (.slice ao3 n3 cap3) Ts) (hw0:Below w0.heap.size w0 w) (hl:GS opE w (.slice a4 n4 c4) l) (hN:ntN S Ls Hs Ts=0):
 Calls prog 11 #[.agg #[.int i64 S,.slice ao n cap,.slice ao2 n2 cap2,.slice ao3 n3 cap3],.slice a4 n4 c4] w fun e w'=>∃b3 k3 d3,e=.returned (.tuple #[.agg #[.int i64 (nvS (cgN S Ls Hs Ts l) S),nvV (cgN S Ls Hs Ts l) (.slice ao n cap),nvV (cgN S Ls Hs Ts l) (.slice ao2 n2 cap2),.slice b3 k3 d3],.int i64 (cgN S Ls Hs Ts l)])∧(∃vs,TR 93 w' w0.heap.size w.heap.size (.slice b3 k3 d3) vs (nvL (cgN S Ls Hs Ts l) (caT Ts l)))∧Below w.heap.size w w':=by
 refine (refApply_far S ao n cap ao2 n2 cap2 ao3 n3 cap3 a4 n4 c4 Ls Hs Ts l w0 w hT hw0 hl hN (fun _=>False) (fun b h=>h.elim)).mono ?_;rintro e w' ⟨b3,k3,d3,h1,⟨vs,h2,_⟩,h3⟩;exact⟨b3,k3,d3,h1,⟨vs,h2⟩,h3⟩
def CF (w:World)(gw gf:Nat)(v:Int)(c:Value)(g o:Nat)(x:Int)(w':World):Prop:=
 Below w.heap.size w w'∧w'.cell? ⟨gw,3,none⟩=some (.int i64 v)∧w'.cell? ⟨gf,2,none⟩=some c∧w'.cell? ⟨g,o,none⟩=some (.int i64 x)
theorem CF.later {w W W':World}{gw gf:Nat}{v:Int}{c:Value}{g o:Nat}{x:Int}(hb:Below W.heap.size W W')(h:CF w gw gf v c g o x W):CF w gw gf v c g o x W':=
 ⟨h.1.trans (hb.mono h.1.size),cell_later hb h.2.1,cell_later hb h.2.2.1,cell_later hb h.2.2.2⟩
theorem rfits_any (k:Int)(f t:ByteArray)(v:Int)(m:ByteArray)(a:Int)(b:ByteArray)(ao:AdQ)(n cap:Nat)(l:HpQ)(w:World)(hl:GS hopE w (.slice ao n cap) l):
 Calls prog 28 #[.agg #[.int i64 k,.string f,.string t,.int i64 v],.string m,.agg #[.int i64 a,.string b,.slice ao n cap]] w fun e w'=>e=.returned (.bool (fiB ⟨k,f,t,v⟩ m (a,b,l)))∧Below w.heap.size w w':=by
 have hX:=gbox_new w k f t v a b (.slice ao n cap);obtain⟨w0,hw0⟩:∃W,(w.alloc (.cells #[.int i64 k,.string f,.string t,.int i64 v] 80)).alloc (.cells #[.int i64 a,.string b,.slice ao n cap] 83)=W:=⟨_,rfl⟩;rw[hw0] at hX;have HX:Hid (GBox w w0 k f t v a b (.slice ao n cap)):=hX;have HW0:Hid ((w.alloc (.cells #[.int i64 k,.string f,.string t,.int i64 v] 80)).alloc (.cells #[.int i64 a,.string b,.slice ao n cap] 83)=w0):=hw0;have HL:Hid (∀W,Below w.heap.size w W→GS hopE W (.slice ao n cap) l):=fun W hb=>hl.later hb
 have HB0:Hid (Below w.heap.size w w0):=hX.below;obtain⟨R,hR⟩:∃R,R=fiB ⟨k,f,t,v⟩ m (a,b,l):=⟨_,rfl⟩;have HR:Hid (R=fiB ⟨k,f,t,v⟩ m (a,b,l)):=hR;rw[←hR];clear hX hw0 hl hR;go_enter func28,ntmps28;go_upto_region 1 with fail;rw[HW0.out];obtain⟨_,⟨x0,x1,x2,x3⟩,y0,y1,y2⟩:=HX.out;clear HW0;by_cases k4:k=4
 ·subst k4;have HR1:Hid (R = !(a==4)):=by
   show _=_;rw[HR.out,fiB,if_pos (show abW ⟨4,f,t,v⟩ m=true from rfl)];simp
  go_wp2;go_ret;exact⟨by rw[HR1.out];rfl,HB0.out⟩
 obtain⟨AB,hAB⟩:∃q,q=(m.toList==f.toList):=⟨_,rfl⟩;have hab2:abW ⟨k,f,t,v⟩ m=AB:=by
  rw[hAB,abW,←beq_toListBytes];simp only[show (k==4)=false from by simp[k4],Bool.false_or];cases h:(f==m) with
  | true=>rw[ba_eq.1 h];exact (ba_eq.2 rfl).symm
  | false =>
    cases h2:(m==f) with
    | false=>rfl
    | true=>rw[ba_eq.1 h2,ba_eq.2 rfl] at h;cases h
 have hne:(m.toList==f.toList)=AB:=hAB.symm;have HAB:Hid (abW ⟨k,f,t,v⟩ m=AB):=hab2;clear hAB hab2;cases AB with
 | false =>
   have HR1:Hid (R=true):=by
    show _=_;rw[HR.out,fi_off HAB.out]
   have hne2:(m.toList==f.toList)=false:=hne;clear hne;go_wp2;go_ret;exact⟨by rw[HR1.out];rfl,HB0.out⟩
 | true =>
   have hne2:(m.toList==f.toList)=true:=hne;clear hne;obtain⟨TH,hTH⟩:∃q,q=(a==1&&b.toList==t.toList):=⟨_,rfl⟩;have hTW:thW ⟨k,f,t,v⟩ (a,b,l)=TH:=by rw[hTH,thW,←beq_toListBytes]
   have HR1:Hid (R=if k=1 then TH else if k=2 then !TH else if k=3 then (!TH || haW v l) else if k=4 then !(a==4) else true):=by
    show _=_;rw[HR.out,fiB,if_pos HAB.out,hTW]
   have HTH:Hid ((a==1&&b.toList==t.toList)=TH):=hTH.symm;clear hTH hTW HR HAB;go_upto_region 5 with fail;clear hne2;rw[show (k==4)=false from by simp[k4]]
   go_cut [7] from 19 to 29 (fun q w'=>q=.bool TH∧w'=w0)
   case first =>
    by_cases a1:a=1
    ·subst a1;have h2:=HTH.out;rw[show ((1:Int)==1&&b.toList==t.toList)=(b.toList==t.toList) from rfl] at h2
     go_wp2_with fail
     go_meet
     exact⟨by rw[←h2],rfl⟩
    have h2:=HTH.out;rw[show (a==1)=false from by simp[a1],Bool.false_and] at h2;subst h2
    go_wp2_with fail
    go_meet
    exact⟨rfl,rfl⟩
   case rest =>
   obtain⟨rfl,hwc⟩:=hcut;subst hwc;by_cases k1:k=1
   ·subst k1;have HR2:Hid (R=TH):=by
     show _=_;rw[HR1.out,if_pos rfl]
    clear HR1;go_wp2;go_ret;exact⟨by rw[HR2.out];rfl,HB0.out⟩
   by_cases k2:k=2
   ·subst k2;have HR2:Hid (R = !TH):=by
     show _=_;rw[HR1.out,if_neg (by decide),if_pos rfl]
    clear HR1;go_wp2;go_ret;exact⟨by rw[HR2.out];rfl,HB0.out⟩
   by_cases k3:k=3
   ·subst k3;have HR2:Hid (R=(!TH || haW v l)):=by
     show _=_;rw[HR1.out,if_neg (by decide),if_neg (by decide),if_pos rfl]
    clear HR1;cases TH with
    | false =>
      go_wp2;go_ret;exact⟨by rw[HR2.out];rfl,HB0.out⟩
    | true =>
      obtain⟨_,_,_,e5,hGn,hGm,_,hGa⟩:=(HL.out _ HB0.out).form;cases e5;have HGN:Hid (l.length=n):=hGn;have HGA:Hid (0<n→∃g o,ao=some ⟨g,o,none⟩∧GAt hopE wc g o l∧cap≤maxLen):=hGa;have hnm:n≤maxLen:=hGm;unfold maxLen at hnm;clear hGn hGm hGa;go_wp2
      go_loopw [8] (fun i wr=>∃j:Nat,j≤n∧i=.int i64 j∧(l.take j).any (fun h=>h.1.1==v)=false∧Below wc.heap.size wc wr) (fun i _=>n-(intOf i).toNat)
      case atStart=>exact⟨0,by omega,rfl,by simp,bRQ _ _⟩
      case round =>
       obtain⟨j,hj,rfl,hno,hB⟩:=hrel;have HB:Hid (Below wc.heap.size wc wr):=hB;have HBw:Hid (Below w.heap.size w wr):=HB0.out.trans (hB.mono HB0.out.size);have HNO:Hid ((l.take j).any (fun h=>h.1.1==v)=false):=hno;clear hno x0 x1 x2 x3 y0 y1 y2;obtain⟨_,⟨x0,x1,x2,x3⟩,y0,y1,y2⟩:=HX.out.later hB;by_cases hlt:j<n
       ·obtain⟨g,o,hao,hc,_⟩:=HGA.out (by omega);subst hao;obtain⟨h1,h2,h3,hkl,hLk,q0,q1,q2⟩:=hop_at (hc.later hB) HGN.out hlt;have HLk:Hid (l[j]=((h1,h2),h3)):=hLk;have HCF:Hid (CF wr w.heap.size (w.heap.size+1) v (.slice (some ⟨g,o,none⟩) n cap) g (o+j*3) h1 wr):=⟨bRQ _ _,x3,y2,q0⟩;have kb0:(0:Int)≤(j:Int):=by omega
        have kb1:(j:Int)<(n:Int):=by omega
        clear hc hLk hB q0 q1 q2;go_upto_region 15 with fail;clear x0 x1 x2 x3 y0 y1 y2;obtain⟨P,hP⟩:∃q,q=(h1==v):=⟨_,rfl⟩;have HP:Hid ((h1==v)=P):=hP.symm
        go_cut [61] from 52 to 62 (fun q w'=>q=.bool P∧Below wr.heap.size wr w')
        case first =>
         refine wp_region_quiet (C:=CF wr w.heap.size (w.heap.size+1) v (.slice (some ⟨g,o,none⟩) n cap) g (o+j*3) h1) (by kernel_rfl) (by kernel_rfl) (CF.later (W:=wr) (Below.drew (bRQ _ _)) HCF.out) ?_;simp only[List.toList_toArray];go_big_quiet_want;refine qv (.pointer (some ⟨w.heap.size+1,2,none⟩)) ?_ ?_
         ·rintro w' ⟨z0,z1,z2,z3⟩;go_simp
         simp only[Act.put,AP];go_big_quiet_on;go_big_quiet_want;refine qv (.slice (some ⟨g,o,none⟩) n cap) ?_ ?_
         ·rintro w' ⟨z0,z1,z2,z3⟩;go_simp
         simp only[Act.put,AP];go_big_quiet_on;go_big_quiet_want;refine qv (.int i64 (j:Int)) ?_ ?_
         ·rintro w' ⟨z0,z1,z2,z3⟩;go_simp
         simp only[Act.put,AP];go_big_quiet_on;go_big_quiet_want;refine qv (.pointer (some ⟨g,o+j*3,none⟩)) ?_ ?_
         ·rintro w' ⟨z0,z1,z2,z3⟩;go_simp
         simp only[Act.put,AP];go_big_quiet_on;go_big_quiet_want;refine qv (.pointer (some ⟨g,o+j*3,none⟩)) ?_ ?_
         ·rintro w' ⟨z0,z1,z2,z3⟩;go_simp
         simp only[Act.put,AP];go_big_quiet_on;go_big_quiet_want;refine qv (.pointer (some ⟨g,o+j*3,none⟩)) ?_ ?_
         ·rintro w' ⟨z0,z1,z2,z3⟩;go_simp
         simp only[Act.put,AP];go_big_quiet_on;go_big_quiet_want;refine qv (.int i64 h1) ?_ ?_
         ·rintro w' ⟨z0,z1,z2,z3⟩;go_simp
         simp only[Act.put,AP];go_big_quiet_on;go_big_quiet_want;refine qv (.pointer (some ⟨w.heap.size,3,none⟩)) ?_ ?_
         ·rintro w' ⟨z0,z1,z2,z3⟩;go_simp
         simp only[Act.put,AP];go_big_quiet_on;go_big_quiet_want;refine qv (.int i64 v) ?_ ?_
         ·rintro w' ⟨z0,z1,z2,z3⟩;go_simp
         simp only[Act.put,AP];go_big_quiet_on;go_big_quiet_want;refine qv (.bool (h1==v)) ?_ ?_
         ·rintro w' ⟨z0,z1,z2,z3⟩;go_simp
         simp only[Act.put,AP];go_big_quiet_on;refine wpQuiet_nil ?_;intro w' hC;have HBY:Hid (Below wr.heap.size wr w'):=hC.1;clear hC
         go_wp2_with fail
         go_meet
         exact⟨by rw[hP],HBY.out⟩
        case rest =>
         obtain⟨rfl,hbc⟩:=hcut;have HBd:Hid (Below _ _ wc):=HB.out.trans (hbc.mono HB.out.size);clear hbc hP;cases P with
         | false =>
           go_wp2;go_roundw
           case rel=>exact⟨j+1,by omega,by go_num,any_nextG hkl HNO.out (by rw[HLk.out];exact HP.out),HBd.out⟩
           case measure=>simp[intOf];omega
         | true =>
           have HR3:Hid (R=true):=by
            show _=_;rw[HR2.out];have:haW v l=true:=any_hitG hkl (by rw[HLk.out];exact HP.out);rw[this];rfl
           go_wp2;go_ret;exact⟨by rw[HR3.out];rfl,HB0.out.trans (HBd.out.mono HB0.out.size)⟩
       obtain rfl:j=n:=by omega
       have HR3:Hid (R=false):=by
        show _=_;rw[HR2.out];have h1:=HNO.out;rw[←HGN.out,List.take_length] at h1;have:haW v l=false:=h1;rw[this];rfl
       go_wp2;go_ret;exact⟨by rw[HR3.out];rfl,HBw.out⟩
   have HR2:Hid (R=true):=by
    show _=_;rw[HR1.out,if_neg k1,if_neg k2,if_neg k3,if_neg k4]
   clear HR1;go_wp2;go_ret;exact⟨by rw[HR2.out];rfl,HB0.out⟩
theorem FTs.len {w:World}{ao:AdQ}{n cap:Nat}{L:List Ft}(h:FTs w (.slice ao n cap) L):L.length=n:=by
 obtain⟨Z,h1,h2,_⟩:=h;rw[←h2,List.length_map];exact h1.len
theorem FTs.form {w:World}{v:Value}{L:List Ft}(h:FTs w v L):∃ao n cap,v=.slice ao n cap∧L.length=n∧n≤maxLen∧n≤cap:=by
 obtain⟨Z,h1,h2,_⟩:=id h;obtain⟨ao,n,cap,rfl,_,h4,h5,_⟩:=h1.form;exact⟨ao,n,cap,rfl,h.len,h4,h5⟩
theorem FTs.at {w:World}{ao:AdQ}{n cap:Nat}{L:List Ft}(h:FTs w (.slice ao n cap) L){k:Nat}(hk:k<n):∃(g o:Nat) (x:Ft) (a3:AdQ) (n3 c3:Nat),ao=some ⟨g,o,none⟩∧L[k]?=some x∧w.cell? ⟨g,o+k*3,none⟩=some (.int i64 x.1)∧w.cell? ⟨g,o+k*3+1,none⟩=some (.string x.2.1)∧w.cell? ⟨g,o+k*3+2,none⟩=some (.slice a3 n3 c3)∧GS hopE w (.slice a3 n3 c3) x.2.2:=by
 obtain⟨Z,h1,h2,h3⟩:=h;obtain⟨_,_,_,e,hn,_,_,ha⟩:=h1.form;cases e;obtain⟨g,o,rfl,hG,_⟩:=ha (by omega);have hkZ:k<Z.length:=by omega
 have hv:=hG k hkZ;refine⟨g,o,Z[k].1,Z[k].2.1,Z[k].2.2.1,Z[k].2.2.2,rfl,?_,hv 0 _ rfl,hv 1 _ rfl,hv 2 _ rfl,h3 _ (List.getElem_mem hkZ)⟩;rw[←h2,List.getElem?_map,List.getElem?_eq_getElem hkZ];rfl
structure FT2 (w W:World)(V1:Int)(V2:ByteArray)(u:Value)(U1:Int)(U2:ByteArray)(v:Value):Prop where
 below:Below w.heap.size w W
 a0:W.cell? ⟨w.heap.size,0,none⟩=some (.int i64 V1)
 a1:W.cell? ⟨w.heap.size,1,none⟩=some (.string V2)
 a2:W.cell? ⟨w.heap.size,2,none⟩=some u
 b0:W.cell? ⟨w.heap.size+1,0,none⟩=some (.int i64 U1)
 b1:W.cell? ⟨w.heap.size+1,1,none⟩=some (.string U2)
 b2:W.cell? ⟨w.heap.size+1,2,none⟩=some v
theorem FT2.later {w W W':World}{V1:Int}{V2:ByteArray}{u:Value}{U1:Int}{U2:ByteArray}{v:Value}(h:FT2 w W V1 V2 u U1 U2 v)(hb:Below W.heap.size W W'):FT2 w W' V1 V2 u U1 U2 v:=
 ⟨h.below.trans (hb.mono h.below.size),cell_later hb h.a0,cell_later hb h.a1,cell_later hb h.a2,cell_later hb h.b0,cell_later hb h.b1,cell_later hb h.b2⟩
theorem ft2_new (w:World)(V1:Int)(V2:ByteArray)(u:Value)(U1:Int)(U2:ByteArray)(v:Value):FT2 w ((w.alloc (.cells #[.int i64 V1,.string V2,u] 83)).alloc (.cells #[.int i64 U1,.string U2,v] 83)) V1 V2 u U1 U2 v:=by
 have e1:(w.alloc (.cells #[.int i64 V1,.string V2,u] 83)).heap.size=w.heap.size+1:=by simp
 have hb:∀(W:World) (o:Obj),Below W.heap.size W (W.alloc o):=fun W o=>(bRQ _ _).alloc (nLQ _) _
 have ha:=(vat_new w [.int i64 V1,.string V2,u] 83).later (hb _ (Obj.cells #[.int i64 U1,.string U2,v] 83));have hs:=vat_new (w.alloc (.cells #[.int i64 V1,.string V2,u] 83)) [.int i64 U1,.string U2,v] 83;rw[e1] at hs;exact⟨((bRQ _ _).alloc (nLQ _) _).alloc (by rw[e1];omega) _,ha 0 _ rfl,ha 1 _ rfl,ha 2 _ rfl,hs 0 _ rfl,hs 1 _ rfl,hs 2 _ rfl⟩
def CHs (wr:World)(g q:Nat)(x:Ft)(a3:AdQ)(n3 c3 f:Nat)(y:Ft)(a4:AdQ)(n4 c4:Nat)(w':World):Prop:=
 Below wr.heap.size wr w'∧w'.cell? ⟨g,q,none⟩=some (.int i64 x.1)∧w'.cell? ⟨g,q+1,none⟩=some (.string x.2.1)∧w'.cell? ⟨g,q+2,none⟩=some (.slice a3 n3 c3)∧w'.cell? ⟨f,0,none⟩=some (.int i64 y.1)∧w'.cell? ⟨f,1,none⟩=some (.string y.2.1)∧w'.cell? ⟨f,2,none⟩=some (.slice a4 n4 c4)∧GS hopE w' (.slice a3 n3 c3) x.2.2∧GS hopE w' (.slice a4 n4 c4) y.2.2
theorem CHs.later {wr W W':World}{g q:Nat}{x:Ft}{a3:AdQ}{n3 c3 f:Nat}{y:Ft}{a4:AdQ}{n4 c4:Nat}(hb:Below W.heap.size W W')(h:CHs wr g q x a3 n3 c3 f y a4 n4 c4 W):CHs wr g q x a3 n3 c3 f y a4 n4 c4 W':=by
 obtain⟨h0,h1,h2,h3,h4,h5,h6,h7,h8⟩:=h;exact⟨h0.trans (hb.mono h0.size),cell_later hb h1,cell_later hb h2,cell_later hb h3,cell_later hb h4,cell_later hb h5,cell_later hb h6,h7.later hb,h8.later hb⟩
def hpL:((Int×Int)×Int)→((Int×Int)×Int)→Bool:=lexP (lexP (fun (a b:Int)=>decide (a<b)) (fun (a b:Int)=>decide (a<b))) (fun (a b:Int)=>decide (a<b))
theorem fa_1 {V1 U1:Int}{V2 U2:ByteArray}{L M:HpQ}(h:V1≠U1):faL (V1,V2,L) (U1,U2,M)=decide (V1<U1):=by
 show (if V1=U1 then _ else _)=_;rw[if_neg h]
theorem fa_2 {V1:Int}{V2 U2:ByteArray}{L M:HpQ}(h:V2≠U2):faL (V1,V2,L) (V1,U2,M)=Op.bytesLess V2.toList U2.toList:=by
 show (if V1=V1 then (if V2=U2 then _ else _) else _)=_;rw[if_pos rfl,if_neg h];rfl
theorem fa_3 {V1:Int}{V2:ByteArray}{L M:HpQ}:faL (V1,V2,L) (V1,V2,M)=lexL hpL L M:=by
 show (if V1=V1 then (if V2=V2 then _ else _) else _)=_;rw[if_pos rfl,if_pos rfl];rfl
theorem lex_at {L M:HpQ}{k:Nat}(h1:k<L.length)(h2:k<M.length):lexL hpL (L.drop k) (M.drop k)=if L[k]=M[k] then lexL hpL (L.drop (k+1)) (M.drop (k+1)) else hpL L[k] M[k]:=by
 rw[List.drop_eq_getElem_cons h1,List.drop_eq_getElem_cons h2];rfl
theorem lex_end {L M:HpQ}{k:Nat}(h1:k≤L.length)(h2:k≤M.length)(h:k=L.length∨k=M.length):lexL hpL (L.drop k) (M.drop k)=decide (L.length<M.length):=by
 by_cases e:k=M.length
 ·subst e;rw[List.drop_length];have:¬L.length<M.length:=by omega
  simp[lexL,this]
 have e1:k=L.length:=by omega
 subst e1;rw[List.drop_length,List.drop_eq_getElem_cons (by omega)];have:L.length<M.length:=by omega
 simp[lexL,this]
theorem less_any (V1:Int)(V2:ByteArray)(ao:AdQ)(n cap:Nat)(U1:Int)(U2:ByteArray)(bo:AdQ)(m cbp:Nat)(L M:HpQ)(w:World)(hn1000:L.length≤1000)
 (h1:GS hopE w (.slice ao n cap) L) (h2:GS hopE w (.slice bo m cbp) M):
 Calls prog 120 #[.agg #[.int i64 V1,.string V2,.slice ao n cap],.agg #[.int i64 U1,.string U2,.slice bo m cbp]] w fun e w'=>e=.returned (.bool (faL (V1,V2,L) (U1,U2,M)))∧Below w.heap.size w w':=by
 have hn:=h1.len;have hm:=h2.len;obtain⟨_,_,_,e1,_,_,_,ha⟩:=h1.form;cases e1;obtain⟨_,_,_,e2,_,_,_,hb⟩:=h2.form;cases e2;have HN:Hid (L.length=n):=hn;have HM:Hid (M.length=m):=hm;have HA:Hid (0<n→∃g o,ao=some ⟨g,o,none⟩∧GAt hopE w g o L∧cap≤maxLen):=ha;have HB:Hid (0<m→∃g o,bo=some ⟨g,o,none⟩∧GAt hopE w g o M∧cbp≤maxLen):=hb;have hm1000:n≤1000:=by omega
 have hX:=ft2_new w V1 V2 (.slice ao n cap) U1 U2 (.slice bo m cbp);obtain⟨w0,hw0⟩:∃W,(w.alloc (.cells #[.int i64 V1,.string V2,.slice ao n cap] 83)).alloc (.cells #[.int i64 U1,.string U2,.slice bo m cbp] 83)=W:=⟨_,rfl⟩;rw[hw0] at hX;have HX:Hid (FT2 w w0 V1 V2 (.slice ao n cap) U1 U2 (.slice bo m cbp)):=hX;have HW0:Hid ((w.alloc (.cells #[.int i64 V1,.string V2,.slice ao n cap] 83)).alloc (.cells #[.int i64 U1,.string U2,.slice bo m cbp] 83)=w0):=hw0;obtain⟨R,hR⟩:∃R,R=faL (V1,V2,L) (U1,U2,M):=⟨_,rfl⟩;have HR:Hid (R=faL (V1,V2,L) (U1,U2,M)):=hR;rw[←hR];clear hn hm h1 h2 ha hb hX hw0 hn1000 hR;go_enter func120,ntmps120;go_upto_region 1 with fail;rw[HW0.out];clear HW0;obtain⟨_,a0,a1,a2,b0,b1,b2⟩:=HX.out;have HB0:Hid (Below w.heap.size w w0):=HX.out.below;by_cases q1:V1=U1
 ·by_cases q2:V2=U2
  ·subst q1;subst q2;have HRS:Hid (R=lexL hpL L M):=HR.out.trans fa_3;go_wp2;clear a0 a1 a2 b0 b1 b2
   go_loopw [5] (fun i wr=>∃k:Nat,(k≤n∧k≤m)∧i=.int i64 k∧R=lexL hpL (L.drop k) (M.drop k)∧FT2 w wr V1 V2 (.slice ao n cap) V1 V2 (.slice bo m cbp)) (fun i _=>n-(intOf i).toNat)
   case atStart=>exact⟨0,by omega,rfl,HRS.out,HX.out⟩
   case round =>
    obtain⟨k,⟨hk,hk2⟩,rfl,hRk,hF⟩:=hrel;have HRK:Hid (R=lexL hpL (L.drop k) (M.drop k)):=hRk;have HF:Hid (FT2 w wr V1 V2 (.slice ao n cap) V1 V2 (.slice bo m cbp)):=hF;obtain⟨hB,a0,a1,a2,b0,b1,b2⟩:=hF;have HBe:Hid (Below w.heap.size w wr):=hB;clear hRk;by_cases hlt:k<n
    ·by_cases hlm:k<m
     ·obtain⟨g,o,hao,hc,_⟩:=HA.out (by omega);subst hao;obtain⟨g',o',hbo,hd,_⟩:=HB.out (by omega);subst hbo;obtain⟨x0,x1,x2,hkl,hLk,c0,c1,c2⟩:=hop_at (hc.later hB) HN.out hlt;obtain⟨y0,y1,y2,hkm,hMk,d0,d1,d2⟩:=hop_at (hd.later hB) HM.out hlm;have HRX:Hid (R=if ((x0,x1),x2)=((y0,y1),y2) then lexL hpL (L.drop (k+1)) (M.drop (k+1)) else hpL ((x0,x1),x2) ((y0,y1),y2)):=by
       show _=_;rw[HRK.out,lex_at hkl hkm,hLk,hMk]
      have m1:g<wr.heap.size:=bLQ _ _ c0;have m2:g'<wr.heap.size:=bLQ _ _ d0;have m3:w.heap.size<wr.heap.size:=bLQ _ _ a0;have m4:w.heap.size+1<wr.heap.size:=bLQ _ _ b0;have p1:g'≠wr.heap.size:=by omega
      have p2:w.heap.size+1≠wr.heap.size:=by omega
      have p3:g≠wr.heap.size:=by omega
      have kb0:(0:Int)≤(k:Int):=by omega
      have kb1:(k:Int)<(n:Int):=by omega
      have kb2:(k:Int)<(m:Int):=by omega
      have dk1:decide ((k:Int)<(n:Int))=true:=by simp;omega
      have dk2:decide ((k:Int)<(m:Int))=true:=by simp;omega
      have HBA:Hid (∀o o2:Obj,Below wr.heap.size wr ((wr.alloc o).alloc o2)):=fun o o2=>((bRQ _ _).alloc (nLQ _) _).alloc (by simp) _
      clear hc hd hLk hMk hB;by_cases e0:x0=y0
      ·by_cases e1:x1=y1
       ·by_cases e2:x2=y2
        ·subst e0;subst e1;subst e2;have HRN:Hid (R=lexL hpL (L.drop (k+1)) (M.drop (k+1))):=by
          show _=_;rw[HRX.out,if_pos rfl]
         go_wp2;go_roundw
         case rel=>exact⟨k+1,by omega,by go_num,HRN.out,HF.out.later (HBA.out _ _)⟩
         case measure=>simp[intOf];omega
        subst e0;subst e1;have HRN:Hid (R=decide (x2<y2)):=by
         show _=_;rw[HRX.out,if_neg (by simp[e2])];simp[hpL,lexP]
        have de:(x2==y2)=false:=by simpa using e2
        go_wp2;go_ret;exact⟨by rw[HRN.out];rfl,HBe.out.trans ((HBA.out _ _).mono HBe.out.size)⟩
       subst e0;have HRN:Hid (R=decide (x1<y1)):=by
        show _=_;rw[HRX.out,if_neg (by simp[e1])];simp[hpL,lexP,e1]
       have de:(x1==y1)=false:=by simpa using e1
       go_wp2;go_ret;exact⟨by rw[HRN.out];rfl,HBe.out.trans ((HBA.out _ _).mono HBe.out.size)⟩
      have HRN:Hid (R=decide (x0<y0)):=by
       show _=_;rw[HRX.out,if_neg (by simp[e0])];simp[hpL,lexP,e0]
      have de:(x0==y0)=false:=by simpa using e0
      go_wp2;go_ret;exact⟨by rw[HRN.out];rfl,HBe.out.trans ((HBA.out _ _).mono HBe.out.size)⟩
     have HRN:Hid (R=decide (n<m)):=by
      show _=_;rw[HRK.out,lex_end (by rw[HN.out];exact hk) (by rw[HM.out];exact hk2) (.inr (by rw[HM.out];omega)),HN.out,HM.out]
     have dk1:decide ((k:Int)<(n:Int))=true:=by simp;omega
     have dk2:decide ((k:Int)<(m:Int))=false:=by simp;omega
     clear hB;go_wp2;go_ret;exact⟨by rw[HRN.out];rfl,HBe.out⟩
    have HRN:Hid (R=decide (n<m)):=by
     show _=_;rw[HRK.out,lex_end (by rw[HN.out];exact hk) (by rw[HM.out];exact hk2) (.inl (by rw[HN.out];omega)),HN.out,HM.out]
    have dk1:decide ((k:Int)<(n:Int))=false:=by simp;omega
    clear hB;go_wp2;go_ret;exact⟨by rw[HRN.out];rfl,HBe.out⟩
  subst q1;have HRN:Hid (R=Op.bytesLess V2.toList U2.toList):=HR.out.trans (fa_2 q2);have d2:(V2.toList==U2.toList)=false:=by
   cases e:(V2.toList==U2.toList)
   ·rfl
   exact absurd (nm_inj (eq_of_beq e)) q2
  go_wp2;go_ret;exact⟨by rw[HRN.out];rfl,HB0.out⟩
 have HRN:Hid (R=decide (V1<U1)):=HR.out.trans (fa_1 q1);have d1:(V1==U1)=false:=by simpa using q1
 go_wp2;go_ret;exact⟨by rw[HRN.out];rfl,HB0.out⟩
end
end Go.Proofs.YtiokpmlhmlcojaaGreatDoor
