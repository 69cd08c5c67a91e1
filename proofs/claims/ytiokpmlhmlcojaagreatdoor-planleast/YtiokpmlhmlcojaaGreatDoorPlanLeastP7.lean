/- Contracts and facts on the way to PlanLeast, joined into one text: MixWalk5, MixWalk6, MixDuring, MixFts, RefWalkMath, RefIn, RefTouched, PlanMath3, SlWish, BrokenBox, MixBroken, MixSeenMath, MixSafe, PlanTask, PlanRound. -/
import Derived.Test.YtiokpmlhmlcojaaGreatDoorPlanLeastP6
namespace Go.Proofs.YtiokpmlhmlcojaaGreatDoor
set_option linter.unusedSimpArgs false
set_option linter.unusedVariables false
set_option maxHeartbeats 16000000
set_option maxRecDepth 100000
open Go.Proofs.Tryz
open IntKind (i64)
section
open Go.RowKit Go.Shelf
theorem LegAt.kb {W W':World}{g:Nat}{a:Int}{b:ByteArray}{c d e:Int}{p:Nat→Prop}(h:LegAt W g a b c d e)(hk:Kb p W W')(hp:p g):LegAt W' g a b c d e:=⟨hk.at h.1 hp,hk.at h.2.1 hp,hk.at h.2.2.1 hp,hk.at h.2.2.2.1 hp,hk.at h.2.2.2.2 hp⟩
theorem LegAt.lt {W:World}{g:Nat}{a:Int}{b:ByteArray}{c d e:Int}(h:LegAt W g a b c d e):g<W.heap.size:=bLQ W ⟨g,0,none⟩ h.1
theorem legB_eq {g o:Int×ByteArray×((Int×Int)×Int)}(h:legB g o=true):g=o:=by
 obtain⟨a,b,⟨c,d⟩,e⟩:=g;obtain⟨a',b',⟨c',d'⟩,e'⟩:=o;simp only[legB,Bool.and_eq_true,ba_eq,beq_iff_eq] at h;obtain⟨rfl,rfl,rfl,rfl,rfl⟩:=h;rfl
theorem legB_same (g:Int×ByteArray×((Int×Int)×Int)):legB g g=true:=by
 obtain⟨a,b,⟨c,d⟩,e⟩:=g;have e:(b==b)=true:=ba_eq.2 rfl;simp[legB,e]
section
variable {l lo n₀:Nat}{J:Nat→(Nat→Prop)→World→Prop}{Jx:World→Prop}{L:List Ft}{w:World}{vo vy:Value}{m:Nat}{Ls:LkQ}{Hs:HoQ}{As Bs:TsQ}
theorem walk_ok (cx:MCx l lo n₀ J Jx L w vo vy m Ls Hs As Bs)(n:Nat)(hT:TkOK l lo n₀ J Jx L w vo vy m Ls Hs As Bs n):WkOK l lo n₀ J Jx L w vo vy m Ls Hs As Bs (n+1):=by
 intro A k X Y bk lst met hlen hn1 h0 hI hsp hhd hL;obtain⟨_,_,_,e5,hGn,_,_,hGa⟩:=hI.h.gs.form;cases e5;obtain⟨g5,o5,hao5,hc5,_⟩:=hGa h0;simp only[Option.some.injEq,Addr.mk.injEq,and_true] at hao5;obtain⟨rfl,rfl⟩:=hao5;obtain⟨p0,p1,p2,hkl,hLk,c0,c1,c2⟩:=hop_at hc5 rfl (show lst.length-1<lst.length by omega);have hla:laH lst=((p0,p1),p2):=by
  have e:laH lst=lst[lst.length-1]:=by
   unfold laH;simp[List.getD,hkl]
  rw[e,hLk]
 rw[hla] at hsp hhd;have hsp2:=sp_of hsp;simp only at hsp2 hhd;have hhd2:0≤p2∧p2<16:=by simpa[hdrB] using hhd
 obtain⟨a,rfl⟩:∃a:Nat,p0=(a:Int)+1:=⟨(p0-1).toNat,by omega⟩;obtain⟨h,rfl⟩:∃h:Nat,p2=(h:Int):=⟨p2.toNat,by omega⟩;have ham:a<m:=by omega
 have ha6:a<6:=by have:=cx.m6;omega
 have hh16:h<16:=by omega
 have hsx:sxH lst=a:=by unfold sxH;rw[hla];simp
 obtain⟨q,hq⟩:∃q,q=lst.length:=⟨_,rfl⟩;obtain⟨gY,hgY⟩:∃g,g=lgA Ls Hs Bs lst:=⟨_,rfl⟩;obtain⟨gO,hgO⟩:∃g,g=lgA Ls Hs As lst:=⟨_,rfl⟩;have HAFT:Hid (∀(Ts:TsQ) (W:World),HK W bk lst→Calls prog 99 #[legV (lgT Ls Hs (taT Ts ((a:Int)+1)) (((a:Int)+1,0),(h:Int))),.slice (some ⟨bk,0,none⟩) lst.length 24] W fun e w'=>e=.returned (legV (lgA Ls Hs Ts lst))∧Below W.heap.size W w'):=fun Ts W hW=>by
  have h1:=after_any (lgT Ls Hs (taT Ts ((a:Int)+1)) (((a:Int)+1,0),(h:Int))) (some ⟨bk,0,none⟩) lst.length 24 lst W hW.gs;have e1:lgA Ls Hs Ts lst=afL (lgT Ls Hs (taT Ts ((a:Int)+1)) (((a:Int)+1,0),(h:Int))) lst:=by
   unfold lgA;rw[hla];rfl
  rw[e1];exact h1
 have HAY:=HAFT.out Bs;have HAO:=HAFT.out As;rw[←hgY] at HAY;rw[←hgO] at HAO;clear HAFT;obtain⟨hQ,hB3,hS3⟩:=qb_new A vo vy met ((a:Int)+1) p1 (h:Int);obtain⟨A3,hA3⟩:∃W,qbox A vo vy (met 0) (met 1) (met 2) (met 3) (met 4) (met 5) ((a:Int)+1) p1 (h:Int)=W:=⟨_,rfl⟩;rw[hA3] at hQ hB3 hS3;have hI3:=hI.later cx hB3;obtain⟨gy,oy,cy,gy2,oy2,cy2,rfl,ty,Y0,Y1,Y2,Y3,Y4⟩:=lgs_at (cx.yng A3 hI3.b) ham hh16;obtain⟨go,oo,co,go2,oo2,co2,rfl,tO,O0,O1,O2,O3,O4⟩:=lgs_at (cx.old A3 hI3.b) ham hh16;obtain⟨bY,hbY⟩:∃b,b=lgT Ls Hs (taT Bs ((a:Int)+1)) (((a:Int)+1,0),(h:Int)):=⟨_,rfl⟩;obtain⟨bO,hbO⟩:∃b,b=lgT Ls Hs (taT As ((a:Int)+1)) (((a:Int)+1,0),(h:Int)):=⟨_,rfl⟩;rw[←hbY] at Y0 Y1 Y2 Y3 Y4 HAY;rw[←hbO] at O0 O1 O2 O3 O4 HAO;clear hbY hbO;obtain⟨u0,u1,⟨u2,u3⟩,u4⟩:=bY;obtain⟨v0,v1,⟨v2,v3⟩,v4⟩:=bO
 dsimp only at Y0 Y1 Y2 Y3 Y4 O0 O1 O2 O3 O4
 have hbk:=hI.y bk hI.yb;have HEY:Hid (∃Ts,gY=lgA Ls Hs Ts lst):=⟨_,hgY⟩;have HEO:Hid (∃Ts,gO=lgA Ls Hs Ts lst):=⟨_,hgO⟩;have HPW:Hid (pwL Ls Hs As Bs (n+1) lst met=if met a=true then tkL (pwL Ls Hs As Bs n) gY lst met else tkL (pwL Ls Hs As Bs n) gO lst met++(if gY=gO then [] else tkL (pwL Ls Hs As Bs n) gY lst (mtS met a))):=by
  show _=_;rw[pwL,hsx,hgY,hgO]
 have HT:Hid (TkOK l lo n₀ J Jx L w (.slice (some ⟨go,oo,none⟩) m co) (.slice (some ⟨gy,oy,none⟩) m cy) m Ls Hs As Bs n):=hT;have HL:Hid (Nxt L k (pwL Ls Hs As Bs (n+1) lst met)):=hL;have HLEN:Hid (lst.length+n=24∧0<lst.length):=⟨by omega,h0⟩;have HI:Hid (WkI lo n₀ J w X Y k bk lst A):=hI;have HBK:Hid (lo≤bk∧bk<A.heap.size):=⟨hbk.1,hbk.2.1⟩;have HLO:Hid (n₀≤lo∧lo≤A.heap.size):=⟨cx.nlo,hI.s⟩;have HB3:Hid (Below A.heap.size A A3):=hB3;have HQ:Hid (QB A A3 (.slice (some ⟨go,oo,none⟩) m co) (.slice (some ⟨gy,oy,none⟩) m cy) met ((a:Int)+1) p1 (h:Int)):=hQ;have HS3:Hid (A3.heap.size=A.heap.size+3):=hS3;have HH3:Hid (HK A3 bk lst):=hI3.h;obtain⟨y0,y1,⟨y2,y3⟩,y4⟩:=gY;obtain⟨o0,o1,⟨o2,o3⟩,o4⟩:=gO;unfold legV at HAY HAO
 dsimp only at HAY HAO
 rw[←hq] at HAY HAO c0 c1 c2;have HAYW:Hid (∀W,Below A3.heap.size A3 W→Calls prog 99 #[.agg #[.int i64 u0,.string u1,.int i64 u2,.int i64 u3,.int i64 u4],.slice (some ⟨bk,0,none⟩) q 24] W fun e w'=>e=.returned (.agg #[.int i64 y0,.string y1,.int i64 y2,.int i64 y3,.int i64 y4])∧Below W.heap.size W w'):=fun W hb=>HAY W (own_below hI3.h hb)
 have HAOW:Hid (∀W,Below A3.heap.size A3 W→Calls prog 99 #[.agg #[.int i64 v0,.string v1,.int i64 v2,.int i64 v3,.int i64 v4],.slice (some ⟨bk,0,none⟩) q 24] W fun e w'=>e=.returned (.agg #[.int i64 o0,.string o1,.int i64 o2,.int i64 o3,.int i64 o4])∧Below W.heap.size W w'):=fun W hb=>HAO W (own_below hI3.h hb)
 have HSY:Hid (∀W,Below A3.heap.size A3 W→W.cell? ⟨A.heap.size,1,none⟩=some (.slice (some ⟨gy,oy,none⟩) m cy)∧W.cell? ⟨gy,oy+a,none⟩=some (.slice (some ⟨gy2,oy2,none⟩) 16 cy2)∧W.cell? ⟨A.heap.size+1+1,2,none⟩=some (.int i64 (h:Int))∧W.cell? ⟨gy2,oy2+h*5,none⟩=some (.int i64 u0)∧W.cell? ⟨gy2,oy2+h*5+1,none⟩=some (.string u1)∧W.cell? ⟨gy2,oy2+h*5+2,none⟩=some (.int i64 u2)∧W.cell? ⟨gy2,oy2+h*5+3,none⟩=some (.int i64 u3)∧W.cell? ⟨gy2,oy2+h*5+4,none⟩=some (.int i64 u4)):=fun W hb=>⟨cell_later hb hQ.x1,cell_later hb ty,cell_later hb hQ.h2,cell_later hb Y0,cell_later hb Y1,cell_later hb Y2,cell_later hb Y3,cell_later hb Y4⟩
 have HSO:Hid (∀W,Below A3.heap.size A3 W→W.cell? ⟨A.heap.size,0,none⟩=some (.slice (some ⟨go,oo,none⟩) m co)∧W.cell? ⟨go,oo+a,none⟩=some (.slice (some ⟨go2,oo2,none⟩) 16 co2)∧W.cell? ⟨A.heap.size+1+1,2,none⟩=some (.int i64 (h:Int))∧W.cell? ⟨go2,oo2+h*5,none⟩=some (.int i64 v0)∧W.cell? ⟨go2,oo2+h*5+1,none⟩=some (.string v1)∧W.cell? ⟨go2,oo2+h*5+2,none⟩=some (.int i64 v2)∧W.cell? ⟨go2,oo2+h*5+3,none⟩=some (.int i64 v3)∧W.cell? ⟨go2,oo2+h*5+4,none⟩=some (.int i64 v4)):=fun W hb=>⟨cell_later hb hQ.x0,cell_later hb tO,cell_later hb hQ.h2,cell_later hb O0,cell_later hb O1,cell_later hb O2,cell_later hb O3,cell_later hb O4⟩
 have HA3:Hid (((A.alloc (.cells #[.slice (some ⟨go,oo,none⟩) m co,.slice (some ⟨gy,oy,none⟩) m cy] 145)).alloc (.cells #[.bool (met 0),.bool (met 1),.bool (met 2),.bool (met 3),.bool (met 4),.bool (met 5)] 204)).alloc (.cells #[.int i64 ((a:Int)+1),.int i64 p1,.int i64 (h:Int)] 127)=A3):=hA3;have HQL:Hid (lst.length=q):=hq.symm;obtain⟨N,hN⟩:∃N,N=(pwL Ls Hs As Bs (n+1) lst met).length:=⟨_,rfl⟩;have HN:Hid ((pwL Ls Hs As Bs (n+1) lst met).length=N):=hN.symm;rw[←hq,←hN];have hq1:0<q:=by omega
 have hq24:q≤24:=by omega
 have hmi:IntKind.i64.wrap ((q:Int)-1)=((q-1:Nat):Int):=by
  rw[show (q:Int)-1=((q-1:Nat):Int) by omega];exact wrap_small (by omega) (by omega)
 have mb0:(0:Int)≤((q-1:Nat):Int):=by omega
 have mb1:((q-1:Nat):Int)<(q:Int):=by omega
 have hwa:IntKind.i64.wrap (a:Int)=(a:Int):=wrap_small (by omega) (by omega);have hwa2:IntKind.i64.wrap ((a:Int)+1-1)=(a:Int):=by rw[show (a:Int)+1-1=(a:Int) by omega];exact hwa
 have ab0:(0:Int)≤(a:Int):=by omega
 have ab1:(a:Int)<(m:Int):=by omega
 have ab6:(a:Int)<6:=by omega
 have hb0:(0:Int)≤(h:Int):=by omega
 have hb1:(h:Int)<16:=by omega
 have hlg:bk<A.heap.size:=hbk.2.1;simp only[Nat.zero_add] at c0 c1 c2;unfold metV;clear hT hlen hn1 h0 hI hsp hhd hL hGn hGa hc5 hkl hLk hla hsp2 hhd2 hsx HAY HAO hgY hgO hI3 hA3 hq hN hbk hQ hB3 hS3 ty tO Y0 Y1 Y2 Y3 Y4 O0 O1 O2 O3 O4;go_enter func102,ntmps102;go_upto_region 2 with fail;rw[HA3.out];clear HA3 c0 c1 c2;obtain⟨x0,x1,mm,mf,q0,q1,q2⟩:=HQ.out;clear mm mf;go_upto_region 3 with fail;obtain⟨s0,s1,s2,s3,s4,s5,s6,s7⟩:=HSY.out A3 (bRQ _ _);have hlA:A.heap.size<A3.heap.size:=bLQ _ _ x0;have hlA2:A.heap.size+1+1<A3.heap.size:=bLQ _ _ q0;have hly:gy<A3.heap.size:=bLQ _ _ s1;have hly2:gy2<A3.heap.size:=bLQ _ _ s3;clear x0 q0 q1
 go_cut [11] from 23 (fun p w'=>∃g,p=.pointer (some ⟨g,0,none⟩)∧(LegAt w' g y0 y1 y2 y3 y4∧A3.heap.size≤g)∧Below A3.heap.size A3 w')
 case first =>
  go_region_held3 (fun W=>W.cell? ⟨A.heap.size,1,none⟩=some (.slice (some ⟨gy,oy,none⟩) m cy)∧W.cell? ⟨gy,oy+a,none⟩=some (.slice (some ⟨gy2,oy2,none⟩) 16 cy2)∧W.cell? ⟨A.heap.size+1+1,2,none⟩=some (.int i64 (h:Int))∧W.cell? ⟨gy2,oy2+h*5,none⟩=some (.int i64 u0)∧W.cell? ⟨gy2,oy2+h*5+1,none⟩=some (.string u1)∧W.cell? ⟨gy2,oy2+h*5+2,none⟩=some (.int i64 u2)∧W.cell? ⟨gy2,oy2+h*5+3,none⟩=some (.int i64 u3)∧W.cell? ⟨gy2,oy2+h*5+4,none⟩=some (.int i64 u4))
   (first | (with_reducible assumption) | (with_reducible exact HSY.out _ (Below.drew (bRQ _ _))) | (with_reducible exact HSY.out _ ((Below.drew (bRQ _ _)).alloc (nLQ _) _)) | (with_reducible exact HSY.out _ ((bRQ _ _).alloc (nLQ _) _).drew) | (with_reducible exact HSY.out _ HBX.out) | (with_reducible exact HSY.out _ (HBX.out.alloc HBX.out.size _)) | (with_reducible exact HSY.out _ (below_5 HBX.out _ (nLQ _) _ _ _ _ _)))
   (first
    | (go_at_call 99;refine (HAYW.out _ (by first | exact Below.drew (bRQ _ _) | exact (Below.drew (bRQ _ _)).alloc (nLQ _) _)).mono ?_;rintro e w' ⟨rfl,hb⟩;have HBX:Hid (Below A3.heap.size A3 w'):=(by first | exact bdrew hb | exact balloc hb);(try (have hbc:=zl_d hb;obtain⟨⟨z0,z1,z2,z3,z4⟩,zf⟩:=hbc;have zf0:=zf 0;have zf1:=zf 1;have zf2:=zf 2;have zf3:=zf 3;have zf4:=zf 4;clear zf));clear hb))
  all_goals (go_wp2_with fail;go_meet)
  all_goals refine⟨_,rfl,?_⟩
  all_goals first
   | (with_reducible exact⟨⟨lat_new _ _ _ _ _ _ _,HBX.out.size⟩,HBX.out.alloc HBX.out.size _⟩)
   | (with_reducible exact⟨⟨lat_5 (lat_of z0 z1 z2 z3 z4) _ _ _ _ _,nLQ _⟩,below_5 HBX.out _ (nLQ _) _ _ _ _ _⟩)
 case rest =>
  obtain⟨g4,rfl,⟨hL4,hg4⟩,hbw⟩:=hcut;obtain⟨w4,hw4⟩:∃X,X=wc:=⟨_,rfl⟩;subst hw4;have HB34:Hid (Below A3.heap.size A3 w4):=hbw;have HB4:Hid (Below A.heap.size A w4):=HB3.out.trans (hbw.mono HB3.out.size);have HQ4:Hid (QB A w4 (.slice (some ⟨go,oo,none⟩) m co) (.slice (some ⟨gy,oy,none⟩) m cy) met ((a:Int)+1) p1 (h:Int)):=HQ.out.kb (Kb.of_below hbw (fun b hb _=>hb):Kb (fun _=>True) _ _) (fun _ _ _=>trivial);have HL4:Hid (LegAt w4 g4 y0 y1 y2 y3 y4):=hL4;have HG4:Hid (A.heap.size+3≤g4):=by
   show _≤_;have:=HS3.out;omega
  clear s0 s1 s2 s3 s4 s5 s6 s7 hlA hlA2 hly hly2 x1 q2 hL4 hg4 hbw HSY HAYW;obtain⟨x0,x1,mm,mf,q0,q1,q2⟩:=HQ4.out;obtain⟨b,hb⟩:∃b,b=met a:=⟨_,rfl⟩;have HMA:Hid (met a=b):=hb.symm;have ma:w4.cell? ⟨A.heap.size+1,a,none⟩=some (.bool b):=by rw[hb];exact mm a ha6
  have hlm:A.heap.size+1<w4.heap.size:=bLQ _ _ ma;clear hb;cases b with
  | true =>
    have HTK:Hid (Calls prog 140 #[.agg #[.slice (some ⟨go,oo,none⟩) m co,.slice (some ⟨gy,oy,none⟩) m cy],.agg #[.int i64 y0,.string y1,.int i64 y2,.int i64 y3,.int i64 y4],.slice (some ⟨bk,0,none⟩) q 24,.agg #[.bool (met 0),.bool (met 1),.bool (met 2),.bool (met 3),.bool (met 4),.bool (met 5)],.func (.yield l) #[] #[]] w4 fun e A'=>∃r,e=.returned (.bool r)∧WkP n₀ J Jx X Y (k+N) bk lst A r A'):=by
     have e1:pwL Ls Hs As Bs (n+1) lst met=tkL (pwL Ls Hs As Bs n) (y0,y1,((y2,y3),y4)) lst met:=by rw[HPW.out,if_pos HMA.out]
     have hx:=HT.out w4 k X _ bk lst met (y0,y1,((y2,y3),y4)) HLEN.out.1 HLEN.out.2 (HI.out.later cx HB4.out) HEY.out (by rw[←e1];exact HL.out);rw[←e1,HN.out,HQL.out] at hx;refine hx.mono ?_;rintro e A' ⟨r,rfl,hP⟩;exact⟨r,rfl,hP.back HB4.out⟩
    have m0:=mm 0 (by omega);have m1:=mm 1 (by omega);have m2:=mm 2 (by omega);have m3:=mm 3 (by omega);have m4:=mm 4 (by omega);have m5:=mm 5 (by omega);obtain⟨d0,d1,d2,d3,d4⟩:=HL4.out;clear mm mf
    go_wp2_with fail
    refine HTK.out.mono ?_;rintro e w5 ⟨r,rfl,hP⟩;have HP:Hid (WkP n₀ J Jx X Y (k+N) bk lst A r w5):=hP;clear hP;go_wp2;go_ret;exact⟨r,rfl,HP.out⟩
  | false =>
    have HSO4:Hid (∀W,Below w4.heap.size w4 W→W.cell? ⟨A.heap.size,0,none⟩=some (.slice (some ⟨go,oo,none⟩) m co)∧W.cell? ⟨go,oo+a,none⟩=some (.slice (some ⟨go2,oo2,none⟩) 16 co2)∧W.cell? ⟨A.heap.size+1+1,2,none⟩=some (.int i64 (h:Int))∧W.cell? ⟨go2,oo2+h*5,none⟩=some (.int i64 v0)∧W.cell? ⟨go2,oo2+h*5+1,none⟩=some (.string v1)∧W.cell? ⟨go2,oo2+h*5+2,none⟩=some (.int i64 v2)∧W.cell? ⟨go2,oo2+h*5+3,none⟩=some (.int i64 v3)∧W.cell? ⟨go2,oo2+h*5+4,none⟩=some (.int i64 v4)):=fun W hb=>HSO.out W (HB34.out.trans (hb.mono HB34.out.size))
    have HAO4:Hid (∀W,Below w4.heap.size w4 W→Calls prog 99 #[.agg #[.int i64 v0,.string v1,.int i64 v2,.int i64 v3,.int i64 v4],.slice (some ⟨bk,0,none⟩) q 24] W fun e w'=>e=.returned (.agg #[.int i64 o0,.string o1,.int i64 o2,.int i64 o3,.int i64 o4])∧Below W.heap.size W w'):=fun W hb=>HAOW.out W (HB34.out.trans (hb.mono HB34.out.size))
    obtain⟨s0,s1,s2,s3,s4,s5,s6,s7⟩:=HSO4.out w4 (bRQ _ _);have hlA:A.heap.size<w4.heap.size:=bLQ _ _ x0;have hlA2:A.heap.size+1+1<w4.heap.size:=bLQ _ _ q0;have hly:go<w4.heap.size:=bLQ _ _ s1;have hly2:go2<w4.heap.size:=bLQ _ _ s3;clear x0 x1 mm mf q0 q1 q2 HSO HAOW;go_upto_region 6 with fail;clear ma
    go_cut [12] from 43 (fun p w'=>∃g,p=.pointer (some ⟨g,0,none⟩)∧(LegAt w' g o0 o1 o2 o3 o4∧w4.heap.size≤g)∧Below w4.heap.size w4 w')
    case first =>
     go_region_held3 (fun W=>W.cell? ⟨A.heap.size,0,none⟩=some (.slice (some ⟨go,oo,none⟩) m co)∧W.cell? ⟨go,oo+a,none⟩=some (.slice (some ⟨go2,oo2,none⟩) 16 co2)∧W.cell? ⟨A.heap.size+1+1,2,none⟩=some (.int i64 (h:Int))∧W.cell? ⟨go2,oo2+h*5,none⟩=some (.int i64 v0)∧W.cell? ⟨go2,oo2+h*5+1,none⟩=some (.string v1)∧W.cell? ⟨go2,oo2+h*5+2,none⟩=some (.int i64 v2)∧W.cell? ⟨go2,oo2+h*5+3,none⟩=some (.int i64 v3)∧W.cell? ⟨go2,oo2+h*5+4,none⟩=some (.int i64 v4))
      (first | (with_reducible assumption) | (with_reducible exact HSO4.out _ (Below.drew (bRQ _ _))) | (with_reducible exact HSO4.out _ ((Below.drew (bRQ _ _)).alloc (nLQ _) _)) | (with_reducible exact HSO4.out _ ((bRQ _ _).alloc (nLQ _) _).drew) | (with_reducible exact HSO4.out _ HBX.out) | (with_reducible exact HSO4.out _ (HBX.out.alloc HBX.out.size _)) | (with_reducible exact HSO4.out _ (below_5 HBX.out _ (nLQ _) _ _ _ _ _)))
      (first
       | (go_at_call 99;refine (HAO4.out _ (by first | exact Below.drew (bRQ _ _) | exact (Below.drew (bRQ _ _)).alloc (nLQ _) _)).mono ?_;rintro e w' ⟨rfl,hb⟩;have HBX:Hid (Below w4.heap.size w4 w'):=(by first | exact bdrew hb | exact balloc hb);(try (have hbc:=zl_d hb;obtain⟨⟨z0,z1,z2,z3,z4⟩,zf⟩:=hbc;have zf0:=zf 0;have zf1:=zf 1;have zf2:=zf 2;have zf3:=zf 3;have zf4:=zf 4;clear zf));clear hb))
     all_goals (go_wp2_with fail;go_meet)
     all_goals refine⟨_,rfl,?_⟩
     all_goals first
      | (with_reducible exact⟨⟨lat_new _ _ _ _ _ _ _,HBX.out.size⟩,HBX.out.alloc HBX.out.size _⟩)
      | (with_reducible exact⟨⟨lat_5 (lat_of z0 z1 z2 z3 z4) _ _ _ _ _,nLQ _⟩,below_5 HBX.out _ (nLQ _) _ _ _ _ _⟩)
    case rest =>
     obtain⟨g5,rfl,⟨hL5,hg5⟩,hbw⟩:=hcut;obtain⟨w5,hw5⟩:∃X,X=wc:=⟨_,rfl⟩;subst hw5;have HB5:Hid (Below A.heap.size A w5):=HB4.out.trans (hbw.mono HB4.out.size);have HQ5:Hid (QB A w5 (.slice (some ⟨go,oo,none⟩) m co) (.slice (some ⟨gy,oy,none⟩) m cy) met ((a:Int)+1) p1 (h:Int)):=HQ4.out.kb (Kb.of_below hbw (fun b hb _=>hb):Kb (fun _=>True) _ _) (fun _ _ _=>trivial);have HY5:Hid (LegAt w5 g4 y0 y1 y2 y3 y4):=HL4.out.later hbw;have HO5:Hid (LegAt w5 g5 o0 o1 o2 o3 o4):=hL5;have HG5:Hid (A.heap.size+3≤g5):=by
      show _≤_;have h1:=HG4.out;have h2:=HL4.out.lt;omega
     clear s0 s1 s2 s3 s4 s5 s6 s7 hlA hlA2 hly hly2 hlm hL5 hg5 hbw HSO4 HAO4 HQ4 HL4;obtain⟨x0,x1,mm,mf,q0,q1,q2⟩:=HQ5.out;have m0:=mm 0 (by omega);have m1:=mm 1 (by omega);have m2:=mm 2 (by omega);have m3:=mm 3 (by omega);have m4:=mm 4 (by omega);have m5:=mm 5 (by omega);obtain⟨d0,d1,d2,d3,d4⟩:=HO5.out;obtain⟨No,hNo⟩:∃N,N=(tkL (pwL Ls Hs As Bs n) (o0,o1,((o2,o3),o4)) lst met).length:=⟨_,rfl⟩;have e1:pwL Ls Hs As Bs (n+1) lst met=tkL (pwL Ls Hs As Bs n) (o0,o1,((o2,o3),o4)) lst met++(if (y0,y1,((y2,y3),y4))=(o0,o1,((o2,o3),o4)) then [] else tkL (pwL Ls Hs As Bs n) (y0,y1,((y2,y3),y4)) lst (mtS met a)):=by rw[HPW.out,if_neg (by rw[HMA.out];simp)]
     have HE1:Hid (pwL Ls Hs As Bs (n+1) lst met=tkL (pwL Ls Hs As Bs n) (o0,o1,((o2,o3),o4)) lst met++(if (y0,y1,((y2,y3),y4))=(o0,o1,((o2,o3),o4)) then [] else tkL (pwL Ls Hs As Bs n) (y0,y1,((y2,y3),y4)) lst (mtS met a))):=e1;have HNO:Hid ((tkL (pwL Ls Hs As Bs n) (o0,o1,((o2,o3),o4)) lst met).length=No):=hNo.symm;have HTK:Hid (Calls prog 140 #[.agg #[.slice (some ⟨go,oo,none⟩) m co,.slice (some ⟨gy,oy,none⟩) m cy],.agg #[.int i64 o0,.string o1,.int i64 o2,.int i64 o3,.int i64 o4],.slice (some ⟨bk,0,none⟩) q 24,.agg #[.bool (met 0),.bool (met 1),.bool (met 2),.bool (met 3),.bool (met 4),.bool (met 5)],.func (.yield l) #[] #[]] w5 fun e A'=>∃r,e=.returned (.bool r)∧WkP n₀ J Jx X (fun b=>Y b∨(A.heap.size≤b∧b<w5.heap.size)) (k+No) bk lst w5 r A'):=by
      have hl:=HL.out;rw[e1] at hl;have hx:=HT.out w5 k X _ bk lst met (o0,o1,((o2,o3),o4)) HLEN.out.1 HLEN.out.2 (HI.out.later cx HB5.out) HEO.out hl.left;rw[HQL.out,←hNo] at hx;exact hx
     clear mm mf hNo e1
     go_wp2_with fail
     refine HTK.out.mono ?_;rintro e w6 ⟨r,rfl,hP⟩;have HP:Hid (WkP n₀ J Jx X (fun b=>Y b∨(A.heap.size≤b∧b<w5.heap.size)) (k+No) bk lst w5 r w6):=hP;clear hP x0 x1 q0 q1 q2 m0 m1 m2 m3 m4 m5 d0 d1 d2 d3 d4;cases r with
     | false =>
       have HPF:Hid (WkP n₀ J Jx X Y (k+N) bk lst A false w6):=by
        have hx:=HP.out.back HB5.out;exact⟨hx.1,hx.2⟩
       go_wp2;go_ret;exact⟨false,rfl,HPF.out⟩
     | true =>
       obtain⟨X1,hI6,hX1⟩:=(HI.out.later cx HB5.out).next cx HP.out;have HI6:Hid (WkI lo n₀ J w X1 (fun b=>Y b∨(A.heap.size≤b∧b<w5.heap.size)) (k+No) bk lst w6):=hI6;have HX1:Hid (∀b,X1 b→X b∨w5.heap.size≤b):=hX1;have hbx:∀b,A.heap.size≤b→b<w5.heap.size→b<n₀∨((Y b∨(A.heap.size≤b∧b<w5.heap.size))∧b≠bk):=fun b h1 h2=>.inr ⟨.inr ⟨h1,h2⟩,by have:=HBK.out;omega⟩
       have hs5:A.heap.size+3≤w5.heap.size:=by
        have:=HG4.out;have:=HY5.out.lt;omega
       have HQ6:Hid (QB A w6 (.slice (some ⟨go,oo,none⟩) m co) (.slice (some ⟨gy,oy,none⟩) m cy) met ((a:Int)+1) p1 (h:Int)):=HQ5.out.kb HP.out.2 (fun b h1 h2=>hbx b h1 (by omega));have HY6:Hid (LegAt w6 g4 y0 y1 y2 y3 y4):=HY5.out.kb HP.out.2 (hbx g4 (by have:=HG4.out;omega) HY5.out.lt);have HO6:Hid (LegAt w6 g5 o0 o1 o2 o3 o4):=HO5.out.kb HP.out.2 (hbx g5 (by have:=HG5.out;omega) HO5.out.lt);have HYM:Hid (Y (A.heap.size+1)∨(A.heap.size≤A.heap.size+1∧A.heap.size+1<w5.heap.size)):=.inr ⟨by omega,by omega⟩;obtain⟨c,hc⟩:∃c,c=legB (y0,y1,((y2,y3),y4)) (o0,o1,((o2,o3),o4)):=⟨_,rfl⟩;have HC:Hid (legB (y0,y1,((y2,y3),y4)) (o0,o1,((o2,o3),o4))=c):=hc.symm;obtain⟨d0,d1,d2,d3,d4⟩:=HY6.out;obtain⟨f0,f1,f2,f3,f4⟩:=HO6.out;clear hI6 hX1 hbx hc hs5;go_upto_region 9 with fail
       go_cut [63] from 61 (fun v w'=>v=.bool c∧w'=w6)
       case first =>
        rcases leg_ways y0 y1 y2 y3 y4 o0 o1 o2 o3 o4 with ⟨e0,e⟩ | ⟨e0,e1,e⟩ | ⟨e0,e1,e2,e⟩ | ⟨e0,e1,e2,e3,e⟩ | ⟨e0,e1,e2,e3,e4,e⟩ | ⟨e0,e1,e2,e3,e4,e⟩
        all_goals
         rw[HC.out] at e;have HE:Hid (c=_):=e;clear e
         go_wp2_with fail
         go_meet
         exact⟨by rw[HE.out],rfl⟩
       case rest =>
        obtain⟨rfl,hwc⟩:=hcut;have hwc2:=hwc.symm;clear hwc;subst hwc2;clear d0 d1 d2 d3 d4 f0 f1 f2 f3 f4;cases c with
        | true =>
          have HPT:Hid (WkP n₀ J Jx X Y (k+N) bk lst A true w6):=by
           have e2:N=No:=by
            rw[←HN.out,HE1.out,if_pos (legB_eq HC.out),List.append_nil,HNO.out]
           rw[e2];exact HP.out.back HB5.out
          go_wp2;go_ret;exact⟨true,rfl,HPT.out⟩
        | false =>
          have hne:¬(y0,y1,((y2,y3),y4))=(o0,o1,((o2,o3),o4)):=fun e=>by
           have h1:=HC.out;rw[e,legB_same] at h1;cases h1
          have hQ7:=HQ6.out.meet ha6;have hI7:=HI6.out.set (i:=a) (u:=.bool true) cx HYM.out (by have:=HBK.out;omega);have hY7:LegAt (w6.setCell ⟨A.heap.size+1,a,none⟩ (.bool true)) g4 y0 y1 y2 y3 y4:=HY6.out.kb (p:=fun b=>b≠A.heap.size+1) ((Kb.refl _ _).setCell (q:=⟨A.heap.size+1,a,none⟩) (fun _ h=>h rfl) _) (by have:=HG4.out;omega);have hK7:Kb (fun b=>b<n₀∨(Y b∧b≠bk)) w6 (w6.setCell ⟨A.heap.size+1,a,none⟩ (.bool true)):=(Kb.refl _ _).setCell (q:=⟨A.heap.size+1,a,none⟩) (fun _ h=>by
           rcases h with h | h
           ·have h1:=HLO.out;simp only at h;omega
           have h1:=(HI.out.y _ h.1).2.1;simp only at h1;omega) _
          obtain⟨w7,hw7⟩:∃W,w6.setCell ⟨A.heap.size+1,a,none⟩ (.bool true)=W:=⟨_,rfl⟩;rw[hw7] at hQ7 hI7 hY7 hK7;have HW7:Hid (w6.setCell ⟨A.heap.size+1,a,none⟩ (.bool true)=w7):=hw7;have HTK2:Hid (Calls prog 140 #[.agg #[.slice (some ⟨go,oo,none⟩) m co,.slice (some ⟨gy,oy,none⟩) m cy],.agg #[.int i64 y0,.string y1,.int i64 y2,.int i64 y3,.int i64 y4],.slice (some ⟨bk,0,none⟩) q 24,.agg #[.bool (mtS met a 0),.bool (mtS met a 1),.bool (mtS met a 2),.bool (mtS met a 3),.bool (mtS met a 4),.bool (mtS met a 5)],.func (.yield l) #[] #[]] w7 fun e A'=>∃r,e=.returned (.bool r)∧WkP n₀ J Jx X Y (k+N) bk lst A r A'):=by
           have hl:=HL.out;rw[HE1.out,if_neg hne] at hl;have hr:=hl.right;rw[HNO.out] at hr;have hx:=HT.out w7 (k+No) X1 _ bk lst (mtS met a) (y0,y1,((y2,y3),y4)) HLEN.out.1 HLEN.out.2 hI7 HEY.out hr;have e2:k+No+(tkL (pwL Ls Hs As Bs n) (y0,y1,((y2,y3),y4)) lst (mtS met a)).length=k+N:=by
            rw[←HN.out,HE1.out,if_neg hne,List.length_append,HNO.out];omega
           rw[HQL.out,e2] at hx;refine hx.mono ?_;rintro e A' ⟨r,rfl,hR,hK⟩;refine⟨r,rfl,?_,?_⟩
           ·cases r with
            | false=>exact hR
            | true =>
              obtain⟨⟨X2,j1,j2⟩,j3⟩:=hR;refine⟨⟨X2,j1,fun b hb=>?_⟩,j3⟩;have z1:=HB5.out.size;have z2:=HP.out.2.size;have z3:=hK7.size
              rcases j2 b hb with hb | hb
              ·rcases HX1.out b hb with hb | hb
               ·exact .inl hb
               exact .inr (by omega)
              exact .inr (by omega)
           exact (((Kb.of_below HB5.out (fun b hb' _=>hb')).trans (HP.out.2.mono (fun b _ h=>h.imp id (fun h=>⟨.inl h.1,h.2⟩)))).trans hK7).trans (hK.mono (fun b _ h=>h.imp id (fun h=>⟨.inl h.1,h.2⟩)))
          have ma:w6.cell? ⟨A.heap.size+1,a,none⟩=some (.bool (met a)):=HQ6.out.m a ha6;have hlm6:A.heap.size+1<w6.heap.size:=bLQ _ _ ma;have mfa:w6.frozen? ⟨A.heap.size+1,a,none⟩=false:=HQ6.out.mf a;obtain⟨x0,x1,mm,mf,q0,q1,q2⟩:=hQ7;have m0:=mm 0 (by omega);have m1:=mm 1 (by omega);have m2:=mm 2 (by omega);have m3:=mm 3 (by omega);have m4:=mm 4 (by omega);have m5:=mm 5 (by omega);obtain⟨e0,e1,e2,e3,e4⟩:=hY7;clear mm mf hw7 hne hI7 hK7;go_upto_region 12 with fail;rw[HW7.out];clear HW7 ma mfa
          go_wp2_with fail
          refine HTK2.out.mono ?_;rintro e w8 ⟨r,rfl,hP8⟩;have HP8:Hid (WkP n₀ J Jx X Y (k+N) bk lst A r w8):=hP8;clear hP8;go_wp2;go_ret;exact⟨r,rfl,HP8.out⟩
end
section
variable {l lo n₀:Nat}{J:Nat→(Nat→Prop)→World→Prop}{Jx:World→Prop}{L:List Ft}{w:World}{vo vy:Value}{m:Nat}{Ls:LkQ}{Hs:HoQ}{As Bs:TsQ}
theorem walk_all (cx:MCx l lo n₀ J Jx L w vo vy m Ls Hs As Bs):∀n,1≤n→WkOK l lo n₀ J Jx L w vo vy m Ls Hs As Bs n
 | 0,h=>by omega
 | n+1,_=>walk_ok cx n (take_ok cx n (fun h=>walk_all cx n h))
end
theorem hk_one {W:World}{bk:Nat}{p:(Int×Int)×Int}(h:W.ownsRow 0 127 hopE.n (.slice (some ⟨bk,0,none⟩) (([]:HpQ).length+1) 24) (([]:HpQ).length+1) (cellsG hopE ([]++[p]))):HK W bk [p]:=h
theorem fates1_it (vo vy:Value)(m:Nat)(Ls:LkQ)(Hs:HoQ)(As Bs:TsQ)(bx bi:Nat)(c d e:Int)(w:World)
 (hx0:w.cell? ⟨bx,0,none⟩=some vo) (hx1:w.cell? ⟨bx,1,none⟩=some vy) (hi0:w.cell? ⟨bi,0,none⟩=some (.int i64 c)) (hi1:w.cell? ⟨bi,1,none⟩=some (.int i64 d)) (hi2:w.cell? ⟨bi,2,none⟩=some (.int i64 e))
 (hm:m≤6) (ht:tpN (m:Int) Ls Hs=0) (ho:LGs w 0 vo (fun (a h:Nat)=>lgT Ls Hs (taT As ((a:Int)+1)) (((a:Int)+1,0),(h:Int))) m) (hy:LGs w 0 vy (fun (a h:Nat)=>lgT Ls Hs (taT Bs ((a:Int)+1)) (((a:Int)+1,0),(h:Int))) m) (hsp:spB (m:Int) (c,d)=true) (hhd:hdrB e=true):
 ItF prog 101 #[.pointer (some ⟨bx,0,none⟩),.pointer (some ⟨bi,0,none⟩)] FtV w.heap.size (pwS Ls Hs As Bs (c,d) e) w:=by
 intro l J Jx W hW hn h0 hlt hab hax hY;have cx:MCx l W.heap.size w.heap.size J Jx (pwS Ls Hs As Bs (c,d) e) w vo vy m Ls Hs As Bs:=⟨hn,hm,ht,fun A hA=>ho.later hA,fun A hA=>hy.later hA,hlt,hab,hax,hY⟩;have HSW:Hid (∀V,Below w.heap.size w V→V.cell? ⟨bx,0,none⟩=some vo∧V.cell? ⟨bx,1,none⟩=some vy∧V.cell? ⟨bi,0,none⟩=some (.int i64 c)∧V.cell? ⟨bi,1,none⟩=some (.int i64 d)∧V.cell? ⟨bi,2,none⟩=some (.int i64 e)):=fun V hV=>⟨cell_later hV hx0,cell_later hV hx1,cell_later hV hi0,cell_later hV hi1,cell_later hV hi2⟩
 have HSK:Hid (∀V,Kb (fun _=>True) W V→V.cell? ⟨bx,0,none⟩=some vo∧V.cell? ⟨bx,1,none⟩=some vy∧V.cell? ⟨bi,0,none⟩=some (.int i64 c)∧V.cell? ⟨bi,1,none⟩=some (.int i64 d)∧V.cell? ⟨bi,2,none⟩=some (.int i64 e)):=fun V hk=>HSW.out V (hW.trans (hk.below hn (fun _ _=>trivial)))
 have HMX:Hid (24≤maxLen):=by show _≤_;unfold maxLen;omega
 have HWW:Hid (Below w.heap.size w W):=hW;have HNN:Hid (w.heap.size≤W.heap.size):=hn;have HWK:Hid (∀(V:World) (bk:Nat),Kb (fun _=>True) W V→W.heap.size≤bk→HK V bk [((c,d),e)]→Calls prog 102 #[.agg #[vo,vy],.slice (some ⟨bk,0,none⟩) 1 24,.agg #[.bool false,.bool false,.bool false,.bool false,.bool false,.bool false],.func (.yield l) #[] #[]] V fun e' A'=>∃r,e'=.returned (.bool r)∧((∃X,J (pwS Ls Hs As Bs (c,d) e).length X A')∨Jx A')∧Below w.heap.size w A'):=fun V bk hk hb hh=>by
  have hI:WkI W.heap.size w.heap.size J w (fun _=>False) (fun b=>W.heap.size≤b∧b<V.heap.size) 0 bk [((c,d),e)] V:=⟨hW.trans (hk.below (by omega) (fun _ _=>trivial)),hk.size,hab _ _ _ _ h0 (hk.mono (fun _ _ _=>trivial)),fun b hb=>⟨hb.1,hb.2,fun h=>h⟩,⟨hb,hh.lt⟩,hh⟩;have h:=walk_all cx 24 (by omega) V 0 _ _ bk [((c,d),e)] (fun _=>false) rfl (by omega) (by simp) hI hsp hhd (fun i x hx=>by rw[Nat.zero_add];exact hx);refine h.mono ?_;rintro e' A' ⟨r,rfl,hR,hK⟩;refine⟨r,rfl,?_,hI.b.trans (hK.below (by have:=hk.size;omega) (fun b hb=>.inl hb))⟩;cases r with
  | false=>exact .inr hR
  | true =>
    obtain⟨⟨X',j1,_⟩,_⟩:=hR;rw[Nat.zero_add] at j1;exact .inl ⟨X',j1⟩
 obtain⟨s0,s1,s2,s3,s4⟩:=HSW.out W hW;have hlx:bx<W.heap.size:=bLQ _ _ s0;have hli:bi<W.heap.size:=bLQ _ _ s2;obtain⟨j0,hj,hy0,hy1,hy2⟩:=info_parts hop_info;obtain⟨MC,hMC,hmk⟩:∃MC:Array Value,MC.size=24*3∧∀V:World,(Instr.makeSlice 81 (.int i64 0) (.int i64 24)).run prog V=.ok (.slice (some ⟨V.heap.size,0,none⟩) 0 24) (V.alloc (.cells MC 127)):=by
  refine⟨madeCells (Value.agg #[.int i64 0,.int i64 0,.int i64 0]).cells (24*3),size_madeCells _ _,fun V=>?_⟩;have h:=run_make (P:=prog) V 81 127 j0 (.agg #[.int i64 0,.int i64 0,.int i64 0]) underlying81 hj hy0 .i64 .i64 0 24 (by decide) (by decide) (by rw[hy2];decide) (by decide);rw[hy1] at h;exact h
 have hal:∀(V:World) (o:Obj),Kb (fun _=>True) V (V.alloc o):=fun V o=>(Kb.refl _ _).alloc o
 have HOM1:Hid (∀o:Obj,((W.alloc (.cells MC 127)).alloc o).ownsRow 0 127 hopE.n (.slice (some ⟨W.heap.size,0,none⟩) 0 24) 0 (cellsG hopE [])):=fun o=>own_kb (World.ownsRow_made W MC 24 (Nat.zero_le _) HMX.out hMC) (hal _ o) (fun _ _=>trivial)
 have HOM2:Hid (∀o:Obj,((W.alloc o).alloc (.cells MC 127)).ownsRow 0 127 hopE.n (.slice (some ⟨W.heap.size+1,0,none⟩) 0 24) 0 (cellsG hopE [])):=fun o=>by
  have h:=World.ownsRow_made (base:=0) (e:=127) (size:=3) (W.alloc o) MC 24 (Nat.zero_le _) HMX.out hMC;rw[World.size_alloc] at h;exact h
 have HVM1:Hid (VAt ((W.alloc (.cells MC 127)).alloc (.cells #[.int i64 c,.int i64 d,.int i64 e] 127)) (W.heap.size+1) 0 (hopE.c ((c,d),e))):=by
  have h:=hop_new (W.alloc (.cells MC 127)) c d e 127;rw[World.size_alloc] at h;exact h
 have HVM2:Hid (VAt ((W.alloc (.cells #[.int i64 c,.int i64 d,.int i64 e] 127)).alloc (.cells MC 127)) W.heap.size 0 (hopE.c ((c,d),e))):=(hop_new W c d e 127).later ((bRQ _ _).alloc (nLQ _) _);clear hMC hal;show Calls prog 101 #[.func (.yield l) #[] #[],.pointer (some ⟨bx,0,none⟩),.pointer (some ⟨bi,0,none⟩)] W _;clear cx hx0 hx1 hi0 hi1 hi2 ho hy hW hn h0 hlt hab hax hY hsp hhd ht hm;go_enter func101,ntmps101;go_upto_region 0 with fail
 go_region_held3 (fun V=>V.cell? ⟨bx,0,none⟩=some vo∧V.cell? ⟨bx,1,none⟩=some vy∧V.cell? ⟨bi,0,none⟩=some (.int i64 c)∧V.cell? ⟨bi,1,none⟩=some (.int i64 d)∧V.cell? ⟨bi,2,none⟩=some (.int i64 e))
  (first | (with_reducible assumption) | (with_reducible exact HSK.out _ (Kb.refl _ _).drew) | (with_reducible exact HSK.out _ ((Kb.refl _ _).drew.alloc _)) | (with_reducible exact HSK.out _ ((Kb.refl _ _).alloc _).drew) | (with_reducible exact HSK.out _ (((Kb.refl _ _).alloc _).alloc _).drew) | (with_reducible exact HSK.out _ (((Kb.refl _ _).drew.alloc _).alloc _)) | (with_reducible exact HSK.out _ (((Kb.refl _ _).alloc _).drew.alloc _)) | (with_reducible exact HSK.out _ HK5.out) | (with_reducible exact HSW.out _ HB6.out))
  (first
   | (refine step_append_fits (E:=hopE) _ (by rfl) _ _ 81 127 (by rfl) underlying81 j0 hj hy1 0 (W.heap.size) 24 [] (by rfl) ?_ (W.heap.size+1) 0 1 (by rfl) ((c,d),e) ?_ (by decide) ?_;(focus (exact HOM1.out _));(focus (exact HVM1.out));intro w5 ho5 hg5;have HK5:Hid (Kb (fun _=>True) W w5):=(Kb.grown (by first | exact (((Kb.refl _ _).alloc _).alloc _).drew | exact (((Kb.refl _ _).drew.alloc _).alloc _) | exact ((Kb.refl _ _).alloc _).drew.alloc _) hg5 (fun r er hr _=>by cases er;omega));have HBK5:Hid (W.heap.size≤W.heap.size):=(by show _≤_;omega);have HH5:Hid (HK w5 (W.heap.size) [((c,d),e)]):=(hk_one ho5);clear ho5 hg5)
   | (refine step_append_fits (E:=hopE) _ (by rfl) _ _ 81 127 (by rfl) underlying81 j0 hj hy1 0 (W.heap.size+1) 24 [] (by rfl) ?_ (W.heap.size) 0 1 (by rfl) ((c,d),e) ?_ (by decide) ?_;(focus (exact HOM2.out _));(focus (exact HVM2.out));intro w5 ho5 hg5;have HK5:Hid (Kb (fun _=>True) W w5):=(Kb.grown (by first | exact (((Kb.refl _ _).alloc _).alloc _).drew | exact (((Kb.refl _ _).drew.alloc _).alloc _) | exact ((Kb.refl _ _).alloc _).drew.alloc _) hg5 (fun r er hr _=>by cases er;omega));have HBK5:Hid (W.heap.size≤W.heap.size+1):=(by show _≤_;omega);have HH5:Hid (HK w5 (W.heap.size+1) [((c,d),e)]):=(hk_one ho5);clear ho5 hg5)
   | (go_at_call 102;refine (HWK.out _ _ HK5.out HBK5.out HH5.out).mono ?_;rintro e6 w6 ⟨r,rfl,hP,hB6⟩;have HP:Hid ((∃X,J (pwS Ls Hs As Bs (c,d) e).length X w6)∨Jx w6):=hP;have HB6:Hid (Below w.heap.size w w6):=hB6;clear hP hB6))
 all_goals go_wp2
 all_goals go_end0
 all_goals exact⟨⟨_,rfl⟩,HP.out⟩
def lgF (Ls:LkQ)(Hs:HoQ)(Ts:TsQ):Nat→Nat→Lg:=fun (a h:Nat)=>lgT Ls Hs (taT Ts ((a:Int)+1)) (((a:Int)+1,0),(h:Int))
def DuQ (N:Int)(W:World)(B:Nat)(vo vy:Value)(Ls:LkQ)(Hs:HoQ)(Ts:TsQ)(l:List Op8)(m:Nat):Prop:=N=0→LGs W B vo (lgF Ls Hs Ts) m∧LGs W B vy (lgF Ls Hs (caT Ts l)) m
theorem fates_val (vo vy:Value)(c d e:Int)(w:World):
 Calls prog 65 #[.agg #[vo,vy],.agg #[.int i64 c,.int i64 d,.int i64 e]] w fun e' w'=>e'=.returned (.func (Fn.func 101) #[] #[.pointer (some ⟨w.heap.size,0,none⟩),.pointer (some ⟨w.heap.size+1,0,none⟩)])∧w'=(w.alloc (.cells #[vo,vy] 145)).alloc (.cells #[.int i64 c,.int i64 d,.int i64 e] 127):=by
 go_enter func65,ntmps65;go_wp2;go_ret;exact⟨rfl,rfl⟩
theorem fates_it (vo vy:Value)(m:Nat)(Ls:LkQ)(Hs:HoQ)(As Bs:TsQ)(c d e:Int)(w:World)(hm:m≤6)(ht:tpN (m:Int) Ls Hs=0)(ho:LGs w 0 vo (lgF Ls Hs As) m)(hy:LGs w 0 vy (lgF Ls Hs Bs) m)(hsp:spB (m:Int) (c,d)=true)(hhd:hdrB e=true):
 Calls prog 65 #[.agg #[vo,vy],.agg #[.int i64 c,.int i64 d,.int i64 e]] w fun e' w'=>∃gi lb,e'=.returned (.func (Fn.func gi) #[] lb)∧(∀args w,(callFunc gi args).run prog w=.ok (.enter gi args) w)∧ItF prog gi lb FtV w'.heap.size (pwS Ls Hs As Bs (c,d) e) w'∧Below w.heap.size w w':=by
 refine (fates_val vo vy c d e w).mono ?_;rintro e' w' ⟨rfl,rfl⟩;have hb:∀(W:World) (o:Obj),Below W.heap.size W (W.alloc o):=fun W o=>(bRQ _ _).alloc (nLQ _) _
 have h1:=(vat_new w [vo,vy] 145).later (hb (w.alloc (.cells #[vo,vy] 145)) (.cells #[.int i64 c,.int i64 d,.int i64 e] 127));have h2:=vat_new (w.alloc (.cells #[vo,vy] 145)) [.int i64 c,.int i64 d,.int i64 e] 127;rw[World.size_alloc] at h2;have hB:Below w.heap.size w ((w.alloc (.cells #[vo,vy] 145)).alloc (.cells #[.int i64 c,.int i64 d,.int i64 e] 127)):=((bRQ _ _).alloc (nLQ _) _).alloc (by simp) _;exact⟨_,_,rfl,enters_of func101 (by kernel_rfl) rfl,fates1_it vo vy m Ls Hs As Bs w.heap.size (w.heap.size+1) c d e _ (h1 0 _ rfl) (h1 1 _ rfl) (h2 0 _ rfl) (h2 1 _ rfl) (h2 2 _ rfl) hm ht (ho.later hB) (hy.later hB) hsp hhd,hB⟩
structure DB (w W:World)(S:Int)(v1 v2 v3:Value):Prop where
 below:Below w.heap.size w W
 n:NeBox W w.heap.size S v1 v2 v3
 r0:W.cell? ⟨w.heap.size+1,0,none⟩=some (.slice none 0 0)
 r1:W.cell? ⟨w.heap.size+1,1,none⟩=some (.slice none 0 0)
 f:∀i,W.frozen? ⟨w.heap.size+1,i,none⟩=false
theorem db_new (w:World)(S:Int)(v1 v2 v3:Value):DB w ((w.alloc (.cells #[.int i64 S,v1,v2,v3] 28)).alloc (.cells #[.slice none 0 0,.slice none 0 0] 145)) S v1 v2 v3:=by
 have e1:(w.alloc (.cells #[.int i64 S,v1,v2,v3] 28)).heap.size=w.heap.size+1:=by simp
 have hb:∀(W:World) (o:Obj),Below W.heap.size W (W.alloc o):=fun W o=>(bRQ _ _).alloc (nLQ _) _
 have hn:=(nebox_new w S v1 v2 v3 28).later (hb _ (Obj.cells #[.slice none 0 0,.slice none 0 0] 145));have hB:=((Below.refl w.heap.size w).alloc (nLQ _) (Obj.cells #[.int i64 S,v1,v2,v3] 28)).alloc (by rw[e1];omega) (Obj.cells #[.slice none 0 0,.slice none 0 0] 145)
 generalize w.alloc (.cells #[.int i64 S,v1,v2,v3] 28)=X at e1 hn hB
 have hr:=vat_new X [.slice none 0 0,.slice none 0 0] 145;have hf:=froz_new2 X #[.slice none 0 0,.slice none 0 0] 145;rw[e1] at hr hf;exact⟨hB,hn,hr 0 _ rfl,hr 1 _ rfl,hf⟩
theorem DB.lt {w W:World}{S:Int}{v1 v2 v3:Value}(k:DB w W S v1 v2 v3):w.heap.size+1<W.heap.size:=bLQ W ⟨w.heap.size+1,0,none⟩ k.r0
theorem DB.later {w W W':World}{S:Int}{v1 v2 v3:Value}(k:DB w W S v1 v2 v3)(hb:Below W.heap.size W W'):DB w W' S v1 v2 v3:=
 ⟨k.below.trans (hb.mono k.below.size),k.n.later hb,cell_later hb k.r0,cell_later hb k.r1,fun i=>(hb.frozen (p:=⟨w.heap.size+1,i,none⟩) k.lt).trans (k.f i)⟩
theorem below_2 {B:Nat}{w W:World}(h:Below B w W)(g:Nat)(hg:B≤g)(a b:Value):Below B w ((W.setCell ⟨g,0,none⟩ a).setCell ⟨g,1,none⟩ b):=(h.setCell (p:=⟨g,0,none⟩) hg a).setCell (p:=⟨g,1,none⟩) hg b
theorem LGs.put {W:World}{B B':Nat}{v:Value}{f:Nat→Nat→Lg}{k:Nat}(h:LGs W B v f k)(g:Nat)(hg:g<B)(a b:Value)(hB:B'≤B):LGs ((W.setCell ⟨g,0,none⟩ a).setCell ⟨g,1,none⟩ b) B' v f k:=by
 obtain⟨vs,h1,h2⟩:=h;refine⟨vs,own_mono (ownsRow_setCell_below (ownsRow_setCell_below h1 hg _) hg _) hB,fun i hi=>?_⟩;obtain⟨u,e,h3⟩:=h2 i hi;exact⟨u,e,own_mono (ownsRow_setCell_below (ownsRow_setCell_below h3 hg _) hg _) hB⟩
def NetQ (w2:World)(Z:Int)(q1:AdQ)(j1 e1:Nat)(q2:AdQ)(j2 e2:Nat)(q3:AdQ)(j3 e3:Nat)(Ls:LkQ)(Hs:HoQ)(T':TsQ):Prop:=
 (∀W,Below w2.heap.size w2 W→GS lnkE W (.slice q1 j1 e1) Ls∧GS hstE W (.slice q2 j2 e2) Hs∧TS W (.slice q3 j3 e3) T')∧ntN Z Ls Hs T'=0
theorem during_any (S:Int)(ao:AdQ)(n cap:Nat)(ao2:AdQ)(n2 cap2:Nat)(ao3:AdQ)(n3 cap3:Nat)(a4:AdQ)(n4 c4:Nat)(Ls:LkQ)(Hs:HoQ)(Ts:TsQ)(l:List Op8)(w:World)
 (hL:GS lnkE w (.slice ao n cap) Ls) (hH:GS hstE w (.slice ao2 n2 cap2) Hs) (hT:TS w (.slice ao3 n3 cap3) Ts) (hl:GS opE w (.slice a4 n4 c4) l):
 Calls prog 63 #[.agg #[.int i64 S,.slice ao n cap,.slice ao2 n2 cap2,.slice ao3 n3 cap3],.slice a4 n4 c4] w fun e w'=>∃(p7:AdQ) (j7 e7:Nat) (p8:AdQ) (j8 e8:Nat),e=.returned (.tuple #[.agg #[.slice p7 j7 e7,.slice p8 j8 e8],noV (cgN S Ls Hs Ts l)])∧DuQ (cgN S Ls Hs Ts l) w' 0 (.slice p7 j7 e7) (.slice p8 j8 e8) Ls Hs Ts l n3∧Below w.heap.size w w':=by
 obtain⟨N,hN⟩:∃N,N=cgN S Ls Hs Ts l:=⟨_,rfl⟩;have HN:Hid (cgN S Ls Hs Ts l=N):=hN.symm;rw[←hN];have HLW:Hid (∀W,Below w.heap.size w W→GS lnkE W (.slice ao n cap) Ls):=fun W hb=>hL.later hb
 have HHW:Hid (∀W,Below w.heap.size w W→GS hstE W (.slice ao2 n2 cap2) Hs):=fun W hb=>hH.later hb
 have HTW:Hid (∀W,Below w.heap.size w W→TS W (.slice ao3 n3 cap3) Ts):=fun W hb=>hT.later hb
 have HlW:Hid (∀W,Below w.heap.size w W→GS opE W (.slice a4 n4 c4) l):=fun W hb=>hl.later hb
 have HTN:Hid (Ts.length=n3):=hT.len;have hX:=db_new w S (.slice ao n cap) (.slice ao2 n2 cap2) (.slice ao3 n3 cap3);obtain⟨w0,hw0⟩:∃W,(w.alloc (.cells #[.int i64 S,.slice ao n cap,.slice ao2 n2 cap2,.slice ao3 n3 cap3] 28)).alloc (.cells #[.slice none 0 0,.slice none 0 0] 145)=W:=⟨_,rfl⟩;rw[hw0] at hX;have HX:Hid (DB w w0 S (.slice ao n cap) (.slice ao2 n2 cap2) (.slice ao3 n3 cap3)):=hX;have HW0:Hid ((w.alloc (.cells #[.int i64 S,.slice ao n cap,.slice ao2 n2 cap2,.slice ao3 n3 cap3] 28)).alloc (.cells #[.slice none 0 0,.slice none 0 0] 145)=w0):=hw0;clear hL hH hT hl hN hX hw0;go_enter func63,ntmps63;go_upto_region 1 with fail;rw[HW0.out];clear HW0;obtain⟨_,⟨b0,b1,b2,b3⟩,_,_,_⟩:=HX.out
 go_wp2_with fail
 refine (chApply_any S ao n cap ao2 n2 cap2 ao3 n3 cap3 a4 n4 c4 Ls Hs Ts l _ (HLW.out _ HX.out.below) (HHW.out _ HX.out.below) (HTW.out _ HX.out.below) (HlW.out _ HX.out.below)).mono ?_;rintro e w1 ⟨p1,k1,d1,p2,k2,d2,p3,k3,d3,rfl,g1,g2,g3,hb1⟩;rw[HN.out] at g1 g2 g3;rw[HN.out];have HX1:Hid (DB w w1 S (.slice ao n cap) (.slice ao2 n2 cap2) (.slice ao3 n3 cap3)):=HX.out.later hb1;obtain⟨Z,hZ⟩:∃Z,Z=nvS N S:=⟨_,rfl⟩;rw[←hZ];have hal:Below w1.heap.size w1 (w1.alloc (.cells #[.int i64 Z,.slice p1 k1 d1,.slice p2 k2 d2,.slice p3 k3 d3] 28)):=(bRQ _ _).alloc (nLQ _) _;have hne:=nebox_new w1 Z (.slice p1 k1 d1) (.slice p2 k2 d2) (.slice p3 k3 d3) 28;have hX2:=HX1.out.later hal;have g1':=g1.later hal;have g2':=g2.later hal;have g3':=g3.later hal;obtain⟨w2,hw2⟩:∃W,w1.alloc (.cells #[.int i64 Z,.slice p1 k1 d1,.slice p2 k2 d2,.slice p3 k3 d3] 28)=W:=⟨_,rfl⟩;obtain⟨gn,hgn⟩:∃g,w1.heap.size=g:=⟨_,rfl⟩;rw[hw2] at hne hX2 g1' g2' g3';rw[hgn] at hne;have HW2:Hid (w1.alloc (.cells #[.int i64 Z,.slice p1 k1 d1,.slice p2 k2 d2,.slice p3 k3 d3] 28)=w2):=hw2;have HGN:Hid (w1.heap.size=gn):=hgn;have HX2:Hid (DB w w2 S (.slice ao n cap) (.slice ao2 n2 cap2) (.slice ao3 n3 cap3)):=hX2;have HNE:Hid (NeBox w2 gn Z (.slice p1 k1 d1) (.slice p2 k2 d2) (.slice p3 k3 d3)):=hne;have HG:Hid (GS lnkE w2 (.slice p1 k1 d1) (nvL N Ls)∧GS hstE w2 (.slice p2 k2 d2) (nvL N Hs)∧TS w2 (.slice p3 k3 d3) (nvL N (caT Ts l))):=⟨g1',g2',g3'⟩;have HZ:Hid (Z=nvS N S):=hZ;have HGL:Hid (w.heap.size+1<gn):=by
  show _<_;rw[←hgn];exact HX1.out.lt
 clear hb1 g1 g2 g3 g1' g2' g3' hal hne hX2 hw2 hgn hZ HX HX1 b0 b1 b2 b3;go_upto_region 2 with fail;rw[HW2.out,HGN.out];clear HW2 HGN;by_cases h0:N=0
 ·subst h0;rw[no_ok rfl];have HNT:Hid (ntN S Ls Hs Ts=0∧caN S Ts l=0):=by
   have h:=HN.out;unfold cgN at h;by_cases e:ntN S Ls Hs Ts=0
   ·rw[if_pos e] at h;by_cases e2:200<l.length
    ·rw[if_pos e2] at h;cases h
    rw[if_neg e2] at h;exact⟨e,h⟩
   rw[if_neg e] at h;exact absurd h e
  obtain rfl:Z=S:=HZ.out;have hg:=HG.out;simp only[nvL,if_true] at hg;have hk3:k3=n3:=by
   have h1:=hg.2.2.len;rw[ca_len,HTN.out] at h1;exact h1.symm
  subst hk3;have HLG:Hid (∀(q1:AdQ) (j1 e1:Nat) (q2:AdQ) (j2 e2:Nat) (q3:AdQ) (j3 e3:Nat) (T':TsQ) (W:World),Below w2.heap.size w2 W→NetQ w2 Z q1 j1 e1 q2 j2 e2 q3 j3 e3 Ls Hs T'→Calls prog 100 #[.agg #[.int i64 Z,.slice q1 j1 e1,.slice q2 j2 e2,.slice q3 j3 e3]] W fun e w'=>∃a' c',e=.returned (.slice a' j3 c')∧LGs w' W.heap.size (.slice a' j3 c') (lgF Ls Hs T') j3∧Below W.heap.size W w'):=fun q1 j1 e1 q2 j2 e2 q3 j3 e3 T' W hb hq=>(legs_any Z q1 j1 e1 q2 j2 e2 q3 j3 e3 Ls Hs T' W (hq.1 W hb).1 (hq.1 W hb).2.1 (hq.1 W hb).2.2 hq.2).mono (by
   rintro e w' ⟨v,rfl,hG,hb⟩;obtain⟨vs,hv,_⟩:=id hG;obtain⟨a',c',rfl⟩:=own_form hv;exact⟨a',c',rfl,hG,hb⟩)
  have HQA:Hid (NetQ w2 Z ao n cap ao2 n2 cap2 ao3 k3 cap3 Ls Hs Ts):=⟨fun W hb=>by
   have hx:=HX2.out.below.trans (hb.mono HX2.out.below.size);exact⟨HLW.out W hx,HHW.out W hx,HTW.out W hx⟩,HNT.out.1⟩
  have HQB:Hid (NetQ w2 Z p1 k1 d1 p2 k2 d2 p3 k3 d3 Ls Hs (caT Ts l)):=⟨fun W hb=>⟨hg.1.later hb,hg.2.1.later hb,hg.2.2.later hb⟩,nt_ca HNT.out.1 HNT.out.2⟩;have HSW:Hid (∀W,Below w2.heap.size w2 W→W.cell? ⟨w.heap.size,0,none⟩=some (.int i64 Z)∧W.cell? ⟨w.heap.size,1,none⟩=some (.slice ao n cap)∧W.cell? ⟨w.heap.size,2,none⟩=some (.slice ao2 n2 cap2)∧W.cell? ⟨w.heap.size,3,none⟩=some (.slice ao3 k3 cap3)∧W.cell? ⟨gn,0,none⟩=some (.int i64 Z)∧W.cell? ⟨gn,1,none⟩=some (.slice p1 k1 d1)∧W.cell? ⟨gn,2,none⟩=some (.slice p2 k2 d2)∧W.cell? ⟨gn,3,none⟩=some (.slice p3 k3 d3)):=fun W hb=>by
   obtain⟨a0,a1,a2,a3⟩:=HX2.out.n.later hb;obtain⟨c0,c1,c2,c3⟩:=HNE.out.later hb;exact⟨a0,a1,a2,a3,c0,c1,c2,c3⟩
  have HSV:Hid (∀W,Below w2.heap.size w2 W→∀a b,(((W.setCell ⟨w.heap.size+1,0,none⟩ a).setCell ⟨w.heap.size+1,1,none⟩ b).cell? ⟨w.heap.size,0,none⟩=some (.int i64 Z)∧((W.setCell ⟨w.heap.size+1,0,none⟩ a).setCell ⟨w.heap.size+1,1,none⟩ b).cell? ⟨w.heap.size,1,none⟩=some (.slice ao n cap)∧((W.setCell ⟨w.heap.size+1,0,none⟩ a).setCell ⟨w.heap.size+1,1,none⟩ b).cell? ⟨w.heap.size,2,none⟩=some (.slice ao2 n2 cap2)∧((W.setCell ⟨w.heap.size+1,0,none⟩ a).setCell ⟨w.heap.size+1,1,none⟩ b).cell? ⟨w.heap.size,3,none⟩=some (.slice ao3 k3 cap3)∧((W.setCell ⟨w.heap.size+1,0,none⟩ a).setCell ⟨w.heap.size+1,1,none⟩ b).cell? ⟨gn,0,none⟩=some (.int i64 Z)∧((W.setCell ⟨w.heap.size+1,0,none⟩ a).setCell ⟨w.heap.size+1,1,none⟩ b).cell? ⟨gn,1,none⟩=some (.slice p1 k1 d1)∧((W.setCell ⟨w.heap.size+1,0,none⟩ a).setCell ⟨w.heap.size+1,1,none⟩ b).cell? ⟨gn,2,none⟩=some (.slice p2 k2 d2)∧((W.setCell ⟨w.heap.size+1,0,none⟩ a).setCell ⟨w.heap.size+1,1,none⟩ b).cell? ⟨gn,3,none⟩=some (.slice p3 k3 d3))):=fun W hb a b=>by
   have hl:=HX2.out.lt;have hgl:gn≠w.heap.size+1:=by
    have h1:=HX2.out.lt;have h2:=HGL.out;omega
   have o:∀(g j:Nat),g≠w.heap.size+1→((W.setCell ⟨w.heap.size+1,0,none⟩ a).setCell ⟨w.heap.size+1,1,none⟩ b).cell? ⟨g,j,none⟩=W.cell? ⟨g,j,none⟩:=fun g j hne=>by
    rw[World.cell?_setCell_other _ _ _ _ (by intro e;injection e with e1;exact hne e1.symm),World.cell?_setCell_other _ _ _ _ (by intro e;injection e with e1;exact hne e1.symm)]
   obtain⟨a0,a1,a2,a3,c0,c1,c2,c3⟩:=HSW.out W hb;exact⟨by rw[o _ _ (by omega)];exact a0,by rw[o _ _ (by omega)];exact a1,by rw[o _ _ (by omega)];exact a2,by rw[o _ _ (by omega)];exact a3,by rw[o _ _ hgl];exact c0,by rw[o _ _ hgl];exact c1,by rw[o _ _ hgl];exact c2,by rw[o _ _ hgl];exact c3⟩
  obtain⟨s0,s1,s2,s3,s4,s5,s6,s7⟩:=HSW.out w2 (bRQ _ _);have hlw:w.heap.size<w2.heap.size:=bLQ _ _ s0;have hlg:gn<w2.heap.size:=bLQ _ _ s4;have hlr:w.heap.size+1<w2.heap.size:=HX2.out.lt;have HR:Hid (∀W,Below w2.heap.size w2 W→(W.cell? ⟨w.heap.size+1,0,none⟩=some (.slice none 0 0)∧W.cell? ⟨w.heap.size+1,1,none⟩=some (.slice none 0 0))∧W.frozen? ⟨w.heap.size+1,0,none⟩=false∧W.frozen? ⟨w.heap.size+1,1,none⟩=false):=fun W hb=>⟨⟨cell_later hb HX2.out.r0,cell_later hb HX2.out.r1⟩,(HX2.out.later hb).f 0,(HX2.out.later hb).f 1⟩
  have HBW:Hid (Below w.heap.size w w2):=HX2.out.below;clear hg;go_upto_region 4 with fail
  go_region_held3 (fun W=>W.cell? ⟨w.heap.size,0,none⟩=some (.int i64 Z)∧W.cell? ⟨w.heap.size,1,none⟩=some (.slice ao n cap)∧W.cell? ⟨w.heap.size,2,none⟩=some (.slice ao2 n2 cap2)∧W.cell? ⟨w.heap.size,3,none⟩=some (.slice ao3 k3 cap3)∧W.cell? ⟨gn,0,none⟩=some (.int i64 Z)∧W.cell? ⟨gn,1,none⟩=some (.slice p1 k1 d1)∧W.cell? ⟨gn,2,none⟩=some (.slice p2 k2 d2)∧W.cell? ⟨gn,3,none⟩=some (.slice p3 k3 d3))
   (first | (with_reducible assumption) | (with_reducible exact HSW.out _ (Below.drew (bRQ _ _))) | (with_reducible exact HSW.out _ HBA.out) | (with_reducible exact HSW.out _ HBB.out) | (with_reducible exact HSV.out _ HBA.out _ _) | (with_reducible exact HSV.out _ HBB.out _ _))
   (first
    | (go_at_call 100;refine (HLG.out _ _ _ _ _ _ _ _ _ (Ts) _ ?_ ?_).mono ?_;(focus (first | (with_reducible exact Below.drew (bRQ _ _)) | (with_reducible exact HBB.out)));(focus (with_reducible exact HQA.out));rintro e5 w5A ⟨aA,cA,rfl,hG,hb⟩;have HBA:Hid (Below w2.heap.size w2 w5A):=(by first | exact bdrew hb | exact HBB.out.trans (hb.mono HBB.out.size));have HGA:Hid (LGs w5A w2.heap.size (.slice aA k3 cA) (lgF Ls Hs (Ts)) k3):=(hG.mono (by first | exact nLQ _ | exact HBB.out.size));(try (have HGB2:Hid (LGs w5A w2.heap.size (.slice aB k3 cB) _ k3):=HGB.out.later hb));have hr:=HR.out _ HBA.out;obtain⟨⟨r0,r1⟩,f0,f1⟩:=hr;clear hG hb)
    | (go_at_call 100;refine (HLG.out _ _ _ _ _ _ _ _ _ (caT Ts l) _ ?_ ?_).mono ?_;(focus (first | (with_reducible exact Below.drew (bRQ _ _)) | (with_reducible exact HBA.out)));(focus (with_reducible exact HQB.out));rintro e5 w5B ⟨aB,cB,rfl,hG,hb⟩;have HBB:Hid (Below w2.heap.size w2 w5B):=(by first | exact bdrew hb | exact HBA.out.trans (hb.mono HBA.out.size));have HGB:Hid (LGs w5B w2.heap.size (.slice aB k3 cB) (lgF Ls Hs (caT Ts l)) k3):=(hG.mono (by first | exact nLQ _ | exact HBA.out.size));(try (have HGA2:Hid (LGs w5B w2.heap.size (.slice aA k3 cA) _ k3):=HGA.out.later hb));have hr:=HR.out _ HBB.out;obtain⟨⟨r0,r1⟩,f0,f1⟩:=hr;clear hG hb))
  all_goals go_wp2
  all_goals refine bodyPost_ret (v:=.tuple #[.agg #[.slice aA k3 cA,.slice aB k3 cB],.nilIface]) (by simp[results,results63,go_sem, *]) rfl ⟨_,_,_,_,_,_,by rw[no_ok rfl],?_⟩
  all_goals first
   | exact⟨fun _=>⟨HGA2.out.put _ hlr _ _ (Nat.zero_le _),HGB.out.put _ hlr _ _ (Nat.zero_le _)⟩,below_2 (HBW.out.trans (HBB.out.mono HBW.out.size)) _ (by omega) _ _⟩
   | exact⟨fun _=>⟨HGA.out.put _ hlr _ _ (Nat.zero_le _),HGB2.out.put _ hlr _ _ (Nat.zero_le _)⟩,below_2 (HBW.out.trans (HBA.out.mono HBW.out.size)) _ (by omega) _ _⟩
 rw[no_ne h0];have HNZ:Hid (N≠0):=h0;obtain⟨hB2,_,r0,r1,rf⟩:=HX2.out;have HB2:Hid (Below w.heap.size w w2):=hB2;have f0:=rf 0;have f1:=rf 1;clear hB2 rf h0;go_wp2;refine bodyPost_ret (v:=.tuple #[.agg #[.slice none 0 0,.slice none 0 0],.iface 68 (.int i64 N)]) (by simp[results,results63,go_sem, *]) rfl ⟨_,_,_,_,_,_,by rw[no_ne HNZ.out],fun e=>absurd e HNZ.out,below_2 HB2.out _ (by omega) _ _⟩
end
section
open Go.RowKit
def ftE:Enc (Ft×SlT) where
 c:=fun z=>[.int i64 z.1.1,.string z.1.2.1,slV z.2]
 n:=3
 len:=fun _=>rfl
 pos:=by decide
 one:=by
  intro x u hu;simp at hu
  rcases hu with rfl | rfl | rfl <;> rfl
def FTs (w:World)(v:Value)(L:List Ft):Prop:=∃Z:List (Ft×SlT),GS ftE w v Z∧Z.map Prod.fst=L∧∀z∈Z,GS hopE w (slV z.2) z.1.2.2
theorem FTs.later {w w':World}{v:Value}{L:List Ft}(h:FTs w v L)(hb:Go.RowKit.Below w.heap.size w w'):FTs w' v L:=by
 obtain⟨Z,h1,h2,h3⟩:=h;exact⟨Z,h1.later hb,h2,fun z hz=>(h3 z hz).later hb⟩
section
variable (Ls:LkQ)(Hs:HoQ)(As Bs:TsQ)
def stW (n:Nat)(l:HpQ)(met:List Int)(a:List Ft)(t:List Ru):List Ft:=onL (fun l' a'=>wkL Ls Hs As Bs n l' met a') l a (goE Ls Hs t l (laH l))
def stA (n:Nat)(l:HpQ)(met:List Int)(a:List Ft):List Ft:=if (met.any fun y=>y==(laH l).1.1)=true then a else stW Ls Hs As Bs n l met a (taT As (laH l).1.1)
variable {Ls Hs As Bs}
theorem mem_any {met:List Int}{s:Int}:(met.any fun y=>y==s)=true↔s∈met:=by
 rw[List.any_eq_true];constructor
 ·rintro⟨y,h1,h2⟩;rw[←(beq_iff_eq.1 h2)];exact h1
 intro h;exact⟨s,h,by simp⟩
theorem wk_no {n:Nat}{l:HpQ}{met:List Int}{a:List Ft}(h:chB As Bs (laH l).1.1=false):wkL Ls Hs As Bs (n+1) l met a=stA Ls Hs As Bs n l met a:=by
 rw[wkL,h,if_neg (by simp)];simp only[stA,stW,mem_any]
theorem wk_yes {n:Nat}{l:HpQ}{met:List Int}{a:List Ft}(h:chB As Bs (laH l).1.1=true):wkL Ls Hs As Bs (n+1) l met a=stW Ls Hs As Bs n l (met++if (met.any fun y=>y==(laH l).1.1)=true then [] else [(laH l).1.1]) (stA Ls Hs As Bs n l met a) (taT Bs (laH l).1.1):=by
 rw[wkL,if_pos h];simp only[stA,stW,mem_any];by_cases e:(laH l).1.1∈met <;> simp[e]
theorem st_end {n:Nat}{l:HpQ}{met:List Int}{a:List Ft}{t:List Ru}(h:(gnF Ls Hs t l).2=false):stW Ls Hs As Bs n l met a t=puR faL (gnF Ls Hs t l).1 a∧(gnF Ls Hs t l).1.2.2=l:=by
 unfold gnF at *;unfold stW;cases e:goE Ls Hs t l (laH l) with
 | inl p=>exact⟨rfl,rfl⟩
 | inr p=>rw[e] at h;cases h
theorem st_on {n:Nat}{l:HpQ}{met:List Int}{a:List Ft}{t:List Ru}{q:(Int×Int)×Int}(h:(gnF Ls Hs t l).2=true)(hq:(gnF Ls Hs t l).1=(0,ByteArray.empty,l++[q])):stW Ls Hs As Bs n l met a t=wkL Ls Hs As Bs n (l++[q]) met a:=by
 unfold gnF at *;unfold stW;cases e:goE Ls Hs t l (laH l) with
 | inl p=>rw[e] at h;cases h
 | inr p =>
   rw[e] at hq;simp only[Prod.mk.injEq,List.append_cancel_left_eq,List.cons.injEq,and_true,true_and] at hq;subst hq;rfl
theorem wk_len:∀(n:Nat) (l:HpQ) (met:List Int) (a:List Ft),(wkL Ls Hs As Bs n l met a).length≤a.length+2 ^ n
 | 0,l,met,a=>by simp[wkL]
 | n+1,l,met,a=>by
   have on:∀(met:List Int) (a:List Ft) (t:List Ru),(stW Ls Hs As Bs n l met a t).length≤a.length+2 ^ n:=by
    intro met a t;unfold stW;cases goE Ls Hs t l (laH l) with
    | inl p =>
      have:=pu_len (r:=faL) (p.1,p.2,l) a;have:=Nat.one_le_two_pow (n:=n);simp only[onL];omega
    | inr p=>exact wk_len n _ _ _
   have p0:=Nat.one_le_two_pow (n:=n);have sa:(stA Ls Hs As Bs n l met a).length≤a.length+2 ^ n:=by
    unfold stA
    split
    ·omega
    exact on _ _ _
   have e2:2 ^ (n+1)=2 ^ n+2 ^ n:=by omega
   cases h:chB As Bs (laH l).1.1
   ·rw[wk_no h];omega
   rw[wk_yes h];have:=on (met++if (met.any fun y=>y==(laH l).1.1)=true then [] else [(laH l).1.1]) (stA Ls Hs As Bs n l met a) (taT Bs (laH l).1.1);omega
theorem st_len {n:Nat}{l:HpQ}{met:List Int}{a:List Ft}{t:List Ru}:(stW Ls Hs As Bs n l met a t).length≤a.length+2 ^ n:=by
 unfold stW;cases goE Ls Hs t l (laH l) with
 | inl p =>
   have:=pu_len (r:=faL) (p.1,p.2,l) a;have:=Nat.one_le_two_pow (n:=n);simp only[onL];omega
 | inr p=>exact wk_len n _ _ _
theorem wk_hops:∀(n:Nat) (l:HpQ) (met:List Int) (a:List Ft),l.length+n≤1000→(∀x∈a,x.2.2.length≤1000)→∀x∈wkL Ls Hs As Bs n l met a,x.2.2.length≤1000
 | 0,l,met,a,h,ha=>by simpa[wkL] using ha
 | n+1,l,met,a,h,ha=>by
   have on:∀(met:List Int) (a:List Ft) (t:List Ru),(∀x∈a,x.2.2.length≤1000)→∀x∈stW Ls Hs As Bs n l met a t,x.2.2.length≤1000:=by
    intro met a t ha;unfold stW;cases goE Ls Hs t l (laH l) with
    | inl p =>
      intro x hx
      rcases (pu_mem lo_fate _).1 hx with rfl | hx
      ·show l.length≤1000;omega
      exact ha x hx
    | inr p=>exact wk_hops n _ _ _ (by simp;omega) ha
   have sa:∀x∈stA Ls Hs As Bs n l met a,x.2.2.length≤1000:=by
    unfold stA
    split
    ·exact ha
    exact on _ _ _ ha
   cases h:chB As Bs (laH l).1.1
   ·rw[wk_no h];exact sa
   rw[wk_yes h];exact on _ _ _ sa
def GL (n:Nat)(a:List Ft):Prop:=Ris faL a∧(∀x∈a,x.2.2.length≤1000)∧a.length+2 ^ n≤50000000
theorem GL.less {n:Nat}{a:List Ft}(h:GL (n+1) a):GL n a:=⟨h.1,h.2.1,by have:=h.2.2;have:=Nat.one_le_two_pow (n:=n);omega⟩
theorem GL.st {n:Nat}{l:HpQ}{met:List Int}{a:List Ft}{t:List Ru}(h:GL (n+1) a)(hl:l.length+(n+1)≤1000):GL n (stW Ls Hs As Bs n l met a t):=by
 refine⟨?_,?_,?_⟩
 ·unfold stW;exact on_ris (fun l a h=>wk_ris n l met a h) l h.1 _
 ·unfold stW;cases goE Ls Hs t l (laH l) with
  | inl p =>
    intro x hx
    rcases (pu_mem lo_fate _).1 hx with rfl | hx
    ·show l.length≤1000;omega
    exact h.2.1 x hx
  | inr p=>exact wk_hops n _ _ _ (by simp;omega) h.2.1
 have:=st_len (Ls:=Ls) (Hs:=Hs) (As:=As) (Bs:=Bs) (n:=n) (l:=l) (met:=met) (a:=a) (t:=t);have:=h.2.2;omega
theorem GL.sa {n:Nat}{l:HpQ}{met:List Int}{a:List Ft}(h:GL (n+1) a)(hl:l.length+(n+1)≤1000):GL n (stA Ls Hs As Bs n l met a):=by
 unfold stA
 split
 ·exact h.less
 exact h.st hl
end
def SK (a:AdQ)(n c:Nat):Prop:=(a=none∧n=0∧c=0)∨0<n
def GN (F:Ft)(on:Bool)(wr:World)(p q:Value)(W:World):Prop:=
 ∃g a6 n6 c6,p=.pointer (some ⟨g,0,none⟩)∧q=.bool on∧W.cell? ⟨g,0,none⟩=some (.int i64 F.1)∧W.cell? ⟨g,1,none⟩=some (.string F.2.1)∧W.cell? ⟨g,2,none⟩=some (.slice a6 n6 c6)∧GS hopE W (.slice a6 n6 c6) F.2.2∧Below wr.heap.size wr W
theorem GN.after {F:Ft}{on:Bool}{wr w0 w':World}{a6:AdQ}{n6 c6:Nat}(h0:Below wr.heap.size wr w0)(hb:Below w0.heap.size w0 w')(hG:GS hopE w' (.slice a6 n6 c6) F.2.2):
 GN F on wr (.pointer (some ⟨w'.heap.size,0,none⟩)) (.bool on) (w'.alloc (.cells #[.int i64 F.1,.string F.2.1,.slice a6 n6 c6] 83)):=by
 have hv:=vat_new w' [.int i64 F.1,.string F.2.1,.slice a6 n6 c6] 83;exact⟨w'.heap.size,a6,n6,c6,rfl,rfl,hv 0 _ rfl,hv 1 _ rfl,hv 2 _ rfl,hG.later ((bRQ _ _).alloc (nLQ _) _),(h0.trans (hb.mono h0.size)).alloc (Nat.le_trans h0.size hb.size) _⟩
theorem below_3 {B:Nat}{w W:World}(h:Below B w W)(g:Nat)(hg:B≤g)(a b c:Value):Below B w (((W.setCell ⟨g,0,none⟩ a).setCell ⟨g,1,none⟩ b).setCell ⟨g,2,none⟩ c):=below_put3 h g hg a b c
def ZF (W:World)(g:Nat):Prop:=VAt W g 0 [.int i64 0,.string ⟨#[]⟩,.slice none 0 0]∧∀i,W.frozen? ⟨g,i,none⟩=false
theorem zf_d {W W':World}{t:TypeId}(hb:Below (W.drew.alloc (.cells #[.int i64 0,.string ⟨#[]⟩,.slice none 0 0] t)).heap.size (W.drew.alloc (.cells #[.int i64 0,.string ⟨#[]⟩,.slice none 0 0] t)) W'):ZF W' W.heap.size:=
 ⟨(vat_new W.drew [.int i64 0,.string ⟨#[]⟩,.slice none 0 0] t).later hb,fun i=>(hb.frozen (p:=⟨W.heap.size,i,none⟩) (by show W.heap.size<(W.drew.alloc _).heap.size;simp)).trans (froz_new2 W.drew _ t i)⟩
theorem gn_ne {W:World}{o:Obj}{a8:AdQ}{g5 o5:Nat}(h:a8=some ⟨g5,o5,none⟩∨∀g o',a8=some ⟨g,o',none⟩→(W.drew.alloc o).heap.size≤g)(h5:g5<W.heap.size):∀g o',a8=some ⟨g,o',none⟩→g≠W.heap.size:=by
 intro g o' e
 rcases h with h | h
 ·rw[h] at e;cases e;omega
 have:=h g o' e;have e2:(W.drew.alloc o).heap.size=W.heap.size+1:=by simp
 omega
theorem gn_a {F:Ft}{on:Bool}{wr w':World}{a6:AdQ}{n6 c6:Nat}(hb:Below wr.heap.size wr w')(hG:GS hopE w' (.slice a6 n6 c6) F.2.2):
 GN F on wr (.pointer (some ⟨w'.heap.size,0,none⟩)) (.bool on) (w'.alloc (.cells #[.int i64 F.1,.string F.2.1,.slice a6 n6 c6] 83)):=GN.after (bRQ _ _) hb hG
theorem gn_b {F:Ft}{on:Bool}{wr w':World}{a6:AdQ}{n6 c6:Nat}{x y z:Value}(hb:Below wr.heap.size wr w')(hG:GS hopE w' (.slice a6 n6 c6) F.2.2)(hn:∀g o,a6=some ⟨g,o,none⟩→g≠wr.heap.size)
 (h1:w'.cell? ⟨wr.heap.size,0,none⟩=some x) (h2:w'.cell? ⟨wr.heap.size,1,none⟩=some y) (h3:w'.cell? ⟨wr.heap.size,2,none⟩=some z):
 GN F on wr (.pointer (some ⟨wr.heap.size,0,none⟩)) (.bool on) (((w'.setCell ⟨wr.heap.size,0,none⟩ (.int i64 F.1)).setCell ⟨wr.heap.size,1,none⟩ (.string F.2.1)).setCell ⟨wr.heap.size,2,none⟩ (.slice a6 n6 c6)):=by
 have e:=put3_cells (a:=.int i64 F.1) (b:=.string F.2.1) (c:=.slice a6 n6 c6) ⟨h1,h2,h3⟩;exact⟨wr.heap.size,a6,n6,c6,rfl,rfl,e.1,e.2.1,e.2.2,gs_put3 hG hn _ _ _,below_put3 hb _ (nLQ _) _ _ _⟩
theorem in_any (ao:AdQ)(n cap:Nat)(L:List Int)(x:Int)(w:World)(h:GS inE w (.slice ao n cap) L):
 Calls prog 42 #[.slice ao n cap,.int i64 x] w fun e w'=>e=.returned (.bool (L.any fun y=>y==x))∧w'=w:=by
 obtain⟨_,_,_,e1,hn,hn2,_,ha⟩:=h.form;cases e1;have HN:Hid (L.length=n):=hn;have HA:Hid (0<n→∃g o,ao=some ⟨g,o,none⟩∧GAt inE w g o L∧cap≤maxLen):=ha;unfold maxLen at hn2;obtain⟨R,hR⟩:∃R,R=L.any fun y=>y==x:=⟨_,rfl⟩
 have HR:Hid (R=L.any fun y=>y==x):=hR;rw[←hR];clear h hn ha hR;go_enter func42,ntmps42;go_wp2
 go_loopw [5] (fun i wr=>∃k:Nat,k≤n∧i=.int i64 k∧(L.take k).any (fun y=>y==x)=false∧wr=w) (fun i _=>n-(intOf i).toNat)
 case atStart=>exact⟨0,by omega,rfl,rfl,rfl⟩
 case round =>
  obtain⟨k,hk,rfl,hno,hwz⟩:=hrel;have hwy:=hwz.symm;subst hwy;have HNO:Hid ((L.take k).any (fun y=>y==x)=false):=hno;clear hwz hno;by_cases hlt:k<n
  ·obtain⟨g,o,hao,hG,_⟩:=HA.out (by omega);subst hao;obtain⟨y,hkl,hLk,c0⟩:=in_at hG HN.out hlt;have kb0:(0:Int)≤(k:Int):=by omega
   have kb1:(k:Int)<(n:Int):=by omega
   clear hG;cases hy:(y==x)
   ·have HN2:Hid ((L.take (k+1)).any (fun y=>y==x)=false):=any_nextG hkl HNO.out (by rw[hLk];exact hy);go_wp2;go_roundw
    case rel=>exact⟨k+1,by omega,by go_num,HN2.out,by first | rfl | trivial⟩
    case measure=>simp[intOf];omega
   have HT:Hid (R=true):=by
    show R=true;rw[HR.out];exact any_hitG hkl (by rw[hLk];exact hy)
   go_wp2;go_ret;exact⟨by rw[HT.out];rfl,rfl⟩
  obtain rfl:k=n:=by omega
  have HF:Hid (R=false):=by
   show R=false;rw[HR.out];have:=HNO.out
   rwa [←HN.out,List.take_length] at this
  go_wp2;go_ret;exact⟨by rw[HF.out];rfl,rfl⟩
def ltI (a b:Int):Bool:=decide (a<b)
theorem lo_ltI:LO ltI:=lo_int
def tcL (l:List Op8):List Int:=l.foldl (fun R o=>puR ltI o.w R) []
theorem tc_next {l:List Op8}{k:Nat}(hk:k<l.length):tcL (l.take (k+1))=puR ltI l[k].w (tcL (l.take k)):=by
 rw[List.take_succ_eq_append_getElem hk,tcL,tcL,List.foldl_append];rfl
theorem tc_ris:∀(l:List Op8) (R:List Int),Ris ltI R→Ris ltI (l.foldl (fun R o=>puR ltI o.w R) R)
 | [],R,h=>h
 | x :: l,R,h=>tc_ris l _ (pu_ris lo_ltI x.w h)
theorem tc_few:∀(l:List Op8) (R:List Int),(l.foldl (fun R o=>puR ltI o.w R) R).length≤R.length+l.length
 | [],R=>by simp
 | x :: l,R=>by
   have h1:=tc_few l (puR ltI x.w R);have h2:=pu_len (r:=ltI) x.w R;simp only[List.foldl_cons,List.length_cons];omega
theorem tc_mem:∀(l:List Op8) (R:List Int) (s:Int),s∈l.foldl (fun R o=>puR ltI o.w R) R↔s∈R∨∃o∈l,o.w=s
 | [],R,s=>by simp
 | x :: l,R,s=>by
   rw[List.foldl_cons,tc_mem l,pu_mem lo_ltI];constructor
   ·rintro ((rfl | h) | ⟨o,h1,h2⟩)
    ·exact .inr ⟨x,by simp,rfl⟩
    ·exact .inl h
    exact .inr ⟨o,by simp[h1],h2⟩
   rintro (h | ⟨o,h1,h2⟩)
   ·exact .inl (.inr h)
   rcases List.mem_cons.1 h1 with rfl | h1
   ·exact .inl (.inl h2.symm)
   exact .inr ⟨o,h1,h2⟩
theorem hid_len2 {α:Type}{l:List α}{x:α}{k:Nat}(h:l.length=k):(l++[x]).length=k+1:=by simp[h]
theorem rtouched_any (ao:AdQ)(n cap:Nat)(l:List Op8)(w:World)(h:GS opE w (.slice ao n cap) l)(hn0:n≤2199023255552):
 Calls prog 15 #[.slice ao n cap] w fun e w'=>∃a3 m c3,e=.returned (.slice a3 m c3)∧GS inE w' (.slice a3 m c3) (tcL l)∧Below w.heap.size w w':=by
 obtain⟨_,_,_,e1,hn,hn2,_,ha⟩:=h.form;cases e1;have HN:Hid (l.length=n):=hn;have HA:Hid (0<n→∃g o,ao=some ⟨g,o,none⟩∧GAt opE w g o l∧cap≤maxLen):=ha;unfold maxLen at hn2;clear h hn ha;go_enter func15,ntmps15;go_wp2
 go_loopw [3,4] (fun v i wr=>∃(k m c3:Nat) (a3:AdQ),k≤n∧i=.int i64 k∧v=.slice a3 m c3∧GS inE wr (.slice a3 m c3) (tcL (l.take k))∧SK a3 m c3∧Below w.heap.size w wr) (fun _ i _=>n-(intOf i).toNat)
 case atStart=>exact⟨0,0,0,none,by omega,rfl,rfl,.inl ⟨none,0,rfl,rfl⟩,.inl ⟨rfl,rfl,rfl⟩,bRQ _ _⟩
 case round =>
  obtain⟨i,m,c3,a3,hi,rfl,rfl,hG,hSK,hB⟩:=hrel;obtain⟨wr0,hw0⟩:∃X,X=wr:=⟨_,rfl⟩;subst hw0;have HB:Hid (Below w.heap.size w wr0):=hB;have HSK:Hid (SK a3 m c3):=hSK;have HMM:Hid ((tcL (l.take i)).length=m):=hG.len;have HGR:Hid (∀W,Below wr0.heap.size wr0 W→GS inE W (.slice a3 m c3) (tcL (l.take i))):=fun W hb=>hG.later hb
  have HG0:Hid (GS inE wr0 (.slice a3 m c3) (tcL (l.take i))):=hG;have HRI:Hid (Ris ltI (tcL (l.take i))):=tc_ris _ _ List.Pairwise.nil;have hmn:m≤i:=by
   have h1:=tc_few (l.take i) [];have h2:(l.take i).length≤i:=List.length_take_le i l;have h3:=HMM.out;unfold tcL at h3;simp only[List.length_nil,Nat.zero_add] at h1;omega
  clear hG hSK hB;by_cases hlt:i<n
  ·obtain⟨g,o,hao,hc,_⟩:=HA.out (by omega);subst hao;obtain⟨x0,x1,x2,x3,x4,x5,x6,x7,hil,hLi,_⟩:=op_at hc HN.out hlt;have HCO:Hid (∀W,Below wr0.heap.size wr0 W→W.cell? ⟨g,o+i*8,none⟩=some (.int i64 x0)):=fun W hb=>by
    obtain⟨y0,_,_,_,_,_,_,_,_,e,c0,_⟩:=op_at (hc.later (HB.out.trans (hb.mono HB.out.size))) HN.out hlt;rw[hLi] at e;cases e;exact c0
   have HTN:Hid (tcL (l.take (i+1))=puR ltI x0 (tcL (l.take i))):=show _=_ by
    rw[tc_next hil,hLi]
   obtain⟨R,hR⟩:∃R,R=tcL (l.take i):=⟨_,rfl⟩;rw[←hR] at HMM HGR HG0 HRI HTN;have ib0:(0:Int)≤(i:Int):=by omega
   have ib1:(i:Int)<(n:Int):=by omega
   clear hc hLi hR;go_upto_region 5 with fail;go_wp2
   go_loopw [5] (fun q wr=>∃k:Nat,k≤m∧q=.int i64 k∧(∀j x,k≤j→R[j]?=some x→ltI x0 x=true)∧Below wr0.heap.size wr0 wr) (fun q _=>(intOf q).toNat)
   case atStart=>exact⟨m,nLQ _,rfl,fun j x hj hx=>by
    have:=(List.getElem?_eq_some_iff.1 hx).1;have:=HMM.out;omega,bRQ _ _⟩
   case round =>
    obtain⟨k,hk,rfl,hall,hBz⟩:=hrel;obtain⟨wz,hwz⟩:∃X,X=wr:=⟨_,rfl⟩;subst hwz;have HBZ:Hid (Below wr0.heap.size wr0 wz):=hBz;have HALL:Hid (∀j x,k≤j→R[j]?=some x→ltI x0 x=true):=hall;obtain⟨BQ,hBQ⟩:∃b:Bool,b=(decide (0<k)&&decide (R.getD (k-1) 0 > x0)):=⟨_,rfl⟩;have HBQ:Hid ((decide (0<k)&&decide (R.getD (k-1) 0 > x0))=BQ):=hBQ.symm;clear hall hBz hBQ;go_upto_region 6 with fail
    go_cut [29] from 15 to 28 (fun q w'=>q=.bool BQ∧Below wz.heap.size wz w')
    case first =>
     by_cases hk0:0<k
     ·obtain⟨jj,hjj⟩:∃jj,k=jj+1:=⟨k-1,by omega⟩;obtain⟨_,_,_,e9,_,_,_,hRa⟩:=(HGR.out _ HBZ.out).form;cases e9;obtain⟨gr,qr,ha3,hGa,_⟩:=hRa (by omega);subst ha3;obtain⟨xr,hxl,hxr,hcx⟩:=in_at hGa HMM.out (show jj<m by omega);have hbq:BQ=decide (xr > x0):=by
       rw[←HBQ.out,hjj];simp[List.getD,hxl,hxr]
      have HCQ:Hid (wz.cell? ⟨gr,qr+jj,none⟩=some (.int i64 xr)∧wz.cell? ⟨g,o+i*8,none⟩=some (.int i64 x0)):=⟨hcx,HCO.out _ HBZ.out⟩;have hsub:IntKind.i64.wrap ((k:Int)-1)=(jj:Int):=by rw[IntKind.wrap_i64];omega
      have jb0:(0:Int)≤(jj:Int):=by omega
      have jb1:(jj:Int)<(m:Int):=by omega
      have kb0:decide ((0:Int)<(k:Int))=true:=by simp;omega
      subst hbq;clear hRa hGa hxr hcx hjj
      as_aux_lemma =>
       refine wp_region_quiet (C:=fun W=>Below wz.heap.size wz W∧W.cell? ⟨gr,qr+jj,none⟩=some (.int i64 xr)∧W.cell? ⟨g,o+i*8,none⟩=some (.int i64 x0)) (by kernel_rfl) (by kernel_rfl) ⟨Below.drew (bRQ _ _),HCQ.out⟩ ?_;simp only[List.toList_toArray];go_big_quiet_want;refine qv (.int i64 (k:Int)) ?_ ?_
       ·rintro w' ⟨z0,z1,z2⟩;go_simp
       simp only[Act.put,AP];go_big_quiet_on;go_big_quiet_want;refine qv (.bool true) ?_ ?_
       ·rintro w' ⟨z0,z1,z2⟩;go_simp
       simp only[Act.put,AP];go_big_quiet_on;go_big_quiet_want;refine qv (.bool true) ?_ ?_
       ·rintro w' ⟨z0,z1,z2⟩;go_simp
       simp only[Act.put,AP];go_big_quiet_on;go_big_quiet_want;refine qv (.slice (some ⟨gr,qr,none⟩) m c3) ?_ ?_
       ·rintro w' ⟨z0,z1,z2⟩;go_simp
       simp only[Act.put,AP];go_big_quiet_on;go_big_quiet_want;refine qv (.int i64 (k:Int)) ?_ ?_
       ·rintro w' ⟨z0,z1,z2⟩;go_simp
       simp only[Act.put,AP];go_big_quiet_on;go_big_quiet_want;refine qv (.int i64 (jj:Int)) ?_ ?_
       ·rintro w' ⟨z0,z1,z2⟩;go_simp
       simp only[Act.put,AP];go_big_quiet_on;go_big_quiet_want;refine qv (.pointer (some ⟨gr,qr+jj,none⟩)) ?_ ?_
       ·rintro w' ⟨z0,z1,z2⟩;go_simp
       simp only[Act.put,AP];go_big_quiet_on;go_big_quiet_want;refine qv (.int i64 xr) ?_ ?_
       ·rintro w' ⟨z0,z1,z2⟩;go_simp
       simp only[Act.put,AP];go_big_quiet_on;go_big_quiet_want;refine qv (.slice (some ⟨g,o,none⟩) n cap) ?_ ?_
       ·rintro w' ⟨z0,z1,z2⟩;go_simp
       simp only[Act.put,AP];go_big_quiet_on;go_big_quiet_want;refine qv (.int i64 (i:Int)) ?_ ?_
       ·rintro w' ⟨z0,z1,z2⟩;go_simp
       simp only[Act.put,AP];go_big_quiet_on;go_big_quiet_want;refine qv (.pointer (some ⟨g,o+i*8,none⟩)) ?_ ?_
       ·rintro w' ⟨z0,z1,z2⟩;go_simp
       simp only[Act.put,AP];go_big_quiet_on;go_big_quiet_want;refine qv (.pointer (some ⟨g,o+i*8,none⟩)) ?_ ?_
       ·rintro w' ⟨z0,z1,z2⟩;go_simp
       simp only[Act.put,AP];go_big_quiet_on;go_big_quiet_want;refine qv (.int i64 x0) ?_ ?_
       ·rintro w' ⟨z0,z1,z2⟩;go_simp
       simp only[Act.put,AP];go_big_quiet_on;go_big_quiet_want;refine qv (.bool (decide (xr > x0))) ?_ ?_
       ·rintro w' ⟨z0,z1,z2⟩;go_simp
       simp only[Act.put,AP];go_big_quiet_on;go_big_quiet_want;refine qv (.bool (decide (xr > x0))) ?_ ?_
       ·rintro w' ⟨z0,z1,z2⟩;go_simp
       simp only[Act.put,AP];go_big_quiet_on;refine wpQuiet_nil ?_;intro w' hC
       go_wp2_with fail
       go_meet
       case rel=>exact⟨rfl,hC.1⟩
     obtain rfl:k=0:=by omega
     have hbq:BQ=false:=by
      rw[←HBQ.out];simp
     subst hbq
     as_aux_lemma =>
      refine wp_region_quiet (C:=fun W=>Below wz.heap.size wz W) (by kernel_rfl) (by kernel_rfl) (Below.drew (bRQ _ _)) ?_;simp only[List.toList_toArray];go_big_quiet_want;refine qv (.int i64 0) ?_ ?_
      ·rintro w' z0;go_simp
      simp only[Act.put,AP];go_big_quiet_on;go_big_quiet_want;refine qv (.bool false) ?_ ?_
      ·rintro w' z0;go_simp
      simp only[Act.put,AP];go_big_quiet_on;go_big_quiet_want;refine qv (.bool false) ?_ ?_
      ·rintro w' z0;go_simp
      simp only[Act.put,AP];go_big_quiet_on;go_big_quiet_skip;go_big_quiet_skip;go_big_quiet_skip;go_big_quiet_skip;go_big_quiet_skip;go_big_quiet_skip;go_big_quiet_skip;go_big_quiet_skip;go_big_quiet_skip;go_big_quiet_skip;go_big_quiet_skip;go_big_quiet_want;refine qv (.bool false) ?_ ?_
      ·rintro w' z0;go_simp
      simp only[Act.put,AP];go_big_quiet_on;refine wpQuiet_nil ?_;intro w' hC
      go_wp2_with fail
      go_meet
      case rel=>exact⟨rfl,hC⟩
    case rest =>
     obtain⟨rfl,hbq2⟩:=hcut;have HBC:Hid (Below wr0.heap.size wr0 wc):=HBZ.out.trans (hbq2.mono HBZ.out.size);clear hbq2 HBZ;cases BQ with
     | true =>
       have hb:=HBQ.out;simp only[Bool.and_eq_true,decide_eq_true_eq] at hb;have HALL2:Hid (∀j x,k-1≤j→R[j]?=some x→ltI x0 x=true):=fun j x hj hx=>by
        by_cases e:j=k-1
        ·subst e;have h2:=hb.2;simp only[List.getD,hx,Option.getD_some] at h2;simpa[ltI] using h2
        exact HALL.out j x (by omega) hx
       have hk1:0<k:=hb.1;have hsub:IntKind.i64.wrap ((k:Int)-1)=((k-1:Nat):Int):=by rw[IntKind.wrap_i64];omega
       clear hb;go_wp2;go_roundw
       case rel=>exact⟨k-1,by omega,by first | rfl | (simp only[hsub]),HALL2.out,HBC.out⟩
       case measure=>simp[intOf,hsub];omega
     | false =>
       have HNG:Hid (0<k→R.getD (k-1) 0≤x0):=fun h=>by
        have hb:=HBQ.out;simp[h] at hb;simpa using hb
       clear HBQ;obtain⟨wy,hwy⟩:∃X,X=wc:=⟨_,rfl⟩;subst hwy;have HBZ:Hid (Below wr0.heap.size wr0 wy):=HBC.out;obtain⟨BQ,hBQ⟩:∃b:Bool,b=(decide (0<k)&&(R.getD (k-1) 0==x0)):=⟨_,rfl⟩;have HBQ:Hid ((decide (0<k)&&(R.getD (k-1) 0==x0))=BQ):=hBQ.symm;clear hBQ HBC;go_upto_region 8 with fail
       go_cut [46] from 32 to 45 (fun q w'=>q=.bool BQ∧Below wy.heap.size wy w')
       case first =>
        by_cases hk0:0<k
        ·obtain⟨jj,hjj⟩:∃jj,k=jj+1:=⟨k-1,by omega⟩;obtain⟨_,_,_,e9,_,_,_,hRa⟩:=(HGR.out _ HBZ.out).form;cases e9;obtain⟨gr,qr,ha3,hGa,_⟩:=hRa (by omega);subst ha3;obtain⟨xr,hxl,hxr,hcx⟩:=in_at hGa HMM.out (show jj<m by omega);have hbq:BQ=(xr==x0):=by
          rw[←HBQ.out,hjj];simp[List.getD,hxl,hxr]
         have HCQ:Hid (wy.cell? ⟨gr,qr+jj,none⟩=some (.int i64 xr)∧wy.cell? ⟨g,o+i*8,none⟩=some (.int i64 x0)):=⟨hcx,HCO.out _ HBZ.out⟩;have hsub:IntKind.i64.wrap ((k:Int)-1)=(jj:Int):=by rw[IntKind.wrap_i64];omega
         have jb0:(0:Int)≤(jj:Int):=by omega
         have jb1:(jj:Int)<(m:Int):=by omega
         have kb0:decide ((0:Int)<(k:Int))=true:=by simp;omega
         subst hbq;clear hRa hGa hxr hcx hjj
         as_aux_lemma =>
          refine wp_region_quiet (C:=fun W=>Below wy.heap.size wy W∧W.cell? ⟨gr,qr+jj,none⟩=some (.int i64 xr)∧W.cell? ⟨g,o+i*8,none⟩=some (.int i64 x0)) (by kernel_rfl) (by kernel_rfl) ⟨Below.drew (bRQ _ _),HCQ.out⟩ ?_;simp only[List.toList_toArray];go_big_quiet_want;refine qv (.int i64 (k:Int)) ?_ ?_
          ·rintro w' ⟨z0,z1,z2⟩;go_simp
          simp only[Act.put,AP];go_big_quiet_on;go_big_quiet_want;refine qv (.bool true) ?_ ?_
          ·rintro w' ⟨z0,z1,z2⟩;go_simp
          simp only[Act.put,AP];go_big_quiet_on;go_big_quiet_want;refine qv (.bool true) ?_ ?_
          ·rintro w' ⟨z0,z1,z2⟩;go_simp
          simp only[Act.put,AP];go_big_quiet_on;go_big_quiet_want;refine qv (.slice (some ⟨gr,qr,none⟩) m c3) ?_ ?_
          ·rintro w' ⟨z0,z1,z2⟩;go_simp
          simp only[Act.put,AP];go_big_quiet_on;go_big_quiet_want;refine qv (.int i64 (k:Int)) ?_ ?_
          ·rintro w' ⟨z0,z1,z2⟩;go_simp
          simp only[Act.put,AP];go_big_quiet_on;go_big_quiet_want;refine qv (.int i64 (jj:Int)) ?_ ?_
          ·rintro w' ⟨z0,z1,z2⟩;go_simp
          simp only[Act.put,AP];go_big_quiet_on;go_big_quiet_want;refine qv (.pointer (some ⟨gr,qr+jj,none⟩)) ?_ ?_
          ·rintro w' ⟨z0,z1,z2⟩;go_simp
          simp only[Act.put,AP];go_big_quiet_on;go_big_quiet_want;refine qv (.int i64 xr) ?_ ?_
          ·rintro w' ⟨z0,z1,z2⟩;go_simp
          simp only[Act.put,AP];go_big_quiet_on;go_big_quiet_want;refine qv (.slice (some ⟨g,o,none⟩) n cap) ?_ ?_
          ·rintro w' ⟨z0,z1,z2⟩;go_simp
          simp only[Act.put,AP];go_big_quiet_on;go_big_quiet_want;refine qv (.int i64 (i:Int)) ?_ ?_
          ·rintro w' ⟨z0,z1,z2⟩;go_simp
          simp only[Act.put,AP];go_big_quiet_on;go_big_quiet_want;refine qv (.pointer (some ⟨g,o+i*8,none⟩)) ?_ ?_
          ·rintro w' ⟨z0,z1,z2⟩;go_simp
          simp only[Act.put,AP];go_big_quiet_on;go_big_quiet_want;refine qv (.pointer (some ⟨g,o+i*8,none⟩)) ?_ ?_
          ·rintro w' ⟨z0,z1,z2⟩;go_simp
          simp only[Act.put,AP];go_big_quiet_on;go_big_quiet_want;refine qv (.int i64 x0) ?_ ?_
          ·rintro w' ⟨z0,z1,z2⟩;go_simp
          simp only[Act.put,AP];go_big_quiet_on;go_big_quiet_want;refine qv (.bool (xr==x0)) ?_ ?_
          ·rintro w' ⟨z0,z1,z2⟩;go_simp
          simp only[Act.put,AP];go_big_quiet_on;go_big_quiet_want;refine qv (.bool (xr==x0)) ?_ ?_
          ·rintro w' ⟨z0,z1,z2⟩;go_simp
          simp only[Act.put,AP];go_big_quiet_on;refine wpQuiet_nil ?_;intro w' hC
          go_wp2_with fail
          go_meet
          case rel=>exact⟨rfl,hC.1⟩
        obtain rfl:k=0:=by omega
        have hbq:BQ=false:=by
         rw[←HBQ.out];simp
        subst hbq
        as_aux_lemma =>
         refine wp_region_quiet (C:=fun W=>Below wy.heap.size wy W) (by kernel_rfl) (by kernel_rfl) (Below.drew (bRQ _ _)) ?_;simp only[List.toList_toArray];go_big_quiet_want;refine qv (.int i64 0) ?_ ?_
         ·rintro w' z0;go_simp
         simp only[Act.put,AP];go_big_quiet_on;go_big_quiet_want;refine qv (.bool false) ?_ ?_
         ·rintro w' z0;go_simp
         simp only[Act.put,AP];go_big_quiet_on;go_big_quiet_want;refine qv (.bool false) ?_ ?_
         ·rintro w' z0;go_simp
         simp only[Act.put,AP];go_big_quiet_on;go_big_quiet_skip;go_big_quiet_skip;go_big_quiet_skip;go_big_quiet_skip;go_big_quiet_skip;go_big_quiet_skip;go_big_quiet_skip;go_big_quiet_skip;go_big_quiet_skip;go_big_quiet_skip;go_big_quiet_skip;go_big_quiet_want;refine qv (.bool false) ?_ ?_
         ·rintro w' z0;go_simp
         simp only[Act.put,AP];go_big_quiet_on;refine wpQuiet_nil ?_;intro w' hC
         go_wp2_with fail
         go_meet
         case rel=>exact⟨rfl,hC⟩
       case rest =>
        obtain⟨rfl,hbq2⟩:=hcut;have HBC:Hid (Below wr0.heap.size wr0 wc):=HBZ.out.trans (hbq2.mono HBZ.out.size);clear hbq2 HBZ;cases BQ with
        | true =>
          have hb:=HBQ.out;simp only[Bool.and_eq_true,decide_eq_true_eq,beq_iff_eq] at hb;have HIN:Hid (puR ltI x0 R=R):=pu_in lo_ltI HRI.out (by
           have hl:k-1<R.length:=by have:=HMM.out;omega
           rw[←hb.2];simp[List.getD,hl])
          have HGC:Hid (GS inE wc (.slice a3 m c3) R):=HGR.out _ HBC.out;have HBW:Hid (Below w.heap.size w wc):=HB.out.trans (HBC.out.mono HB.out.size);clear hb;go_wp2;go_roundw
          case rel=>exact⟨i+1,m,c3,a3,by omega,by go_num,rfl,by rw[HTN.out,HIN.out];exact HGC.out,HSK.out,HBW.out⟩
          case measure=>simp[intOf];omega
        | false =>
          have HLT:Hid (∀j x,j<k→R[j]?=some x→ltI x x0=true):=fun j x hj hx=>by
           have hl:k-1<R.length:=by have:=HMM.out;omega
           have h1:ltI R[k-1] x0=true:=by
            have h2:=HNG.out (by omega);have h3:=HBQ.out;have h4:0<k:=by omega
            simp[List.getD,hl,h4] at h2 h3;simp only[ltI,decide_eq_true_eq];omega
           by_cases e:j=k-1
           ·subst e;rw[List.getElem?_eq_getElem hl] at hx;cases hx;exact h1
           exact lo_ltI.tr _ _ _ (ris_lt lo_ltI HRI.out (show j<k-1 by omega) hx (List.getElem?_eq_getElem hl)) h1
          have HPU:Hid (puR ltI x0 R=R.take k++[x0]++R.drop k):=pu_at lo_ltI HRI.out (by rw[HMM.out];exact hk) HALL.out HLT.out;obtain⟨wy,hwy⟩:∃X,X=wc:=⟨_,rfl⟩;subst hwy;have HWY:Hid (Below w.heap.size w wy):=HB.out.trans (HBC.out.mono HB.out.size);have HCY:Hid (∀W,Below wy.heap.size wy W→W.cell? ⟨g,o+i*8,none⟩=some (.int i64 x0)):=fun W hb=>HCO.out W (HBC.out.trans (hb.mono HBC.out.size))
          have hGY:=HGR.out _ HBC.out;obtain⟨Z1,hq1⟩:∃q,q=R.take k:=⟨_,rfl⟩;obtain⟨Z2,hq2⟩:∃q,q=R.drop k:=⟨_,rfl⟩;have HZ1L:Hid (Z1.length=k):=show Z1.length=k by rw[hq1,List.length_take,HMM.out];omega
          have HZ2L:Hid (Z2.length=m-k):=show Z2.length=m-k by rw[hq2,List.length_drop,HMM.out]
          have HT1:Hid (GS inE wy (.slice a3 k c3) Z1):=show GS inE wy (.slice a3 k c3) Z1 by rw[hq1];exact hGY.take hk
          have HD:Hid (∀g o,a3=some ⟨g,o,none⟩→GS inE wy (.slice (some ⟨g,o+k,none⟩) (m-k) (c3-k)) Z2):=show ∀g o,a3=some ⟨g,o,none⟩→GS inE wy (.slice (some ⟨g,o+k,none⟩) (m-k) (c3-k)) Z2 by
           rintro g o rfl;rw[hq2];have:=hGY.drop hk;simpa[inE] using this
          rw[←hq1,←hq2] at HPU;have hmc:m≤c3:=by
           obtain⟨_,_,_,e,_,_,h,_⟩:=hGY.form;cases e;exact h
          have HAD:Hid (0<m→∃g o,a3=some ⟨g,o,none⟩):=fun h=>by
           obtain⟨_,_,_,e,_,_,_,ha⟩:=hGY.form;cases e;obtain⟨g,o,e,_⟩:=ha h;exact⟨g,o,e⟩
          obtain⟨i0,hi0,hz0,hz1,hz2⟩:=info_parts infoInt;clear hGY hq1 hq2 HBC HALL HNG HBQ HLT
          rcases HSK.out with ⟨rfl,rfl,rfl⟩ | hm0
          ·obtain rfl:k=0:=by omega
           have HT2:Hid (GS inE wy (.slice none 0 0) Z2):=.inl ⟨none,0,rfl,List.length_eq_zero_iff.1 (by have:=HZ2L.out;omega)⟩;go_upto_region 10 with fail
           go_wp2_with (at_builtin;refine wpList_append_GS (E:=inE) _ rfl _ _ 54 3 rfl underlying54 i0 (.int i64 0) 8 hi0 hz0 hz1 hz2 rfl wy.heap.size (.slice none 0 0) rfl [] (World.ownsRow_nil _ _ _ _) _ rfl Z1 ?a1 ?a2 ?a3 (nLQ _) ?_)
           case a1=>exact HT1.out
           case a2=>have:=HZ1L.out;unfold maxLen;simp;omega
           case a3=>have:=HZ1L.out;simp;omega
           intro v1 w1 ho1 hg1
           try rw[List.nil_append] at ho1
           have hb1:Below wy.heap.size wy w1:=(Below.refl _ wy).grown hg1 (nLQ _) (fun g hg=>by cases hg);obtain⟨a1,c1,hv1⟩:=own_form ho1;subst hv1;rw[HZ1L.out] at ho1 ⊢;have HO1:Hid (w1.ownsRow wy.heap.size 3 inE.n (.slice a1 0 c1) 0 (cellsG inE Z1)):=ho1;have HB1:Hid (Below wy.heap.size wy w1):=hb1;have q0:=HCY.out _ hb1;clear ho1 hg1 hb1;go_upto_region 11 with fail
           go_wp2_with (at_builtin;refine wpList_append_blk (E:=inE) _ rfl _ _ 54 3 rfl underlying54 i0 (.int i64 0) 8 hi0 hz0 hz1 hz2 rfl wy.heap.size (.slice a1 0 c1) rfl Z1 ?m0 w1.heap.size 0 1 rfl x0 (vat_new w1 [.int i64 x0] 3) ?m1 ?m2 ?m3 ?_)
           case m0=>rw[HZ1L.out];exact HO1.out.alloc _
           case m1=>rw[HZ1L.out];unfold maxLen;omega
           case m2=>rw[HZ1L.out];omega
           case m3=>have:=HB1.out.size;simp;omega
           intro v2 w2 ho2 hg2 _;have hb2:Below wy.heap.size w1 w2:=((Below.refl _ w1).alloc HB1.out.size _).grown hg2 (by have:=HB1.out.size;simp;omega) (fun g hg=>(HO1.out.lt g hg).1);have HB2:Hid (Below wy.heap.size wy w2):=HB1.out.trans hb2;obtain⟨a2,c2,hv2⟩:=own_form ho2;subst hv2;have HL2:Hid ((Z1++[x0]).length=0+1):=hid_len2 HZ1L.out
           try rw[List.length_append] at ho2 ⊢
           try simp only[List.length_cons,List.length_nil,Nat.zero_add] at ho2 ⊢
           rw[HZ1L.out] at ho2 ⊢;have HO2:Hid (w2.ownsRow wy.heap.size 3 inE.n (.slice a2 (0+1) c2) (0+1) (cellsG inE (Z1++[x0]))):=ho2;clear ho2 hg2 hb2 q0;go_upto_region 12 with fail
           go_wp2_with (at_builtin;refine wpList_append_GS (E:=inE) _ rfl _ _ 54 3 rfl underlying54 i0 (.int i64 0) 8 hi0 hz0 hz1 hz2 rfl wy.heap.size (.slice a2 (0+1) c2) rfl (Z1++[x0]) ?b0 _ rfl Z2 ?b1 ?b2 ?b4 ?b3 ?_)
           case b0=>rw[HL2.out];exact HO2.out
           case b1=>exact HT2.out.later HB2.out
           case b2=>rw[HL2.out,HZ2L.out];unfold maxLen;omega
           case b4=>rw[HL2.out,HZ2L.out];omega
           case b3=>exact HB2.out.size
           intro v3 w3 ho3 hg3;have hb3:Below wy.heap.size w2 w3:=(Below.refl _ w2).grown hg3 HB2.out.size (fun g hg=>(HO2.out.lt g hg).1);have HB3:Hid (Below wy.heap.size wy w3):=HB2.out.trans hb3;have hG3:GS inE w3 v3 (Z1++[x0]++Z2):=own_GS (by simpa using ho3);obtain⟨a9,n9,c9,hv3,hn9,_⟩:=hG3.form;subst hv3;have HG3:Hid (GS inE w3 (.slice a9 n9 c9) (Z1++[x0]++Z2)):=hG3;have hn90:0<n9:=by rw[←hn9];simp;omega
           clear ho3 hg3 hb3 hG3 hn9;go_wp2;go_roundw
           case rel=>exact⟨i+1,n9,c9,a9,by omega,by go_num,rfl,by rw[HTN.out,HPU.out];exact HG3.out,.inr hn90,HWY.out.trans (HB3.out.mono HWY.out.size)⟩
           case measure=>simp[intOf];omega
          obtain⟨gr,qr,rfl⟩:=HAD.out hm0;by_cases hck:c3=k
          ·obtain rfl:m=k:=by omega
           obtain rfl:m=c3:=by omega
           have HT2:Hid (GS inE wy (.slice (some ⟨gr,qr,none⟩) 0 0) Z2):=.inl ⟨_,_,rfl,List.length_eq_zero_iff.1 (by have:=HZ2L.out;omega)⟩;go_upto_region 10 with fail
           go_wp2_with (at_builtin;refine wpList_append_GS (E:=inE) _ rfl _ _ 54 3 rfl underlying54 i0 (.int i64 0) 8 hi0 hz0 hz1 hz2 rfl wy.heap.size (.slice none 0 0) rfl [] (World.ownsRow_nil _ _ _ _) _ rfl Z1 ?a1 ?a2 ?a3 (nLQ _) ?_)
           case a1=>exact HT1.out
           case a2=>have:=HZ1L.out;unfold maxLen;simp;omega
           case a3=>have:=HZ1L.out;simp;omega
           intro v1 w1 ho1 hg1
           try rw[List.nil_append] at ho1
           have hb1:Below wy.heap.size wy w1:=(Below.refl _ wy).grown hg1 (nLQ _) (fun g hg=>by cases hg);obtain⟨a1,c1,hv1⟩:=own_form ho1;subst hv1;rw[HZ1L.out] at ho1 ⊢;have HO1:Hid (w1.ownsRow wy.heap.size 3 inE.n (.slice a1 m c1) m (cellsG inE Z1)):=ho1;have HB1:Hid (Below wy.heap.size wy w1):=hb1;have q0:=HCY.out _ hb1;clear ho1 hg1 hb1;go_upto_region 11 with fail
           go_wp2_with (at_builtin;refine wpList_append_blk (E:=inE) _ rfl _ _ 54 3 rfl underlying54 i0 (.int i64 0) 8 hi0 hz0 hz1 hz2 rfl wy.heap.size (.slice a1 m c1) rfl Z1 ?m0 w1.heap.size 0 1 rfl x0 (vat_new w1 [.int i64 x0] 3) ?m1 ?m2 ?m3 ?_)
           case m0=>rw[HZ1L.out];exact HO1.out.alloc _
           case m1=>rw[HZ1L.out];unfold maxLen;omega
           case m2=>rw[HZ1L.out];omega
           case m3=>have:=HB1.out.size;simp;omega
           intro v2 w2 ho2 hg2 _;have hb2:Below wy.heap.size w1 w2:=((Below.refl _ w1).alloc HB1.out.size _).grown hg2 (by have:=HB1.out.size;simp;omega) (fun g hg=>(HO1.out.lt g hg).1);have HB2:Hid (Below wy.heap.size wy w2):=HB1.out.trans hb2;obtain⟨a2,c2,hv2⟩:=own_form ho2;subst hv2;have HL2:Hid ((Z1++[x0]).length=m+1):=hid_len2 HZ1L.out
           try rw[List.length_append] at ho2 ⊢
           try simp only[List.length_cons,List.length_nil,Nat.zero_add] at ho2 ⊢
           rw[HZ1L.out] at ho2 ⊢;have HO2:Hid (w2.ownsRow wy.heap.size 3 inE.n (.slice a2 (m+1) c2) (m+1) (cellsG inE (Z1++[x0]))):=ho2;clear ho2 hg2 hb2 q0;go_upto_region 12 with fail
           go_wp2_with (at_builtin;refine wpList_append_GS (E:=inE) _ rfl _ _ 54 3 rfl underlying54 i0 (.int i64 0) 8 hi0 hz0 hz1 hz2 rfl wy.heap.size (.slice a2 (m+1) c2) rfl (Z1++[x0]) ?b0 _ rfl Z2 ?b1 ?b2 ?b4 ?b3 ?_)
           case b0=>rw[HL2.out];exact HO2.out
           case b1=>exact HT2.out.later HB2.out
           case b2=>rw[HL2.out,HZ2L.out];unfold maxLen;omega
           case b4=>rw[HL2.out,HZ2L.out];omega
           case b3=>exact HB2.out.size
           intro v3 w3 ho3 hg3;have hb3:Below wy.heap.size w2 w3:=(Below.refl _ w2).grown hg3 HB2.out.size (fun g hg=>(HO2.out.lt g hg).1);have HB3:Hid (Below wy.heap.size wy w3):=HB2.out.trans hb3;have hG3:GS inE w3 v3 (Z1++[x0]++Z2):=own_GS (by simpa using ho3);obtain⟨a9,n9,c9,hv3,hn9,_⟩:=hG3.form;subst hv3;have HG3:Hid (GS inE w3 (.slice a9 n9 c9) (Z1++[x0]++Z2)):=hG3;have hn90:0<n9:=by rw[←hn9];simp;omega
           clear ho3 hg3 hb3 hG3 hn9;go_wp2;go_roundw
           case rel=>exact⟨i+1,n9,c9,a9,by omega,by go_num,rfl,by rw[HTN.out,HPU.out];exact HG3.out,.inr hn90,HWY.out.trans (HB3.out.mono HWY.out.size)⟩
           case measure=>simp[intOf];omega
          have HT2:Hid (GS inE wy (.slice (some ⟨gr,qr+k,none⟩) (m-k) (c3-k)) Z2):=HD.out gr qr rfl;go_upto_region 10 with fail
          go_wp2_with (at_builtin;refine wpList_append_GS (E:=inE) _ rfl _ _ 54 3 rfl underlying54 i0 (.int i64 0) 8 hi0 hz0 hz1 hz2 rfl wy.heap.size (.slice none 0 0) rfl [] (World.ownsRow_nil _ _ _ _) _ rfl Z1 ?a1 ?a2 ?a3 (nLQ _) ?_)
          case a1=>exact HT1.out
          case a2=>have:=HZ1L.out;unfold maxLen;simp;omega
          case a3=>have:=HZ1L.out;simp;omega
          intro v1 w1 ho1 hg1
          try rw[List.nil_append] at ho1
          have hb1:Below wy.heap.size wy w1:=(Below.refl _ wy).grown hg1 (nLQ _) (fun g hg=>by cases hg);obtain⟨a1,c1,hv1⟩:=own_form ho1;subst hv1;rw[HZ1L.out] at ho1 ⊢;have HO1:Hid (w1.ownsRow wy.heap.size 3 inE.n (.slice a1 k c1) k (cellsG inE Z1)):=ho1;have HB1:Hid (Below wy.heap.size wy w1):=hb1;have q0:=HCY.out _ hb1;clear ho1 hg1 hb1;go_upto_region 11 with fail
          go_wp2_with (at_builtin;refine wpList_append_blk (E:=inE) _ rfl _ _ 54 3 rfl underlying54 i0 (.int i64 0) 8 hi0 hz0 hz1 hz2 rfl wy.heap.size (.slice a1 k c1) rfl Z1 ?m0 w1.heap.size 0 1 rfl x0 (vat_new w1 [.int i64 x0] 3) ?m1 ?m2 ?m3 ?_)
          case m0=>rw[HZ1L.out];exact HO1.out.alloc _
          case m1=>rw[HZ1L.out];unfold maxLen;omega
          case m2=>rw[HZ1L.out];omega
          case m3=>have:=HB1.out.size;simp;omega
          intro v2 w2 ho2 hg2 _;have hb2:Below wy.heap.size w1 w2:=((Below.refl _ w1).alloc HB1.out.size _).grown hg2 (by have:=HB1.out.size;simp;omega) (fun g hg=>(HO1.out.lt g hg).1);have HB2:Hid (Below wy.heap.size wy w2):=HB1.out.trans hb2;obtain⟨a2,c2,hv2⟩:=own_form ho2;subst hv2;have HL2:Hid ((Z1++[x0]).length=k+1):=hid_len2 HZ1L.out
          try rw[List.length_append] at ho2 ⊢
          try simp only[List.length_cons,List.length_nil,Nat.zero_add] at ho2 ⊢
          rw[HZ1L.out] at ho2 ⊢;have HO2:Hid (w2.ownsRow wy.heap.size 3 inE.n (.slice a2 (k+1) c2) (k+1) (cellsG inE (Z1++[x0]))):=ho2;clear ho2 hg2 hb2 q0;go_upto_region 12 with fail
          go_wp2_with (at_builtin;refine wpList_append_GS (E:=inE) _ rfl _ _ 54 3 rfl underlying54 i0 (.int i64 0) 8 hi0 hz0 hz1 hz2 rfl wy.heap.size (.slice a2 (k+1) c2) rfl (Z1++[x0]) ?b0 _ rfl Z2 ?b1 ?b2 ?b4 ?b3 ?_)
          case b0=>rw[HL2.out];exact HO2.out
          case b1=>exact HT2.out.later HB2.out
          case b2=>rw[HL2.out,HZ2L.out];unfold maxLen;omega
          case b4=>rw[HL2.out,HZ2L.out];omega
          case b3=>exact HB2.out.size
          intro v3 w3 ho3 hg3;have hb3:Below wy.heap.size w2 w3:=(Below.refl _ w2).grown hg3 HB2.out.size (fun g hg=>(HO2.out.lt g hg).1);have HB3:Hid (Below wy.heap.size wy w3):=HB2.out.trans hb3;have hG3:GS inE w3 v3 (Z1++[x0]++Z2):=own_GS (by simpa using ho3);obtain⟨a9,n9,c9,hv3,hn9,_⟩:=hG3.form;subst hv3;have HG3:Hid (GS inE w3 (.slice a9 n9 c9) (Z1++[x0]++Z2)):=hG3;have hn90:0<n9:=by rw[←hn9];simp;omega
          clear ho3 hg3 hb3 hG3 hn9;go_wp2;go_roundw
          case rel=>exact⟨i+1,n9,c9,a9,by omega,by go_num,rfl,by rw[HTN.out,HPU.out];exact HG3.out,.inr hn90,HWY.out.trans (HB3.out.mono HWY.out.size)⟩
          case measure=>simp[intOf];omega
  obtain rfl:i=n:=by omega
  have HTL:Hid (tcL l=tcL (l.take i)):=show _=_ by rw[←HN.out,List.take_length]
  go_wp2;go_ret;exact⟨a3,m,c3,rfl,by rw[HTL.out];exact HG0.out,HB.out⟩
def lsTo (s:Nat):Nat→List Int
 | 0=>[]
 | k+1=>lsTo s k++(if inS s (k+1)=true then [((k+1:Nat):Int)] else [])
def lsS (s:Nat):List Int:=lsTo s 6
theorem ls_mem (s:Nat)(x:Int):∀k,x∈lsTo s k↔∃a:Nat,1≤a∧a≤k∧x=(a:Int)∧inS s a=true
 | 0=>by simp[lsTo];omega
 | k+1=>by
   rw[lsTo,List.mem_append,ls_mem s x k];constructor
   ·rintro (⟨a,h1,h2,h3,h4⟩ | h)
    ·exact⟨a,h1,by omega,h3,h4⟩
    by_cases e:inS s (k+1)=true
    ·rw[if_pos e,List.mem_singleton] at h;exact⟨k+1,by omega,nLQ _,h,e⟩
    rw[if_neg e] at h;cases h
   rintro⟨a,h1,h2,h3,h4⟩;by_cases e:a=k+1
   ·subst e;rw[if_pos h4];exact .inr (List.mem_singleton.2 h3)
   exact .inl ⟨a,h1,by omega,h3,h4⟩
theorem ls_ris (s:Nat):∀k,Ris ltI (lsTo s k)∧∀x∈lsTo s k,x≤(k:Int)
 | 0=>⟨List.Pairwise.nil,fun x h=>by cases h⟩
 | k+1=>by
   obtain⟨h1,h2⟩:=ls_ris s k;rw[lsTo];by_cases e:inS s (k+1)=true
   ·rw[if_pos e];refine⟨List.pairwise_append.2 ⟨h1,List.pairwise_singleton _ _,fun a ha b hb=>?_⟩,fun x hx=>?_⟩
    ·rw[List.mem_singleton] at hb;have:=h2 a ha;subst hb;exact decide_eq_true (by omega)
    rcases List.mem_append.1 hx with h | h
    ·have:=h2 x h;omega
    rw[List.mem_singleton] at h;omega
   rw[if_neg e,List.append_nil];exact⟨h1,fun x hx=>by have:=h2 x hx;omega⟩
theorem ls_len (s:Nat):∀k,(lsTo s k).length≤k
 | 0=>nLQ _
 | k+1=>by
   have:=ls_len s k;rw[lsTo,List.length_append];by_cases e:inS s (k+1)=true
   ·rw[if_pos e];simp;omega
   rw[if_neg e];simp;omega
def alS (D:List Op8):Nat:=D.foldl (fun s o=>s ||| onS o.w.toNat) 0
theorem al_next {l:List Op8}{k:Nat}(hk:k<l.length):alS (l.take (k+1))=alS (l.take k) ||| onS l[k].w.toNat:=by
 rw[List.take_succ_eq_append_getElem hk,alS,alS,List.foldl_append];rfl
theorem al_in:∀(D:List Op8) (s:Nat),(∀o∈D,1≤o.w∧o.w≤6)→s<64→(D.foldl (fun s o=>s ||| onS o.w.toNat) s)<64∧∀a,1≤a→a≤6→(inS (D.foldl (fun s o=>s ||| onS o.w.toNat) s) a=true↔inS s a=true∨∃o∈D,o.w=(a:Int))
 | [],s,_,hs=>⟨hs,fun a _ _=>by simp⟩
 | o :: D,s,h,hs=>by
   have ho:=h o (List.mem_cons_self ..);obtain⟨i1,i2⟩:=al_in D (s ||| onS o.w.toNat) (fun x hx=>h x (List.mem_cons_of_mem _ hx)) (or_lt hs (on_lt (by omega)));refine⟨i1,fun a h1 h2=>?_⟩;rw[List.foldl_cons,i2 a h1 h2,in_or,in_on h2 (by omega)];constructor
   ·rintro (k | ⟨x,k1,k2⟩)
    ·rcases Bool.or_eq_true_iff.1 k with k | k
     ·exact .inl k
     exact .inr ⟨o,List.mem_cons_self ..,by have:=of_decide_eq_true k;omega⟩
    exact .inr ⟨x,List.mem_cons_of_mem _ k1,k2⟩
   rintro (k | ⟨x,k1,k2⟩)
   ·exact .inl (by rw[k];rfl)
   rcases List.mem_cons.1 k1 with e | e
   ·subst e;exact .inl (by rw[decide_eq_true (show a=x.w.toNat by omega)];simp)
   exact .inr ⟨x,e,k2⟩
theorem al_lt {D:List Op8}(h:∀o∈D,1≤o.w∧o.w≤6):alS D<64:=(al_in D 0 h (by decide)).1
theorem al_mem {D:List Op8}(h:∀o∈D,1≤o.w∧o.w≤6){a:Nat}(h1:1≤a)(h2:a≤6):inS (alS D) a=true↔∃o∈D,o.w=(a:Int):=by
 rw[alS,(al_in D 0 h (by decide)).2 a h1 h2,in_0];simp
theorem tc_ls {D:List Op8}(h:∀o∈D,1≤o.w∧o.w≤6):tcL D=lsS (alS D):=by
 refine ris_ext lo_ltI (tc_ris D [] List.Pairwise.nil) (ls_ris _ 6).1 fun x=>?_
 rw[lsS,ls_mem,tcL,tc_mem];constructor
 ·rintro (h0 | ⟨o,ho,e⟩)
  ·cases h0
  have:=h o ho;exact⟨o.w.toNat,by omega,by omega,by omega,(al_mem h (by omega) (by omega)).2 ⟨o,ho,by omega⟩⟩
 rintro⟨a,h1,h2,h3,h4⟩;obtain⟨o,ho,e⟩:=(al_mem h h1 h2).1 h4;exact .inr ⟨o,ho,by omega⟩
section
variable (sf:Nat→Nat→Bool)(done:Nat)
end
theorem mn_mn {all done s:Nat}(ha:all<64):mnS (mnS all done) s=mnS all (done ||| s):=set_ext (mn_lt (mn_lt ha)) (mn_lt ha) fun a h1 h2=>by
 rw[in_mn h1 h2,in_mn h1 h2,in_mn h1 h2,in_or];cases inS all a <;> cases inS done a <;> cases inS s a <;> rfl
theorem ls_0 {s:Nat}(hs:s<64):(lsS s).length=0↔s=0:=by
 constructor
 ·intro h;have h0:=List.length_eq_zero_iff.1 h;refine set_0 hs fun a h1 h2=>?_
  cases e:inS s a
  ·rfl
  have:((a:Nat):Int)∈lsS s:=(ls_mem s _ 6).2 ⟨a,h1,h2,rfl,e⟩;rw[h0] at this;cases this
 intro h;subst h;rfl
theorem ls_has {s a:Nat}(h1:1≤a)(h2:a≤6):(lsS s).contains ((a:Nat):Int)=inS s a:=by
 rw[Bool.eq_iff_iff,List.contains_iff_mem,lsS,ls_mem];constructor
 ·rintro⟨b,k1,k2,k3,k4⟩;rw[show a=b by omega];exact k4
 intro h;exact⟨a,h1,h2,rfl,h⟩
def wisAsks (w:World)(f:FuncId)(c:Value)(P:Wi→Bool):Prop:=
 ∀(x0:Int) (x1:ByteArray) (x2:ByteArray) (x3:Int) (W:World),Below w.heap.size w W→Calls prog f #[.agg #[.int i64 x0,.string x1,.string x2,.int i64 x3],c] W fun e w'=>e=.returned (.bool (P ⟨x0,x1,x2,x3⟩))∧Below W.heap.size W w'
theorem wis_idxF (ao:AdQ)(n cap:Nat)(f:FuncId)(c:Value)(P:Wi→Bool)(L:List (Wi))(w:World)(hn:L.length=n)(hn2:n≤maxLen)(ha:0<n→∃g o,ao=some ⟨g,o,none⟩∧GAt wisE w g o L∧cap≤maxLen)(he:∀args w,(callFunc f args).run prog w=.ok (.enter f args) w)(hf:wisAsks w f c P):
 Calls prog 132 #[.slice ao n cap,.func (Fn.func f) #[] #[c]] w fun e w'=>e=.returned (.int i64 (ixG P L))∧Below w.heap.size w w':=by
 have HN:Hid (L.length=n):=hn;have HF:Hid (wisAsks w f c P):=hf;have HA:Hid (0<n→∃g o,ao=some ⟨g,o,none⟩∧GAt wisE w g o L∧cap≤maxLen):=ha;unfold maxLen at hn2;clear hn hf ha;go_enter func132,ntmps132;go_wp2
 go_loopw [8] (fun i wr=>∃k:Nat,k≤n∧i=.int i64 k∧(L.take k).any P=false∧Below w.heap.size w wr)
  (fun i _=>n-(intOf i).toNat)
 case atStart=>exact⟨0,by omega,rfl,by simp,bRQ _ _⟩
 case round =>
  obtain⟨k,hk,rfl,hno,hB⟩:=hrel;have HB:Hid (Below w.heap.size w wr):=hB;have HNO:Hid ((L.take k).any P=false):=hno;clear hno;by_cases hlt:k<n
  ·obtain⟨g,o,hao,hc,_⟩:=HA.out (by omega);subst hao;obtain⟨x0,x1,x2,x3,hkl,hL,q0,q1,q2,q3⟩:=wis_at (hc.later hB) HN.out hlt;have HL:Hid (L[k]=⟨x0,x1,x2,x3⟩):=hL;clear hL hB;cases ho:P ⟨x0,x1,x2,x3⟩
   ·go_wp2_with fail
    refine (HF.out x0 x1 x2 x3 _ HB.out).mono ?_;rintro e w1 ⟨rfl,hb1⟩;rw[ho];have HB1:=HB.out.trans (hb1.mono HB.out.size);clear hb1;go_wp2;go_roundw
    case rel=>exact⟨k+1,by omega,by go_num,any_nextG hkl HNO.out (by rw[HL.out];exact ho),HB1⟩
    case measure=>simp[intOf];omega
   go_wp2_with fail
   refine (HF.out x0 x1 x2 x3 _ HB.out).mono ?_;rintro e w1 ⟨rfl,hb1⟩;rw[ho];go_wp2;go_ret;exact⟨by rw[ixG_hit hkl HNO.out (by rw[HL.out];exact ho)];rfl,HB.out.trans (hb1.mono HB.out.size)⟩
  obtain rfl:k=n:=by omega
  go_wp2;go_ret;exact⟨by have:=HNO.out;rw[←HN.out,List.take_length] at this;rw[ixG_no this];rfl,HB.out⟩
theorem wis_hasF (ao:AdQ)(n cap:Nat)(f:FuncId)(c:Value)(P:Wi→Bool)(L:List (Wi))(w:World)(hn:L.length=n)(hn2:n≤maxLen)(ha:0<n→∃g o,ao=some ⟨g,o,none⟩∧GAt wisE w g o L∧cap≤maxLen)(he:∀args w,(callFunc f args).run prog w=.ok (.enter f args) w)(hf:wisAsks w f c P):
 Calls prog 91 #[.slice ao n cap,.func (Fn.func f) #[] #[c]] w fun e w'=>e=.returned (.bool (L.any P))∧Below w.heap.size w w':=by
 rw[←ixG_any];obtain⟨x,hx⟩:∃x,x=ixG P L:=⟨_,rfl⟩;have HX:Hid (x=ixG P L):=hx;rw[←hx];clear hx;go_enter func91,ntmps91
 go_wp2_with fail
 refine (wis_idxF ao n cap f c P L _ hn hn2 ha he hf).mono ?_;rintro e w1 ⟨rfl,hb1⟩;rw[←HX.out];go_wp2;go_ret;exact⟨rfl,hb1⟩
def HsBox (W:World)(g:Nat)(m:ByteArray)(x y:Int):Prop:=W.cell? ⟨g,0,none⟩=some (.string m)∧W.cell? ⟨g,1,none⟩=some (.int i64 x)∧W.cell? ⟨g,2,none⟩=some (.int i64 y)
theorem HsBox.later {W W':World}{g:Nat}{m:ByteArray}{x y:Int}(h:HsBox W g m x y)(hb:Below W.heap.size W W'):HsBox W' g m x y:=
 ⟨cell_later hb h.1,cell_later hb h.2.1,cell_later hb h.2.2⟩
theorem hsbox_new (w:World)(m:ByteArray)(x y:Int)(T:TypeId):HsBox (w.alloc (.cells #[.string m,.int i64 x,.int i64 y] T)) w.heap.size m x y:=by
 refine⟨?_,?_,?_⟩ <;> simp
structure PrBox (w W:World)(g:Nat)(a:Int)(b:ByteArray)(c:Int):Prop where
 c0:W.cell? ⟨g,0,none⟩=some (.int i64 a)
 c1:W.cell? ⟨g,1,none⟩=some (.string b)
 c2:W.cell? ⟨g,2,none⟩=some (.int i64 c)
 f:∀i,W.frozen? ⟨g,i,none⟩=false
theorem prbox_new (w u:World)(a:Int)(b:ByteArray)(c:Int):PrBox u (w.alloc (.cells #[.int i64 a,.string b,.int i64 c] 43)) w.heap.size a b c:=by
 refine⟨?_,?_,?_,fun i=>?_⟩ <;> simp
theorem PrBox.lt {u W:World}{g:Nat}{a:Int}{b:ByteArray}{c:Int}(h:PrBox u W g a b c):g<W.heap.size:=bLQ W ⟨g,0,none⟩ h.c0
theorem PrBox.later {u W W':World}{g:Nat}{a:Int}{b:ByteArray}{c:Int}(h:PrBox u W g a b c)(hb:Below W.heap.size W W'):PrBox u W' g a b c:=
 ⟨cell_later hb h.c0,cell_later hb h.c1,cell_later hb h.c2,fun i=>(hb.frozen (p:=⟨g,i,none⟩) h.lt).trans (h.f i)⟩
theorem PrBox.put {u W:World}{g:Nat}{a:Int}{b:ByteArray}{c:Int}(h:PrBox u W g a b c)(a':Int)(b':ByteArray)(c':Int):PrBox u (put3 W g (.int i64 a') (.string b') (.int i64 c')) g a' b' c':=by
 obtain⟨x,y,z⟩:=put3_cells (a:=.int i64 a') (b:=.string b') (c:=.int i64 c') ⟨h.c0,h.c1,h.c2⟩;refine⟨x,y,z,fun i=>?_⟩;unfold put3;rw[World.frozen?_setCell,World.frozen?_setCell,World.frozen?_setCell];exact h.f i
theorem PrBox.other {u W:World}{g g':Nat}{a:Int}{b:ByteArray}{c:Int}(h:PrBox u W g a b c)(hg:g≠g')(a' b' c':Value):PrBox u (put3 W g' a' b' c') g a b c:=by
 have o:∀(W:World) (i j:Nat) (x:Value),(W.setCell ⟨g',i,none⟩ x).cell? ⟨g,j,none⟩=W.cell? ⟨g,j,none⟩:=fun W i j x=>World.cell?_setCell_other _ _ _ _ (by intro e;exact hg (by injection e with e1;exact e1.symm))
 unfold put3;refine⟨?_,?_,?_,fun i=>?_⟩
 ·rw[o,o,o];exact h.c0
 ·rw[o,o,o];exact h.c1
 ·rw[o,o,o];exact h.c2
 rw[World.frozen?_setCell,World.frozen?_setCell,World.frozen?_setCell];exact h.f i
structure Rbx (w W:World)(p:Int×ByteArray×Int):Prop where
 below:Below w.heap.size w W
 r:PrBox w W w.heap.size 0 ⟨#[]⟩ 0
 p:PrBox w W (w.heap.size+1) p.1 p.2.1 p.2.2
theorem Rbx.later {w W W':World}{p:Int×ByteArray×Int}(h:Rbx w W p)(hb:Below W.heap.size W W'):Rbx w W' p:=⟨h.below.trans (hb.mono h.below.size),h.r.later hb,h.p.later hb⟩
theorem Rbx.put {w W:World}{p:Int×ByteArray×Int}(h:Rbx w W p)(q:Int×ByteArray×Int):Rbx w (put3 W (w.heap.size+1) (.int i64 q.1) (.string q.2.1) (.int i64 q.2.2)) q:=⟨below_put3 h.below _ (by omega) _ _ _,h.r.other (by omega) _ _ _,h.p.put _ _ _⟩
theorem rbx_new (w:World):Rbx w ((w.alloc (.cells #[.int i64 0,.string ⟨#[]⟩,.int i64 0] 43)).alloc (.cells #[.int i64 0,.string ⟨#[]⟩,.int i64 0] 43)) (0,ByteArray.empty,0):=by
 have e1:(w.alloc (.cells #[.int i64 0,.string ⟨#[]⟩,.int i64 0] 43)).heap.size=w.heap.size+1:=by simp
 have hb:∀(W:World) (o:Obj),Below W.heap.size W (W.alloc o):=fun W o=>(bRQ _ _).alloc (nLQ _) _
 have h2:=prbox_new (w.alloc (.cells #[.int i64 0,.string ⟨#[]⟩,.int i64 0] 43)) w 0 ⟨#[]⟩ 0;rw[e1] at h2;exact⟨((Below.refl _ w).alloc (nLQ _) _).alloc (by rw[e1];omega) _,(prbox_new w w 0 ⟨#[]⟩ 0).later (hb _ _),h2⟩
theorem first1_any (k:Int)(f t:ByteArray)(v:Int)(g:Nat)(m:ByteArray)(x y:Int)(w:World)(h2:HsBox w g m x y):
 Calls prog 92 #[.agg #[.int i64 k,.string f,.string t,.int i64 v],.pointer (some ⟨g,0,none⟩)] w fun e w'=>e=.returned (.bool (abW ⟨k,f,t,v⟩ m))∧Below w.heap.size w w':=by
 have hb0:Below w.heap.size w (w.alloc (.cells #[.int i64 k,.string f,.string t,.int i64 v] 80)):=(bRQ _ _).alloc (nLQ _) _;have hx0:=wibox_new w k f t v 80;have hs0:=h2.later hb0;obtain⟨w0,hw0⟩:∃W,w.alloc (.cells #[.int i64 k,.string f,.string t,.int i64 v] 80)=W:=⟨_,rfl⟩;rw[hw0] at hb0 hx0 hs0;have HW0:Hid (w.alloc (.cells #[.int i64 k,.string f,.string t,.int i64 v] 80)=w0):=hw0;have HB0:Hid (Below w.heap.size w w0):=hb0;obtain⟨x0,x1,x2,x3⟩:=hx0;obtain⟨s0,s1,s2⟩:=hs0;obtain⟨R,hR⟩:∃R,R=abW ⟨k,f,t,v⟩ m:=⟨_,rfl⟩;have HR:Hid (abW ⟨k,f,t,v⟩ m=R):=hR.symm;rw[←hR];clear hb0 h2 hw0 hR;go_enter func92,ntmps92;go_upto_region 1 with fail;rw[HW0.out];clear HW0
 go_wp2_with fail
 refine (isAbout_any k f t v m _).mono ?_;rintro e w1 ⟨rfl,hb1⟩;rw[HR.out];go_wp2;go_ret;exact⟨rfl,HB0.out.trans (hb1.mono HB0.out.size)⟩
def FcAsks (w:World)(g:Nat)(Hs:HoQ)(Fs:Nat→Nat→List Ft):Prop:=
 ∀ (z:Nat) (hz:z<Hs.length) (h:Nat),h<16→∀W:World,Below w.heap.size w W→Calls prog 64 #[.agg #[.string Hs[z].1,.int i64 Hs[z].2.1,.int i64 Hs[z].2.2],.int i64 h,.pointer (some ⟨g,0,none⟩)] W fun e W' =>
   ∃gi lb,e=.returned (.func (Fn.func gi) #[] lb)∧(∀args w,(callFunc gi args).run prog w=.ok (.enter gi args) w)∧ItF prog gi lb FtV W'.heap.size (Fs z h) W'∧Below W.heap.size W W'
theorem fbrk_any (g:Nat)(ao2:AdQ)(n2 cap2:Nat)(a4:AdQ)(n4 c4:Nat)(Hs:HoQ)(Fs:Nat→Nat→List Ft)(l:List Wi)(w:World)
 (hH:GS hstE w (.slice ao2 n2 cap2) Hs) (hl:GS wisE w (.slice a4 n4 c4) l) (hnm:∀h∈Hs,h.1.size≤1000000) (hfc:FcAsks w g Hs Fs):
 Calls prog 59 #[.slice ao2 n2 cap2,.slice a4 n4 c4,.func (Fn.func 64) #[] #[.pointer (some ⟨g,0,none⟩)]] w fun e w'=>∃held p,e=.returned (.tuple #[.agg #[.int i64 p.1,.string p.2.1,.int i64 p.2.2],.bool (decide (held<l.length))])∧Fb l Hs Fs Hs.length 0 held p∧Below w.heap.size w w':=by
 have hX:=rbx_new w;obtain⟨w0,hw0⟩:∃W,(w.alloc (.cells #[.int i64 0,.string ⟨#[]⟩,.int i64 0] 43)).alloc (.cells #[.int i64 0,.string ⟨#[]⟩,.int i64 0] 43)=W:=⟨_,rfl⟩;rw[hw0] at hX;have HW0:Hid ((w.alloc (.cells #[.int i64 0,.string ⟨#[]⟩,.int i64 0] 43)).alloc (.cells #[.int i64 0,.string ⟨#[]⟩,.int i64 0] 43)=w0):=hw0;have HX:Hid (Rbx w w0 (0,ByteArray.empty,0)):=hX;have HLW:Hid (∀W,Below w.heap.size w W→GS wisE W (.slice a4 n4 c4) l):=fun W hb=>hl.later hb
 have HFC:Hid (FcAsks w g Hs Fs):=hfc;have HNM:Hid (∀h∈Hs,h.1.size≤1000000):=hnm;obtain⟨_,_,_,e5,hGn,hGm,hGc,hGa⟩:=hl.form;cases e5;obtain⟨_,_,_,e6,hHn,hHm,_,hHa⟩:=hH.form;cases e6;have HGN:Hid (l.length=n4):=hGn;have HCAP:Hid (n4≤c4):=hGc;have HHN:Hid (Hs.length=n2):=hHn;have HHA:Hid (0<n2→∃g o,ao2=some ⟨g,o,none⟩∧GAt hstE w g o Hs∧cap2≤maxLen):=hHa;have hn4:n4≤maxLen:=hGm;have hn2:n2≤maxLen:=hHm;unfold maxLen at hn4 hn2;have HF0:Hid (Fb l Hs Fs 0 0 n4 (0,ByteArray.empty,0)):=by
  have h:=fb_0 (l:=l) (Hs:=Hs) (Fs:=Fs);rw[hGn] at h;exact h
 clear hX hw0 hl hH hfc hnm hGn hGm hGc hGa hHn hHm hHa;go_enter func59,ntmps59;go_upto_region 2 with fail;rw[HW0.out];clear HW0;go_wp2
 go_loopw [9,18] (fun hv i wr=>∃(z hd:Nat) (p:Int×ByteArray×Int),z≤n2∧hv=.int i64 hd∧i=.int i64 z∧Fb l Hs Fs z 0 hd p∧Rbx w wr p) (fun _ i _=>n2-(intOf i).toNat)
 case atStart=>exact⟨0,n4,(0,ByteArray.empty,0),by omega,rfl,rfl,HF0.out,HX.out⟩
 case round =>
  obtain⟨z,hd,p,hz,rfl,rfl,hF,hR⟩:=hrel;have HF:Hid (Fb l Hs Fs z 0 hd p):=hF;have HR:Hid (Rbx w wr p):=hR;have hdle:hd≤n4:=by rw[←HGN.out];exact hF.le
  clear hF hR;by_cases hlt:z<n2
  ·obtain⟨g2,o2,hao2,hc2,_⟩:=HHA.out (by omega);subst hao2;obtain⟨z0,z1,z2,hzl,hZk,p0,p1,p2⟩:=hst_at (hc2.later HR.out.below) HHN.out hlt;have HZK:Hid (Hs[z]=(z0,(z1,z2))):=hZk;have HZD:Hid (Hs.getD z zeO=(z0,(z1,z2))):=by
    show _=_;rw[getO hzl,hZk]
   have HSZ:Hid (z0.size≤1000000):=by
    have:=HNM.out Hs[z] (List.getElem_mem hzl);rw[hZk] at this;exact this
   have hba:Below wr.heap.size wr (wr.alloc (.cells #[Value.string z0,.int i64 z1,.int i64 z2] 77)):=(bRQ _ _).alloc (nLQ _) _;have hhb:=hsbox_new wr z0 z1 z2 77;have hR2:=HR.out.later hba;obtain⟨w2,hw2⟩:∃W,wr.alloc (.cells #[Value.string z0,.int i64 z1,.int i64 z2] 77)=W:=⟨_,rfl⟩;obtain⟨gh,hgh⟩:∃q,q=wr.heap.size:=⟨_,rfl⟩;rw[hw2] at hhb hR2;rw[←hgh] at hhb;have HW2:Hid (wr.alloc (.cells #[Value.string z0,.int i64 z1,.int i64 z2] 77)=w2):=hw2;have HGH:Hid (wr.heap.size=gh):=hgh.symm;have HHB:Hid (HsBox w2 gh z0 z1 z2):=hhb;have HR2:Hid (Rbx w w2 p):=hR2;have HLG:Hid (w.heap.size+1<gh):=by
    show _<_;rw[hgh];exact HR.out.p.lt
   clear hc2 hZk hba hhb hR2 hw2 hgh HR;go_upto_region 6 with fail;rw[HW2.out,HGH.out];clear HW2 HGH p0 p1 p2;go_wp2
   go_loopw [9,22] (fun hv i wr=>∃(h hd:Nat) (p:Int×ByteArray×Int),h≤16∧hv=.int i64 hd∧i=.int i64 h∧Fb l Hs Fs z h hd p∧Rbx w wr p∧HsBox wr gh z0 z1 z2) (fun _ i _=>16-(intOf i).toNat)
   case atStart=>exact⟨0,hd,p,by omega,rfl,rfl,HF.out,HR2.out,HHB.out⟩
   case round =>
    clear HF HR2 HHB hdle;obtain⟨h,hd,p,hh,rfl,rfl,hF,hR,hS⟩:=hrel;have HF:Hid (Fb l Hs Fs z h hd p):=hF;have HR:Hid (Rbx w wr p):=hR;have HS:Hid (HsBox wr gh z0 z1 z2):=hS;have hdle:hd≤n4:=by rw[←HGN.out];exact hF.le
    clear hF hR hS;by_cases hlt16:h<16
    ·have HGT:Hid (∀W,Below wr.heap.size wr W→GS wisE W (.slice a4 hd c4) (l.take hd)):=fun W hb=>(HLW.out W (HR.out.below.trans (hb.mono HR.out.below.size))).take hdle
     obtain⟨_,_,_,e7,hTn,hTm,_,hTa⟩:=(HGT.out wr (bRQ _ _)).form;cases e7;have HTN:Hid ((l.take hd).length=hd):=hTn;have HTM:Hid (hd≤maxLen):=hTm;have HTA:Hid (0<hd→∃g o,a4=some ⟨g,o,none⟩∧GAt wisE wr g o (l.take hd)∧c4≤maxLen):=hTa;have HASK:Hid (wisAsks wr 92 (.pointer (some ⟨gh,0,none⟩)) (fun u=>abW u z0)):=fun y0 y1 y2 y3 W hb=>first1_any y0 y1 y2 y3 gh z0 z1 z2 W (HS.out.later hb)
     obtain⟨c,hc⟩:∃c,c=(l.take hd).any (fun u=>abW u z0):=⟨_,rfl⟩;have HC:Hid ((l.take hd).any (fun u=>abW u z0)=c):=hc.symm;obtain⟨s0,s1,s2⟩:=HS.out;have hcap:=HCAP.out;have nb0:(0:Int)≤(hd:Int):=by omega
     have nb1:(hd:Int)≤(c4:Int):=by omega
     have nb2:(hd:Int)≤(n4:Int):=by omega
     clear hc hTn hTm hTa
     go_wp2_with fail
     refine (wis_hasF a4 hd c4 _ _ (fun u=>abW u z0) (l.take hd) _ HTN.out HTM.out HTA.out (enters_of func92 (by kernel_rfl) rfl) HASK.out).mono ?_;rintro e w3 ⟨rfl,hb3⟩;rw[HC.out];have HR3:Hid (Rbx w w3 p):=HR.out.later hb3;have HS3:Hid (HsBox w3 gh z0 z1 z2):=HS.out.later hb3;have HGT3:Hid (∀W,Below w3.heap.size w3 W→GS wisE W (.slice a4 hd c4) (l.take hd)):=fun W hb=>HGT.out W (hb3.trans (hb.mono hb3.size))
     clear hb3 s0 s1 s2 HTN HTM HTA HASK HGT HR HS;cases c with
     | false =>
       have HFO:Hid (Fb l Hs Fs (z+1) 0 hd p):=HF.out.off (by rw[HZD.out];exact HC.out);go_wp2;go_roundw
       case rel=>exact⟨z+1,hd,p,by omega,rfl,by go_num,HFO.out,HR3.out⟩
       case measure=>simp[intOf];omega
     | true =>
       obtain⟨N,hN⟩:∃N,N=hwN (l.take hd) z0 (Fs z h):=⟨_,rfl⟩;have HN:Hid (hwN (l.take hd) z0 (Fs z h)=N):=hN.symm;have HFCW:Hid (∀W,Below w3.heap.size w3 W→Calls prog 64 #[.agg #[.string z0,.int i64 z1,.int i64 z2],.int i64 h,.pointer (some ⟨g,0,none⟩)] W fun e W' =>
        ∃gi lb,e=.returned (.func (Fn.func gi) #[] lb)∧(∀args w,(callFunc gi args).run prog w=.ok (.enter gi args) w)∧ItF prog gi lb FtV W'.heap.size (Fs z h) W'∧Below W.heap.size W W'):=fun W hb=>by
        have h:=HFC.out z hzl h hlt16 W (HR3.out.below.trans (hb.mono HR3.out.below.size));rw[HZK.out] at h;exact h
       have HHOL:Hid (∀(gi:Nat) (lb:Array Value) (W:World),(∀args w,(callFunc gi args).run prog w=.ok (.enter gi args) w)→ItF prog gi lb FtV W.heap.size (Fs z h) W→Below w3.heap.size w3 W→Calls prog 94 #[.slice a4 hd c4,.string z0,.func (Fn.func gi) #[] lb] W fun e W'=>e=.returned (.int i64 N)∧Below W.heap.size W W'):=fun gi lb W eg hit hb=>by
        rw[hN];exact holding_any a4 hd c4 (l.take hd) z0 gi lb (Fs z h) W.heap.size W (HGT3.out W hb) eg hit (nLQ _)
       have HSW:Hid (∀W,Below w3.heap.size w3 W→W.cell? ⟨gh,0,none⟩=some (.string z0)∧W.cell? ⟨gh,1,none⟩=some (.int i64 z1)∧W.cell? ⟨gh,2,none⟩=some (.int i64 z2)):=fun W hb=>HS3.out.later hb
       obtain⟨s0,s1,s2⟩:=HS3.out;clear hN;go_upto_region 10 with fail
       go_cut [13] from 23 to 51 (fun v w'=>v=.int i64 N∧Below w3.heap.size w3 w')
       case first =>
        go_region_held3 (fun W=>W.cell? ⟨gh,0,none⟩=some (.string z0)∧W.cell? ⟨gh,1,none⟩=some (.int i64 z1)∧W.cell? ⟨gh,2,none⟩=some (.int i64 z2))
         (first | (with_reducible assumption) | (with_reducible exact HSW.out _ (Below.drew (bRQ _ _))) | (with_reducible exact HSW.out _ HBX.out) | (with_reducible exact HSW.out _ HBY.out))
         (first
          | (go_at_call 64;refine (HFCW.out _ (Below.drew (bRQ _ _))).mono ?_;rintro e w' ⟨gi,lb,rfl,eg,hit,hb⟩;have HBX:Hid (Below w3.heap.size w3 w'):=bdrew hb;have HEG:Hid (∀args w,(callFunc gi args).run prog w=.ok (.enter gi args) w):=eg;have HIT:Hid (ItF prog gi lb FtV w'.heap.size (Fs z h) w'):=hit;clear hb eg hit)
          | (go_at_call 94;refine (HHOL.out _ _ _ HEG.out HIT.out HBX.out).mono ?_;rintro e w'' ⟨rfl,hb⟩;have HBY:Hid (Below w3.heap.size w3 w''):=HBX.out.trans (hb.mono HBX.out.size);clear hb))
        all_goals (go_wp2_with fail;go_meet)
        all_goals exact⟨rfl,HBY.out⟩
       case rest =>
        obtain⟨rfl,hbw⟩:=hcut;have HR4:Hid (Rbx w wc p):=HR3.out.later hbw;have HS4:Hid (HsBox wc gh z0 z1 z2):=HS3.out.later hbw;clear hbw HR3 HS3 HGT3 HFCW HHOL HSW s0 s1 s2;obtain⟨s0,s1,s2⟩:=HS4.out;by_cases hNl:N<hd
        ·have HFL:Hid (Fb l Hs Fs z (h+1) N ((N:Int),z0,(h:Int))):=by
          have:=HF.out.less hlt16 hzl (by rw[HZD.out];exact HN.out) hNl;rw[HZD.out] at this;exact this
         have dN:decide ((N:Int)<(hd:Int))=true:=by simp;omega
         go_wp2_with fail
         refine (clone_any z0 _ HSZ.out).mono ?_;rintro e w6 ⟨rfl,hb6⟩;have HR6:Hid (Rbx w w6 p):=HR4.out.later hb6;have HS6:Hid (HsBox w6 gh z0 z1 z2):=HS4.out.later hb6;obtain⟨r0,r1,r2,rf⟩:=HR6.out.p;have f0:=rf 0;have f1:=rf 1;have f2:=rf 2;have HSP:Hid (∀a b c,HsBox (put3 w6 (w.heap.size+1) a b c) gh z0 z1 z2):=fun a b c=>by
          have o:∀(W:World) (i j:Nat) (x:Value),(W.setCell ⟨w.heap.size+1,i,none⟩ x).cell? ⟨gh,j,none⟩=W.cell? ⟨gh,j,none⟩:=fun W i j x=>World.cell?_setCell_other _ _ _ _ (by intro e;injection e with e1;have:=HLG.out;omega)
          unfold put3;obtain⟨x0,x1,x2⟩:=HS6.out;exact⟨by rw[o,o,o];exact x0,by rw[o,o,o];exact x1,by rw[o,o,o];exact x2⟩
         clear hb6 rf s0 s1 s2 hNl;go_wp2;go_roundw
         case rel=>exact⟨h+1,N,((N:Int),z0,(h:Int)),by omega,rfl,by go_num,HFL.out,HR6.out.put ((N:Int),z0,(h:Int)),HSP.out _ _ _⟩
         case measure=>simp[intOf];omega
        have HFS:Hid (Fb l Hs Fs z (h+1) hd p):=HF.out.same (by rw[HZD.out,HN.out];exact hNl);have dN:decide ((N:Int)<(hd:Int))=false:=by simp;omega
        have hNl2:hd≤N:=by omega
        go_wp2;go_roundw
        case rel=>exact⟨h+1,hd,p,by omega,rfl,by go_num,HFS.out,HR4.out,HS4.out⟩
        case measure=>simp[intOf];omega
    obtain rfl:h=16:=by omega
    have HFO:Hid (Fb l Hs Fs (z+1) 0 hd p):=HF.out.host;go_wp2;go_roundw
    case rel=>exact⟨z+1,hd,p,by omega,rfl,by go_num,HFO.out,HR.out⟩
    case measure=>simp[intOf];omega
  obtain rfl:z=n2:=by omega
  obtain⟨P1,P2,P3⟩:=p;obtain⟨q0,q1,q2,_⟩:=HR.out.p;obtain⟨r0,r1,r2,rf⟩:=HR.out.r;have f0:=rf 0;have f1:=rf 1;have f2:=rf 2;have HB:Hid (Below w.heap.size w wr):=HR.out.below;have HFE:Hid (Fb l Hs Fs Hs.length 0 hd (P1,P2,P3)):=by
   have h:=HF.out;rw[←HHN.out] at h;exact h
  dsimp only at q0 q1 q2
  clear rf;go_wp2;refine bodyPost_ret (v:=.tuple #[.agg #[.int i64 P1,.string P2,.int i64 P3],.bool (decide ((hd:Int)<(n4:Int)))]) (by simp[results,results59,go_sem, *]) rfl ⟨hd,(P1,P2,P3),?_,HFE.out,below_put3 HB.out _ (nLQ _) _ _ _⟩;rw[show decide (hd<l.length)=decide ((hd:Int)<(n4:Int)) by rw[HGN.out];simp]
section
variable {S:Int}{Ls:LkQ}{Hs:HoQ}{Ts:TsQ}{l:List Op8}{m:ByteArray}{h:Int}
theorem cg_nt (h0:cgN S Ls Hs Ts l=0):ntN S Ls Hs Ts=0∧caN S Ts l=0:=by
 unfold cgN at h0;by_cases e:ntN S Ls Hs Ts=0
 ·rw[if_pos e] at h0;by_cases e2:200<l.length
  ·rw[if_pos e2] at h0;cases h0
  rw[if_neg e2] at h0;exact⟨e,h0⟩
 rw[if_neg e] at h0;exact absurd h0 e
theorem ta_ok {Us:TsQ}(hn:∀k,k<Us.length→tbN (Us.getD k [])=0)(s:Int):tbN (taT Us s)=0:=by
 unfold taT;by_cases hk:(s-1).toNat<Us.length
 ·exact hn _ hk
 rw[List.getD_eq_getElem?_getD,List.getElem?_eq_none (by omega)];rfl
theorem cg_ok (h0:cgN S Ls Hs Ts l=0):tpN S Ls Hs=0∧(Ts.length:Int)=S∧(∀s,tbN (taT Ts s)=0)∧∀s,tbN (taT (caT Ts l) s)=0:=by
 obtain⟨h1,h2⟩:=cg_nt h0;obtain⟨a1,a2,a3⟩:=nt_0 h1;obtain⟨_,_,b3⟩:=nt_0 (nt_ca h1 h2);exact⟨a1,a2,ta_ok a3,ta_ok b3⟩
end
end
section
open Go.RowKit Go.Shelf
theorem nm_sml {a:ByteArray}(h:nmB a=true):a.size≤6:=by
 simp only[nmB,Bool.and_eq_true,decide_eq_true_eq] at h;exact h.2.1
def SfR (S:Int)(Ls:LkQ)(Hs:HoQ)(Ts:TsQ)(o:List Op8)(l:List Wi)(N:Int)(p:Int×ByteArray×Int):Prop:=
 (cgN S Ls Hs Ts o≠0∧N=cgN S Ls Hs Ts o∧p=(0,ByteArray.empty,0))∨(cgN S Ls Hs Ts o=0∧wsN S Ls Hs l≠0∧N=wsN S Ls Hs l∧p=(0,ByteArray.empty,0)) ∨
 (cgN S Ls Hs Ts o=0∧wsN S Ls Hs l=0∧∃held,Fb l Hs (fun z h=>pwS Ls Hs Ts (caT Ts o) (Hs.getD z zeO).2 (h:Int)) Hs.length 0 held p∧N=if held<l.length then 9 else 0)
theorem safe1_any (m:ByteArray)(x y h:Int)(g:Nat)(p7:AdQ)(j7 e7:Nat)(p8:AdQ)(j8 e8 n3:Nat)(Ls:LkQ)(Hs:HoQ)(As Bs:TsQ)(w:World)
 (c0:w.cell? ⟨g,0,none⟩=some (.slice p7 j7 e7)) (c1:w.cell? ⟨g,1,none⟩=some (.slice p8 j8 e8)) (ho:LGs w 0 (.slice p7 j7 e7) (lgF Ls Hs As) n3) (hy:LGs w 0 (.slice p8 j8 e8) (lgF Ls Hs Bs) n3) (hm:n3≤6) (ht:tpN (n3:Int) Ls Hs=0) (hsp:spB (n3:Int) (x,y)=true) (hhd:hdrB h=true):
 Calls prog 64 #[.agg #[.string m,.int i64 x,.int i64 y],.int i64 h,.pointer (some ⟨g,0,none⟩)] w fun e w'=>∃gi lb,e=.returned (.func (Fn.func gi) #[] lb)∧(∀args w,(callFunc gi args).run prog w=.ok (.enter gi args) w)∧ItF prog gi lb FtV w'.heap.size (pwS Ls Hs As Bs (x,y) h) w'∧Below w.heap.size w w':=by
 have hb0:Below w.heap.size w (w.alloc (.cells #[.string m,.int i64 x,.int i64 y] 77)):=(bRQ _ _).alloc (nLQ _) _;have HIT:=fates_it (.slice p7 j7 e7) (.slice p8 j8 e8) n3 Ls Hs As Bs x y h (w.alloc (.cells #[.string m,.int i64 x,.int i64 y] 77)) hm ht (ho.later hb0) (hy.later hb0) hsp hhd;have HB0:Hid (Below w.heap.size w (w.alloc (.cells #[.string m,.int i64 x,.int i64 y] 77))):=hb0;have hg:g<w.heap.size:=bLQ _ _ c0;have ng:g≠w.heap.size:=by omega
 clear ho hy hb0;go_enter func64,ntmps64
 go_wp2_with fail
 refine HIT.mono ?_;rintro e w1 ⟨gi,lb,rfl,h1,h2,h3⟩;go_wp2;go_ret;exact⟨gi,lb,rfl,h1,h2,HB0.out.trans (h3.mono HB0.out.size)⟩
structure HmBox (w W:World)(S:Int)(v1 v2 v3:Value):Prop where
 below:Below w.heap.size w W
 n:NeBox W w.heap.size S v1 v2 v3
 p:PrBox w W (w.heap.size+1) 0 ⟨#[]⟩ 0
theorem hmbox_new (w:World)(S:Int)(v1 v2 v3:Value):HmBox w ((w.alloc (.cells #[.int i64 S,v1,v2,v3] 28)).alloc (.cells #[.int i64 0,.string ⟨#[]⟩,.int i64 0] 43)) S v1 v2 v3:=by
 have e1:(w.alloc (.cells #[.int i64 S,v1,v2,v3] 28)).heap.size=w.heap.size+1:=by simp
 have hb:∀(W:World) (o:Obj),Below W.heap.size W (W.alloc o):=fun W o=>(bRQ _ _).alloc (nLQ _) _
 have hn:=(nebox_new w S v1 v2 v3 28).later (hb _ (Obj.cells #[.int i64 0,.string ⟨#[]⟩,.int i64 0] 43));have hB:=((Below.refl w.heap.size w).alloc (nLQ _) (Obj.cells #[.int i64 S,v1,v2,v3] 28)).alloc (by rw[e1];omega) (Obj.cells #[.int i64 0,.string ⟨#[]⟩,.int i64 0] 43)
 generalize w.alloc (.cells #[.int i64 S,v1,v2,v3] 28)=X at e1 hn hB
 have hr:=prbox_new X w 0 ⟨#[]⟩ 0;rw[e1] at hr;exact⟨hB,hn,hr⟩
theorem HmBox.later {w W W':World}{S:Int}{v1 v2 v3:Value}(k:HmBox w W S v1 v2 v3)(hb:Below W.heap.size W W'):HmBox w W' S v1 v2 v3:=
 ⟨k.below.trans (hb.mono k.below.size),k.n.later hb,k.p.later hb⟩
theorem safe_any (S:Int)(ao:AdQ)(n cap:Nat)(ao2:AdQ)(n2 cap2:Nat)(ao3:AdQ)(n3 cap3:Nat)(a5:AdQ)(n5 c5:Nat)(a4:AdQ)(n4 c4:Nat)(Ls:LkQ)(Hs:HoQ)(Ts:TsQ)(o:List Op8)(l:List Wi)(w:World)
 (hL:GS lnkE w (.slice ao n cap) Ls) (hH:GS hstE w (.slice ao2 n2 cap2) Hs) (hT:TS w (.slice ao3 n3 cap3) Ts) (ho:GS opE w (.slice a5 n5 c5) o) (hl:GS wisE w (.slice a4 n4 c4) l):
 Calls prog 36 #[.agg #[.int i64 S,.slice ao n cap,.slice ao2 n2 cap2,.slice ao3 n3 cap3],.slice a5 n5 c5,.slice a4 n4 c4] w fun e w'=>∃N p,e=.returned (.tuple #[.agg #[.int i64 p.1,.string p.2.1,.int i64 p.2.2],noV N])∧SfR S Ls Hs Ts o l N p∧Below w.heap.size w w':=by
 have HLW:Hid (∀W,Below w.heap.size w W→GS lnkE W (.slice ao n cap) Ls):=fun W hb=>hL.later hb
 have HHW:Hid (∀W,Below w.heap.size w W→GS hstE W (.slice ao2 n2 cap2) Hs):=fun W hb=>hH.later hb
 have HTW:Hid (∀W,Below w.heap.size w W→TS W (.slice ao3 n3 cap3) Ts):=fun W hb=>hT.later hb
 have HoW:Hid (∀W,Below w.heap.size w W→GS opE W (.slice a5 n5 c5) o):=fun W hb=>ho.later hb
 have HlW:Hid (∀W,Below w.heap.size w W→GS wisE W (.slice a4 n4 c4) l):=fun W hb=>hl.later hb
 have HTN:Hid (Ts.length=n3):=hT.len;have hX:=hmbox_new w S (.slice ao n cap) (.slice ao2 n2 cap2) (.slice ao3 n3 cap3);obtain⟨w0,hw0⟩:∃W,(w.alloc (.cells #[.int i64 S,.slice ao n cap,.slice ao2 n2 cap2,.slice ao3 n3 cap3] 28)).alloc (.cells #[.int i64 0,.string ⟨#[]⟩,.int i64 0] 43)=W:=⟨_,rfl⟩;rw[hw0] at hX;have HX:Hid (HmBox w w0 S (.slice ao n cap) (.slice ao2 n2 cap2) (.slice ao3 n3 cap3)):=hX;have HW0:Hid ((w.alloc (.cells #[.int i64 S,.slice ao n cap,.slice ao2 n2 cap2,.slice ao3 n3 cap3] 28)).alloc (.cells #[.int i64 0,.string ⟨#[]⟩,.int i64 0] 43)=w0):=hw0;clear hL hH hT hl ho hX hw0;go_enter func36,ntmps36;go_upto_region 1 with fail;rw[HW0.out];obtain⟨_,⟨b0,b1,b2,b3⟩,_⟩:=HX.out;clear HW0
 go_wp2_with fail
 refine (during_any S ao n cap ao2 n2 cap2 ao3 n3 cap3 a5 n5 c5 Ls Hs Ts o w0 (HLW.out _ HX.out.below) (HHW.out _ HX.out.below) (HTW.out _ HX.out.below) (HoW.out _ HX.out.below)).mono ?_;rintro e w1 ⟨p7,j7,e7,p8,j8,e8,rfl,hDu,hb1⟩;obtain⟨T,hT⟩:∃T,T=cgN S Ls Hs Ts o:=⟨_,rfl⟩;have HT:Hid (T=cgN S Ls Hs Ts o):=hT;rw[←hT] at hDu ⊢;have hX1:=HX.out.later hb1;have hal1:Below w1.heap.size w1 (w1.alloc (.cells #[.slice p7 j7 e7,.slice p8 j8 e8] 145)):=(bRQ _ _).alloc (nLQ _) _;have hvc:=vat_new w1 [.slice p7 j7 e7,.slice p8 j8 e8] 145
 change VAt (w1.alloc (.cells #[.slice p7 j7 e7,.slice p8 j8 e8] 145)) _ _ _ at hvc
 have hX2:=hX1.later hal1;obtain⟨w2,hw2⟩:∃W,w1.alloc (.cells #[.slice p7 j7 e7,.slice p8 j8 e8] 145)=W:=⟨_,rfl⟩;obtain⟨bc,hbc⟩:∃bc,w1.heap.size=bc:=⟨_,rfl⟩;rw[hw2] at hal1 hvc hX2;rw[hbc] at hvc;have HX2:Hid (HmBox w w2 S (.slice ao n cap) (.slice ao2 n2 cap2) (.slice ao3 n3 cap3)):=hX2;have HVC:Hid (VAt w2 bc 0 [.slice p7 j7 e7,.slice p8 j8 e8]):=hvc;have HDU:Hid (T=0→LGs w2 0 (.slice p7 j7 e7) (lgF Ls Hs Ts) n3∧LGs w2 0 (.slice p8 j8 e8) (lgF Ls Hs (caT Ts o)) n3):=fun e=>⟨(hDu e).1.later hal1,(hDu e).2.later hal1⟩
 have HW2:Hid (w1.alloc (.cells #[.slice p7 j7 e7,.slice p8 j8 e8] 145)=w2):=hw2;have HBC:Hid (w1.heap.size=bc):=hbc;clear hT hb1 HX b0 b1 b2 b3 hX1 hal1 hvc hX2 hw2 hbc hDu;go_upto_region 2 with fail;rw[HW2.out,HBC.out];clear HW2 HBC;by_cases h0:T=0
 ·have HN0:Hid (cgN S Ls Hs Ts o=0):=HT.out.symm.trans h0;have HDU0:Hid (LGs w2 0 (.slice p7 j7 e7) (lgF Ls Hs Ts) n3∧LGs w2 0 (.slice p8 j8 e8) (lgF Ls Hs (caT Ts o)) n3):=HDU.out h0;subst h0;clear HDU;rw[no_ok rfl];obtain⟨_,⟨b0,b1,b2,b3⟩,_⟩:=HX2.out
  go_wp2_with fail
  refine (wcheck_any S ao n cap ao2 n2 cap2 a4 n4 c4 Ls Hs l _ (HLW.out _ HX2.out.below) (HHW.out _ HX2.out.below) (HlW.out _ HX2.out.below)).mono ?_;rintro e w3 ⟨rfl,hb3⟩;obtain⟨U,hU⟩:∃U,U=wsN S Ls Hs l:=⟨_,rfl⟩;have HU:Hid (U=wsN S Ls Hs l):=hU;rw[←hU];have HX3:Hid (HmBox w w3 S (.slice ao n cap) (.slice ao2 n2 cap2) (.slice ao3 n3 cap3)):=HX2.out.later hb3;have HVC3:Hid (VAt w3 bc 0 [.slice p7 j7 e7,.slice p8 j8 e8]):=HVC.out.later hb3;have HD3:Hid (LGs w3 0 (.slice p7 j7 e7) (lgF Ls Hs Ts) n3∧LGs w3 0 (.slice p8 j8 e8) (lgF Ls Hs (caT Ts o)) n3):=⟨HDU0.out.1.later hb3,HDU0.out.2.later hb3⟩;clear hU hb3 HX2 b0 b1 b2 b3 HVC HDU0;by_cases h5:U=0
  ·have HU0:Hid (wsN S Ls Hs l=0):=HU.out.symm.trans h5;subst h5;rw[no_ok rfl];obtain⟨_,⟨b0,b1,b2,b3⟩,_⟩:=HX3.out;obtain⟨ht,hS,_,_⟩:=cg_ok HN0.out;obtain rfl:S=(n3:Int):=by rw[←hS,HTN.out]
   have hm6:n3≤6:=by have:=(tp_0 ht).1;omega
   have hHG:=(tp_0 ht).2.2.2.2.1;have HFC:Hid (FcAsks w3 bc Hs (fun z h=>pwS Ls Hs Ts (caT Ts o) (Hs.getD z zeO).2 (h:Int))):=by
    intro z hz h h16 W hW;have e:Hs.getD z zeO=Hs[z]:=getO hz
    dsimp only
    rw[e];have hv:=HVC3.out.later hW;exact safe1_any Hs[z].1 Hs[z].2.1 Hs[z].2.2 h bc p7 j7 e7 p8 j8 e8 n3 Ls Hs Ts (caT Ts o) W (hv 0 _ rfl) (hv 1 _ rfl) (HD3.out.1.later hW) (HD3.out.2.later hW) hm6 ht (hHG _ (List.getElem_mem hz)).2 (by unfold hdrB;simp;omega)
   have HNM:Hid (∀h∈Hs,h.1.size≤1000000):=fun h hh=>by
    have:=nm_sml (hHG h hh).1;omega
   clear ht hS hm6 hHG
   go_wp2_with fail
   refine (fbrk_any bc ao2 n2 cap2 a4 n4 c4 Hs _ l _ (HHW.out _ HX3.out.below) (HlW.out _ HX3.out.below) HNM.out HFC.out).mono ?_;rintro e w4 ⟨held,V,rfl,hF,hb4⟩;have HF:Hid (Fb l Hs (fun z h=>pwS Ls Hs Ts (caT Ts o) (Hs.getD z zeO).2 (h:Int)) Hs.length 0 held V):=hF;have HX4:Hid (HmBox w w4 (n3:Int) (.slice ao n cap) (.slice ao2 n2 cap2) (.slice ao3 n3 cap3)):=HX3.out.later hb4;obtain⟨V1,V2,V3⟩:=V
   dsimp only
   have hal:Below w4.heap.size w4 (w4.alloc (.cells #[.int i64 V1,.string V2,.int i64 V3] 43)):=(bRQ _ _).alloc (nLQ _) _;have hpr:=prbox_new w4 w V1 V2 V3;have hX5:=HX4.out.later hal;obtain⟨w5,hw5⟩:∃W,w4.alloc (.cells #[.int i64 V1,.string V2,.int i64 V3] 43)=W:=⟨_,rfl⟩;obtain⟨gp,hgp⟩:∃q,q=w4.heap.size:=⟨_,rfl⟩;rw[hw5] at hal hpr hX5;rw[←hgp] at hpr;have HW5:Hid (w4.alloc (.cells #[.int i64 V1,.string V2,.int i64 V3] 43)=w5):=hw5;have HGP:Hid (w4.heap.size=gp):=hgp.symm;have HLP:Hid (w.heap.size+1<gp):=by
    show _<_;rw[hgp];have h1:=bLQ _ _ HX4.out.p.c0;simpa using h1
   have HPR:Hid (PrBox w w5 gp V1 V2 V3):=hpr;have HX5:Hid (HmBox w w5 (n3:Int) (.slice ao n cap) (.slice ao2 n2 cap2) (.slice ao3 n3 cap3)):=hX5;clear hb4 hal hpr hX5 hw5 hgp b0 b1 b2 b3 HX3 hF HFC HD3 HVC3;obtain⟨B,hB⟩:∃B,B=decide (held<l.length):=⟨_,rfl⟩;have HBO:Hid (decide (held<l.length)=B):=hB.symm;rw[←hB];clear hB;go_upto_region 8 with fail;rw[HW5.out,HGP.out];clear HW5 HGP;obtain⟨hB4,_,⟨r0,r1,r2,rf⟩⟩:=HX5.out;have f0:=rf 0;have f1:=rf 1;have f2:=rf 2;have HB4:Hid (Below w.heap.size w w5):=hB4;obtain⟨q0,q1,q2,_⟩:=HPR.out;clear hB4 rf;cases B with
   | true =>
     have hlt:held<l.length:=of_decide_eq_true HBO.out;have HSR:Hid (SfR (n3:Int) Ls Hs Ts o l 9 (V1,V2,V3)):=.inr (.inr ⟨HN0.out,HU0.out,held,HF.out,by rw[if_pos hlt]⟩);clear hlt;go_wp2;refine bodyPost_ret (v:=.tuple #[.agg #[.int i64 V1,.string V2,.int i64 V3],.iface 68 (.int i64 9)]) (by simp[results,results36,go_sem, *]) rfl ⟨9,(V1,V2,V3),rfl,HSR.out,below_put3 HB4.out _ (by omega) _ _ _⟩
   | false =>
     have hlt:¬held<l.length:=of_decide_eq_false HBO.out;have hz:(V1,V2,V3)=((0:Int),ByteArray.empty,(0:Int)):=HF.out.no (by have:=HF.out.le;omega);have HSR:Hid (SfR (n3:Int) Ls Hs Ts o l 0 (0,ByteArray.empty,0)):=.inr (.inr ⟨HN0.out,HU0.out,held,by rw[←hz];exact HF.out,by rw[if_neg hlt]⟩);clear hlt hz;go_wp2;refine bodyPost_ret (v:=.tuple #[.agg #[.int i64 0,.string ⟨#[]⟩,.int i64 0],.nilIface]) (by simp[results,results36,go_sem, *]) rfl ⟨0,(0,ByteArray.empty,0),rfl,HSR.out,below_put3 HB4.out _ (by omega) _ _ _⟩
  rw[no_ne h5];have HSR:Hid (SfR S Ls Hs Ts o l U (0,ByteArray.empty,0)):=.inr (.inl ⟨HN0.out,by rw[←HU.out];exact h5,HU.out,rfl⟩);have HNE:Hid (U≠0):=h5;obtain⟨hB2,_,⟨r0,r1,r2,rf⟩⟩:=HX3.out;have f0:=rf 0;have f1:=rf 1;have f2:=rf 2;have HB2:Hid (Below w.heap.size w w3):=hB2;clear h5 hB2 rf;go_wp2;refine bodyPost_ret (v:=.tuple #[.agg #[.int i64 0,.string ⟨#[]⟩,.int i64 0],.iface 68 (.int i64 U)]) (by simp[results,results36,go_sem, *]) rfl ⟨U,(0,ByteArray.empty,0),by rw[no_ne HNE.out];rfl,HSR.out,below_put3 HB2.out _ (by omega) _ _ _⟩
 rw[no_ne h0];have HSR:Hid (SfR S Ls Hs Ts o l T (0,ByteArray.empty,0)):=.inl ⟨by rw[←HT.out];exact h0,HT.out,rfl⟩;have HNE:Hid (T≠0):=h0;obtain⟨hB2,_,⟨r0,r1,r2,rf⟩⟩:=HX2.out;have f0:=rf 0;have f1:=rf 1;have f2:=rf 2;have HB2:Hid (Below w.heap.size w w2):=hB2;clear h0 hB2 rf;go_wp2;refine bodyPost_ret (v:=.tuple #[.agg #[.int i64 0,.string ⟨#[]⟩,.int i64 0],.iface 68 (.int i64 T)]) (by simp[results,results36,go_sem, *]) rfl ⟨T,(0,ByteArray.empty,0),by rw[no_ne HNE.out];rfl,HSR.out,below_put3 HB2.out _ (by omega) _ _ _⟩
end
section
open Go.RowKit
def mgD (M:List (Int×SlT))(a:Int):SlT:=(mget intKey.q a M).getD (none,0,0)
theorem getV_sl (o:Option SlT):getV slV (.slice none 0 0) o=slV (o.getD (none,0,0)):=by cases o <;> rfl
theorem mg_put (M:List (Int×SlT))(a b:Int)(x:SlT):mgD (mput intKey.q a x M) b=if b=a then x else mgD M b:=by
 unfold mgD;rw[mget_put intKey.qeq];by_cases h:b=a
 ·rw[if_pos h,if_pos ((intKey.qeq _ _).2 h)];rfl
 rw[if_neg h,if_neg (fun e=>h ((intKey.qeq _ _).1 e))]
theorem opA_app (D:List Op8)(x:Op8)(a:Int):opA (D++[x]) a=if x.w=a then opA D a++[x] else opA D a:=by
 unfold opA;rw[List.filter_append];by_cases h:x.w=a
 ·rw[if_pos h];simp[h]
 rw[if_neg h];simp[h]
structure GM (W:World)(bm B:Nat)(M:List (Int×SlT))(D:List Op8):Prop where
 m:MAt intKey slV W bm M
 o:∀a,NO W B (slV (mgD M a)) (opA D a)
 d:∀a b,a≠b→∀g,(slV (mgD M a)).ownBlock=some g→(slV (mgD M b)).ownBlock≠some g
theorem gm_new (W:World)(bm B:Nat)(h:MAt intKey slV W bm []):GM W bm B [] []:=⟨h,fun a=>NO.nil _ _,fun a b _ g h=>by cases h⟩
theorem NO.sl {w:World}{B:Nat}{v:Value}{L:List Op8}(h:NO w B v L):∃x:SlT,v=slV x:=by
 rcases h.2 with ⟨h3,_⟩ | ⟨g,cap,cur,h3,_⟩
 ·exact⟨(none,0,0),h3⟩
 exact⟨(some ⟨g,0,none⟩,L.length,cap),h3⟩
theorem GM.grown {W W':World}{bm B:Nat}{M:List (Int×SlT)}{D:List Op8}(h:GM W bm B M D){row:Option Nat}(hg:W.grownBy W' row)(hne:∀b,row=some b→b≠bm∧∀a,(slV (mgD M a)).ownBlock≠some b):GM W' bm B M D:=
 ⟨h.m.kept hg (fun e=>(hne bm e.symm).1 rfl),fun a=>(h.o a).kept hg (by
  cases row with
  | none=>exact none_or _
  | some b=>exact .inr fun e=>(hne b rfl).2 a e),h.d⟩
theorem GM.push {W W1 W2 W3:World}{bm B:Nat}{M:List (Int×SlT)}{D:List Op8}(h:GM W bm B M D)(hbm:bm<B){x:Op8}{y:SlT}(hg1:W.grownBy W1 none)
 (ho:NO W2 B (slV y) (opA D x.w++[x])) (hg2:W1.grownBy W2 (slV (mgD M x.w)).ownBlock) (hl:(slV y).ownBlock=(slV (mgD M x.w)).ownBlock∨(slV y).ownBlock=some W1.heap.size)
 (hm:MAt intKey slV W3 bm (mput intKey.q x.w y M)) (hg3:W2.grownBy W3 (some bm)):GM W3 bm B (mput intKey.q x.w y M) (D++[x]):=by
 have hlt:∀a g,(slV (mgD M a)).ownBlock=some g→B≤g∧g<W1.heap.size:=fun a g e=>by
  have:=(h.o a).lt g e;exact⟨this.1,Nat.lt_of_lt_of_le this.2 hg1.size⟩
 refine⟨hm,fun a=>?_,fun a b hab g e1 e2=>?_⟩
 ·rw[mg_put,opA_app];by_cases e:a=x.w
  ·subst e;rw[if_pos rfl,if_pos rfl];exact ho.kept hg3 (.inr fun e=>by
    have:=(ho.lt bm e).1;omega)
  rw[if_neg e,if_neg (fun e2=>e e2.symm)];have h1:=(h.o a).kept hg1 (none_or _);have h2:=h1.kept hg2 (by
   cases hb:(slV (mgD M x.w)).ownBlock with
   | none=>exact none_or _
   | some b=>exact .inr (fun e3=>h.d x.w a (fun e4=>e e4.symm) b hb e3))
  exact h2.kept hg3 (.inr fun e3=>by
   have:=(h2.lt bm e3).1;omega)
 rw[mg_put] at e1 e2;by_cases k1:a=x.w
 ·subst k1;rw[if_pos rfl] at e1;rw[if_neg (fun e=>hab e.symm)] at e2
  rcases hl with hl | hl
  ·rw[hl] at e1;exact h.d _ _ hab g e1 e2
  rw[hl] at e1;have:=(hlt b g e2).2;cases e1;omega
 rw[if_neg k1] at e1;by_cases k2:b=x.w
 ·subst k2;rw[if_pos rfl] at e2
  rcases hl with hl | hl
  ·rw[hl] at e2;exact h.d _ _ hab g e1 e2
  rw[hl] at e2;have:=(hlt a g e1).2;cases e2;omega
 rw[if_neg k2] at e2;exact h.d a b hab g e1 e2
structure TskOK (W:World)(v1 v2 v3 v4:Value)(bm:Nat)(Ls:List LkT)(Hs:List HoT)(Ts:TsQ)(ws:List Wi)(D:List Op8):Prop where
 n:NI W v1 v2 v3 Ls Hs Ts
 w:GS wisE W v4 ws
 m:∃M,MAt intKey slV W bm M∧∀a,GS opE W (slV (mgD M a)) (opA D a)
theorem TskOK.later {W W':World}{v1 v2 v3 v4:Value}{bm:Nat}{Ls:List LkT}{Hs:List HoT}{Ts:TsQ}{ws:List Wi}{D:List Op8}(h:TskOK W v1 v2 v3 v4 bm Ls Hs Ts ws D)(hb:Below W.heap.size W W'):TskOK W' v1 v2 v3 v4 bm Ls Hs Ts ws D:=by
 obtain⟨M,h1,h2⟩:=h.m;exact⟨h.n.later hb,h.w.later hb,M,h1.later hb,fun a=>(h2 a).later hb⟩
theorem frozLater {W W':World}{g:Nat}{a:Value}(h:∀i,W.frozen? ⟨g,i,none⟩=false)(hc:W.cell? ⟨g,0,none⟩=some a)(hb:Below W.heap.size W W'):∀i,W'.frozen? ⟨g,i,none⟩=false:=
 fun i=>(hb.frozen (p:=⟨g,i,none⟩) (show (⟨g,0,none⟩:Addr).block<W.heap.size from bLQ W ⟨g,0,none⟩ hc)).trans (h i)
theorem cellOff {W:World}{g o j:Nat}{u v:Value}(hne:o≠j)(h:W.cell? ⟨g,o,none⟩=some u):(W.setCell ⟨g,j,none⟩ v).cell? ⟨g,o,none⟩=some u:=by
 rw[World.cell?_setCell_other _ _ _ _ (by simp[hne])];exact h
theorem frozSet {W:World}{g j:Nat}{v:Value}(b i:Nat):(W.setCell ⟨g,j,none⟩ v).frozen? ⟨b,i,none⟩=W.frozen? ⟨b,i,none⟩:=by simp
theorem cellSame {W:World}{g j:Nat}{u v:Value}(h:W.cell? ⟨g,j,none⟩=some u):(W.setCell ⟨g,j,none⟩ v).cell? ⟨g,j,none⟩=some v:=World.cell?_setCell_same _ _ _ h
structure TkB (W:World)(g:Nat)(S:Int)(v1 v2 v3 v4 v5:Value)(all:Int):Prop where
 c0:W.cell? ⟨g,0,none⟩=some (.int i64 S)
 c1:W.cell? ⟨g,1,none⟩=some v1
 c2:W.cell? ⟨g,2,none⟩=some v2
 c3:W.cell? ⟨g,3,none⟩=some v3
 c4:W.cell? ⟨g,4,none⟩=some v4
 c5:W.cell? ⟨g,5,none⟩=some v5
 c6:W.cell? ⟨g,6,none⟩=some (.int i64 all)
 f:∀i,W.frozen? ⟨g,i,none⟩=false
section
variable {W W':World}{g:Nat}{S:Int}{v1 v2 v3 v4 v5:Value}{all:Int}
theorem TkB.lt (h:TkB W g S v1 v2 v3 v4 v5 all):g<W.heap.size:=bLQ W ⟨g,0,none⟩ h.c0
theorem TkB.later (h:TkB W g S v1 v2 v3 v4 v5 all)(hb:Below W.heap.size W W'):TkB W' g S v1 v2 v3 v4 v5 all:=
 ⟨cell_later hb h.c0,cell_later hb h.c1,cell_later hb h.c2,cell_later hb h.c3,cell_later hb h.c4,cell_later hb h.c5,cell_later hb h.c6,frozLater h.f h.c0 hb⟩
theorem tkb_new (W:World)(S:Int)(v1 v2 v3 v4 v5:Value)(all:Int)(t:TypeId):TkB (W.alloc (.cells #[.int i64 S,v1,v2,v3,v4,v5,.int i64 all] t)) W.heap.size S v1 v2 v3 v4 v5 all:=by
 refine⟨?_,?_,?_,?_,?_,?_,?_,fun i=>by simp⟩ <;> simp
theorem frz_grown {row:Option Nat}{b i:Nat}(hg:W.grownBy W' row)(hl:b<W.heap.size)(hne:some b≠row):W'.frozen? ⟨b,i,none⟩=W.frozen? ⟨b,i,none⟩:=by
 unfold World.frozen?;rw[hg.block b hl hne]
theorem TkB.grown (h:TkB W g S v1 v2 v3 v4 v5 all){row:Option Nat}(hg:W.grownBy W' row)(hne:some g≠row):TkB W' g S v1 v2 v3 v4 v5 all:=
 ⟨hg.cell h.c0 hne,hg.cell h.c1 hne,hg.cell h.c2 hne,hg.cell h.c3 hne,hg.cell h.c4 hne,hg.cell h.c5 hne,hg.cell h.c6 hne,fun i=>by rw[frz_grown hg h.lt hne];exact h.f i⟩
theorem TkB.put (h:TkB W g S v1 v2 v3 v4 v5 all)(b:Int):TkB (W.setCell ⟨g,6,none⟩ (.int i64 b)) g S v1 v2 v3 v4 v5 b:=
 ⟨cellOff (by decide) h.c0,cellOff (by decide) h.c1,cellOff (by decide) h.c2,cellOff (by decide) h.c3,cellOff (by decide) h.c4,cellOff (by decide) h.c5,cellSame h.c6,fun i=>by rw[frozSet];exact h.f i⟩
end
theorem rd_len (D:List Op8)(s:Nat):∀k,(rnTo D s k).length≤k*D.length
 | 0=>by simp[rnTo]
 | k+1=>by
   have h1:=rd_len D s k;have h2:(opA D ((k+1:Nat):Int)).length≤D.length:=List.length_filter_le _ _;rw[rnTo,List.length_append,Nat.succ_mul];by_cases h:inS s (k+1)=true
   ·rw[if_pos h];omega
   rw[if_neg h];simp only[List.length_nil];omega
theorem pround_any (S:Int)(v1 v2 v3 v4:Value)(bm:Nat)(all:Int)(s:Nat)(Ls:List LkT)(Hs:List HoT)(Ts:TsQ)(ws:List Wi)(D:List Op8)(w:World)
 (hT:TskOK w v1 v2 v3 v4 bm Ls Hs Ts ws D) (hs:s<64) (hD:D.length≤1000):
 Calls prog 44 #[.agg #[.int i64 S,v1,v2,v3,v4,.map (some bm),.int i64 all],.int i64 (s:Int)] w fun e w'=>∃v,e=.returned v∧NO w' w.heap.size v (rnL D s)∧Below w.heap.size w w':=by
 obtain⟨w1,hw1⟩:∃W,W=w.alloc (.cells #[.int i64 S,v1,v2,v3,v4,.map (some bm),.int i64 all] 63):=⟨_,rfl⟩;have hb1:Below w.heap.size w w1:=by rw[hw1];exact (bRQ _ _).alloc (nLQ _) _
 have hbx:TkB w1 w.heap.size S v1 v2 v3 v4 (.map (some bm)) all:=by rw[hw1];exact tkb_new w S v1 v2 v3 v4 _ all 63
 have hs1:w1.heap.size=w.heap.size+1:=by rw[hw1];simp
 have HW1:Hid (w1=w.alloc (.cells #[.int i64 S,v1,v2,v3,v4,.map (some bm),.int i64 all] 63)):=hw1;have HB1:Hid (Below w.heap.size w w1):=hb1;have HS1:Hid (w1.heap.size=w.heap.size+1):=hs1;have HC5:Hid (∀W,Below w1.heap.size w1 W→W.cell? ⟨w.heap.size,5,none⟩=some (.map (some bm))):=fun W h=>(hbx.later h).c5
 have HTK:Hid (∀W,Below w1.heap.size w1 W→TskOK W v1 v2 v3 v4 bm Ls Hs Ts ws D):=fun W h=>(hT.later hb1).later h
 have HSS:Hid (s<64):=hs;have HDD:Hid (D.length≤1000):=hD;clear hT hb1 hbx hs1 hw1 hs hD;go_enter func44,ntmps44;go_wp2;rw[←HW1.out]
 go_loopw [5,6] (fun v i wr=>∃a:Nat,1≤a∧a≤7∧i=.int i64 (a:Int)∧NO wr w1.heap.size v (rnTo D s (a-1))∧Below w1.heap.size w1 wr) (fun _ i _=>7-(intOf i).toNat)
 case atStart=>exact⟨1,by omega,by omega,rfl,NO.nil _ _,bRQ _ _⟩
 case round =>
  obtain⟨a,ha1,ha7,rfl,hNO,hB⟩:=hrel;obtain⟨wi,hwi⟩:∃X,X=wr:=⟨_,rfl⟩;subst hwi;have HNO:Hid (NO wi w1.heap.size u5 (rnTo D s (a-1))):=hNO;have HB:Hid (Below w1.heap.size w1 wi):=hB;clear hNO hB;by_cases hlt:a≤6
  ·have d1:(a:Int)≤6:=by omega
   have HNX:Hid (rnTo D s a=rnTo D s (a-1)++(if inS s a=true then opA D (a:Int) else [])):=show _=_ by
    obtain⟨k,rfl⟩:∃k,a=k+1:=⟨a-1,by omega⟩;rfl
   go_wp2_with fail
   refine (only_any a wi ha1 hlt).mono ?_;rintro e w2 ⟨rfl,hw2⟩;have hw2:=hw2.symm;subst hw2
   go_wp2_with fail
   refine (setHas_on s a wi HSS.out ha1 hlt).mono ?_;rintro e w2 ⟨rfl,hw2⟩;have hw2:=hw2.symm;subst hw2;obtain⟨T,hT⟩:∃T,T=inS s a:=⟨_,rfl⟩;rw[←hT] at HNX ⊢;clear hT;cases T with
   | false =>
     have HNX2:Hid (rnTo D s a=rnTo D s (a-1)):=HNX.out.trans (by simp);go_wp2;go_roundw
     case rel=>exact⟨a+1,by omega,by omega,by go_num,by rw[show a+1-1=a from rfl,HNX2.out];exact HNO.out,HB.out⟩
     case measure=>simp[intOf];omega
   | true =>
     obtain⟨M,hM,hGO⟩:=(HTK.out wi HB.out).m;have hlk:=run_lookup_M hM 60 48 underlying60 (.slice none 0 0) (fun w=>by kernel_rfl) (a:Int) false;rw[getV_sl] at hlk;obtain⟨y,hy⟩:∃y,y=mgD M (a:Int):=⟨_,rfl⟩;have HGO:Hid (GS opE wi (slV y) (opA D (a:Int))):=by rw[hy];exact hGO _
     obtain⟨ay,ny,cy⟩:=y;have hlk2:(Instr.lookup 60 (.map (some bm)) (.int i64 (a:Int)) false).run prog wi=.ok (.slice ay ny cy) wi:=by
      have e:slV (mgD M (a:Int))=.slice ay ny cy:=by rw[←hy];rfl
      rw[←e];exact hlk
     have c5:=HC5.out wi HB.out;have HL1:Hid ((rnTo D s (a-1)).length+(opA D (a:Int)).length≤1000000):=by
      have h1:=rd_len D s (a-1);have h2:(opA D (a:Int)).length≤D.length:=List.length_filter_le _ _;have h3:=HDD.out;have h4:(a-1)*D.length≤6*1000:=Nat.mul_le_mul (by omega) h3;show _≤_;omega
     have HBS:Hid (w1.heap.size≤wi.heap.size):=HB.out.size;clear hM hGO hlk hy
     go_wp2_with (at_builtin;refine wpList_append_ops wi rfl _ _ 48 rfl underlying48 w1.heap.size _ rfl _ HNO.out _ rfl _ HGO.out HL1.out HBS.out ?_)
     intro v' w3 hNO3 hg3;have HNO3:Hid (NO w3 w1.heap.size v' (rnTo D s a)):=by
      have e:rnTo D s a=rnTo D s (a-1)++opA D (a:Int):=HNX.out.trans (by simp);rw[e];exact hNO3
     have HB3:Hid (Below w1.heap.size w1 w3):=HB.out.trans (below_grown hg3 HB.out.size (fun b hb=>(HNO.out.lt b hb).1));clear hNO3 hg3 c5;go_wp2;go_roundw
     case rel=>exact⟨a+1,by omega,by omega,by go_num,HNO3.out,HB3.out⟩
     case measure=>simp[intOf];omega
  obtain rfl:a=7:=by omega
  have HBW:Hid (Below w.heap.size w wi):=HB1.out.trans (HB.out.mono HB1.out.size);have HNE:Hid (NO wi w.heap.size u5 (rnL D s)):=HNO.out.mono (by rw[HS1.out];omega);go_wp2;go_ret;exact⟨_,rfl,HNE.out,HBW.out⟩
end
end Go.Proofs.YtiokpmlhmlcojaaGreatDoor
