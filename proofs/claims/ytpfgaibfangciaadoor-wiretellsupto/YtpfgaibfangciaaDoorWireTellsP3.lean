/- Contracts and facts on the way to WireTells, joined into one text: RefDec, RefCutM, Quiet, MsgTwo, SmMsg, AsErr, AsErr2, SameNo, WireTells, WireTellsRow. -/
import Derived.Test.YtpfgaibfangciaaDoorWireTellsP2
namespace Go.Proofs.YtpfgaibfangciaaDoor
set_option linter.unusedSimpArgs false
set_option linter.unusedVariables false
set_option maxHeartbeats 16000000
set_option maxRecDepth 100000
open Go.Proofs.Tryd
open IntKind (i64)
section
open Go.RowKit
theorem rdec_any (b:ByteArray)(w:World):
 Calls prog 9 #[.string b] w fun e w'=>e=.returned (.tuple #[mgV (dcV b),.bool (dcB b)])∧Below w.heap.size w w':=by
 have HBAD:Hid (∀W,dcB b=false→Below w.heap.size w W→Ending.returned (.tuple #[.agg #[.int i64 0,.int i64 0,.int i64 0,.int i64 0,.int i64 0,.bool false,.int i64 0,.int i64 0,.int i64 0,.int i64 0,.int i64 0,.int i64 0],.bool false])=.returned (.tuple #[mgV (dcV b),.bool (dcB b)])∧Below w.heap.size w W):=fun W h hb=>by
  rw[(dc_no h).1,h];exact⟨rfl,hb⟩
 by_cases h0:b.size=0
 ·have HDC:Hid (dcB b=false):=dc_0 h0;have e:b=⟨#[]⟩:=by
   apply ByteArray.ext
   exact Array.eq_empty_of_size_eq_zero h0
  subst e;clear h0;go_enter func9,ntmps9;go_wp2;refine bodyPost_ret (v:=.tuple #[.agg #[.int i64 0,.int i64 0,.int i64 0,.int i64 0,.int i64 0,.bool false,.int i64 0,.int i64 0,.int i64 0,.int i64 0,.int i64 0,.int i64 0],.bool false]) (by simp[results,results9,go_sem, *]) rfl ?_;exact HBAD.out _ HDC.out ((bRQ _ _).alloc (nLQ _) _)
 have he:=emp_no h0;have l0:0<b.size:=by omega
 have i0:(0:Int)<(b.size:Int):=by omega
 obtain⟨N,hN⟩:∃N,N=lnM (byN b 0):=⟨_,rfl⟩;have HN:Hid (lnM b[0].toNat=N):=by show _=_;rw[hN,byN_at b 0 l0]
 by_cases h1:b.size=N
 ·have hn1:((b.size:Int) != (N:Int))=false:=by simp[h1]
  have hn2:((b.size:Int)==(N:Int))=true:=by simp[h1]
  have HALL:Hid (mgN (wrM b)=0→mgT (wrM b)=b→dcB b=true):=fun h2 h3=>dc_all h0 (by rw[h1,hN]) h2 h3
  rcases wr_sizes h0 (by rw[h1,hN]) with ⟨hk,hs⟩ | ⟨hk,hs⟩
  ·have l1:1<b.size:=by omega
   have l2:2<b.size:=by omega
   have l3:3<b.size:=by omega
   have l4:4<b.size:=by omega
   have l5:5<b.size:=by omega
   have l6:6<b.size:=by omega
   have l7:7<b.size:=by omega
   have l8:8<b.size:=by omega
   have l9:9<b.size:=by omega
   have l10:10<b.size:=by omega
   have i1:(1:Int)<(b.size:Int):=by omega
   have i2:(2:Int)<(b.size:Int):=by omega
   have i3:(3:Int)<(b.size:Int):=by omega
   have i4:(4:Int)<(b.size:Int):=by omega
   have i5:(5:Int)<(b.size:Int):=by omega
   have i6:(6:Int)<(b.size:Int):=by omega
   have i7:(7:Int)<(b.size:Int):=by omega
   have i8:(8:Int)<(b.size:Int):=by omega
   have i9:(9:Int)<(b.size:Int):=by omega
   have i10:(10:Int)<(b.size:Int):=by omega
   obtain⟨y1,hy1⟩:∃y:Int,(b[1].toNat:Int)=y:=⟨_,rfl⟩;have z1:wrap64 ((b[1].toNat:Nat):Int)=y1:=(wr_u8 b[1]).trans hy1;obtain⟨y2,hy2⟩:∃y:Int,(b[2].toNat:Int)=y:=⟨_,rfl⟩;have z2:wrap64 ((b[2].toNat:Nat):Int)=y2:=(wr_u8 b[2]).trans hy2;obtain⟨y3,hy3⟩:∃y:Int,(b[3].toNat:Int)=y:=⟨_,rfl⟩;have z3:wrap64 ((b[3].toNat:Nat):Int)=y3:=(wr_u8 b[3]).trans hy3;obtain⟨y5,hy5⟩:∃y:Int,(b[5].toNat:Int)=y:=⟨_,rfl⟩;have z5:wrap64 ((b[5].toNat:Nat):Int)=y5:=(wr_u8 b[5]).trans hy5;obtain⟨y6,hy6⟩:∃y:Int,(b[6].toNat:Int)=y:=⟨_,rfl⟩;have z6:wrap64 ((b[6].toNat:Nat):Int)=y6:=(wr_u8 b[6]).trans hy6;obtain⟨y7,hy7⟩:∃y:Int,(b[7].toNat:Int)=y:=⟨_,rfl⟩;have z7:wrap64 ((b[7].toNat:Nat):Int)=y7:=(wr_u8 b[7]).trans hy7;obtain⟨y8,hy8⟩:∃y:Int,(b[8].toNat:Int)=y:=⟨_,rfl⟩;have z8:wrap64 ((b[8].toNat:Nat):Int)=y8:=(wr_u8 b[8]).trans hy8;obtain⟨y9,hy9⟩:∃y:Int,(b[9].toNat:Int)=y:=⟨_,rfl⟩;have z9:wrap64 ((b[9].toNat:Nat):Int)=y9:=(wr_u8 b[9]).trans hy9;obtain⟨y10,hy10⟩:∃y:Int,(b[10].toNat:Int)=y:=⟨_,rfl⟩;have z10:wrap64 ((b[10].toNat:Nat):Int)=y10:=(wr_u8 b[10]).trans hy10;obtain⟨c4,hc4⟩:∃c:Bool,((b[4].toNat:Int)==1)=c:=⟨_,rfl⟩;have k0:(b[0].toNat:Int)=1:=by rw[byN_at b 0 l0] at hk;omega
   have HN1:Hid (lnM 1=N):=by have h:=HN.out;rw[show b[0].toNat=1 by omega] at h;exact h
   have HM:Hid (wrM b=⟨1,y1,y2,y3,⟨y1,c4,⟨y5,y6,y7,y8,y9,y10⟩⟩⟩):=by
    show _=_;simp only[wrM,if_pos hk,rrM];have:(b[4].toNat==1)=((b[4].toNat:Int)==1):=by
     by_cases h:b[4].toNat=1
     ·rw[h];rfl
     rw[beq_eq_false_iff_ne.2 h,beq_eq_false_iff_ne.2 (by omega)]
    rw[hk,byN_at b 1 l1,byN_at b 2 l2,byN_at b 3 l3,byN_at b 4 l4,byN_at b 5 l5,byN_at b 6 l6,byN_at b 7 l7,byN_at b 8 l8,byN_at b 9 l9,byN_at b 10 l10,hy1,hy2,hy3,hy5,hy6,hy7,hy8,hy9,hy10,this,hc4];rfl
   clear hk hs hy1 hy2 hy3 hy5 hy6 hy7 hy8 hy9 hy10;obtain⟨Z,hZ⟩:∃Z,Z=mgN ⟨1,y1,y2,y3,⟨y1,c4,⟨y5,y6,y7,y8,y9,y10⟩⟩⟩:=⟨_,rfl⟩;obtain⟨E,hE⟩:∃E,E=mgT ⟨1,y1,y2,y3,⟨y1,c4,⟨y5,y6,y7,y8,y9,y10⟩⟩⟩:=⟨_,rfl⟩;have HZ:Hid (mgN ⟨1,y1,y2,y3,⟨y1,c4,⟨y5,y6,y7,y8,y9,y10⟩⟩⟩=Z∧mgT ⟨1,y1,y2,y3,⟨y1,c4,⟨y5,y6,y7,y8,y9,y10⟩⟩⟩=E):=⟨hZ.symm,hE.symm⟩;obtain⟨w3,hw3⟩:∃V,V=((w.alloc (.cells #[.int i64 0,.int i64 0,.int i64 0,.int i64 0,.int i64 0,.bool false,.int i64 0,.int i64 0,.int i64 0,.int i64 0,.int i64 0,.int i64 0] 29)).alloc (.cells #[.int i64 1,.int i64 y1,.int i64 y2,.int i64 y3,.int i64 y1,.bool c4,.int i64 y5,.int i64 y6,.int i64 y7,.int i64 y8,.int i64 y9,.int i64 y10] 29)).drew:=⟨_,rfl⟩;have HB3:Hid (Below w.heap.size w w3):=by rw[hw3];exact (((bRQ _ _).alloc (nLQ _) _).alloc (by simp) _).drew
   have hm3:MgC w3 (w.heap.size+1) 1 y1 y2 y3 y1 c4 y5 y6 y7 y8 y9 y10:=by
    rw[hw3];refine⟨?_,?_,?_,?_,?_,?_,?_,?_,?_,?_,?_,?_⟩ <;> simp
   have hr3:MgC w3 w.heap.size 0 0 0 0 0 false 0 0 0 0 0 0:=by
    rw[hw3];refine⟨?_,?_,?_,?_,?_,?_,?_,?_,?_,?_,?_,?_⟩ <;> simp
   have hf3:∀i,w3.frozen? ⟨w.heap.size,i,none⟩=false:=by
    intro i;rw[hw3];simp
   have HR3:Hid (∀W,Below w3.heap.size w3 W→MgC W w.heap.size 0 0 0 0 0 false 0 0 0 0 0 0∧(∀i,W.frozen? ⟨w.heap.size,i,none⟩=false)):=fun W h =>
    ⟨hr3.later h,fun i=>by rw[h.frozen (p:=⟨w.heap.size,i,none⟩) hr3.lt];exact hf3 i⟩
   have HM3:Hid (∀W,Below w3.heap.size w3 W→MgC W (w.heap.size+1) 1 y1 y2 y3 y1 c4 y5 y6 y7 y8 y9 y10):=fun W h=>hm3.later h
   have HW3:Hid (((w.alloc (.cells #[.int i64 0,.int i64 0,.int i64 0,.int i64 0,.int i64 0,.bool false,.int i64 0,.int i64 0,.int i64 0,.int i64 0,.int i64 0,.int i64 0] 29)).alloc (.cells #[.int i64 1,.int i64 y1,.int i64 y2,.int i64 y3,.int i64 y1,.bool c4,.int i64 y5,.int i64 y6,.int i64 y7,.int i64 y8,.int i64 y9,.int i64 y10] 29)).drew=w3):=hw3.symm;clear hZ hE hw3 hf3 hr3 hN h0 h1;go_enter func9,ntmps9
   go_wp2_with fail
   refine (rlong_any _ _).mono ?_;rintro e w' ⟨rfl,hw'⟩;have hw'':=hw'.symm;subst hw'';clear hw';rw[HN1.out];go_upto_region 3 with fail
   go_region
   go_upto_region 13 with fail;rw[HW3.out];obtain⟨m0,m1,m2,m3,m4,m5,m6,m7,m8,m9,m10,m11⟩:=hm3
   go_wp2_with fail
   refine (rmsg_any 1 y1 y2 y3 y1 c4 y5 y6 y7 y8 y9 y10 w3).mono ?_;rintro e w4 ⟨rfl,hb4⟩;have HB4:Hid (Below w3.heap.size w3 w4):=hb4;rw[HZ.out.1];clear hb4 m0 m1 m2 m3 m4 m5 m6 m7 m8 m9 m10 m11;by_cases hz:Z=0
   ·have HZ0:Hid (mgN ⟨1,y1,y2,y3,⟨y1,c4,⟨y5,y6,y7,y8,y9,y10⟩⟩⟩=0):=by rw[hz] at HZ;exact HZ.out.1
    subst hz;obtain⟨m0,m1,m2,m3,m4,m5,m6,m7,m8,m9,m10,m11⟩:=HM3.out w4 HB4.out
    go_wp2_with fail
    refine (rbytes_any 1 y1 y2 y3 y1 c4 y5 y6 y7 y8 y9 y10 w4 HZ0.out).mono ?_;rintro e w5 ⟨rfl,hb5⟩;have HB5:Hid (Below w3.heap.size w3 w5):=HB4.out.trans (hb5.mono HB4.out.size);rw[HZ.out.2];clear hb5 m0 m1 m2 m3 m4 m5 m6 m7 m8 m9 m10 m11;by_cases hEb:E=b
    ·have HDC:Hid (dcB b=true):=HALL.out (by rw[HM.out];exact HZ0.out) (by rw[HM.out,HZ.out.2,hEb]);have t1:(E.toList==b.toList)=true:=by rw[txt_eq,decide_eq_true hEb]
     obtain⟨⟨r0,r1,r2,r3,r4,r5,r6,r7,r8,r9,r10,r11⟩,hf⟩:=HR3.out _ HB5.out;obtain⟨m0,m1,m2,m3,m4,m5,m6,m7,m8,m9,m10,m11⟩:=HM3.out _ HB5.out;have f0:=hf 0;have f1:=hf 1;have f2:=hf 2;have f3:=hf 3;have f4:=hf 4;have f5:=hf 5;have f6:=hf 6;have f7:=hf 7;have f8:=hf 8;have f9:=hf 9;have f10:=hf 10;have f11:=hf 11;have HFIN:Hid (.tuple #[.agg #[.int i64 1,.int i64 y1,.int i64 y2,.int i64 y3,.int i64 y1,.bool c4,.int i64 y5,.int i64 y6,.int i64 y7,.int i64 y8,.int i64 y9,.int i64 y10],.bool true]=Value.tuple #[mgV (dcV b),.bool (dcB b)]):=by
      show _=_;rw[(dc_yes HDC.out).1,HDC.out,HM.out];rfl
     clear hf hEb;go_wp2;refine bodyPost_ret (v:=.tuple #[.agg #[.int i64 1,.int i64 y1,.int i64 y2,.int i64 y3,.int i64 y1,.bool c4,.int i64 y5,.int i64 y6,.int i64 y7,.int i64 y8,.int i64 y9,.int i64 y10],.bool true]) (by simp[results,results9,go_sem, *]) rfl ?_;exact⟨by rw[HFIN.out],below_set12 (HB3.out.trans (HB5.out.mono HB3.out.size)) _ (nLQ _) _ _ _ _ _ _ _ _ _ _ _ _⟩
    have HDC:Hid (dcB b=false):=dc_tx (by rw[HM.out,HZ.out.2];exact hEb);have t1:(E.toList==b.toList)=false:=by rw[txt_eq,decide_eq_false hEb]
    obtain⟨⟨r0,r1,r2,r3,r4,r5,r6,r7,r8,r9,r10,r11⟩,hf⟩:=HR3.out _ HB5.out;have f0:=hf 0;have f1:=hf 1;have f2:=hf 2;have f3:=hf 3;have f4:=hf 4;have f5:=hf 5;have f6:=hf 6;have f7:=hf 7;have f8:=hf 8;have f9:=hf 9;have f10:=hf 10;have f11:=hf 11;clear hf;go_wp2;refine bodyPost_ret (v:=.tuple #[.agg #[.int i64 0,.int i64 0,.int i64 0,.int i64 0,.int i64 0,.bool false,.int i64 0,.int i64 0,.int i64 0,.int i64 0,.int i64 0,.int i64 0],.bool false]) (by simp[results,results9,go_sem, *]) rfl ?_;exact HBAD.out _ HDC.out (below_set12 (HB3.out.trans (HB5.out.mono HB3.out.size)) _ (nLQ _) _ _ _ _ _ _ _ _ _ _ _ _)
   have HDC:Hid (dcB b=false):=dc_mg (by rw[HM.out,HZ.out.1];exact hz);have hz2:(Z==0)=false:=by simpa using hz
   obtain⟨⟨r0,r1,r2,r3,r4,r5,r6,r7,r8,r9,r10,r11⟩,hf⟩:=HR3.out _ HB4.out;have f0:=hf 0;have f1:=hf 1;have f2:=hf 2;have f3:=hf 3;have f4:=hf 4;have f5:=hf 5;have f6:=hf 6;have f7:=hf 7;have f8:=hf 8;have f9:=hf 9;have f10:=hf 10;have f11:=hf 11;clear hf;go_wp2;refine bodyPost_ret (v:=.tuple #[.agg #[.int i64 0,.int i64 0,.int i64 0,.int i64 0,.int i64 0,.bool false,.int i64 0,.int i64 0,.int i64 0,.int i64 0,.int i64 0,.int i64 0],.bool false]) (by simp[results,results9,go_sem, *]) rfl ?_;exact HBAD.out _ HDC.out (below_set12 (HB3.out.trans (HB4.out.mono HB3.out.size)) _ (nLQ _) _ _ _ _ _ _ _ _ _ _ _ _)
  have l1:1<b.size:=by omega
  have l2:2<b.size:=by omega
  have l3:3<b.size:=by omega
  have i1:(1:Int)<(b.size:Int):=by omega
  have i2:(2:Int)<(b.size:Int):=by omega
  have i3:(3:Int)<(b.size:Int):=by omega
  obtain⟨y0,hy0⟩:∃y:Int,(b[0].toNat:Int)=y:=⟨_,rfl⟩;have z0:wrap64 ((b[0].toNat:Nat):Int)=y0:=(wr_u8 b[0]).trans hy0;obtain⟨y1,hy1⟩:∃y:Int,(b[1].toNat:Int)=y:=⟨_,rfl⟩;have z1:wrap64 ((b[1].toNat:Nat):Int)=y1:=(wr_u8 b[1]).trans hy1;obtain⟨y2,hy2⟩:∃y:Int,(b[2].toNat:Int)=y:=⟨_,rfl⟩;have z2:wrap64 ((b[2].toNat:Nat):Int)=y2:=(wr_u8 b[2]).trans hy2;obtain⟨y3,hy3⟩:∃y:Int,(b[3].toNat:Int)=y:=⟨_,rfl⟩;have z3:wrap64 ((b[3].toNat:Nat):Int)=y3:=(wr_u8 b[3]).trans hy3;have k0:(y0==1)=false:=by rw[byN_at b 0 l0] at hk;simp;omega
  have k1:¬y0=1:=by rw[byN_at b 0 l0] at hk;omega
  have HM:Hid (wrM b=⟨y0,y1,y2,y3,⟨0,false,⟨0,0,0,0,0,0⟩⟩⟩):=by
   show _=_;simp only[wrM,if_neg hk,zeP];rw[byN_at b 0 l0,byN_at b 1 l1,byN_at b 2 l2,byN_at b 3 l3,hy0,hy1,hy2,hy3]
  clear hk hs hy0 hy1 hy2 hy3;obtain⟨Z,hZ⟩:∃Z,Z=mgN ⟨y0,y1,y2,y3,⟨0,false,⟨0,0,0,0,0,0⟩⟩⟩:=⟨_,rfl⟩;obtain⟨E,hE⟩:∃E,E=mgT ⟨y0,y1,y2,y3,⟨0,false,⟨0,0,0,0,0,0⟩⟩⟩:=⟨_,rfl⟩;have HZ:Hid (mgN ⟨y0,y1,y2,y3,⟨0,false,⟨0,0,0,0,0,0⟩⟩⟩=Z∧mgT ⟨y0,y1,y2,y3,⟨0,false,⟨0,0,0,0,0,0⟩⟩⟩=E):=⟨hZ.symm,hE.symm⟩;obtain⟨w3,hw3⟩:∃V,V=((w.alloc (.cells #[.int i64 0,.int i64 0,.int i64 0,.int i64 0,.int i64 0,.bool false,.int i64 0,.int i64 0,.int i64 0,.int i64 0,.int i64 0,.int i64 0] 29)).alloc (.cells #[.int i64 y0,.int i64 y1,.int i64 y2,.int i64 y3,.int i64 0,.bool false,.int i64 0,.int i64 0,.int i64 0,.int i64 0,.int i64 0,.int i64 0] 29)).drew:=⟨_,rfl⟩;have HB3:Hid (Below w.heap.size w w3):=by rw[hw3];exact (((bRQ _ _).alloc (nLQ _) _).alloc (by simp) _).drew
  have hm3:MgC w3 (w.heap.size+1) y0 y1 y2 y3 0 false 0 0 0 0 0 0:=by
   rw[hw3];refine⟨?_,?_,?_,?_,?_,?_,?_,?_,?_,?_,?_,?_⟩ <;> simp
  have hr3:MgC w3 w.heap.size 0 0 0 0 0 false 0 0 0 0 0 0:=by
   rw[hw3];refine⟨?_,?_,?_,?_,?_,?_,?_,?_,?_,?_,?_,?_⟩ <;> simp
  have hf3:∀i,w3.frozen? ⟨w.heap.size,i,none⟩=false:=by
   intro i;rw[hw3];simp
  have HR3:Hid (∀W,Below w3.heap.size w3 W→MgC W w.heap.size 0 0 0 0 0 false 0 0 0 0 0 0∧(∀i,W.frozen? ⟨w.heap.size,i,none⟩=false)):=fun W h =>
   ⟨hr3.later h,fun i=>by rw[h.frozen (p:=⟨w.heap.size,i,none⟩) hr3.lt];exact hf3 i⟩
  have HM3:Hid (∀W,Below w3.heap.size w3 W→MgC W (w.heap.size+1) y0 y1 y2 y3 0 false 0 0 0 0 0 0):=fun W h=>hm3.later h
  have HW3:Hid (((w.alloc (.cells #[.int i64 0,.int i64 0,.int i64 0,.int i64 0,.int i64 0,.bool false,.int i64 0,.int i64 0,.int i64 0,.int i64 0,.int i64 0,.int i64 0] 29)).alloc (.cells #[.int i64 y0,.int i64 y1,.int i64 y2,.int i64 y3,.int i64 0,.bool false,.int i64 0,.int i64 0,.int i64 0,.int i64 0,.int i64 0,.int i64 0] 29)).drew=w3):=hw3.symm;clear hZ hE hw3 hf3 hr3 hN h0 h1;go_enter func9,ntmps9
  go_wp2_with fail
  refine (rlong_any _ _).mono ?_;rintro e w' ⟨rfl,hw'⟩;have hw'':=hw'.symm;subst hw'';clear hw';rw[HN.out];go_upto_region 3 with fail
  go_region
  go_upto_region 13 with fail;rw[HW3.out];obtain⟨m0,m1,m2,m3,m4,m5,m6,m7,m8,m9,m10,m11⟩:=hm3
  go_wp2_with fail
  refine (rmsg_any y0 y1 y2 y3 0 false 0 0 0 0 0 0 w3).mono ?_;rintro e w4 ⟨rfl,hb4⟩;have HB4:Hid (Below w3.heap.size w3 w4):=hb4;rw[HZ.out.1];clear hb4 m0 m1 m2 m3 m4 m5 m6 m7 m8 m9 m10 m11;by_cases hz:Z=0
  ·have HZ0:Hid (mgN ⟨y0,y1,y2,y3,⟨0,false,⟨0,0,0,0,0,0⟩⟩⟩=0):=by rw[hz] at HZ;exact HZ.out.1
   subst hz;obtain⟨m0,m1,m2,m3,m4,m5,m6,m7,m8,m9,m10,m11⟩:=HM3.out w4 HB4.out
   go_wp2_with fail
   refine (rbytes_any y0 y1 y2 y3 0 false 0 0 0 0 0 0 w4 HZ0.out).mono ?_;rintro e w5 ⟨rfl,hb5⟩;have HB5:Hid (Below w3.heap.size w3 w5):=HB4.out.trans (hb5.mono HB4.out.size);rw[HZ.out.2];clear hb5 m0 m1 m2 m3 m4 m5 m6 m7 m8 m9 m10 m11;by_cases hEb:E=b
   ·have HDC:Hid (dcB b=true):=HALL.out (by rw[HM.out];exact HZ0.out) (by rw[HM.out,HZ.out.2,hEb]);have t1:(E.toList==b.toList)=true:=by rw[txt_eq,decide_eq_true hEb]
    obtain⟨⟨r0,r1,r2,r3,r4,r5,r6,r7,r8,r9,r10,r11⟩,hf⟩:=HR3.out _ HB5.out;obtain⟨m0,m1,m2,m3,m4,m5,m6,m7,m8,m9,m10,m11⟩:=HM3.out _ HB5.out;have f0:=hf 0;have f1:=hf 1;have f2:=hf 2;have f3:=hf 3;have f4:=hf 4;have f5:=hf 5;have f6:=hf 6;have f7:=hf 7;have f8:=hf 8;have f9:=hf 9;have f10:=hf 10;have f11:=hf 11;have HFIN:Hid (.tuple #[.agg #[.int i64 y0,.int i64 y1,.int i64 y2,.int i64 y3,.int i64 0,.bool false,.int i64 0,.int i64 0,.int i64 0,.int i64 0,.int i64 0,.int i64 0],.bool true]=Value.tuple #[mgV (dcV b),.bool (dcB b)]):=by
     show _=_;rw[(dc_yes HDC.out).1,HDC.out,HM.out];rfl
    clear hf hEb;go_wp2;refine bodyPost_ret (v:=.tuple #[.agg #[.int i64 y0,.int i64 y1,.int i64 y2,.int i64 y3,.int i64 0,.bool false,.int i64 0,.int i64 0,.int i64 0,.int i64 0,.int i64 0,.int i64 0],.bool true]) (by simp[results,results9,go_sem, *]) rfl ?_;exact⟨by rw[HFIN.out],below_set12 (HB3.out.trans (HB5.out.mono HB3.out.size)) _ (nLQ _) _ _ _ _ _ _ _ _ _ _ _ _⟩
   have HDC:Hid (dcB b=false):=dc_tx (by rw[HM.out,HZ.out.2];exact hEb);have t1:(E.toList==b.toList)=false:=by rw[txt_eq,decide_eq_false hEb]
   obtain⟨⟨r0,r1,r2,r3,r4,r5,r6,r7,r8,r9,r10,r11⟩,hf⟩:=HR3.out _ HB5.out;have f0:=hf 0;have f1:=hf 1;have f2:=hf 2;have f3:=hf 3;have f4:=hf 4;have f5:=hf 5;have f6:=hf 6;have f7:=hf 7;have f8:=hf 8;have f9:=hf 9;have f10:=hf 10;have f11:=hf 11;clear hf;go_wp2;refine bodyPost_ret (v:=.tuple #[.agg #[.int i64 0,.int i64 0,.int i64 0,.int i64 0,.int i64 0,.bool false,.int i64 0,.int i64 0,.int i64 0,.int i64 0,.int i64 0,.int i64 0],.bool false]) (by simp[results,results9,go_sem, *]) rfl ?_;exact HBAD.out _ HDC.out (below_set12 (HB3.out.trans (HB5.out.mono HB3.out.size)) _ (nLQ _) _ _ _ _ _ _ _ _ _ _ _ _)
  have HDC:Hid (dcB b=false):=dc_mg (by rw[HM.out,HZ.out.1];exact hz);have hz2:(Z==0)=false:=by simpa using hz
  obtain⟨⟨r0,r1,r2,r3,r4,r5,r6,r7,r8,r9,r10,r11⟩,hf⟩:=HR3.out _ HB4.out;have f0:=hf 0;have f1:=hf 1;have f2:=hf 2;have f3:=hf 3;have f4:=hf 4;have f5:=hf 5;have f6:=hf 6;have f7:=hf 7;have f8:=hf 8;have f9:=hf 9;have f10:=hf 10;have f11:=hf 11;clear hf;go_wp2;refine bodyPost_ret (v:=.tuple #[.agg #[.int i64 0,.int i64 0,.int i64 0,.int i64 0,.int i64 0,.bool false,.int i64 0,.int i64 0,.int i64 0,.int i64 0,.int i64 0,.int i64 0],.bool false]) (by simp[results,results9,go_sem, *]) rfl ?_;exact HBAD.out _ HDC.out (below_set12 (HB3.out.trans (HB4.out.mono HB3.out.size)) _ (nLQ _) _ _ _ _ _ _ _ _ _ _ _ _)
 have HDC:Hid (dcB b=false):=dc_ln (by rw[←hN];exact h1);have hn1:((b.size:Int) != (N:Int))=true:=by simp;omega
 have hn2:((b.size:Int)==(N:Int))=false:=by simp;omega
 clear hN h0;go_enter func9,ntmps9
 go_wp2_with fail
 refine (rlong_any _ _).mono ?_;rintro e w' ⟨rfl,hw'⟩;have hw'':=hw'.symm;subst hw'';clear hw';rw[HN.out];go_wp2;refine bodyPost_ret (v:=.tuple #[.agg #[.int i64 0,.int i64 0,.int i64 0,.int i64 0,.int i64 0,.bool false,.int i64 0,.int i64 0,.int i64 0,.int i64 0,.int i64 0,.int i64 0],.bool false]) (by simp[results,results9,go_sem, *]) rfl ?_;exact HBAD.out _ HDC.out ((bRQ _ _).alloc (nLQ _) _)
theorem rcutm_any (b:ByteArray)(hsz:b.size≤1048576)(w:World):
 Calls prog 11 #[.string b] w fun e w'=>∃v,e=.returned (.tuple #[v,.string (wtR b),.bool (decide (wtN b=0))])∧GS msgE w' v (wtL b)∧Below w.heap.size w w':=by
 obtain⟨j0,hj,hy0,hy1,hy2⟩:=info_parts msg_info;have HI1:Hid (Tryd.prog.info? 29=some j0):=hj;have HI2:Hid (j0.zero=some (.agg #[.int i64 0,.int i64 0,.int i64 0,.int i64 0,.int i64 0,.bool false,.int i64 0,.int i64 0,.int i64 0,.int i64 0,.int i64 0,.int i64 0])):=hy0;have HI3:Hid (j0.size=12):=hy1;have HI4:Hid (j0.bytes=96):=hy2;have HSZ:Hid (b.size≤1048576):=hsz;have HEND:Hid (∀(W:World) (v:Value) (L:List Mg) (r:ByteArray),wtG [] b=some (L,r)→GS msgE W v L→Below w.heap.size w W→∃v',Ending.returned (.tuple #[v,.string r,.bool true])=.returned (.tuple #[v',.string (wtR b),.bool (decide (wtN b=0))])∧GS msgE W v' (wtL b)∧Below w.heap.size w W):=fun W v L r h h1 h2=>by
  rw[wg_nil] at h;obtain⟨e1,e2,e3⟩:=wt_some h;rw[e1,e2,e3];exact⟨v,rfl,h1,h2⟩
 have HBAD:Hid (∀(W:World),wtG [] b=none→Below w.heap.size w W→∃v',Ending.returned (.tuple #[.slice none 0 0,.string ⟨#[]⟩,.bool false])=.returned (.tuple #[v',.string (wtR b),.bool (decide (wtN b=0))])∧GS msgE W v' (wtL b)∧Below w.heap.size w W):=fun W h h2=>by
  rw[wg_nil] at h;obtain⟨e1,e2,e3⟩:=wt_none h;rw[e1,e2,e3];exact⟨_,rfl,GS.nil _,h2⟩
 clear hj hy0 hy1 hy2 hsz;obtain⟨w0,hw0⟩:∃V,V=w:=⟨_,rfl⟩;go_enter func11,ntmps11;go_wp2
 go_loopw [0,5] (fun rest out wr=>∃(L:List Mg) (r:ByteArray),rest=.string r∧wtG L r=wtG [] b∧wr.ownsRow w.heap.size 29 msgE.n out L.length (cellsG msgE L)∧L.length*5+r.size≤b.size∧Below w.heap.size w wr) (fun rest _ _=>stZ rest)
 case atStart=>exact⟨[],b,rfl,rfl,World.ownsRow_nil _ _ _ _,by simp,bRQ _ _⟩
 case round =>
  obtain⟨L,r,rfl,hG,hown,hlen,hB⟩:=hrel;have HG:Hid (wtG L r=wtG [] b):=hG;have HOW:Hid (wr.ownsRow w.heap.size 29 msgE.n u5 L.length (cellsG msgE L)):=hown;have HB:Hid (Below w.heap.size w wr):=hB;have HLEN:Hid (L.length*5+r.size≤b.size):=hlen;clear hG hown hB hlen hw0;by_cases h0:r.size=0
  ·have HE:Hid (wtG [] b=some (L,r)):=by show _=_;rw[←HG.out];exact wg_0 h0
   have e:r=⟨#[]⟩:=by
    apply ByteArray.ext
    exact Array.eq_empty_of_size_eq_zero h0
   have HLS:Hid (r.size≤1000000):=by show _≤_;omega
   have HRE:Hid (r=⟨#[]⟩):=e;have hem:r.toList.isEmpty=true:=by rw[e,Lib.toList_data];rfl
   have hem2:(r.toList==[])=true:=by rw[e,Lib.toList_data];rfl
   clear e h0;have HF:Hid (GS msgE wr u5 L):=own_GS HOW.out;have HBF:Hid (Below w.heap.size w wr):=HB.out;go_wp2;refine bodyPost_ret (v:=.tuple #[u5,.string r,.bool true]) (by simp[results,results11,go_sem, *]) rfl ?_;exact HEND.out _ _ _ _ HE.out HF.out HBF.out
  have hem:=emp_no h0;have hem2:=ne_emp h0;have l0:0<r.size:=by omega
  have i0:(0:Int)<(r.size:Int):=by omega
  obtain⟨N,hN⟩:∃N,N=lnM (byN r 0):=⟨_,rfl⟩;have HN:Hid (lnM r[0].toNat=N):=by show _=_;rw[hN,byN_at r 0 l0]
  have hN12:N≤12:=by rw[hN];exact ln_le _
  by_cases hz:N=0
  ·have HE:Hid (wtG [] b=none):=by show _=_;rw[←HG.out];exact wg_no h0 (by rw[←hN];exact hz)
   subst hz;clear hN h0
   go_wp2_with fail
   refine (rlong_any _ _).mono ?_;rintro e w' ⟨rfl,hw'⟩;have hw'':=hw'.symm;subst hw'';clear hw';rw[HN.out];go_wp2;refine bodyPost_ret (v:=.tuple #[.slice none 0 0,.string ⟨#[]⟩,.bool false]) (by simp[results,results11,go_sem, *]) rfl ?_;exact HBAD.out _ HE.out HB.out
  have hz2:((N:Int)==0)=false:=by simp;omega
  have hz3:¬(N:Int)=0:=by omega
  by_cases hlt:r.size<N
  ·have HE:Hid (wtG [] b=some (L,r)):=by show _=_;rw[←HG.out];exact wg_end h0 (by rw[←hN];exact hz) (by rw[←hN];exact hlt)
   have hlt2:(r.size:Int)<(N:Int):=by omega
   have HLS:Hid (r.size≤1000000):=by show _≤_;omega
   clear hN h0
   go_wp2_with fail
   refine (rlong_any _ _).mono ?_;rintro e w' ⟨rfl,hw'⟩;have hw'':=hw'.symm;subst hw'';clear hw';rw[HN.out];have HF:Hid (GS msgE wr u5 L):=own_GS HOW.out;have HBF:Hid (Below w.heap.size w wr):=HB.out;go_wp2;refine bodyPost_ret (v:=.tuple #[u5,.string r,.bool true]) (by simp[results,results11,go_sem, *]) rfl ?_;exact HEND.out _ _ _ _ HE.out HF.out HBF.out
  have hge:¬(r.size:Int)<(N:Int):=by omega
  have hge2:(N:Int)≤(r.size:Int):=by omega
  have hge3:(0:Int)≤(N:Int):=by omega
  obtain⟨T,hT⟩:∃T,T=r.extract 0 N:=⟨_,rfl⟩;have HT:Hid (r.extract 0 N=T):=hT.symm;have HX:Hid (∀d,dcB T=d→(d=false→wtG [] b=none)∧(d=true→wtG (L++[dcV T]) (r.extract N r.size)=wtG [] b)):=fun d hd=>by
   rw[hT,hN] at hd;refine⟨fun h=>?_,fun h=>?_⟩
   ·rw[←HG.out];exact wg_bad h0 (by rw[←hN];exact hz) (by rw[←hN];exact hlt) (by rw[hd,h])
   rw[←HG.out,hT,hN];exact (wg_on h0 (by rw[←hN];exact hz) (by rw[←hN];exact hlt) (by rw[hd,h])).symm
  have HEX:Hid ((r.extract N r.size).size+N=r.size):=by show _=_;rw[ByteArray.size_extract];omega
  have HN5:Hid (5≤N):=by show _≤_;rw[hN];exact ln_5 (by rw[←hN];exact hz)
  clear hN h0 hT
  go_wp2_with fail
  refine (rlong_any _ _).mono ?_;rintro e w' ⟨rfl,hw'⟩;have hw'':=hw'.symm;subst hw'';clear hw';rw[HN.out]
  go_wp2_with fail
  rw[HT.out];refine (rdec_any T _).mono ?_;rintro e w1 ⟨rfl,hb1⟩;have HB1:Hid (Below wr.heap.size wr w1):=hb1;clear hb1;obtain⟨d,hd⟩:∃d,dcB T=d:=⟨_,rfl⟩;obtain⟨hx1,hx2⟩:=HX.out d hd;cases d with
  | false =>
    have HE:Hid (wtG [] b=none):=hx1 rfl;rw[(dc_no hd).1,hd];clear hx1 hx2 hd;have HBF:Hid (Below w.heap.size w (w1.alloc (.cells #[.int i64 0,.int i64 0,.int i64 0,.int i64 0,.int i64 0,.bool false,.int i64 0,.int i64 0,.int i64 0,.int i64 0,.int i64 0,.int i64 0] 29))):=(HB.out.trans (HB1.out.mono HB.out.size)).alloc (Nat.le_trans HB.out.size HB1.out.size) _;go_wp2;refine bodyPost_ret (v:=.tuple #[.slice none 0 0,.string ⟨#[]⟩,.bool false]) (by simp[results,results11,go_sem, *]) rfl ?_;exact HBAD.out _ HE.out HBF.out
  | true =>
    obtain⟨m,hm⟩:∃m,m=dcV T:=⟨_,rfl⟩;have HE:Hid (wtG (L++[m]) (r.extract N r.size)=wtG [] b):=by rw[hm];exact hx2 rfl
    rw[←hm,hd];clear hx1 hx2 hd hm;obtain⟨x0,x1,x2,x3,⟨x4,x5,⟨x6,x7,x8,x9,x10,x11⟩⟩⟩:=m
    dsimp only[mgV]
    obtain⟨w2,hw2⟩:∃V,V=w1.alloc (.cells #[.int i64 x0,.int i64 x1,.int i64 x2,.int i64 x3,.int i64 x4,.bool x5,.int i64 x6,.int i64 x7,.int i64 x8,.int i64 x9,.int i64 x10,.int i64 x11] 29):=⟨_,rfl⟩;have hb12:Below w1.heap.size w1 w2:=by rw[hw2];exact (bRQ _ _).alloc (nLQ _) _
    have HO2:Hid (w2.ownsRow w.heap.size 29 msgE.n u5 L.length (cellsG msgE L)):=own_below (own_below HOW.out HB1.out) hb12;have HB2:Hid (Below w.heap.size w w2):=HB.out.trans ((HB1.out.trans (hb12.mono HB1.out.size)).mono HB.out.size);have hm2:MgC w2 w1.heap.size x0 x1 x2 x3 x4 x5 x6 x7 x8 x9 x10 x11:=by rw[hw2];exact mgc_new w1 x0 x1 x2 x3 x4 x5 x6 x7 x8 x9 x10 x11 _
    have HW2:Hid (w1.alloc (.cells #[.int i64 x0,.int i64 x1,.int i64 x2,.int i64 x3,.int i64 x4,.bool x5,.int i64 x6,.int i64 x7,.int i64 x8,.int i64 x9,.int i64 x10,.int i64 x11] 29)=w2):=hw2.symm;have hsz2:w.heap.size≤w2.heap.size:=HB2.out.size;clear hw2 hb12;go_upto_region 11 with fail;rw[HW2.out];obtain⟨m0,m1,m2,m3,m4,m5,m6,m7,m8,m9,m10,m11⟩:=hm2
    go_wp2_with (at_builtin;refine wpList_append_blk (E:=msgE) _ rfl _ _ 41 29 rfl underlying41 j0 _ 96 HI1.out HI2.out HI3.out HI4.out msg_zero w.heap.size _ rfl L (HO2.out.alloc _) w2.heap.size 0 1 rfl ⟨x0,x1,x2,x3,⟨x4,x5,⟨x6,x7,x8,x9,x10,x11⟩⟩⟩ (msg_new w2 x0 x1 x2 x3 x4 x5 x6 x7 x8 x9 x10 x11 _) ?c1 ?c2 ?c3 ?_)
    case c1=>have:=HLEN.out;have:=HSZ.out;unfold maxLen;omega
    case c2=>have:=HLEN.out;have:=HSZ.out;omega
    case c3=>first | (simp;omega) | omega
    intro v' w3 hown3 hgrow _;have HB3:Hid (Below w.heap.size w w3):=(HB2.out.alloc hsz2 _).grown hgrow (by simp;omega) (fun g hg=>(HO2.out.lt g hg).1);have HO3:Hid (w3.ownsRow w.heap.size 29 msgE.n v' (L++[(⟨x0,x1,x2,x3,⟨x4,x5,⟨x6,x7,x8,x9,x10,x11⟩⟩⟩:Mg)]).length (cellsG msgE (L++[(⟨x0,x1,x2,x3,⟨x4,x5,⟨x6,x7,x8,x9,x10,x11⟩⟩⟩:Mg)]))):=by
     show w3.ownsRow _ _ _ _ _ _;rw[List.length_append];exact hown3
    clear hgrow hown3 m0 m1 m2 m3 m4 m5 m6 m7 m8 m9 m10 m11;go_wp2;go_roundw
    case rel=>exact⟨L++[(⟨x0,x1,x2,x3,⟨x4,x5,⟨x6,x7,x8,x9,x10,x11⟩⟩⟩:Mg)],r.extract N r.size,rfl,HE.out,HO3.out,by have:=HEX.out;have:=HLEN.out;have:=HN5.out;rw[List.length_append,List.length_singleton];omega,HB3.out⟩
    case measure=>have:=HEX.out;have:=HN5.out;simp only[stZ];omega
theorem quiet_val {P:Program}{o:Oper}{a:Act}{C:World→Prop}{K:Act→Prop}{v:Value}
 (hy:∀w,C w→(execOp a.eval o).run P w=.ok (.value v) w) (h:K (a.put o.dst v)):o.quiet P a C K:=
 ⟨v,fun w hC=>by unfold Oper.quietAt;rw[hy w hC];exact⟨rfl,rfl⟩,h⟩
theorem qv {P:Program}{o:Oper}{a:Act}{C:World→Prop}{K:Act→Prop}(v:Value)(hy:∀w,C w→(execOp a.eval o).run P w=.ok (.value v) w)(h:K (a.put o.dst v)):o.quiet P a C K:=quiet_val hy h
theorem quiet_call {P:Program}{o:Oper}{a:Act}{C:World→Prop}{K:Act→Prop}{v:Value}{f:FuncId}{args:Array Value}
 (he:∀w,(execOp a.eval o).run P w=.ok (.enter f args) w) (hc:∀w,C w→Calls P f args w fun e w''=>e=.returned v∧C w'') (h:K (a.put o.dst v)):o.quiet P a C K:=
 ⟨v,fun w hC=>by unfold Oper.quietAt;rw[he w];exact⟨rfl,hc w hC⟩,h⟩
theorem exec_bin {P:Program}{o:Oper}{a:Act}{w:World}{op:BinOp}{t t2:TypeId}{x y:Operand}{v:Value}(ho:o.op=.binOp op t x y t2)(hg:(eqGuard op t x y (a.eval x) (a.eval y)).run P w=.ok () w)
 (h:(binOp op t (a.eval x) (a.eval y)).run P w=.ok v w):(execOp a.eval o).run P w=.ok (.value v) w:=by
 simp[execOp,ho,hg,h,Result.andThen]
theorem run_neq_of {P:Program}{w:World}{t:TypeId}{x y:Array Value}{b:Bool}(h:(Op.equal t (.agg x) (.agg y)).run P w=.ok b w):(binOp .neq t (.agg x) (.agg y)).run P w=.ok (.bool (!b)) w:=by
 simp[binOp,h]
def msgCD (w:World)(g o:Nat)(x0 x1 x2 x3 x4:Int)(x5:Bool)(x6 x7 x8 x9 x10 x11:Int)(g' o':Nat)(y0 y1 y2 y3 y4:Int)(y5:Bool)(y6 y7 y8 y9 y10 y11:Int)(w':World):Prop:=
 Below w.heap.size w w'∧(w'.cell? ⟨g,o,none⟩=some (.int i64 x0)∧w'.cell? ⟨g,o+1,none⟩=some (.int i64 x1)∧w'.cell? ⟨g,o+2,none⟩=some (.int i64 x2)∧w'.cell? ⟨g,o+3,none⟩=some (.int i64 x3)∧w'.cell? ⟨g,o+4,none⟩=some (.int i64 x4)∧w'.cell? ⟨g,o+5,none⟩=some (.bool x5)∧w'.cell? ⟨g,o+6,none⟩=some (.int i64 x6)∧w'.cell? ⟨g,o+7,none⟩=some (.int i64 x7)∧w'.cell? ⟨g,o+8,none⟩=some (.int i64 x8)∧w'.cell? ⟨g,o+9,none⟩=some (.int i64 x9)∧w'.cell? ⟨g,o+10,none⟩=some (.int i64 x10)∧w'.cell? ⟨g,o+11,none⟩=some (.int i64 x11)) ∧
 w'.cell? ⟨g',o',none⟩=some (.int i64 y0)∧w'.cell? ⟨g',o'+1,none⟩=some (.int i64 y1)∧w'.cell? ⟨g',o'+2,none⟩=some (.int i64 y2)∧w'.cell? ⟨g',o'+3,none⟩=some (.int i64 y3)∧w'.cell? ⟨g',o'+4,none⟩=some (.int i64 y4)∧w'.cell? ⟨g',o'+5,none⟩=some (.bool y5)∧w'.cell? ⟨g',o'+6,none⟩=some (.int i64 y6)∧w'.cell? ⟨g',o'+7,none⟩=some (.int i64 y7)∧w'.cell? ⟨g',o'+8,none⟩=some (.int i64 y8)∧w'.cell? ⟨g',o'+9,none⟩=some (.int i64 y9)∧w'.cell? ⟨g',o'+10,none⟩=some (.int i64 y10)∧w'.cell? ⟨g',o'+11,none⟩=some (.int i64 y11)
theorem msgCD.later {w W W':World}{g o:Nat}{x0 x1 x2 x3 x4:Int}{x5:Bool}{x6 x7 x8 x9 x10 x11:Int}{g' o':Nat}{y0 y1 y2 y3 y4:Int}{y5:Bool}{y6 y7 y8 y9 y10 y11:Int}(hb:Below W.heap.size W W')(h:msgCD w g o x0 x1 x2 x3 x4 x5 x6 x7 x8 x9 x10 x11 g' o' y0 y1 y2 y3 y4 y5 y6 y7 y8 y9 y10 y11 W):msgCD w g o x0 x1 x2 x3 x4 x5 x6 x7 x8 x9 x10 x11 g' o' y0 y1 y2 y3 y4 y5 y6 y7 y8 y9 y10 y11 W':=by
 obtain⟨h0,⟨h1,h2,h3,h4,h5,h6,h7,h8,h9,h10,h11,h12⟩,k1,k2,k3,k4,k5,k6,k7,k8,k9,k10,k11,k12⟩:=h;exact⟨h0.trans (hb.mono h0.size),⟨cell_later hb h1,cell_later hb h2,cell_later hb h3,cell_later hb h4,cell_later hb h5,cell_later hb h6,cell_later hb h7,cell_later hb h8,cell_later hb h9,cell_later hb h10,cell_later hb h11,cell_later hb h12⟩,cell_later hb k1,cell_later hb k2,cell_later hb k3,cell_later hb k4,cell_later hb k5,cell_later hb k6,cell_later hb k7,cell_later hb k8,cell_later hb k9,cell_later hb k10,cell_later hb k11,cell_later hb k12⟩
theorem msg_same (ao:AdQ)(n cap:Nat)(ao2:AdQ)(n2 cap2:Nat)(L M:List (Mg))(w:World)(hs:GS msgE w (.slice ao n cap) L)(ht:GS msgE w (.slice ao2 n2 cap2) M):
 Calls prog 13 #[.slice ao n cap,.slice ao2 n2 cap2] w fun e w'=>e=.returned (.bool (smG msgB L M))∧Below w.heap.size w w':=by
 obtain⟨ao',n',cap',e,hn,hn2,hn3,ha⟩:=hs.form;cases e;obtain⟨ao',n',cap',e,hm,hm2,hm3,hb⟩:=ht.form;cases e;have HN:Hid (L.length=n):=hn;have HM:Hid (M.length=n2):=hm;have HA:Hid (0<n→∃g o,ao=some ⟨g,o,none⟩∧GAt msgE w g o L∧cap≤maxLen):=ha;have HA2:Hid (0<n2→∃g o,ao2=some ⟨g,o,none⟩∧GAt msgE w g o M∧cap2≤maxLen):=hb;have hn63:n≤9223372036854775807:=by unfold maxLen at hn2;omega
 clear hs ht hn ha hm hb hn2 hm2;obtain⟨R,hR⟩:∃R,R=smG msgB L M:=⟨_,rfl⟩;have HR:Hid (R=smG msgB L M):=hR;rw[←hR];clear hR;by_cases hl:n=n2
 ·subst hl;go_enter func13,ntmps13;go_wp2
  go_loopw [5] (fun i wr=>∃k:Nat,k≤n∧i=.int i64 k∧(∀j,j<k→∀(h1:j<L.length) (h2:j<M.length),msgB L[j] M[j]=true)∧Below w.heap.size w wr) (fun i _=>n-(intOf i).toNat)
  case atStart=>exact⟨0,by omega,rfl,fun j hj=>absurd hj (by omega),bRQ _ _⟩
  case round =>
   obtain⟨k,hk,rfl,hall,hB⟩:=hrel;have HB:Hid (Below w.heap.size w wr):=hB;have HALL:Hid (∀j,j<k→∀(h1:j<L.length) (h2:j<M.length),msgB L[j] M[j]=true):=hall;clear hall;by_cases hlt:k<n
   ·obtain⟨g,og,hao,hc,_⟩:=HA.out (by omega);obtain⟨g2,og2,hao2,hc2,_⟩:=HA2.out (by omega);subst hao hao2;obtain⟨x0,x1,x2,x3,x4,x5,x6,x7,x8,x9,x10,x11,hkl,hLk,q0,q1,q2,q3,q4,q5,q6,q7,q8,q9,q10,q11⟩:=msg_at (hc.later hB) HN.out hlt;obtain⟨y0,y1,y2,y3,y4,y5,y6,y7,y8,y9,y10,y11,hkm,hMk,r0,r1,r2,r3,r4,r5,r6,r7,r8,r9,r10,r11⟩:=msg_at (hc2.later hB) HM.out hlt;have HCE:Hid (msgCD w g (og+k*12) x0 x1 x2 x3 x4 x5 x6 x7 x8 x9 x10 x11 g2 (og2+k*12) y0 y1 y2 y3 y4 y5 y6 y7 y8 y9 y10 y11 wr):=⟨hB,⟨q0,q1,q2,q3,q4,q5,q6,q7,q8,q9,q10,q11⟩,r0,r1,r2,r3,r4,r5,r6,r7,r8,r9,r10,r11⟩;have HLK:Hid (L[k]=⟨x0,x1,x2,x3,⟨x4,x5,⟨x6,x7,x8,x9,x10,x11⟩⟩⟩∧M[k]=⟨y0,y1,y2,y3,⟨y4,y5,⟨y6,y7,y8,y9,y10,y11⟩⟩⟩):=⟨hLk,hMk⟩;clear q0 q1 q2 q3 q4 q5 q6 q7 q8 q9 q10 q11 r0 r1 r2 r3 r4 r5 r6 r7 r8 r9 r10 r11 hB hc hc2 hLk hMk HA HA2;go_upto_region 6 with fail;have kb0:(0:Int)≤(k:Int):=by omega
    have kb1:(k:Int)<(n:Int):=by omega
    go_cut [25] from 11 to 25 (fun c w'=>c=.bool (!msgB ⟨x0,x1,x2,x3,⟨x4,x5,⟨x6,x7,x8,x9,x10,x11⟩⟩⟩ ⟨y0,y1,y2,y3,⟨y4,y5,⟨y6,y7,y8,y9,y10,y11⟩⟩⟩)∧Below w.heap.size w w')
    case first =>
     as_aux_lemma =>
      refine wp_region_quiet (C:=msgCD w g (og+k*12) x0 x1 x2 x3 x4 x5 x6 x7 x8 x9 x10 x11 g2 (og2+k*12) y0 y1 y2 y3 y4 y5 y6 y7 y8 y9 y10 y11) (by kernel_rfl) (by kernel_rfl) (msgCD.later (W:=wr) (Below.drew (bRQ _ _)) HCE.out) ?_;simp only[List.toList_toArray];go_big_quiet_want;refine qv (.slice (some ⟨g,og,none⟩) n cap) ?_ ?_
      ·rintro w' ⟨z,⟨z0,z1,z2,z3,z4,z5,z6,z7,z8,z9,z10,z11⟩,u0,u1,u2,u3,u4,u5,u6,u7,u8,u9,u10,u11⟩;go_simp
      simp only[Act.put,AP];go_big_quiet_on;go_big_quiet_want;refine qv (.int i64 (k:Int)) ?_ ?_
      ·rintro w' ⟨z,⟨z0,z1,z2,z3,z4,z5,z6,z7,z8,z9,z10,z11⟩,u0,u1,u2,u3,u4,u5,u6,u7,u8,u9,u10,u11⟩;go_simp
      simp only[Act.put,AP];go_big_quiet_on;go_big_quiet_want;refine qv (.pointer (some ⟨g,og+k*12,none⟩)) ?_ ?_
      ·rintro w' ⟨z,⟨z0,z1,z2,z3,z4,z5,z6,z7,z8,z9,z10,z11⟩,u0,u1,u2,u3,u4,u5,u6,u7,u8,u9,u10,u11⟩;go_simp
      simp only[Act.put,AP];go_big_quiet_on;go_big_quiet_want;refine qv (.agg #[.int i64 x0,.int i64 x1,.int i64 x2,.int i64 x3,.int i64 x4,.bool x5,.int i64 x6,.int i64 x7,.int i64 x8,.int i64 x9,.int i64 x10,.int i64 x11]) ?_ ?_
      ·rintro w' ⟨z,⟨z0,z1,z2,z3,z4,z5,z6,z7,z8,z9,z10,z11⟩,u0,u1,u2,u3,u4,u5,u6,u7,u8,u9,u10,u11⟩;go_simp
      simp only[Act.put,AP];go_big_quiet_on;go_big_quiet_want;refine qv (.slice (some ⟨g2,og2,none⟩) n cap2) ?_ ?_
      ·rintro w' ⟨z,⟨z0,z1,z2,z3,z4,z5,z6,z7,z8,z9,z10,z11⟩,u0,u1,u2,u3,u4,u5,u6,u7,u8,u9,u10,u11⟩;go_simp
      simp only[Act.put,AP];go_big_quiet_on;go_big_quiet_want;refine qv (.int i64 (k:Int)) ?_ ?_
      ·rintro w' ⟨z,⟨z0,z1,z2,z3,z4,z5,z6,z7,z8,z9,z10,z11⟩,u0,u1,u2,u3,u4,u5,u6,u7,u8,u9,u10,u11⟩;go_simp
      simp only[Act.put,AP];go_big_quiet_on;go_big_quiet_want;refine qv (.pointer (some ⟨g2,og2+k*12,none⟩)) ?_ ?_
      ·rintro w' ⟨z,⟨z0,z1,z2,z3,z4,z5,z6,z7,z8,z9,z10,z11⟩,u0,u1,u2,u3,u4,u5,u6,u7,u8,u9,u10,u11⟩;go_simp
      simp only[Act.put,AP];go_big_quiet_on;go_big_quiet_want;refine qv (.agg #[.int i64 y0,.int i64 y1,.int i64 y2,.int i64 y3,.int i64 y4,.bool y5,.int i64 y6,.int i64 y7,.int i64 y8,.int i64 y9,.int i64 y10,.int i64 y11]) ?_ ?_
      ·rintro w' ⟨z,⟨z0,z1,z2,z3,z4,z5,z6,z7,z8,z9,z10,z11⟩,u0,u1,u2,u3,u4,u5,u6,u7,u8,u9,u10,u11⟩;go_simp
      simp only[Act.put,AP];go_big_quiet_on;go_big_quiet_want;refine quiet_val (v:=.bool (!msgB ⟨x0,x1,x2,x3,⟨x4,x5,⟨x6,x7,x8,x9,x10,x11⟩⟩⟩ ⟨y0,y1,y2,y3,⟨y4,y5,⟨y6,y7,y8,y9,y10,y11⟩⟩⟩)) (fun w' hC=>exec_bin rfl (by go_simp) (run_neq_of (msg_eq x0 x1 x2 x3 x4 x5 x6 x7 x8 x9 x10 x11 y0 y1 y2 y3 y4 y5 y6 y7 y8 y9 y10 y11 w'))) ?_;simp only[Act.put,AP];go_big_quiet_on;refine wpQuiet_nil ?_;intro w' hC
      go_wp2_with fail
      go_meet
      case rel=>exact⟨rfl,hC.1⟩
    case rest =>
     obtain⟨rfl,hB2⟩:=hcut;have HB2:Hid (Below w.heap.size w wc):=hB2;clear HCE hB2;cases ho:msgB ⟨x0,x1,x2,x3,⟨x4,x5,⟨x6,x7,x8,x9,x10,x11⟩⟩⟩ ⟨y0,y1,y2,y3,⟨y4,y5,⟨y6,y7,y8,y9,y10,y11⟩⟩⟩
     ·have HF:Hid (R=false):=by
       show R=false;rw[HR.out];exact smG_no hkl hkm (by rw[HLK.out.1,HLK.out.2];exact ho)
      go_wp2;go_ret;exact⟨by rw[HF.out];rfl,HB2.out⟩
     have HAL2:Hid (∀j,j<k+1→∀(h1:j<L.length) (h2:j<M.length),msgB L[j] M[j]=true):=by
      intro j hj h1 h2;by_cases e:j=k
      ·subst e;rw[HLK.out.1,HLK.out.2];exact ho
      exact HALL.out j (by omega) h1 h2
     clear ho;go_wp2;go_roundw
     case rel=>exact⟨k+1,by omega,by go_num,HAL2.out,HB2.out⟩
     case measure=>simp[intOf];omega
   obtain rfl:k=n:=by omega
   have HF:Hid (R=true):=by
    show R=true;rw[HR.out];refine smG_iff.2 ⟨by rw[HN.out,HM.out],fun i h1 h2=>HALL.out i (by rw[HN.out] at h1;exact h1) h1 h2⟩
   go_wp2;go_ret;exact⟨by rw[HF.out];rfl,HB.out⟩
 have HF:Hid (R=false):=by
  show R=false;rw[HR.out];exact smG_len (by rw[HN.out,HM.out];exact hl)
 have e1:((n:Int)==(n2:Int))=false:=beq_eq_false_iff_ne.2 (by omega);have e2:((n:Int) != (n2:Int))=true:=by simp;omega
 go_enter func13,ntmps13;go_wp2;go_ret;exact⟨by rw[HF.out];rfl,bRQ _ _⟩
end
section
open Go.RowKit Go.Extern.Stop Go.Stop Go.Extern
def HasErr (w:World):Prop:=w.cell? ⟨0,0,none⟩=some (.iface 83 (.agg #[.pointer (some ⟨1,33,none⟩)]))
theorem HasErr.later {w w':World}(h:HasErr w)(hb:Below w.heap.size w w'):HasErr w':=cell_later hb h
theorem HasErr.alloc {w:World}(h:HasErr w)(o:Obj):HasErr (w.alloc o):=h.later ((bRQ _ _).alloc (nLQ _) _)
theorem vOfP (t:Addr)(w:World):(ReflectliteValue.unpack (.iface 64 (.pointer (some t)))).run prog w
 = .ok (.agg #[.pointer (some ⟨1,64,none⟩),.pointer (some ⟨w.heap.size,0,none⟩),.int .u64 150]) (w.alloc (.cells #[.pointer (some t)] 64)):=by kernel_rfl
theorem typeP (a : Addr)(w : World): (ReflectliteValue.methodAny (ReflectliteValue.valueError "reflectlite.Value.Type" 0) (fun t _ _ _ => ReflectliteType.toType t) #[.agg #[.pointer (some ⟨1, 64, none⟩), .pointer (some a), .int .u64 150]]).run prog w
 = .ok (.iface 83 (.agg #[.pointer (some ⟨1,64,none⟩)])) w:=by kernel_rfl
theorem methKind (h : Value)(w : World): (Go.method 225 83 (.agg #[h]) "Kind").run prog w = .ok (53, h) w := by kernel_rfl
theorem kindP (w:World):((ReflectliteType.abiMethod fun t=>Functor.map (fun a:Nat=>Value.int IntKind.u8 (a:Int)) (Rtype.kind t)) #[.pointer (some ⟨1,64,none⟩)]).run prog w=.ok (.int .u8 22) w:=by kernel_rfl
theorem kindE (w:World):((ReflectliteType.abiMethod fun t=>Functor.map (fun a:Nat=>Value.int IntKind.u8 (a:Int)) (Rtype.kind t)) #[.pointer (some ⟨1,54,none⟩)]).run prog w=.ok (.int .u8 2) w:=by kernel_rfl
theorem partsP (a:Addr)(w:World):(ReflectliteValue.parts (.agg #[.pointer (some ⟨1,64,none⟩),.pointer (some a),.int .u64 150])).run prog w=.ok (some (64,a,150)) w:=by kernel_rfl
theorem isNilP (a p:Addr)(W:World)(ha:W.cell? a=some (.pointer (some p))):
 (ReflectliteValue.method (ReflectliteValue.valueError "reflectlite.Value.IsNil" 0) ReflectliteValue.isNil #[.agg #[.pointer (some ⟨1, 64, none⟩), .pointer (some a), .int .u64 150]]).run prog W = .ok (.bool false) W := by
 change Sem.run _ (ReflectliteValue.parts (.agg #[.pointer (some ⟨1,64,none⟩),.pointer (some a),.int .u64 150]) >>= _) _=_
 rw[Sem.run_bind,partsP];simp only[Result.andThen];simp[ReflectliteValue.isNil,loadVar,isAgg,underlying,underlying64,ha,Result.andThen]
theorem methElem (h : Value)(w : World): (Go.method 225 83 (.agg #[h]) "Elem").run prog w = .ok (63, .agg #[h]) w := by kernel_rfl
theorem methImpl (h : Value)(w : World): (Go.method 225 83 (.agg #[h]) "Implements").run prog w = .ok (64, .agg #[h]) w := by kernel_rfl
theorem methAssign (h : Value)(w : World): (Go.method 225 83 (.agg #[h]) "AssignableTo").run prog w = .ok (61, .agg #[h]) w := by kernel_rfl
theorem elemP (w:World):(ReflectliteType.method ReflectliteType.elem #[.agg #[.pointer (some ⟨1,64,none⟩)]]).run prog w=.ok (.iface 83 (.agg #[.pointer (some ⟨1,54,none⟩)])) w:=by kernel_rfl
theorem implE (w : World): (ReflectliteType.relation "Implements" ReflectliteType.implements_ #[.agg #[.pointer (some ⟨1, 54, none⟩)], .iface 83 (.agg #[.pointer (some ⟨1, 33, none⟩)])]).run prog w = .ok (.bool true) w := by kernel_rfl
theorem typeOfE (v:Value)(w:World):(ReflectliteType.typeOf #[.iface 54 v]).run prog w=.ok (.iface 83 (.agg #[.pointer (some ⟨1,54,none⟩)])) w:=by kernel_rfl
theorem assignE (w : World): (ReflectliteType.relation "AssignableTo" ReflectliteType.assignableTo #[.agg #[.pointer (some ⟨1, 54, none⟩)], .iface 83 (.agg #[.pointer (some ⟨1, 54, none⟩)])]).run prog w = .ok (.bool true) w := by kernel_rfl
theorem vOfE (n:Int)(w:World):(ReflectliteValue.unpack (.iface 54 (.int i64 n))).run prog w
 = .ok (.agg #[.pointer (some ⟨1,54,none⟩),.pointer (some ⟨w.heap.size,0,none⟩),.int .u64 130]) (w.alloc (.cells #[.int i64 n] 54)):=by kernel_rfl
theorem elemOfP (w:World):(Rtype.elem? 64).run prog w=.ok (some 54) w:=by kernel_rfl
theorem mkE (p:Addr)(w:World):(ReflectliteValue.mk 54 p ReflectliteValue.flagAddr).run prog w=.ok (.agg #[.pointer (some ⟨1,54,none⟩),.pointer (some p),.int .u64 386]) w:=by kernel_rfl
theorem elemVP (a p:Addr)(W:World)(ha:W.cell? a=some (.pointer (some p))):
 (ReflectliteValue.method (ReflectliteValue.valueError "reflectlite.Value.Elem" 0) ReflectliteValue.elem #[.agg #[.pointer (some ⟨1, 64, none⟩), .pointer (some a), .int .u64 150]]).run prog W
  = .ok (.agg #[.pointer (some ⟨1,54,none⟩),.pointer (some p),.int .u64 386]) W:=by
 change Sem.run _ (ReflectliteValue.parts (.agg #[.pointer (some ⟨1,64,none⟩),.pointer (some a),.int .u64 150]) >>= _) _=_
 rw[Sem.run_bind,partsP];simp only[Result.andThen];simp[ReflectliteValue.elem,loadVar,isAgg,underlying,underlying64,ha,Result.andThen,elemOfP,mkE]
theorem partsEa (a:Addr)(w:World):(ReflectliteValue.parts (.agg #[.pointer (some ⟨1,54,none⟩),.pointer (some a),.int .u64 386])).run prog w=.ok (some (54,a,386)) w:=by kernel_rfl
theorem partsE (a:Addr)(w:World):(ReflectliteValue.parts (.agg #[.pointer (some ⟨1,54,none⟩),.pointer (some a),.int .u64 130])).run prog w=.ok (some (54,a,130)) w:=by kernel_rfl
theorem directE (w:World):(Rtype.directlyAssignable 54 54).run prog w=.ok true w:=by kernel_rfl
theorem setE (ta b:Addr)(n:Int)(old:Value)(W:World)(hb:W.cell? b=some (.int i64 n))(ht:W.cell? ta=some old)(hf:W.frozen? ta=false):
 (ReflectliteValue.set #[.agg #[.pointer (some ⟨1,54,none⟩),.pointer (some ta),.int .u64 386],.agg #[.pointer (some ⟨1,54,none⟩),.pointer (some b),.int .u64 130]]).run prog W
  = .ok (.tuple #[]) (W.setCell ta (.int i64 n)):=by
 change Sem.run _ (ReflectliteValue.parts (.agg #[.pointer (some ⟨1,54,none⟩),.pointer (some ta),.int .u64 386]) >>= _) _=_
 rw[Sem.run_bind,partsEa];simp only[Result.andThen]
 change Sem.run _ (ReflectliteValue.parts (.agg #[.pointer (some ⟨1,54,none⟩),.pointer (some b),.int .u64 130]) >>= _) _=_
 rw[Sem.run_bind,partsE];simp only[Result.andThen];simp[ReflectliteValue.flagAddr,loadVar,isAgg,underlying,underlying54,hb,Result.andThen,directE,storeVar,Value.cells,storeCells,Addr.add];rw[run_store prog W ta _ _ (by rfl)];simp[ht,hf]
theorem as_hit (n:Int)(t:Addr)(old:Value)(w:World)(hg:HasErr w)(ht0:w.cell? t=some old)(hf0:w.frozen? t=false):
 Calls prog 26 #[.iface 54 (.int i64 n),.iface 64 (.pointer (some t))] w fun ev w'=>ev=.returned (.bool true)∧w'=((((w.alloc (.cells #[.pointer (some t)] 64)).alloc (.cells #[.pointer (some ⟨1,64,none⟩),.pointer (some ⟨w.heap.size,0,none⟩),.int .u64 150] 70)).alloc (.cells #[.pointer (some ⟨1,64,none⟩),.pointer (some ⟨w.heap.size,0,none⟩),.int .u64 150] 70)).alloc (.cells #[.int i64 n] 54)).setCell t (.int i64 n):=by
 unfold HasErr at hg;have h6 := @run_callFunc_extern prog 30 _ (fun args=>ReflectliteValue.unpack (args.getD 0 (.tuple #[]))) func30 (by kernel_rfl) (by kernel_rfl) (by kernel_rfl) (by kernel_rfl);have h7 := @run_callFunc_extern prog 31 _ (ReflectliteValue.methodAny (ReflectliteValue.valueError "reflectlite.Value.Type" 0) (fun t _ _ _ => ReflectliteType.toType t)) func31 (by kernel_rfl) (by kernel_rfl) (by kernel_rfl) (by kernel_rfl)
 have h8 := @run_callFunc_extern prog 32 _ (ReflectliteValue.method (ReflectliteValue.valueError "reflectlite.Value.IsNil" 0) ReflectliteValue.isNil) func32 (by kernel_rfl) (by kernel_rfl) (by kernel_rfl) (by kernel_rfl)
 have h27 := @run_callFunc_extern prog 53 _ (ReflectliteType.abiMethod fun t=>do pure (.int .u8 (←Rtype.kind t))) func53 (by kernel_rfl) (by kernel_rfl) (by kernel_rfl) (by kernel_rfl);have h37 := @run_callFunc_extern prog 63 _ (ReflectliteType.method ReflectliteType.elem) func63 (by kernel_rfl) (by kernel_rfl) (by kernel_rfl) (by kernel_rfl);have h38 := @run_callFunc_extern prog 64 _ (ReflectliteType.relation "Implements" ReflectliteType.implements_) func64 (by kernel_rfl) (by kernel_rfl) (by kernel_rfl) (by kernel_rfl)
 have h10 := @run_callFunc_extern prog 36 _ ReflectliteType.typeOf func36 (by kernel_rfl) (by kernel_rfl) (by kernel_rfl) (by kernel_rfl);have h35 := @run_callFunc_extern prog 61 _ (ReflectliteType.relation "AssignableTo" ReflectliteType.assignableTo) func61 (by kernel_rfl) (by kernel_rfl) (by kernel_rfl) (by kernel_rfl)
 have h11 := @run_callFunc_extern prog 37 _ (ReflectliteValue.method (ReflectliteValue.valueError "reflectlite.Value.Elem" 0) ReflectliteValue.elem) func37 (by kernel_rfl) (by kernel_rfl) (by kernel_rfl) (by kernel_rfl)
 have h12 := @run_callFunc_extern prog 38 _ ReflectliteValue.set func38 (by kernel_rfl) (by kernel_rfl) (by kernel_rfl) (by kernel_rfl);have tO:=typeOfE;have mA:=methAssign;have a25:=assignE;have v25:=vOfE;have f6:=vOfP;have f7:=typeP;have mK:=methKind;have mE:=methElem;have mI:=methImpl;have k27:=kindP;have k25:=kindE;have e27:=elemP;have i25:=implE;have hlt:0<w.heap.size:=bLQ _ _ hg;have htl:t.block<w.heap.size:=bLQ _ _ ht0;have n8:=isNilP ⟨w.heap.size,0,none⟩ t ((w.alloc (.cells #[.pointer (some t)] 64)).alloc (.cells #[.pointer (some ⟨1,64,none⟩),.pointer (some ⟨w.heap.size,0,none⟩),.int .u64 150] 70)) (by simp);have hg2:((w.alloc (.cells #[.pointer (some t)] 64)).alloc (.cells #[.pointer (some ⟨1,64,none⟩),.pointer (some ⟨w.heap.size,0,none⟩),.int .u64 150] 70)).cell? ⟨0,0,none⟩=some (.iface 83 (.agg #[.pointer (some ⟨1,33,none⟩)])):=by
  rw[World.cell?_alloc_lt _ _ ⟨0,0,none⟩ (by simp <;> omega),World.cell?_alloc_lt _ _ ⟨0,0,none⟩ hlt];exact hg
 have el:=elemVP ⟨w.heap.size,0,none⟩ t (((w.alloc (.cells #[.pointer (some t)] 64)).alloc (.cells #[.pointer (some ⟨1,64,none⟩),.pointer (some ⟨w.heap.size,0,none⟩),.int .u64 150] 70)).alloc (.cells #[.pointer (some ⟨1,64,none⟩),.pointer (some ⟨w.heap.size,0,none⟩),.int .u64 150] 70)) (by rw[World.cell?_alloc_lt _ _ ⟨w.heap.size,0,none⟩ (by simp;omega)];simp);have st:=setE t ⟨w.heap.size+1+1+1,0,none⟩ n old ((((w.alloc (.cells #[.pointer (some t)] 64)).alloc (.cells #[.pointer (some ⟨1,64,none⟩),.pointer (some ⟨w.heap.size,0,none⟩),.int .u64 150] 70)).alloc (.cells #[.pointer (some ⟨1,64,none⟩),.pointer (some ⟨w.heap.size,0,none⟩),.int .u64 150] 70)).alloc (.cells #[.int i64 n] 54))
  (by rw[World.cell?_alloc_at _ _ _ _ (by simp)];rfl)
  (by rw[World.cell?_alloc_lt _ _ t (by simp;omega),World.cell?_alloc_lt _ _ t (by simp;omega),World.cell?_alloc_lt _ _ t (by simp;omega),World.cell?_alloc_lt _ _ t htl];exact ht0)
  (by rw[World.frozen?_alloc_old _ _ t (by simp;omega),World.frozen?_alloc_old _ _ t (by simp;omega),World.frozen?_alloc_old _ _ t (by simp;omega),World.frozen?_alloc_old _ _ t (Nat.ne_of_lt htl)];exact hf0)
 go_enter func26,ntmps26;go_wp2;refine wp_loop_rounds 1 ?_;rw[rounds_succ];go_wp2;go_ret;exact⟨rfl,rfl⟩
theorem told_nil (w:World):
 Calls prog 17 #[.nilIface] w fun e w'=>e=.returned (.int i64 0)∧Below w.heap.size w w':=by
 go_enter func17,ntmps17;go_wp2;go_ret;exact⟨rfl,bRQ _ _⟩
theorem told_some (n:Int)(w:World)(hg:HasErr w):
 Calls prog 17 #[.iface 54 (.int i64 n)] w fun e w'=>e=.returned (.int i64 n)∧Below w.heap.size w w':=by
 have HG:Hid (HasErr w):=hg;clear hg;go_enter func17,ntmps17
 go_wp2_with fail
 refine (as_hit n _ (.int i64 0) _ (HG.out.alloc _) (by simp) (by simp)).mono ?_;rintro e w' ⟨rfl,rfl⟩;go_wp2;go_ret;refine⟨rfl,?_⟩;exact ((((((bRQ _ _).alloc (nLQ _) _).alloc (by simp) _).alloc (by simp;omega) _).alloc (by simp;omega) _).alloc (by simp;omega) _)
theorem same_nil (k:Int)(w:World):
 Calls prog 8 #[.nilIface,.int i64 k] w fun e w'=>e=.returned (.bool (0==k))∧Below w.heap.size w w':=by
 go_enter func8,ntmps8
 go_wp2_with fail
 refine (told_nil _).mono ?_;rintro e w' ⟨rfl,hb⟩;go_wp2;go_ret;exact⟨rfl,hb⟩
theorem same_some (n k:Int)(w:World)(hg:HasErr w):
 Calls prog 8 #[.iface 54 (.int i64 n),.int i64 k] w fun e w'=>e=.returned (.bool (n==k))∧Below w.heap.size w w':=by
 have HG:Hid (HasErr w):=hg;clear hg;go_enter func8,ntmps8
 go_wp2_with fail
 refine (told_some n _ HG.out).mono ?_;rintro e w' ⟨rfl,hb⟩;go_wp2;go_ret;exact⟨rfl,hb⟩
end
section
open Go.RowKit
theorem same_noV (n:Int)(w:World)(hg:HasErr w):
 Calls prog 8 #[noV n,.int i64 n] w fun e w'=>e=.returned (.bool true)∧Below w.heap.size w w':=by
 by_cases h:n=0
 ·subst h;refine (same_nil _ w).mono ?_;rintro e w' ⟨rfl,hb⟩;exact⟨by simp,hb⟩
 rw[no_ne h];refine (same_some _ _ w hg).mono ?_;rintro e w' ⟨rfl,hb⟩;exact⟨by simp,hb⟩
end
namespace wireTells
open Go.RowKit
theorem msg_refl (L:List Mg):smG msgB L L=true:=smG_iff.2 ⟨rfl,fun i h1 h2=>(msgB_iff _ _).2 rfl⟩
theorem walk (x0 x1 x2 x3 x4:Int)(x5:Bool)(x6 x7 x8 x9 x10 x11:Int)(b:ByteArray)(hsz:b.size≤1048576)(w:World)(hg:HasErr w):
 Calls prog 3 #[.agg #[.int i64 x0,.int i64 x1,.int i64 x2,.int i64 x3,.int i64 x4,.bool x5,.int i64 x6,.int i64 x7,.int i64 x8,.int i64 x9,.int i64 x10,.int i64 x11],.string b] w fun e w'=>e=.returned (.bool true)∧Below w.heap.size w w':=by
 obtain⟨w1,hw1⟩:∃V,V=w.alloc (.cells #[.int i64 x0,.int i64 x1,.int i64 x2,.int i64 x3,.int i64 x4,.bool x5,.int i64 x6,.int i64 x7,.int i64 x8,.int i64 x9,.int i64 x10,.int i64 x11] 29):=⟨_,rfl⟩;have HB1:Hid (Below w.heap.size w w1):=by rw[hw1];exact (bRQ _ _).alloc (nLQ _) _
 have hm1:MgC w1 w.heap.size x0 x1 x2 x3 x4 x5 x6 x7 x8 x9 x10 x11:=by rw[hw1];exact mgc_new w x0 x1 x2 x3 x4 x5 x6 x7 x8 x9 x10 x11 _
 have HM1:Hid (∀W,Below w1.heap.size w1 W→MgC W w.heap.size x0 x1 x2 x3 x4 x5 x6 x7 x8 x9 x10 x11):=fun W h=>hm1.later h
 have HW1:Hid (w.alloc (.cells #[.int i64 x0,.int i64 x1,.int i64 x2,.int i64 x3,.int i64 x4,.bool x5,.int i64 x6,.int i64 x7,.int i64 x8,.int i64 x9,.int i64 x10,.int i64 x11] 29)=w1):=hw1.symm;have HG:Hid (∀W,Below w1.heap.size w1 W→HasErr W):=fun W h=>hg.later (HB1.out.trans (h.mono HB1.out.size))
 have HSZ:Hid (b.size≤1048576):=hsz;obtain⟨Z,hZ⟩:∃Z,Z=mgN ⟨x0,x1,x2,x3,⟨x4,x5,⟨x6,x7,x8,x9,x10,x11⟩⟩⟩:=⟨_,rfl⟩;obtain⟨E,hE⟩:∃E,E=enT ⟨x0,x1,x2,x3,⟨x4,x5,⟨x6,x7,x8,x9,x10,x11⟩⟩⟩:=⟨_,rfl⟩;have HZ:Hid (mgN ⟨x0,x1,x2,x3,⟨x4,x5,⟨x6,x7,x8,x9,x10,x11⟩⟩⟩=Z∧enT ⟨x0,x1,x2,x3,⟨x4,x5,⟨x6,x7,x8,x9,x10,x11⟩⟩⟩=E):=⟨hZ.symm,hE.symm⟩;obtain⟨D,hD⟩:∃D,D=dcB b:=⟨_,rfl⟩;obtain⟨P,hP⟩:∃P,P=dcE b:=⟨_,rfl⟩;obtain⟨K,hK⟩:∃K,K=dcV b:=⟨_,rfl⟩;have HD:Hid (dcB b=D∧dcE b=P∧dcV b=K):=⟨hD.symm,hP.symm,hK.symm⟩;have HDP:Hid (P=if D then 0 else 2):=by show _=_;rw[hP,hD];rfl
 obtain⟨N2,hN2⟩:∃N,N=wtN b:=⟨_,rfl⟩;obtain⟨L,hL⟩:∃L,L=wtL b:=⟨_,rfl⟩;obtain⟨R,hR⟩:∃R,R=wtR b:=⟨_,rfl⟩;have HT:Hid (wtN b=N2∧wtL b=L∧wtR b=R):=⟨hN2.symm,hL.symm,hR.symm⟩;have HN2:Hid (N2=0∨N2=2):=by
  show _∨_;rw[hN2];unfold wtN
  split
  ·exact .inl rfl
  exact .inr rfl
 clear hw1 hg hsz hZ hE hD hP hK hN2 hL hR;go_enter func3,ntmps3;go_upto_region 1 with fail;rw[HW1.out];obtain⟨m0,m1,m2,m3,m4,m5,m6,m7,m8,m9,m10,m11⟩:=hm1
 go_wp2_with fail
 refine (rmsg_any x0 x1 x2 x3 x4 x5 x6 x7 x8 x9 x10 x11 _).mono ?_;rintro e w2 ⟨rfl,hb2⟩;rw[HZ.out.1];have HB2:Hid (Below w1.heap.size w1 w2):=hb2;clear hb2 m0 m1 m2 m3 m4 m5 m6 m7 m8 m9 m10 m11;obtain⟨m0,m1,m2,m3,m4,m5,m6,m7,m8,m9,m10,m11⟩:=HM1.out w2 HB2.out
 go_upto_if 23 with fail
 go_cut [6] from 23 (fun v w'=>v=.string E∧Below w1.heap.size w1 w')
 case first =>
  by_cases hz:Z=0
  ·have HZ0:Hid (mgN ⟨x0,x1,x2,x3,⟨x4,x5,⟨x6,x7,x8,x9,x10,x11⟩⟩⟩=0):=by rw[hz] at HZ;exact HZ.out.1
   have HET:Hid (mgT ⟨x0,x1,x2,x3,⟨x4,x5,⟨x6,x7,x8,x9,x10,x11⟩⟩⟩=E):=by show _=_;rw[←HZ.out.2,enT,if_pos HZ0.out]
   subst hz
   go_wp2_with fail
   refine (rbytes_any x0 x1 x2 x3 x4 x5 x6 x7 x8 x9 x10 x11 _ HZ0.out).mono ?_;rintro e w3 ⟨rfl,hb3⟩;rw[HET.out];have HB3:Hid (Below w1.heap.size w1 w3):=HB2.out.trans (hb3.mono HB2.out.size);clear hb3 m0 m1 m2 m3 m4 m5 m6 m7 m8 m9 m10 m11
   go_wp2_with fail
   go_meet
   exact⟨rfl,HB3.out⟩
  have hz2:(Z==0)=false:=by simpa using hz
  have HET:Hid (E=⟨#[]⟩):=by show _=_;rw[←HZ.out.2,enT,if_neg (by rw[HZ.out.1];exact hz)];rfl
  go_wp2_with fail
  go_meet
  exact⟨by rw[HET.out],HB2.out⟩
 case rest =>
  obtain⟨rfl,hbc⟩:=hcut;have HBC:Hid (Below w1.heap.size w1 wc):=hbc;clear hbc m0 m1 m2 m3 m4 m5 m6 m7 m8 m9 m10 m11;obtain⟨m0,m1,m2,m3,m4,m5,m6,m7,m8,m9,m10,m11⟩:=HM1.out wc HBC.out
  go_wp2_with fail
  refine (wenc_any x0 x1 x2 x3 x4 x5 x6 x7 x8 x9 x10 x11 _).mono ?_;rintro e w3 ⟨rfl,hb3⟩;rw[HZ.out.1,HZ.out.2];have HB3:Hid (Below w1.heap.size w1 w3):=HBC.out.trans (hb3.mono HBC.out.size);clear hb3 m0 m1 m2 m3 m4 m5 m6 m7 m8 m9 m10 m11
  go_wp2_with fail
  refine (same_noV Z _ (HG.out _ HB3.out)).mono ?_;rintro e w4 ⟨rfl,hb4⟩;have HB4:Hid (Below w1.heap.size w1 w4):=HB3.out.trans (hb4.mono HB3.out.size);clear hb4
  go_wp2_with fail
  refine (rdec_any b _).mono ?_;rintro e w5 ⟨rfl,hb5⟩;rw[HD.out.1,HD.out.2.2];obtain⟨y0,y1,y2,y3,⟨y4,y5,⟨y6,y7,y8,y9,y10,y11⟩⟩⟩:=K
  dsimp only[mgV]
  have HB5:Hid (Below w1.heap.size w1 w5):=HB4.out.trans (hb5.mono HB4.out.size);clear hb5;obtain⟨w6,hw6⟩:∃V,V=w5.alloc (.cells #[.int i64 y0,.int i64 y1,.int i64 y2,.int i64 y3,.int i64 y4,.bool y5,.int i64 y6,.int i64 y7,.int i64 y8,.int i64 y9,.int i64 y10,.int i64 y11] 29):=⟨_,rfl⟩;have hb6:Below w5.heap.size w5 w6:=by rw[hw6];exact (bRQ _ _).alloc (nLQ _) _
  have hp6:MgC w6 w5.heap.size y0 y1 y2 y3 y4 y5 y6 y7 y8 y9 y10 y11:=by rw[hw6];exact mgc_new w5 y0 y1 y2 y3 y4 y5 y6 y7 y8 y9 y10 y11 _
  have HP6:Hid (∀W,Below w6.heap.size w6 W→MgC W w5.heap.size y0 y1 y2 y3 y4 y5 y6 y7 y8 y9 y10 y11):=fun W h=>hp6.later h
  have HW6:Hid (w5.alloc (.cells #[.int i64 y0,.int i64 y1,.int i64 y2,.int i64 y3,.int i64 y4,.bool y5,.int i64 y6,.int i64 y7,.int i64 y8,.int i64 y9,.int i64 y10,.int i64 y11] 29)=w6):=hw6.symm;have HB6:Hid (Below w1.heap.size w1 w6):=HB5.out.trans (hb6.mono HB5.out.size);clear hw6 hb6 hp6
  go_upto_if 40 with fail
  rw[HW6.out]
  go_cut [5] from 39 (fun v w'=>v=.int i64 P∧w'=w6)
  case first =>
   cases D with
   | true =>
     go_wp2_with fail
     go_meet
     exact⟨by rw[HDP.out];rfl,rfl⟩
   | false =>
     go_wp2_with fail
     go_meet
     exact⟨by rw[HDP.out];rfl,rfl⟩
  case rest =>
   obtain⟨rfl,hwc⟩:=hcut;have hwc2:=hwc.symm;clear hwc;subst hwc2
   go_wp2_with fail
   refine (wdec_any b _).mono ?_;rintro e w7 ⟨rfl,hb7⟩;rw[HD.out.2.1,HD.out.2.2]
   dsimp only[mgV]
   have HB7:Hid (Below w6.heap.size w6 w7):=hb7;clear hb7;obtain⟨w8,hw8⟩:∃V,V=w7.alloc (.cells #[.int i64 y0,.int i64 y1,.int i64 y2,.int i64 y3,.int i64 y4,.bool y5,.int i64 y6,.int i64 y7,.int i64 y8,.int i64 y9,.int i64 y10,.int i64 y11] 29):=⟨_,rfl⟩;have hb8:Below w7.heap.size w7 w8:=by rw[hw8];exact (bRQ _ _).alloc (nLQ _) _
   have hq8:MgC w8 w7.heap.size y0 y1 y2 y3 y4 y5 y6 y7 y8 y9 y10 y11:=by rw[hw8];exact mgc_new w7 y0 y1 y2 y3 y4 y5 y6 y7 y8 y9 y10 y11 _
   have HB8:Hid (Below w6.heap.size w6 w8):=HB7.out.trans (hb8.mono HB7.out.size);have HQ8:Hid (∀W,Below w8.heap.size w8 W→MgC W w5.heap.size y0 y1 y2 y3 y4 y5 y6 y7 y8 y9 y10 y11∧MgC W w7.heap.size y0 y1 y2 y3 y4 y5 y6 y7 y8 y9 y10 y11):=fun W h=>⟨HP6.out W (HB8.out.trans (h.mono HB8.out.size)),hq8.later h⟩
   have HW8:Hid (w7.alloc (.cells #[.int i64 y0,.int i64 y1,.int i64 y2,.int i64 y3,.int i64 y4,.bool y5,.int i64 y6,.int i64 y7,.int i64 y8,.int i64 y9,.int i64 y10,.int i64 y11] 29)=w8):=hw8.symm;have HG8:Hid (∀W,Below w8.heap.size w8 W→HasErr W∧Below w.heap.size w W):=fun W h=>by
    have h1:=HB6.out.trans ((HB8.out.trans (h.mono HB8.out.size)).mono HB6.out.size);exact⟨HG.out W h1,HB1.out.trans (h1.mono HB1.out.size)⟩
   clear hw8 hb8 hq8;go_upto_region 12 with fail;rw[HW8.out]
   go_wp2_with fail
   refine (same_noV P _ (HG8.out _ (bRQ _ _)).1).mono ?_;rintro e w9 ⟨rfl,hb9⟩;have HB9:Hid (Below w8.heap.size w8 w9):=hb9;clear hb9
   go_wp2_with fail
   refine (rcutm_any b HSZ.out _).mono ?_;rintro e w10 ⟨v1,rfl,hs1,hb10⟩;rw[HT.out.1,HT.out.2.2];rw[HT.out.2.1] at hs1;have HB10:Hid (Below w8.heap.size w8 w10):=HB9.out.trans (hb10.mono HB9.out.size);obtain⟨a1,n1,c1,hv1,_⟩:=hs1.form;subst hv1;have HS1:Hid (GS msgE w10 (.slice a1 n1 c1) L):=hs1;clear hb10 hs1
   go_upto_if 56 with fail
   go_cut [5] from 55 (fun v w'=>v=.int i64 N2∧w'=w10)
   case first =>
    rcases HN2.out with h | h
    ·subst h
     go_wp2_with fail
     go_meet
     exact⟨rfl,rfl⟩
    subst h
    go_wp2_with fail
    go_meet
    exact⟨rfl,rfl⟩
   case rest =>
    obtain⟨rfl,hwc⟩:=hcut;have hwc2:=hwc.symm;clear hwc;subst hwc2
    go_wp2_with fail
    refine (wcut_any b HSZ.out _).mono ?_;rintro e w11 ⟨v2,rfl,hs2,hb11⟩;rw[HT.out.1,HT.out.2.2];rw[HT.out.2.1] at hs2;have HB11:Hid (Below w8.heap.size w8 w11):=HB10.out.trans (hb11.mono HB10.out.size);obtain⟨a2,n2,c2,hv2,_⟩:=hs2.form;subst hv2;have HS2:Hid (GS msgE w11 (.slice a2 n2 c2) L∧GS msgE w11 (.slice a1 n1 c1) L):=⟨hs2,HS1.out.later hb11⟩;clear hb11 hs2
    go_wp2_with fail
    refine (same_noV N2 _ (HG8.out _ HB11.out).1).mono ?_;rintro e w12 ⟨rfl,hb12⟩;have HB12:Hid (Below w8.heap.size w8 w12):=HB11.out.trans (hb12.mono HB11.out.size);have HS3:Hid (GS msgE w12 (.slice a2 n2 c2) L∧GS msgE w12 (.slice a1 n1 c1) L):=⟨HS2.out.1.later hb12,HS2.out.2.later hb12⟩;clear hb12
    go_wp2_with fail
    refine (msg_same a2 n2 c2 a1 n1 c1 L L w12 HS3.out.1 HS3.out.2).mono ?_;rintro e w13 ⟨rfl,hb13⟩;rw[msg_refl];have HB13:Hid (Below w8.heap.size w8 w13):=HB12.out.trans (hb13.mono HB12.out.size);have HBF:Hid (Below w.heap.size w w13):=(HG8.out _ HB13.out).2;clear hb13;obtain⟨⟨p0,p1,p2,p3,p4,p5,p6,p7,p8,p9,p10,p11⟩,⟨q0,q1,q2,q3,q4,q5,q6,q7,q8,q9,q10,q11⟩⟩:=HQ8.out w13 HB13.out;go_wp2;go_ret;exact⟨rfl,HBF.out⟩
end wireTells
namespace wireTells
open Go.ChangeShapes Go.WideShapes Go.ChangeAt Go.RowKit
open Go.ChangeMaps (open_string shut_string)
set_option linter.unusedVariables false
set_option linter.unusedSimpArgs false
theorem own:ownKnob Tryd.prog.godebug=none:=by kernel_rfl
theorem laidOut:laidOutB prog=true:=by kernel_rfl
theorem et : Tryd.prog.globalNamed "errors.errorType" = some 0 := by kernel_rfl
theorem oneRow:((List.range 125).filter fun t=>Tryd.prog.rowNamed t [101,114,114,111,114])=[33]:=by kernel_rfl
theorem tsize:Tryd.prog.types.size=125:=by kernel_rfl
theorem handle_of_laid {W:World}(h:laidMetH prog Rows.wireTellsUptoRow.laid W):HasErr W:=by
 have h' : laidMet prog (Rows.wireTellsUptoRow.laid.filter fun x => x.2.handleName?.isNone) W ∧ handlesMet prog [("errors.errorType", Rows.laid_errors_errorType)] W := h
 obtain⟨name,u,ty,e1,e2,e3,e4,e5⟩:=h'.2 _ (List.mem_singleton.2 rfl);have en:name=[101,114,114,111,114]:=(Option.some.inj e1).symm;subst en;have hu:some u=some 83:=e2.symm.trans (by kernel_rfl);obtain rfl:=Option.some.inj hu;have hm:ty∈(List.range 125).filter fun t=>Tryd.prog.rowNamed t [101,114,114,111,114]:=List.mem_filter.2 ⟨List.mem_range.2 (by rw[←tsize];exact e3),e4⟩
 rw[oneRow] at hm;obtain rfl:=List.mem_singleton.1 hm;have hh:typeHandle prog 33=.pointer (some ⟨1,33,none⟩):=by kernel_rfl
 rw[hh] at e5;unfold HasErr;simpa using World.var?_cell et e5 0
theorem short {H:Type}{d0:DataW H}{t:ByteArray}(h:Rows.uptoSmall H [d0,.lit (.string t.data.toList)]=true):t.size≤1048576:=by
 have h1:Rows.uptoBulkAll [d0,.lit (.string t.data.toList)]≤1048576:=of_decide_eq_true h;simp only[Rows.uptoBulkAll,Rows.uptoBulk] at h1;have h2:t.data.toList.length=t.size:=by simp
 omega
theorem contract (H:Type)(enc:TypeId×Value→H)(W:World)(base:Nat)(args:Array Value)(ds gs:List (DataW H))(before:List MemPlace)
 (hval0:∀(j:Nat) t v,Tryd.f3.params[j]?=some t→args[j]?=some v→Value.okWide prog W .any base t v)
 (hW:DataW.Whole enc prog Tryd.f3.params.toList Rows.wireTellsSpec.vars false W args.toList ds gs before) (hL:laidMetH prog Rows.wireTellsUptoRow.laid W)
 (hsmall:Rows.uptoSmall H (ds++gs)=true):
 Calls prog 3 args W fun e W'=>∃v,e=.returned v∧Rows.wireTellsSpec.post enc prog Tryd.f3 false true false false W args v W':=by
 have hval:∀(j:Nat) t v,Tryd.f3.params[j]?=some t→args[j]?=some v→Value.okWide prog W .any base t v:=hval0;have hW':=hW;obtain⟨p,q,hA0,hV0,rfl,hfz,hnd⟩:=hW;have hA:DataW.TrodAll enc prog W 0 (fun _=>true) true Tryd.f3.params.toList args.toList ds p:=hA0;have hV:DataW.TrodVars enc prog W (fun _=>true) [] gs q:=hV0;rw[params3] at hA hval;obtain⟨v0,vs0,d0,ds0,p0,q0,hargs,rfl,rfl,h0,r0⟩:=trodAll_cons hA;obtain⟨v1,vs1,d1,ds1,p1,q1,rfl,rfl,rfl,h1,r1⟩:=trodAll_cons r0;obtain⟨rfl,rfl,rfl⟩:=trodAll_nil r1;obtain rfl:args=#[v0,v1]:=by cases args;simp_all
 have hg:=handle_of_laid hL;obtain⟨rfl,rfl⟩:gs=[]∧q=[]:=by
  cases gs with
  | nil=>exact⟨rfl,hV⟩
  | cons g r=>exact absurd hV (by intro h;cases h)
 have k0:=h0;have lt0:∀x∈p0,x.block<W.heap.size:=by obtain⟨m,hm⟩:=k0;exact DataW.trod_lt m _ _ _ hm
 obtain⟨x0,x1,x2,x3,x4,x5,x6,x7,x8,x9,x10,x11,rfl⟩:=msg_of (hval 0 29 v0 rfl rfl) h0;obtain⟨s,rfl,rfl,rfl,ws⟩:=open_string underlying9 (hval 1 9 v1 rfl rfl) h1;have hsz:s.size≤1048576:=short (by simpa using hsmall);clear hA0 hval0;refine (walk x0 x1 x2 x3 x4 x5 x6 x7 x8 x9 x10 x11 s hsz W hg).mono fun e W' ⟨he,bel⟩=>?_
 subst he;exact⟨_,rfl,_,_,_,[],_,[],hW',trodAll_mk1 (shut_bool underlying4 _),(trodAll_cons_mk (Below.trod laidOut (by kernel_rfl) (of_decide_eq_true (by kernel_rfl)) k0 bel lt0) (trodAll_cons_mk (shut_string underlying9 ws) trodAll_mk0)),rfl,bel.frame _,fun h=>by cases h⟩
def layAll (h:Array Obj):Array Obj:=h.modify 0 fun
 | .cells _ t frozen=>.cells #[.iface 83 (.agg #[.pointer (some ⟨1,33,none⟩)])] t frozen
 | o=>o
theorem laid_met (os:Os)(args:Array Value):laidMetH prog Rows.wireTellsUptoRow.laid (({ World.holding prog os ⟨#[],#[],[]⟩ with heap:=layAll (World.holding prog os ⟨#[],#[],[]⟩).heap }:World).forCall (fun _ _=>0) ⟨#[],args,[]⟩).memory:=
 laidMetH_of_parts (laidMet_nil _ _) (by kernel_rfl)
theorem reads (os:Os){H:Type}(enc:TypeId×Value→H):∃x,DataW.whole enc prog (({ World.holding prog os ⟨#[],#[],[]⟩ with heap:=layAll (World.holding prog os ⟨#[],#[],[]⟩).heap }:World).forCall (fun _ _=>0) ⟨#[],#[.agg #[.int i64 0,.int i64 0,.int i64 0,.int i64 0,.int i64 0,.bool false,.int i64 0,.int i64 0,.int i64 0,.int i64 0,.int i64 0,.int i64 0],.string ByteArray.empty],[]⟩).memory Tryd.f3.params.toList Rows.wireTellsSpec.vars false #[Value.agg #[.int i64 0,.int i64 0,.int i64 0,.int i64 0,.int i64 0,.bool false,.int i64 0,.int i64 0,.int i64 0,.int i64 0,.int i64 0,.int i64 0],.string ByteArray.empty].toList 8=some ([.agg [.lit (.int i64 0),.lit (.int i64 0),.lit (.int i64 0),.lit (.int i64 0),.agg [.lit (.int i64 0),.lit (.bool false),.agg [.lit (.int i64 0),.agg [.lit (.int i64 0),.lit (.int i64 0)],.lit (.int i64 0),.lit (.int i64 0),.lit (.int i64 0)]]],.lit (.string [])],[],x):=
 ⟨[],by kernel_rfl⟩
theorem lifted (os:Os)(started:os.Started)(H:Type)(enc:TypeId×Value→H)(F:Stop.Interp):
 ReturnsInHanded {} Tryd.checked os 3 .any ((Rows.OpenSpec.upto Rows.wireTellsSpec).preRow enc prog Tryd.f3 Rows.wireTellsUptoRow.domain false Rows.wireTellsUptoRow.laid) (((Rows.OpenSpec.upto Rows.wireTellsSpec).at F).post enc prog Tryd.f3 false true false false):=by
 obtain⟨x,hx⟩:=reads os enc;refine returnsInHanded_of_row (C:=Tryd.checked) (s:=Rows.OpenSpec.upto Rows.wireTellsSpec) own started (by kernel_rfl) func3
  (witness_row_atRef (enc:=enc) (C:=Tryd.checked) false { World.holding prog os ⟨#[],#[],[]⟩ with heap:=layAll (World.holding prog os ⟨#[],#[],[]⟩).heap } #[.agg #[.int i64 0,.int i64 0,.int i64 0,.int i64 0,.int i64 0,.bool false,.int i64 0,.int i64 0,.int i64 0,.int i64 0,.int i64 0,.int i64 0],.string ByteArray.empty] rfl (by kernel_rfl) (by kernel_rfl) (by kernel_rfl)
   (OpenSpec.preRow_of_cond 8 hx (by kernel_rfl) (fun k hk=>by cases hk;kernel_rfl) (by kernel_rfl) (laid_met os _))) ?_
 intro W base args ds gs before hval hW _ hcond _ hL _ _;exact contract H enc W base args ds gs before hval hW hL (hcond _ rfl)
theorem over:Rows.WireTellsUptoSaid:=
 OpenClaim.holds_of_cond 3 Tryd.f3 rfl rfl rfl rfl rfl rfl rfl ⟨rfl,rfl,rfl,rfl,rfl⟩ rfl rfl rfl rfl rfl (by kernel_rfl) func3 (by kernel_rfl)
  (of_decide_eq_true (by kernel_rfl)) (by unfold Func.isWrapper;first | (rw[if_pos (by decide +kernel)];kernel_rfl) | (rw[if_neg (by decide +kernel)];exact⟨rfl,rfl⟩))
  (fun os started H enc _ F=>by rw[OpenClaim.pre_eq_preRow];exact lifted os started H enc F)
end wireTells
end Go.Proofs.YtpfgaibfangciaaDoor
