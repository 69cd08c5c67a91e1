/- Contracts and facts on the way to DrivePlays, joined into one text: WireEnc, SlNum, DrivePgHear, DrivePg, TopoOf, RoundsOf, IntsOf, DrivePlaysRow. -/
import Derived.Test.YtpgjkmefomldfaaDoorDrivePlaysP5
namespace Go.Proofs.YtpgjkmefomldfaaDoor
set_option linter.unusedSimpArgs false
set_option linter.unusedVariables false
set_option maxHeartbeats 16000000
set_option maxRecDepth 100000
open Go.Proofs.Tryd
open IntKind (i64)
section
open Go.RowKit
theorem bit_same (b:Bool)(w:World):Calls prog 45 #[.bool b] w fun e w'=>e=.returned (.int i64 (btN b))∧w'=w:=by
 cases b
 ·go_enter func45,ntmps45;go_wp2;go_ret;exact⟨rfl,rfl⟩
 go_enter func45,ntmps45;go_wp2;go_ret;exact⟨rfl,rfl⟩
theorem keepC {V V':World}{b r:Nat}{x5:Bool}{x6 x7 x8 x9 x10 x11:Int}(hb:Below V.heap.size V V')(h:V.cell? ⟨b,5,none⟩=some (.bool x5)∧V.cell? ⟨r,0,none⟩=some (.int i64 x6)∧V.cell? ⟨r,1,none⟩=some (.int i64 x7)∧V.cell? ⟨r,2,none⟩=some (.int i64 x8)∧V.cell? ⟨r,3,none⟩=some (.int i64 x9)∧V.cell? ⟨r,4,none⟩=some (.int i64 x10)∧V.cell? ⟨r,5,none⟩=some (.int i64 x11)):V'.cell? ⟨b,5,none⟩=some (.bool x5)∧V'.cell? ⟨r,0,none⟩=some (.int i64 x6)∧V'.cell? ⟨r,1,none⟩=some (.int i64 x7)∧V'.cell? ⟨r,2,none⟩=some (.int i64 x8)∧V'.cell? ⟨r,3,none⟩=some (.int i64 x9)∧V'.cell? ⟨r,4,none⟩=some (.int i64 x10)∧V'.cell? ⟨r,5,none⟩=some (.int i64 x11):=by
 obtain⟨h1,h2,h3,h4,h5,h6,h7⟩:=h;exact⟨cell_later hb h1,cell_later hb h2,cell_later hb h3,cell_later hb h4,cell_later hb h5,cell_later hb h6,cell_later hb h7⟩
theorem keepD {V V':World}{b r R:Nat}{x5:Bool}{x6 x7 x8 x9 x10 x11:Int}(hg:V.grownBy V' (some R))(hb:some b≠some R)(hr:some r≠some R)(h:V.cell? ⟨b,5,none⟩=some (.bool x5)∧V.cell? ⟨r,0,none⟩=some (.int i64 x6)∧V.cell? ⟨r,1,none⟩=some (.int i64 x7)∧V.cell? ⟨r,2,none⟩=some (.int i64 x8)∧V.cell? ⟨r,3,none⟩=some (.int i64 x9)∧V.cell? ⟨r,4,none⟩=some (.int i64 x10)∧V.cell? ⟨r,5,none⟩=some (.int i64 x11)):V'.cell? ⟨b,5,none⟩=some (.bool x5)∧V'.cell? ⟨r,0,none⟩=some (.int i64 x6)∧V'.cell? ⟨r,1,none⟩=some (.int i64 x7)∧V'.cell? ⟨r,2,none⟩=some (.int i64 x8)∧V'.cell? ⟨r,3,none⟩=some (.int i64 x9)∧V'.cell? ⟨r,4,none⟩=some (.int i64 x10)∧V'.cell? ⟨r,5,none⟩=some (.int i64 x11):=by
 obtain⟨h1,h2,h3,h4,h5,h6,h7⟩:=h;exact⟨hg.cell h1 hb,hg.cell h2 hr,hg.cell h3 hr,hg.cell h4 hr,hg.cell h5 hr,hg.cell h6 hr,hg.cell h7 hr⟩
theorem wenc_no (x0 x1 x2 x3 x4:Int)(x5:Bool)(x6 x7 x8 x9 x10 x11:Int)(w:World)(h:mgN ⟨x0,x1,x2,x3,⟨x4,x5,⟨x6,x7,x8,x9,x10,x11⟩⟩⟩≠0):
 Calls prog 25 #[.agg #[.int i64 x0,.int i64 x1,.int i64 x2,.int i64 x3,.int i64 x4,.bool x5,.int i64 x6,.int i64 x7,.int i64 x8,.int i64 x9,.int i64 x10,.int i64 x11]] w fun e w'=>e=.returned (.tuple #[.string (enT ⟨x0,x1,x2,x3,⟨x4,x5,⟨x6,x7,x8,x9,x10,x11⟩⟩⟩),noV (mgN ⟨x0,x1,x2,x3,⟨x4,x5,⟨x6,x7,x8,x9,x10,x11⟩⟩⟩)])∧Below w.heap.size w w':=by
 have HB0:Hid (Below w.heap.size w (w.alloc (.cells #[.int i64 x0,.int i64 x1,.int i64 x2,.int i64 x3,.int i64 x4,.bool x5,.int i64 x6,.int i64 x7,.int i64 x8,.int i64 x9,.int i64 x10,.int i64 x11] 39))):=(bRQ _ _).alloc (nLQ _) _;obtain⟨N,hN⟩:∃N,N=mgN ⟨x0,x1,x2,x3,⟨x4,x5,⟨x6,x7,x8,x9,x10,x11⟩⟩⟩:=⟨_,rfl⟩;have HN:Hid (mgN ⟨x0,x1,x2,x3,⟨x4,x5,⟨x6,x7,x8,x9,x10,x11⟩⟩⟩=N):=hN.symm;have e:enT ⟨x0,x1,x2,x3,⟨x4,x5,⟨x6,x7,x8,x9,x10,x11⟩⟩⟩=ByteArray.empty:=by rw[enT,if_neg h]
 rw[e,←hN];rw[←hN] at h;clear hN e;go_enter func25,ntmps25
 go_wp2_with fail
 refine (mcheck_any x0 x1 x2 x3 x4 x5 x6 x7 x8 x9 x10 x11 _).mono ?_;rintro e w1 ⟨rfl,hb1⟩;have HB1:Hid (Below w.heap.size w w1):=HB0.out.trans (hb1.mono HB0.out.size);rw[HN.out,no_ne h];clear hb1;go_wp2;refine bodyPost_ret (v:=.tuple #[.string ⟨#[]⟩,.iface 63 (.int i64 N)]) (by simp[results,results25,go_sem]) rfl ⟨by rw[no_ne h];rfl,HB1.out⟩
theorem wenc_yes (x0 x1 x2 x3 x4:Int)(x5:Bool)(x6 x7 x8 x9 x10 x11:Int)(w:World)(h:mgN ⟨x0,x1,x2,x3,⟨x4,x5,⟨x6,x7,x8,x9,x10,x11⟩⟩⟩=0):
 Calls prog 25 #[.agg #[.int i64 x0,.int i64 x1,.int i64 x2,.int i64 x3,.int i64 x4,.bool x5,.int i64 x6,.int i64 x7,.int i64 x8,.int i64 x9,.int i64 x10,.int i64 x11]] w fun e w'=>e=.returned (.tuple #[.string (enT ⟨x0,x1,x2,x3,⟨x4,x5,⟨x6,x7,x8,x9,x10,x11⟩⟩⟩),noV (mgN ⟨x0,x1,x2,x3,⟨x4,x5,⟨x6,x7,x8,x9,x10,x11⟩⟩⟩)])∧Below w.heap.size w w':=by
 have HB0:Hid (Below w.heap.size w (w.alloc (.cells #[.int i64 x0,.int i64 x1,.int i64 x2,.int i64 x3,.int i64 x4,.bool x5,.int i64 x6,.int i64 x7,.int i64 x8,.int i64 x9,.int i64 x10,.int i64 x11] 39))):=(bRQ _ _).alloc (nLQ _) _;have HC0:Hid (MgC (w.alloc (.cells #[.int i64 x0,.int i64 x1,.int i64 x2,.int i64 x3,.int i64 x4,.bool x5,.int i64 x6,.int i64 x7,.int i64 x8,.int i64 x9,.int i64 x10,.int i64 x11] 39)) w.heap.size x0 x1 x2 x3 x4 x5 x6 x7 x8 x9 x10 x11):=mgc_new w x0 x1 x2 x3 x4 x5 x6 x7 x8 x9 x10 x11 _;have HN:Hid (mgN ⟨x0,x1,x2,x3,⟨x4,x5,⟨x6,x7,x8,x9,x10,x11⟩⟩⟩=0):=h;have HBY:Hid (byL (mgL ⟨x0,x1,x2,x3,⟨x4,x5,⟨x6,x7,x8,x9,x10,x11⟩⟩⟩)∧(mgL ⟨x0,x1,x2,x3,⟨x4,x5,⟨x6,x7,x8,x9,x10,x11⟩⟩⟩).length≤11∧4≤(mgL ⟨x0,x1,x2,x3,⟨x4,x5,⟨x6,x7,x8,x9,x10,x11⟩⟩⟩).length):=mg_by h;have e:enT ⟨x0,x1,x2,x3,⟨x4,x5,⟨x6,x7,x8,x9,x10,x11⟩⟩⟩=nmT (mgL ⟨x0,x1,x2,x3,⟨x4,x5,⟨x6,x7,x8,x9,x10,x11⟩⟩⟩):=by rw[enT,if_pos h];rfl
 have e2:noV (mgN ⟨x0,x1,x2,x3,⟨x4,x5,⟨x6,x7,x8,x9,x10,x11⟩⟩⟩)=.nilIface:=no_ok h;rw[e,e2];clear e e2 h;obtain⟨j0,hj,hy0,hy1,hy2⟩:=info_parts infoNum;have HJ:Hid (Tryd.prog.info? 3=some j0∧j0.zero=some (.int i64 0)∧j0.size=1∧j0.bytes=8):=⟨hj,hy0,hy1,hy2⟩;obtain⟨i0,hi,hz0,hz1,hz2⟩:=info_parts infoByte;have HI:Hid (Tryd.prog.info? 5=some i0∧i0.zero=some (.int .u8 0)∧i0.size=1∧i0.bytes=1):=⟨hi,hz0,hz1,hz2⟩;clear hj hy0 hy1 hy2 hi hz0 hz1 hz2;have HL1:Hid (x0=1→mgL ⟨x0,x1,x2,x3,⟨x4,x5,⟨x6,x7,x8,x9,x10,x11⟩⟩⟩=[x0,x1,x2,x3]++[btN x5,x6,x7,x8,x9,x10,x11]):=fun h=>by rw[mgL,if_pos h]
 have HL2:Hid (x0≠1→mgL ⟨x0,x1,x2,x3,⟨x4,x5,⟨x6,x7,x8,x9,x10,x11⟩⟩⟩=[x0,x1,x2,x3]):=fun h=>by rw[mgL,if_neg h];rfl
 obtain⟨L,hL⟩:∃L,L=mgL ⟨x0,x1,x2,x3,⟨x4,x5,⟨x6,x7,x8,x9,x10,x11⟩⟩⟩:=⟨_,rfl⟩;rw[←hL] at HBY HL1 HL2 ⊢;clear hL;go_enter func25,ntmps25
 go_wp2_with fail
 refine (mcheck_any x0 x1 x2 x3 x4 x5 x6 x7 x8 x9 x10 x11 _).mono ?_;rintro e w1 ⟨rfl,hb1⟩;have HB1:Hid (Below w.heap.size w w1):=HB0.out.trans (hb1.mono HB0.out.size);obtain⟨c0,c1,c2,c3,c4,c5,c6,c7,c8,c9,c10,c11⟩:=HC0.out.later hb1;rw[HN.out,no_ok rfl];have hlt1:w.heap.size<w1.heap.size:=bLQ _ _ c0;clear hb1
 go_upto_if 27 with fail
 go_cut [5] from 25 (fun v w'=>∃(g n c:Nat),v=.slice (some ⟨g,0,none⟩) n c∧L.length=n∧GAt inE w' g 0 L∧Below w.heap.size w w')
 case first =>
  obtain⟨w2,hw2⟩:∃V,V=w1.alloc (.cells #[.int i64 x0,.int i64 x1,.int i64 x2,.int i64 x3] 3):=⟨_,rfl⟩;have HG2:Hid (GAt inE w2 w1.heap.size 0 [x0,x1,x2,x3]):=by rw[hw2];exact in_new w1 [x0,x1,x2,x3] 3 [.int i64 x0,.int i64 x1,.int i64 x2,.int i64 x3] rfl
  have HB2:Hid (Below w.heap.size w w2):=by rw[hw2];exact HB1.out.alloc HB1.out.size _
  have hb12:Below w1.heap.size w1 w2:=by rw[hw2];exact (bRQ _ _).alloc (nLQ _) _
  have hsz2:w2.heap.size=w1.heap.size+1:=by rw[hw2];simp
  have HS2:Hid (w2.heap.size=w1.heap.size+1):=hsz2;have HO2:Hid (w2.ownsRow w1.heap.size 3 inE.n (.slice (some ⟨w1.heap.size,0,none⟩) 4 4) [x0,x1,x2,x3].length (cellsG inE [x0,x1,x2,x3])):=by
   rw[hw2];exact World.ownsRow_lit (base:=w1.heap.size) (e:=3) (size:=1) w1 #[.int i64 x0,.int i64 x1,.int i64 x2,.int i64 x3] 4 (nLQ _) (by decide) rfl
  rw[←hw2];by_cases hk:x0=1
  ·have hL:=HL1.out hk;subst hk;have d0:=cell_later hb12 c0;have d5:=cell_later hb12 c5;have d6:=cell_later hb12 c6;have d7:=cell_later hb12 c7;have d8:=cell_later hb12 c8;have d9:=cell_later hb12 c9;have d10:=cell_later hb12 c10;have d11:=cell_later hb12 c11;have HLL:Hid (L=[1,x1,x2,x3]++[btN x5,x6,x7,x8,x9,x10,x11]):=hL;clear c0 c1 c2 c3 c4 c5 c6 c7 c8 c9 c10 c11 hL hw2 hb12 hsz2;go_upto_region 7 with fail;obtain⟨w3,hw3⟩:∃V,V=w2.alloc (.cells #[.int i64 x6,.int i64 x7,.int i64 x8,.int i64 x9,.int i64 x10,.int i64 x11] 35):=⟨_,rfl⟩;rw[←hw3];have hb23:Below w2.heap.size w2 w3:=by rw[hw3];exact (bRQ _ _).alloc (nLQ _) _
   have hS3:w3.heap.size=w2.heap.size+1:=by rw[hw3];simp
   have HS3:Hid (w3.heap.size=w2.heap.size+1):=hS3;have f0:w3.cell? ⟨w2.heap.size,0,none⟩=some (.int i64 x6):=by rw[hw3];simp
   have f1:w3.cell? ⟨w2.heap.size,1,none⟩=some (.int i64 x7):=by rw[hw3];simp
   have f2:w3.cell? ⟨w2.heap.size,2,none⟩=some (.int i64 x8):=by rw[hw3];simp
   have f3:w3.cell? ⟨w2.heap.size,3,none⟩=some (.int i64 x9):=by rw[hw3];simp
   have f4:w3.cell? ⟨w2.heap.size,4,none⟩=some (.int i64 x10):=by rw[hw3];simp
   have f5:w3.cell? ⟨w2.heap.size,5,none⟩=some (.int i64 x11):=by rw[hw3];simp
   have hd5:=cell_later hb23 d5;have HO3:Hid (∀V,Below w3.heap.size w3 V→V.ownsRow w1.heap.size 3 inE.n (.slice (some ⟨w1.heap.size,0,none⟩) 4 4) [1,x1,x2,x3].length (cellsG inE [1,x1,x2,x3])):=fun V hV=>own_below (own_below HO2.out hb23) hV
   have HB3:Hid (Below w.heap.size w w3):=HB2.out.trans (hb23.mono HB2.out.size);have hgl:w2.heap.size<w3.heap.size:=by omega
   have hgl2:w.heap.size<w3.heap.size:=by have:=HS2.out;omega
   have HK:Hid (∀V,Below w3.heap.size w3 V→V.cell? ⟨w.heap.size,5,none⟩=some (.bool x5)∧V.cell? ⟨w2.heap.size,0,none⟩=some (.int i64 x6)∧V.cell? ⟨w2.heap.size,1,none⟩=some (.int i64 x7)∧V.cell? ⟨w2.heap.size,2,none⟩=some (.int i64 x8)∧V.cell? ⟨w2.heap.size,3,none⟩=some (.int i64 x9)∧V.cell? ⟨w2.heap.size,4,none⟩=some (.int i64 x10)∧V.cell? ⟨w2.heap.size,5,none⟩=some (.int i64 x11)):=fun V hV=>⟨cell_later hV hd5,cell_later hV f0,cell_later hV f1,cell_later hV f2,cell_later hV f3,cell_later hV f4,cell_later hV f5⟩
   have HKR:Hid (w3.cell? ⟨w.heap.size,5,none⟩=some (.bool x5)∧w3.cell? ⟨w2.heap.size,0,none⟩=some (.int i64 x6)∧w3.cell? ⟨w2.heap.size,1,none⟩=some (.int i64 x7)∧w3.cell? ⟨w2.heap.size,2,none⟩=some (.int i64 x8)∧w3.cell? ⟨w2.heap.size,3,none⟩=some (.int i64 x9)∧w3.cell? ⟨w2.heap.size,4,none⟩=some (.int i64 x10)∧w3.cell? ⟨w2.heap.size,5,none⟩=some (.int i64 x11)):=HK.out w3 (bRQ _ _);have HNE:Hid (some w.heap.size≠some w1.heap.size∧some w2.heap.size≠some w1.heap.size):=by
    have:=HS2.out;exact⟨fun h=>by have:=Option.some.inj h;omega,fun h=>by have:=Option.some.inj h;omega⟩
   have HLN1:Hid ([1,x1,x2,x3].length+7≤maxLen):=by show _≤_;unfold maxLen;simp
   have HLN2:Hid (([1,x1,x2,x3].length+7)*8≤140737488355328):=by show _≤_;simp
   have HSZ:Hid (∀V,Below w3.heap.size w3 V→w1.heap.size≤V.heap.size):=fun V hV=>by have:=hV.size;have:=HS3.out;have:=HS2.out;omega
   have HFIN:Hid (∀V V2,Below w3.heap.size w3 V→V.grownBy V2 (some w1.heap.size)→Below w.heap.size w V2):=fun V V2 hV hg=>by
    have h1:Below w.heap.size w V:=HB3.out.trans (hV.mono HB3.out.size);exact h1.grown hg h1.size (fun k hk=>by cases hk;exact Nat.le_of_lt hlt1)
   clear hw3 hb23 d0 d5 d6 d7 d8 d9 d10 d11 hS3
   go_region_held3 (fun V=>V.cell? ⟨w.heap.size,5,none⟩=some (.bool x5)∧V.cell? ⟨w2.heap.size,0,none⟩=some (.int i64 x6)∧V.cell? ⟨w2.heap.size,1,none⟩=some (.int i64 x7)∧V.cell? ⟨w2.heap.size,2,none⟩=some (.int i64 x8)∧V.cell? ⟨w2.heap.size,3,none⟩=some (.int i64 x9)∧V.cell? ⟨w2.heap.size,4,none⟩=some (.int i64 x10)∧V.cell? ⟨w2.heap.size,5,none⟩=some (.int i64 x11))
    (first | assumption | exact HKR.out | exact keepC (Below.drew (bRQ _ _)) (by assumption) | exact keepC (Below.alloc (bRQ _ _) (nLQ _) _) (by assumption) | exact keepD (by assumption) HNE.out.1 HNE.out.2 (by assumption))
    (first
     | (go_at_call 45;refine (bit_same x5 _).mono ?_;rintro e w' ⟨rfl,hb⟩;have hb':=hb.symm;subst hb';clear hb)
     | (refine step_append_lst (E:=inE) _ (by rfl) _ _ 40 3 (by rfl) underlying40 j0 _ 8 HJ.out.1 HJ.out.2.1 HJ.out.2.2.1 HJ.out.2.2.2 rfl w1.heap.size (.slice (some ⟨w1.heap.size,0,none⟩) 4 4) (by rfl) [1,x1,x2,x3] (HO3.out _ (by first | exact (bRQ _ _).drew.alloc (nLQ _) _ | exact ((bRQ _ _).alloc (nLQ _) _).drew | exact (bRQ _ _).alloc (nLQ _) _)) _ 0 7 7 (by rfl) [btN x5,x6,x7,x8,x9,x10,x11] (by rfl) (in_new _ [btN x5,x6,x7,x8,x9,x10,x11] 3 [.int i64 (btN x5),.int i64 x6,.int i64 x7,.int i64 x8,.int i64 x9,.int i64 x10,.int i64 x11] rfl) HLN1.out HLN2.out (HSZ.out _ (by first | exact (bRQ _ _).drew.alloc (nLQ _) _ | exact ((bRQ _ _).alloc (nLQ _) _).drew | exact (bRQ _ _).alloc (nLQ _) _)) ?_;intro v' w5 ho5 hg5;have HBF:Hid (Below w.heap.size w w5):=HFIN.out _ _ (by first | exact (bRQ _ _).drew.alloc (nLQ _) _ | exact ((bRQ _ _).alloc (nLQ _) _).drew | exact (bRQ _ _).alloc (nLQ _) _) hg5))
   obtain⟨gv,cv,hv'⟩:∃g c,v'=.slice (some ⟨g,0,none⟩) 11 c:=by
    rcases ho5.2 with ⟨_,h0⟩ | ⟨g,cap,cur,h1,_⟩
    ·cases h0
    exact⟨g,cap,h1⟩
   subst hv';have HG5:Hid (GS inE w5 (.slice (some ⟨gv,0,none⟩) 11 cv) ([1,x1,x2,x3]++[btN x5,x6,x7,x8,x9,x10,x11])):=own_GS ho5;clear ho5 hg5
   go_wp2_with fail
   go_meet
   refine⟨gv,11,cv,rfl,by rw[HLL.out];rfl,?_,HBF.out⟩;rw[HLL.out]
   rcases HG5.out with ⟨_,_,_,h⟩ | ⟨g,o,cap,h,_,_,h4⟩
   ·cases h
   cases h;exact h4
  have hL:=HL2.out hk;have k1:(x0==1)=false:=by simpa using hk
  have d0:=cell_later hb12 c0;clear c0 c1 c2 c3 c4 c5 c6 c7 c8 c9 c10 c11 hw2 hb12 hsz2
  go_wp2_with fail
  go_meet
  exact⟨w1.heap.size,4,4,rfl,by rw[hL];rfl,by rw[hL];exact HG2.out,HB2.out⟩
 case rest =>
  obtain⟨g,n,c,rfl,hn,hG,hB8⟩:=hcut;obtain⟨w8,hw8⟩:∃V,V=wc:=⟨_,rfl⟩;subst hw8;clear HC0 HB0 HB1 HL1 HL2 hlt1 c0 c1 c2 c3 c4 c5 c6 c7 c8 c9 c10 c11;have HB8:Hid (Below w.heap.size w w8):=hB8;have HGA:Hid (GAt inE w8 g 0 L):=hG;have HLN:Hid (L.length=n):=hn;have hn11:n≤11:=by have:=HBY.out.2.1;omega
  have hn4:4≤n:=by have:=HBY.out.2.2;omega
  clear hB8 hG hn;obtain⟨w9,hmk,hown0,hgr⟩:=run_make_own (P:=prog) w8 w8.heap.size 86 5 i0 (.int .u8 0) 1 underlying86 HI.out.1 HI.out.2.1 HI.out.2.2.1 .i64 .i64 12 (by rw[HI.out.2.2.2];decide) (by decide) (nLQ _);have hmk2:(Instr.makeSlice 86 (.int i64 0) (.int i64 12)).run prog w8=.ok (.slice (some ⟨w8.heap.size,0,none⟩) 0 12) w9:=hmk;have HO9:Hid (w9.ownsRow w8.heap.size 5 u8E.n (.slice (some ⟨w8.heap.size,0,none⟩) 0 12) (L.take 0).length (cellsG u8E (L.take 0))):=hown0;have HB9:Hid (Below w8.heap.size w8 w9):=below_grown hgr (nLQ _) (fun k hk=>by cases hk);clear hmk hown0 hgr;go_wp2
  go_loopw [7,8,55] (fun v sm ix wr=>∃k:Nat,k≤n∧ix=.int i64 (k:Int)∧sm=.int i64 (smL (L.take k))∧wr.ownsRow w8.heap.size 5 u8E.n v (L.take k).length (cellsG u8E (L.take k))∧Below w8.heap.size w8 wr) (fun _ _ ix _=>n-(intOf ix).toNat)
  case atStart=>exact⟨0,Nat.zero_le _,rfl,rfl,HO9.out,HB9.out⟩
  case round =>
   obtain⟨k,hk,rfl,rfl,hown,hB⟩:=hrel;obtain⟨T,hT⟩:∃T,T=L.take k:=⟨_,rfl⟩;have HT:Hid (L.take k=T):=hT.symm;have HOW:Hid (wr.ownsRow w8.heap.size 5 u8E.n u7 T.length (cellsG u8E T)):=by rw[hT];exact hown
   have HBR:Hid (Below w8.heap.size w8 wr):=hB;have hsz:w8.heap.size≤wr.heap.size:=hB.size;have HSB:Hid (0≤smL (L.take k)∧smL (L.take k)≤2200):=by
    have h1:=by_sum (by_take HBY.out.1 k);have h2:(L.take k).length≤11:=by simp;omega
    exact⟨h1.1,by omega⟩
   obtain⟨S,hS⟩:∃S,S=smL (L.take k):=⟨_,rfl⟩;have HS:Hid (smL (L.take k)=S):=hS.symm;rw[←hS] at HSB ⊢;have HLT:Hid (T.length≤11):=by show _≤_;rw[hT];simp;omega
   clear hown hS hT;by_cases hlt:k<n
   ·obtain⟨x,hkl,hx,q0⟩:=in_at (HGA.out.later hB) HLN.out hlt;rw[Nat.zero_add] at q0;have hxb:=HBY.out.1 L[k] (List.getElem_mem hkl);rw[hx] at hxb;have hu:=u8_wrap hxb;have HS2:Hid (smL (L.take (k+1))=S+x):=by show _=_;rw[sm_take hkl,hx,HS.out]
    have HT2:Hid (L.take (k+1)=T++[x]):=by show _=_;rw[take_g hkl,hx,HT.out]
    have hSw:IntKind.i64.wrap (S+x)=S+x:=by have:=HSB.out;rw[IntKind.wrap_i64];omega
    have hk0:(0:Int)≤(k:Int):=by omega
    have hk1:(k:Int)<(n:Int):=by omega
    clear hB hkl hx hxb
    go_wp2_with (at_builtin;refine wpList_append_blk (E:=u8E) _ rfl _ _ 86 5 rfl underlying86 i0 _ 1 HI.out.1 HI.out.2.1 HI.out.2.2.1 HI.out.2.2.2 rfl w8.heap.size _ rfl T (HOW.out.alloc _) wr.heap.size 0 1 rfl x (vat_new wr [.int .u8 x] _) ?c1 ?c2 ?c3 ?_)
    case c1=>have:=HLT.out;unfold maxLen;omega
    case c2=>have:=HLT.out;omega
    case c3=>first | (simp;omega) | omega
    intro v' w3 hown3 hgrow _;have HB3:Hid (Below w8.heap.size w8 w3):=(HBR.out.alloc hsz _).grown hgrow (by simp;omega) (fun g hg=>(HOW.out.lt g hg).1);have HO3:Hid (w3.ownsRow w8.heap.size 5 u8E.n v' (L.take (k+1)).length (cellsG u8E (L.take (k+1)))):=by
     show w3.ownsRow w8.heap.size 5 u8E.n v' (L.take (k+1)).length (cellsG u8E (L.take (k+1)));rw[HT2.out,List.length_append];exact hown3
    clear hgrow hown3;go_wp2;go_roundw
    case rel=>exact⟨k+1,by omega,by go_num,by rw[HS2.out],HO3.out,HB3.out⟩
    case measure=>simp[intOf];omega
   have hkn:k=n:=by omega
   have HLE:Hid (T=L):=by show _=_;rw[←HT.out,hkn,←HLN.out];exact List.take_length
   have HRR:Hid (∃R,R=smL L % 251∧S.tmod 251=R∧IntKind.i64.wrap R=R∧IntKind.u8.wrap R=R):=by
    have h1:=HSB.out;have h2:smL L=S:=by rw[←HS.out,HT.out,HLE.out]
    refine⟨smL L % 251,rfl,?_,?_,?_⟩
    ·rw[h2,Int.tmod_eq_emod_of_nonneg h1.1]
    ·rw[IntKind.wrap_i64];omega
    rw[IntKind.wrap_u8];omega
   obtain⟨R,hR,hR1,hR2,hR3⟩:=HRR.out;clear HRR;have HRR:Hid (nmT L=strOfNums (L++[R])):=by show _=_;rw[nmT,hR]
   have hk1:¬(k:Int)<(n:Int):=by omega
   clear hR hB hkn
   go_wp2_with (at_builtin;refine wpList_append_blk (E:=u8E) _ rfl _ _ 86 5 rfl underlying86 i0 _ 1 HI.out.1 HI.out.2.1 HI.out.2.2.1 HI.out.2.2.2 rfl w8.heap.size _ rfl T (HOW.out.alloc _) wr.heap.size 0 1 rfl R (vat_new wr [.int .u8 R] _) ?c1 ?c2 ?c3 ?_)
   case c1=>have:=HLT.out;unfold maxLen;omega
   case c2=>have:=HLT.out;omega
   case c3=>first | (simp;omega) | omega
   intro v' w3 hown3 hgrow _;have HB3:Hid (Below w8.heap.size w8 w3):=(HBR.out.alloc hsz _).grown hgrow (by simp;omega) (fun g hg=>(HOW.out.lt g hg).1);have HBF:Hid (Below w.heap.size w w3):=HB8.out.trans (HB3.out.mono HB8.out.size);rw[HLE.out] at hown3;have hown4:w3.ownsRow w8.heap.size 5 u8E.n v' (L++[R]).length (cellsG u8E (L++[R])):=by rw[List.length_append];exact hown3
   obtain⟨n9,hn9⟩:∃n9,(L++[R]).length=n9:=⟨_,rfl⟩;obtain⟨gv,cv,rfl,hcv⟩:=conv_own hown4 hn9 (by rw[←hn9];simp);clear hn9;clear hown4;clear hgrow hown3;go_wp2;refine bodyPost_ret (v:=.tuple #[.string (strOfNums (L++[R])),.nilIface]) (by simp[results,results25,go_sem]) rfl ⟨by rw[HRR.out],HBF.out⟩
theorem num_idx (ao:AdQ)(n cap:Nat)(h:Int)(L:List Int)(w:World)(hs:GS inE w (.slice ao n cap) L):
 Calls prog 26 #[.slice ao n cap,.int i64 h] w fun e w'=>e=.returned (.int i64 (ixG (fun x=>x==h) L))∧Below w.heap.size w w':=by
 obtain⟨_,_,_,e1,hn,hn2,_,ha⟩:=hs.form;cases e1;have HN:Hid (L.length=n):=hn;have HA:Hid (0<n→∃g o,ao=some ⟨g,o,none⟩∧GAt inE w g o L∧cap≤maxLen):=ha;unfold maxLen at hn2;clear hn ha hs;go_enter func26,ntmps26;go_wp2
 go_loopw [8] (fun i wr=>∃k:Nat,k≤n∧i=.int i64 k∧(L.take k).any (fun x=>x==h)=false∧Below w.heap.size w wr)
  (fun i _=>n-(intOf i).toNat)
 case atStart=>exact⟨0,by omega,rfl,by simp,bRQ _ _⟩
 case round =>
  obtain⟨k,hk,rfl,hno,hB⟩:=hrel;have HB:Hid (Below w.heap.size w wr):=hB;have HNO:Hid ((L.take k).any (fun x=>x==h)=false):=hno;clear hno;by_cases hlt:k<n
  ·obtain⟨g,o,hao,hc,_⟩:=HA.out (by omega);subst hao;obtain⟨x,hkl,hL,q0⟩:=in_at (hc.later hB) HN.out hlt;have HL:Hid (L[k]=x):=hL;clear hB hL hc;by_cases ho:x=h
   ·subst ho;go_wp2;go_ret;exact⟨by rw[ixG_hit hkl HNO.out (by rw[HL.out];simp)];rfl,HB.out⟩
   have ho2:h≠x:=Ne.symm ho;go_wp2;go_roundw
   case rel=>exact⟨k+1,by omega,by go_num,any_nextG hkl HNO.out (by rw[HL.out];simpa using ho),HB.out⟩
   case measure=>simp[intOf];omega
  obtain rfl:k=n:=by omega
  go_wp2;go_ret;exact⟨by have:=HNO.out;rw[←HN.out,List.take_length] at this;rw[ixG_no this];rfl,HB.out⟩
theorem dwenc_any (x0 x1 x2 x3 x4:Int)(x5:Bool)(x6 x7 x8 x9 x10 x11:Int)(w:World):
 Calls prog 25 #[.agg #[.int i64 x0,.int i64 x1,.int i64 x2,.int i64 x3,.int i64 x4,.bool x5,.int i64 x6,.int i64 x7,.int i64 x8,.int i64 x9,.int i64 x10,.int i64 x11]] w fun e w'=>e=.returned (.tuple #[.string (enT ⟨x0,x1,x2,x3,⟨x4,x5,⟨x6,x7,x8,x9,x10,x11⟩⟩⟩),noV (mgN ⟨x0,x1,x2,x3,⟨x4,x5,⟨x6,x7,x8,x9,x10,x11⟩⟩⟩)])∧Below w.heap.size w w':=by
 by_cases h:mgN ⟨x0,x1,x2,x3,⟨x4,x5,⟨x6,x7,x8,x9,x10,x11⟩⟩⟩=0
 ·exact wenc_yes x0 x1 x2 x3 x4 x5 x6 x7 x8 x9 x10 x11 w h
 exact wenc_no x0 x1 x2 x3 x4 x5 x6 x7 x8 x9 x10 x11 w h
theorem pdvh_same {w w':World}{p B0:Nat}{O:Nat→Prop}{D:DrT}{E:Int}(h:Pd w p B0 O D)(hb:Below w.heap.size w w'):DvH Pd noV w p B0 O D E (.returned (noV E)) w':=
 ⟨rfl,O,h.kb (Kb.of_below hb fun b hl _=>hl),fun b h=>.inl h,Kb.of_below hb fun b hl _=>hl⟩
theorem wt_less {l:List Int}{x:Int}(hn:l.Nodup){i:Nat}(hi:i<l.length)(hx:l[i]=x):wtI l [x]=l.take i++l.drop (i+1):=by
 have e:l=l.take i++x :: l.drop (i+1):=by
  rw[←hx,←List.drop_eq_getElem_cons hi,List.take_append_drop]
 have h1:∀y∈l.take i,y≠x:=by
  intro y hy e2;rw[e] at hn;exact (List.nodup_append.1 hn).2.2 y hy x (by simp) e2
 have h2:∀y∈l.drop (i+1),y≠x:=by
  intro y hy e2;rw[e] at hn;have h3:=(List.nodup_append.1 hn).2.1;rw[e2] at hy;exact (List.nodup_cons.1 h3).1 hy
 have hf:∀{m:List Int},(∀y∈m,y≠x)→m.filter (fun a => !([x]:List Int).any fun y=>y==a)=m:=by
  intro m hm;refine List.filter_eq_self.2 fun y hy=>?_
  have:x≠y:=Ne.symm (hm y hy);simp[this]
 have e3:wtI l [x]=wtI (l.take i++x :: l.drop (i+1)) [x]:=by rw[←e]
 rw[e3];unfold wtI;rw[List.filter_append,List.filter_cons];have hxx:(!([x]:List Int).any fun y=>y==x)=false:=by simp
 rw[hxx,if_neg (by decide)];rw[hf h1,hf h2]
theorem in_ix {D:DrT}{x:Int}(h:inD D x=true):∃(i:Nat) (hi:i<D.l.length),D.l[i]=x∧ixG (fun y=>y==x) D.l=(i:Int):=by
 have h1:D.l.any (fun y=>y==x)=true:=h;have h2:D.l.findIdx (fun y=>y==x)<D.l.length:=List.findIdx_lt_length.2 (by simpa using h1);have h3:(D.l[D.l.findIdx (fun y=>y==x)]==x)=true:=List.findIdx_getElem (w:=h2);refine⟨_,h2,by simpa using h3,ixG_hit h2 ?_ h3⟩;rw[List.any_eq_false];intro a ha;rw[List.mem_take_iff_getElem] at ha;obtain⟨i,hi,rfl⟩:=ha;have:=List.not_of_lt_findIdx (p:=fun y=>y==x) (xs:=D.l) (i:=i) (by omega);simpa using this
theorem pdhear_any {p B0:Nat}{O:Nat→Prop}{D:DrT}{K:Nat}(x0 x1 x2 x3 x4:Int)(x5:Bool)(x6 x7 x8 x9 x10 x11:Int)(w:World)(h:Pd w p B0 O D)(hok:DrOK D K):
 Calls prog 9 #[.pointer (some ⟨p,0,none⟩),.agg #[.int i64 x0,.int i64 x1,.int i64 x2,.int i64 x3,.int i64 x4,.bool x5,.int i64 x6,.int i64 x7,.int i64 x8,.int i64 x9,.int i64 x10,.int i64 x11]] w fun e w' =>
  DvH Pd noV w p B0 O (dhS D ⟨x0,x1,x2,x3,⟨x4,x5,⟨x6,x7,x8,x9,x10,x11⟩⟩⟩) (dhN D ⟨x0,x1,x2,x3,⟨x4,x5,⟨x6,x7,x8,x9,x10,x11⟩⟩⟩) e w':=by
 have HP:Hid (Pd w p B0 O D):=h;obtain⟨xr,vd,t,B1,M,h,htw⟩:=h;obtain⟨al,cl,e0⟩:=own_form h.l;obtain⟨nl,hnl⟩:∃nl,nl=D.l.length:=⟨_,rfl⟩;rw[←hnl] at e0;subst e0;have HH:Hid (PdC w p B0 O D xr (.slice al nl cl) t B1 M):=h;have HTW:Hid (TwOK D t):=htw;have HNL:Hid (D.l.length=nl):=hnl.symm;obtain⟨m,hm⟩:∃m:Mg,m=⟨x0,x1,x2,x3,⟨x4,x5,⟨x6,x7,x8,x9,x10,x11⟩⟩⟩:=⟨_,rfl⟩;have HM:Hid (m.k=x0∧m.s=x1∧m.r=x2):=by rw[hm];exact⟨rfl,rfl,rfl⟩
 obtain⟨wb,hwb⟩:∃V,V=w.alloc (.cells #[.int i64 x0,.int i64 x1,.int i64 x2,.int i64 x3,.int i64 x4,.bool x5,.int i64 x6,.int i64 x7,.int i64 x8,.int i64 x9,.int i64 x10,.int i64 x11] 39):=⟨_,rfl⟩;have HWB:Hid (w.alloc (.cells #[.int i64 x0,.int i64 x1,.int i64 x2,.int i64 x3,.int i64 x4,.bool x5,.int i64 x6,.int i64 x7,.int i64 x8,.int i64 x9,.int i64 x10,.int i64 x11] 39)=wb):=hwb.symm;have hbb:Below w.heap.size w wb:=by rw[hwb];exact (bRQ _ _).alloc (nLQ _) _
 have hmc:=msg_cells (w:=wb) (g:=w.heap.size) (o:=0) (x0:=x0) (x1:=x1) (x2:=x2) (x3:=x3) (x4:=x4) (x5:=x5) (x6:=x6) (x7:=x7) (x8:=x8) (x9:=x9) (x10:=x10) (x11:=x11) (by rw[hwb];exact msg_new w x0 x1 x2 x3 x4 x5 x6 x7 x8 x9 x10 x11 _);simp only[Nat.zero_add] at hmc;have HBB:Hid (Below w.heap.size w wb):=hbb;obtain⟨q0,q1,q2,q3,q4,q5,q6,q7,q8,q9,q10,q11⟩:=hmc;have HQ:Hid (∀V,Below wb.heap.size wb V→V.cell? ⟨w.heap.size,0,none⟩=some (.int i64 x0)∧V.cell? ⟨w.heap.size,1,none⟩=some (.int i64 x1)∧V.cell? ⟨w.heap.size,2,none⟩=some (.int i64 x2)):=fun V hV=>⟨cell_later hV q0,cell_later hV q1,cell_later hV q2⟩
 obtain⟨Z,hZ⟩:∃Z,Z=mgN m:=⟨_,rfl⟩;have HZ:Hid (mgN m=Z):=hZ.symm;have HOK:Hid (DrOK D K):=hok;have HR3:Hid (¬(Z=0∧x0=3)→∀w',Below w.heap.size w w'→DvH Pd noV w p B0 O (dhS D m) (dhN D m) (.returned (.iface 63 (.int i64 3))) w'):=fun hn w' hb=>by
  have e:dhN D m=3:=by
   rw[dhN,if_neg];rintro⟨h1,h2⟩;exact hn ⟨by rw[hZ];exact h1,by rw[←HM.out.1];exact h2⟩
  rw[dhS,e,if_neg (by omega),←no_ne (n:=3) (by omega)];exact pdvh_same HP.out hb
 have HR6:Hid (¬(x2=(D.s:Int)-1∧inD D x1=true)→Z=0→x0=3→∀w',Below w.heap.size w w'→DvH Pd noV w p B0 O (dhS D m) (dhN D m) (.returned (.iface 63 (.int i64 6))) w'):=fun hn hz h3 w' hb=>by
  have e:dhN D m=6:=by
   rw[dhN,if_pos ⟨by rw[←hZ];exact hz,by rw[HM.out.1];exact h3⟩,if_neg];rw[HM.out.2.1,HM.out.2.2];exact hn
  rw[dhS,e,if_neg (by omega),←no_ne (n:=6) (by omega)];exact pdvh_same HP.out hb
 have hz':mgN ⟨x0,x1,x2,x3,⟨x4,x5,⟨x6,x7,x8,x9,x10,x11⟩⟩⟩=Z:=by rw[hZ,hm]
 have HZ2:Hid (mgN ⟨x0,x1,x2,x3,⟨x4,x5,⟨x6,x7,x8,x9,x10,x11⟩⟩⟩=Z):=hz';rw[←hm];obtain⟨Tx,hTx⟩:∃Tx,Tx=enT ⟨x0,x1,x2,x3,⟨x4,x5,⟨x6,x7,x8,x9,x10,x11⟩⟩⟩:=⟨_,rfl⟩;have HTx:Hid (enT ⟨x0,x1,x2,x3,⟨x4,x5,⟨x6,x7,x8,x9,x10,x11⟩⟩⟩=Tx):=hTx.symm;clear h hok hm hwb hbb hZ hz' hnl htw hTx;go_enter func9,ntmps9;go_upto_region 1 with fail;rw[HWB.out];clear HWB
 go_wp2_with fail
 refine (dwenc_any x0 x1 x2 x3 x4 x5 x6 x7 x8 x9 x10 x11 _).mono ?_;rintro e w1 ⟨rfl,hb1⟩;rw[HZ2.out,HTx.out];have HB1:Hid (Below wb.heap.size wb w1):=hb1;have HBW:Hid (Below w.heap.size w w1):=HBB.out.trans (hb1.mono HBB.out.size);obtain⟨r0,r1,r2⟩:=HQ.out _ hb1;clear hb1 q0 q1 q2 q3 q4 q5 q6 q7 q8 q9 q10 q11 HZ2 HTx;by_cases hz0:Z=0
 ·rw[no_ok hz0];by_cases h3:x0=3
  ·have HZ3:Hid (Z=0∧x0=3):=⟨hz0,h3⟩;have h3b:(x0 != 3)=false:=by simp[h3]
   have HL1:Hid (∀V,Below w1.heap.size w1 V→PdC V p B0 O D xr (.slice al nl cl) t B1 M∧V.cell? ⟨w.heap.size,1,none⟩=some (.int i64 x1)∧V.cell? ⟨w.heap.size,2,none⟩=some (.int i64 x2)):=fun V hV =>
    ⟨HH.out.later (HBW.out.trans (hV.mono HBW.out.size)),(HQ.out V (HB1.out.trans (hV.mono HB1.out.size))).2⟩
   have c3:w1.cell? ⟨p,3,none⟩=some (.slice al nl cl):=(HL1.out _ (bRQ _ _)).1.c3;obtain⟨I,hI⟩:∃I,I=ixG (fun y=>y==x1) D.l:=⟨_,rfl⟩;have HI:Hid (ixG (fun y=>y==x1) D.l=I):=hI.symm;clear hz0 hI;go_upto_region 4 with fail
   go_cut [7] from 21 to 28 (fun v w'=>v=.int i64 I∧Below w1.heap.size w1 w')
   case first =>
    clear h3
    go_region_with (go_at_call 26;refine (num_idx al nl cl x1 D.l _ ((HL1.out _ (by first | exact Below.drew (bRQ _ _) | exact bRQ _ _)).1.gl)).mono ?_;rintro e w9 ⟨rfl,hb9⟩;rw[HI.out];have HB9:Hid (Below w1.heap.size w1 w9):=(Below.drew (bRQ _ _)).trans hb9;clear hb9)
    all_goals (go_wp2_with fail;go_meet)
    all_goals exact⟨rfl,HB9.out⟩
   case rest =>
    obtain⟨rfl,hb2⟩:=hcut;obtain⟨w2,hw2⟩:∃V,V=wc:=⟨_,rfl⟩;subst hw2;have HB2:Hid (Below w1.heap.size w1 w2):=hb2;have HBX:Hid (Below w.heap.size w w2):=HBW.out.trans (hb2.mono HBW.out.size);have HL2:Hid (∀V,Below w2.heap.size w2 V→PdC V p B0 O D xr (.slice al nl cl) t B1 M∧V.cell? ⟨w.heap.size,1,none⟩=some (.int i64 x1)∧V.cell? ⟨w.heap.size,2,none⟩=some (.int i64 x2)):=fun V hV =>
     HL1.out V (HB2.out.trans (hV.mono HB2.out.size))
    obtain⟨hx,y1,y2⟩:=HL2.out w2 (bRQ _ _);obtain⟨s,hs⟩:∃s:Int,s=(D.s:Int):=⟨_,rfl⟩;have HS:Hid (s=(D.s:Int)):=hs;have c2:w2.cell? ⟨p,2,none⟩=some (.int i64 s):=by rw[hs];exact hx.c2
    have hs20:D.s≤20:=Nat.le_trans HOK.out.s HOK.out.L;have hs0:0≤s:=by omega
    have hs2:s≤20:=by omega
    have hwr:IntKind.i64.wrap (s-1)=s-1:=by rw[IntKind.wrap_i64];omega
    clear hb2 hx hs hs20 r0 r1 r2 c3 HL1 y1;by_cases hr:x2=s-1
    ·have hr1:(x2 != s-1)=false:=by simp[hr]
     have HRX:Hid (x2=s-1):=hr;clear hr;cases hin:inD D x1 with
     | false =>
       have hIn:I = -1:=by
        rw[←HI.out];exact ixG_no hin
       subst hIn;have HF:Hid (∀n,DvH Pd noV w p B0 O (dhS D m) (dhN D m) (.returned (.iface 63 (.int i64 6))) (w2.drewN n)):=fun n =>
        HR6.out (fun hh=>by rw[hin] at hh;cases hh.2) HZ3.out.1 HZ3.out.2 _ (HBX.out.trans ((below_drwN w2 n).mono HBX.out.size))
       clear hin h3 HI;go_upto_region 5 with fail
       go_quiet (fail)
       go_wp2;go_ret;exact HF.out _
     | true =>
       obtain⟨ix,hix,hlx,hIx⟩:=in_ix hin;have hIe:I=(ix:Int):=by rw[←HI.out];exact hIx
       subst hIe;have hixn:ix<nl:=by rw[←HNL.out];exact hix
       have HE:Hid (dhN D m=0):=by
        show _=_;rw[dhN,if_pos ⟨by rw[HZ.out];exact HZ3.out.1,by rw[HM.out.1];exact HZ3.out.2⟩,if_pos];refine⟨?_,?_⟩
        ·rw[HM.out.2.2,HRX.out,HS.out]
        rw[HM.out.2.1];exact hin
       have HW:Hid (wtI D.l [x1]=D.l.take ix++D.l.drop (ix+1)):=wt_less (ris_nodup HOK.out.l) hix hlx;have HD2:Hid (dhS D m={ D with l:=wtI D.l [x1] }):=by
        show _=_;rw[dhS,if_pos HE.out,HM.out.2.1]
       obtain⟨gl,hal⟩:∃gl,al=some ⟨gl,0,none⟩:=by
        rcases HH.out.l.2 with ⟨h1,h2⟩ | ⟨g,cap,cur,h1,_⟩
        ·omega
        cases h1;exact⟨g,rfl⟩
       subst hal;obtain⟨qn,hqn⟩:∃qn,nl=qn+1:=⟨nl-1,by omega⟩;have HQN:Hid (nl=qn+1):=hqn;obtain⟨jx,hjx⟩:∃jx,jx=ix+1:=⟨_,rfl⟩;have HJX:Hid (jx=ix+1):=hjx;have hwj:IntKind.i64.wrap ((ix:Int)+1)=(jx:Int):=by
        have h6:=HOK.out.six;have h7:=HNL.out;rw[IntKind.wrap_i64];omega
       have ix0:¬(ix:Int)<0:=by omega
       have hixl:decide ((ix:Int)<0)=false:=decide_eq_false ix0;clear hin h3 HI hix hlx hIx hqn hjx;go_upto_region 5 with fail
       go_quiet (fail)
       obtain⟨w3,hw3⟩:∃V,V=w2.drewN nq:=⟨_,rfl⟩;have HB3:Hid (Below w2.heap.size w2 w3):=by show Below _ _ _;rw[hw3];exact below_drwN _ _
       rw[←hw3];have HBY:Hid (Below w.heap.size w w3):=HBX.out.trans (HB3.out.mono HBX.out.size);have HL3:Hid (∀V,Below w3.heap.size w3 V→PdC V p B0 O D xr (.slice (some ⟨gl,0,none⟩) nl cl) t B1 M):=fun V hV=>(HL2.out V (HB3.out.trans (hV.mono HB3.out.size))).1
       have c3:w3.cell? ⟨p,3,none⟩=some (.slice (some ⟨gl,0,none⟩) nl cl):=(HL3.out _ (bRQ _ _)).c3;have f3:w3.frozen? ⟨p,3,none⟩=false:=(HL3.out _ (bRQ _ _)).f 3;have HGP:Hid (M≤gl∧p<M∧O gl∧O p):=by
        have h1:=HH.out.pB;have h2:=(HH.out.l.lt gl rfl).1;exact⟨h2,by omega,HH.out.lO gl rfl,HH.out.pO⟩
       have HCD:Hid (∀V,Below w3.heap.size w3 V→Calls prog 27 #[.slice (some ⟨gl,0,none⟩) nl cl,.int i64 (ix:Int),.int i64 (jx:Int)] V fun e w9 =>
        e=.returned (.slice (some ⟨gl,0,none⟩) qn cl)∧w9.cell? ⟨p,3,none⟩=some (.slice (some ⟨gl,0,none⟩) nl cl)∧w9.frozen? ⟨p,3,none⟩=false∧p<w9.heap.size∧DvH Pd noV w p B0 O (dhS D m) (dhN D m) (.returned .nilIface) (w9.setCell ⟨p,3,none⟩ (.slice (some ⟨gl,0,none⟩) qn cl))):=fun V hV=>by
        have hx:=HL3.out V hV;have hol:V.ownsRow M 3 inE.n (.slice (some ⟨gl,0,none⟩) nl cl) nl (cellsG inE D.l):=by
         have:=hx.l;rw[HNL.out] at this;exact this
        refine (del_any gl nl cl M D.l ix jx qn V hol HNL.out hixn HJX.out HQN.out).mono ?_;rintro e w9 ⟨rfl,ho9,hg9⟩;have hne:some p≠some gl:=fun e=>by
         have:=HGP.out;cases e;omega
        have hps:p<V.heap.size:=hx.pl;have hlen:(wtI D.l [x1]).length=qn:=by
         rw[HW.out,List.length_append,List.length_take,List.length_drop,HNL.out,HQN.out];have:=HQN.out;omega
        have hk9:Kb (fun b=>b≠gl) V w9:=(Kb.refl _ V).grown hg9 fun r e _ h=>by cases e;exact h rfl
        refine⟨rfl,hg9.cell hx.c3 hne,(World.frozen?_of_block (hg9.block p hps hne)).trans (hx.f 3),Nat.lt_of_lt_of_le hps hg9.size,?_⟩;rw[HE.out,HD2.out];have hbV:Below w.heap.size w V:=HBY.out.trans (hV.mono HBY.out.size);have hpB:=hx.pB;have hgp:=HGP.out;have ho9':w9.ownsRow M 3 inE.n (.slice (some ⟨gl,0,none⟩) qn cl) (wtI D.l [x1]).length (cellsG inE (wtI D.l [x1])):=by
         rw[hlen,HW.out,←HJX.out];exact ho9
        have hp9:PdC (w9.setCell ⟨p,3,none⟩ (.slice (some ⟨gl,0,none⟩) qn cl)) p B0 O { D with l:=wtI D.l [x1] } xr (.slice (some ⟨gl,0,none⟩) qn cl) t B1 M:=by
         have hcp:∀i u,V.cell? ⟨p,i,none⟩=some u→w9.cell? ⟨p,i,none⟩=some u:=fun i u hc=>hg9.cell hc hne
         have hks:Kb (fun b=>b≠p) w9 (w9.setCell ⟨p,3,none⟩ (.slice (some ⟨gl,0,none⟩) qn cl)):=(Kb.refl _ w9).setCell (q:=⟨p,3,none⟩) (fun _ h=>h rfl) _;refine⟨cl_off (hcp 0 _ hx.c0) (by omega) _,cl_off (hcp 1 _ hx.c1) (by omega) _,cl_off (hcp 2 _ hx.c2) (by omega) _,World.cell?_setCell_same _ _ _ (hcp 3 _ hx.c3),cl_off (hcp 4 _ hx.c4) (by omega) _,fun i=>?_,fun U hU=>?_,⟨hpB.1,hpB.2.1,?_⟩,hx.rO,?_,fun b hb=>?_,hx.pO,fun b hb=>?_⟩
         ·rw[World.frozen?_setCell];exact (World.frozen?_of_block (hg9.block p hps hne)).trans (hx.f i)
         ·refine hx.r U (((hk9.mono fun b _ hb=>?_).trans (hks.mono fun b _ hb=>?_)).trans hU)
          ·have:=hb.2;omega
          have:=hb.1;omega
         ·rw[set_size];exact Nat.le_trans hpB.2.2 hg9.size
         ·refine own_kb ho9' hks fun b hb=>?_
          cases hb;intro (e:gl=p);have h7:=hgp.1;have h8:=hgp.2.1;omega
         ·cases hb;exact hgp.2.2.1
         rw[set_size];exact⟨(hx.lt b hb).1,Nat.lt_of_lt_of_le (hx.lt b hb).2 hg9.size⟩
        have h4:Kb (fun b=>¬O b) w w9:=(Kb.of_below hbV fun b hl _=>hl).trans (hk9.mono fun b _ hb e=>hb (by rw[e];exact hgp.2.2.1));refine⟨by rw[no_ok rfl],O,⟨_,_,_,_,_,hp9,HTW.out.1,?_⟩,fun b hb=>.inl hb,h4.setCell (fun _ hn=>hn hgp.2.2.2) _⟩
        rcases HTW.out.2 with h5 | h5
        ·exact .inl (by show wtI D.l _=[];rw[h5];rfl)
        exact .inr h5
       have gp:p<w3.heap.size:=bLQ _ _ c3;clear hw3 y2 c2 HL2
       go_wp2_with fail
       refine (HCD.out _ (bRQ _ _)).mono ?_;rintro e w9 ⟨rfl,g3,gf,gs,hF9⟩;have HF9:Hid (DvH Pd noV w p B0 O (dhS D m) (dhN D m) (.returned .nilIface) (w9.setCell ⟨p,3,none⟩ (.slice (some ⟨gl,0,none⟩) qn cl))):=hF9;clear hF9;go_wp2;go_ret;exact HF9.out
    have hr1:(x2 != s-1)=true:=by simp[hr]
    have HF:Hid (∀n,DvH Pd noV w p B0 O (dhS D m) (dhN D m) (.returned (.iface 63 (.int i64 6))) (w2.drewN n)):=fun n =>
     HR6.out (fun hh=>hr (by rw[hh.1,HS.out])) HZ3.out.1 HZ3.out.2 _ (HBX.out.trans ((below_drwN w2 n).mono HBX.out.size))
    clear h3;go_upto_region 5 with fail
    go_quiet (fail)
    go_wp2;go_ret;exact HF.out _
  have h3b:(x0 != 3)=true:=by simp[h3]
  have HF:Hid (DvH Pd noV w p B0 O (dhS D m) (dhN D m) (.returned (.iface 63 (.int i64 3))) w1):=HR3.out (fun h=>h3 h.2) _ HBW.out;go_wp2;go_ret;exact HF.out
 have HF:Hid (DvH Pd noV w p B0 O (dhS D m) (dhN D m) (.returned (.iface 63 (.int i64 3))) w1):=HR3.out (fun h=>hz0 h.1) _ HBW.out;rw[no_ne hz0];go_wp2;go_ret;exact HF.out
theorem pdi:PdI Pd where
 kb:=fun h hk=>h.kb hk
 lt:=fun h=>h.lt
 new:=fun ao n c L T B0 w hr hB=>pdnew_any ao n c L T B0 w hr hB
 next:=fun w h hok _=>pnext_any w h hok
 hear:=fun x0 x1 x2 x3 x4 x5 x6 x7 x8 x9 x10 x11 w h hok _=>pdhear_any x0 x1 x2 x3 x4 x5 x6 x7 x8 x9 x10 x11 w h hok
 tick:=fun w h hok _=>ptick_any w h hok
 left:=fun w h hok _=>pleft_any w h hok
 round:=fun w h hok _=>pround_any w h
 done:=fun w h hok _=>pddone_any w h hok
end
section
open Go.ChangeShapes Go.WideShapes Go.ChangeAt Go.RowKit Go.Joins
section
variable {P:Program}{α:Type}{E:Enc α}
theorem gs_open {H:Type}{enc:TypeId×Value→H}{W:World}{fuel:Nat}{cs:List Value}{x:DataW H×List MemPlace}(ts te:TypeId)(hu:P.underlying ts=some (.slice te))(hC:P.cellsOf te=E.n)(x0:α)
 (hel:∀(n:Nat) (cs:List Value) (x:DataW H×List MemPlace),DataW.trod enc P W 0 (fun _=>true) true n te cs=some x→∃y,cs=E.c y)
 (hf2:DataW.trod enc P W 0 (fun _=>true) true fuel ts cs=some x):∃ao n cap L,cs=[.slice ao n cap]∧GS E W (.slice ao n cap) L:=by
 obtain⟨d,p⟩:=x
 rcases Go.Deep.open_slice hu hf2 with ⟨hc,hx⟩ | ⟨a,len0,cap,m,k,D,Pl,hc,_,hl,hm,hmm,hx,hall⟩
 ·exact⟨_,_,_,[],hc,.inl ⟨none,0,rfl,rfl⟩⟩
 simp only[if_true] at hmm;subst hmm
 rcases Nat.eq_zero_or_pos len0 with h0 | h0
 ·subst h0;exact⟨_,_,_,[],hc,.inl ⟨_,_,rfl,rfl⟩⟩
 have each:∀i,i<m→∃y:α,∀j,j<E.n→W.cell? (a.add (i*E.n+j))=(E.c y)[j]?:=by
  intro i hi;obtain⟨cs,h1,h2⟩:=hall i hi;rw[hC] at h1;obtain⟨_,hlen,hcell⟩:=World.cells?_some h1;obtain⟨y,rfl⟩:=hel _ _ _ h2;refine⟨y,fun j hj=>?_⟩;have:=hcell j (by omega);rw[Go.Deep.add_add] at this;exact this
 have iR:Inhabited α:=⟨x0⟩;obtain⟨R,hR⟩:=Go.Deep.choose_lt each;obtain⟨sb,so,spot⟩:=a;have hspot:spot=none:=by
  have h1:=hR 0 (by omega) 0 E.pos;have h2:(E.c (R 0))[0]?.isSome=true:=by
   rw[List.getElem?_eq_getElem (by rw[E.len];exact E.pos)];rfl
  obtain⟨u,hu2⟩:=Option.isSome_iff_exists.1 h2;rw[hu2] at h1;simpa[Addr.add] using World.cell?_spot h1
 subst hspot;have hadd:∀j,(⟨sb,so,none⟩:Addr).add j=⟨sb,so+j,none⟩:=by
  intro j;simp only[Addr.add]
  first
   | rfl
   | (split
      ·next h0=>rw[h0];rfl
      rfl)
 refine⟨_,_,_,(List.range len0).map R,hc,.inr ⟨sb,so,_,by simp,by simpa using hl,hm,fun i hi j u hu2=>?_⟩⟩;have hi2:i<len0:=by simpa using hi
 have e:((List.range len0).map R)[i]=R i:=by simp
 rw[e] at hu2;have hj:j<E.n:=by
  have:=(List.getElem?_eq_some_iff.1 hu2).1;rw[E.len] at this;exact this
 have hc:=hR i (by omega) j hj;rw[hadd,hu2,←Nat.add_assoc] at hc;exact hc
end
theorem round_open {H:Type}{enc:TypeId×Value→H}{W:World}{fuel:Nat}{cs:List Value}{x:DataW H×List MemPlace}
 (h:DataW.trod enc prog W 0 (fun _=>true) true fuel 43 cs=some x):∃ao n cap L,cs=[.slice ao n cap]∧GS opE W (.slice ao n cap) L:=
 gs_open (E:=opE) 43 37 underlying43 (by kernel_rfl) ⟨0,false,⟨0,0,0,0,0,0⟩⟩ (fun _ _ _ h=>op_open h) h
theorem rounds_open {H:Type}{enc:TypeId×Value→H}{W:World}{fuel:Nat}{cs:List Value}{x:DataW H×List MemPlace}
 (hf2:DataW.trod enc prog W 0 (fun _=>true) true fuel 22 cs=some x):∃ao n cap Rs,cs=[.slice ao n cap]∧RS W (.slice ao n cap) Rs:=by
 obtain⟨d,p⟩:=x;have hC:Tryd.prog.cellsOf 43=1:=by kernel_rfl
 rcases Go.Deep.open_slice underlying22 hf2 with ⟨hc,hx⟩ | ⟨a,len0,cap,m,k,D,Pl,hc,_,hl,hm,hmm,hx,hall⟩
 ·exact⟨_,_,_,[],hc,[],.inl ⟨none,0,rfl,rfl⟩,rfl,fun i x L h=>by simp at h⟩
 simp only[if_true] at hmm;subst hmm
 rcases Nat.eq_zero_or_pos len0 with h0 | h0
 ·subst h0;exact⟨_,_,_,[],hc,[],.inl ⟨_,_,rfl,rfl⟩,rfl,fun i x L h=>by simp at h⟩
 have each:∀i,i<m→∃q:SlT×List Op8,W.cell? (a.add i)=some (slV q.1)∧GS opE W (slV q.1) q.2:=by
  intro i hi;obtain⟨cs,h1,h2⟩:=hall i hi;rw[hC] at h1;obtain⟨_,hlen,hcell⟩:=World.cells?_some h1;obtain⟨ao,n,cap,L,rfl,hL⟩:=round_open h2;refine⟨((ao,n,cap),L),?_,hL⟩;have:=hcell 0 (by simp);rw[Go.Deep.add_add] at this;simpa[slV] using this
 have iR:Inhabited (SlT×List Op8):=⟨((none,0,0),[])⟩;obtain⟨R,hR⟩:=Go.Deep.choose_lt each;obtain⟨sb,so,spot⟩:=a;have hspot:spot=none:=by
  obtain⟨h1,_⟩:=hR 0 (by omega);simpa[Addr.add] using World.cell?_spot h1
 subst hspot;have hadd:∀j,(⟨sb,so,none⟩:Addr).add j=⟨sb,so+j,none⟩:=by
  intro j;simp only[Addr.add]
  first
   | rfl
   | (split
      ·next h0=>rw[h0];rfl
      rfl)
 refine⟨_,_,_,(List.range len0).map fun i=>(R i).2,hc,(List.range len0).map fun i=>(R i).1,.inr ⟨sb,so,_,by simp,by simpa using hl,hm,fun i hi j u hu=>?_⟩,by simp,fun i x L c1 c2=>?_⟩
 ·have hi2:i<len0:=by simpa using hi
  have e1:((List.range len0).map fun i=>(R i).1)[i]=(R i).1:=by simp
  rw[e1] at hu;obtain rfl:j=0:=by
   have:=(List.getElem?_eq_some_iff.1 hu).1;rw[slE.len] at this;have e2:slE.n=1:=rfl;omega
  have e3:so+i*slE.n+0=so+i:=by show so+i*1+0=so+i;omega
  have e4:slV (R i).1=u:=Option.some.inj hu;rw[e3,←e4];have:=(hR i (by omega)).1;rw[hadd] at this;exact this
 have hi:i<len0:=by
  have:=(List.getElem?_eq_some_iff.1 c1).1;simpa using this
 have e1:(R i).1=x:=by simpa[hi] using c1
 have e2:(R i).2=L:=by simpa[hi] using c2
 rw[←e1,←e2];exact (hR i (by omega)).2
theorem rounds_of {H:Type}{enc:TypeId×Value→H}{W:World}{base:Nat}{v:Value}{d:DataW H}{p:List MemPlace}
 (hv:Value.okWide prog W .any base 22 v) (h:DataW.Trod enc prog W 0 (fun _=>true) true 22 v d p):∃ao n cap Rs,v=.slice ao n cap∧RS W (.slice ao n cap) Rs:=by
 obtain⟨a0,n0,c0,rfl⟩:=okWide_slice underlying22 hv;obtain⟨fuel,hf⟩:=h;have hf2:DataW.trod enc prog W 0 (fun _=>true) true fuel 22 [.slice a0 n0 c0]=some (d,p):=hf;obtain⟨ao,n,cap,Ls,e,hL⟩:=rounds_open hf2;simp only[List.cons.injEq,and_true,Value.slice.injEq] at e;obtain⟨rfl,rfl,rfl⟩:=e;exact⟨_,_,_,Ls,rfl,hL⟩
end
section
open Go.ChangeShapes Go.WideShapes Go.ChangeAt Go.RowKit
theorem in_open1 {H:Type}{enc:TypeId×Value→H}{W:World}{n:Nat}{cs:List Value}{x:DataW H×List MemPlace}
 (h:DataW.trod enc prog W 0 (fun _=>true) true n 3 cs=some x):∃y,cs=inE.c y:=by
 obtain⟨v0,e0,_,_⟩:=DataW.trod_int underlying3 h;exact⟨v0,e0⟩
theorem ints_of {H:Type}{enc:TypeId×Value→H}{W:World}{base:Nat}{v:Value}{d:DataW H}{p:List MemPlace}
 (hv:Value.okWide prog W .any base 40 v) (h:DataW.Trod enc prog W 0 (fun _=>true) true 40 v d p):∃L,GS inE W v L:=
 gs_of (E:=inE) 40 3 underlying40 (by kernel_rfl) 0 (fun _ _ _ h=>in_open1 h) hv h
end
namespace drivePlays
open Go.ChangeShapes Go.WideShapes Go.ChangeAt Go.RowKit
theorem own:ownKnob Tryd.prog.godebug=none:=by kernel_rfl
theorem laidOut:laidOutB prog=true:=by kernel_rfl
theorem et : Tryd.prog.globalNamed "errors.errorType" = some 0 := by kernel_rfl
theorem oneRow:((List.range 172).filter fun t=>Tryd.prog.rowNamed t [101,114,114,111,114])=[25]:=by kernel_rfl
theorem tsize:Tryd.prog.types.size=172:=by kernel_rfl
theorem handle_of_laid {W:World}(h:laidMetH prog Rows.drivePlaysRow.laid W):HasErr W:=by
 have h':laidMet prog [] W∧handlesMet prog Rows.drivePlaysRow.laid W:=h;obtain⟨name,u,ty,e1,e2,e3,e4,e5⟩:=h'.2 _ (List.mem_singleton.2 rfl);have en:name=[101,114,114,111,114]:=(Option.some.inj e1).symm;subst en;have hu:some u=some 110:=e2.symm.trans (by kernel_rfl);obtain rfl:=Option.some.inj hu;have hm:ty∈(List.range 172).filter fun t=>Tryd.prog.rowNamed t [101,114,114,111,114]:=List.mem_filter.2 ⟨List.mem_range.2 (by rw[←tsize];exact e3),e4⟩
 rw[oneRow] at hm;obtain rfl:=List.mem_singleton.1 hm;have hh:typeHandle prog 25=.pointer (some ⟨1,25,none⟩):=by kernel_rfl
 rw[hh] at e5;unfold HasErr;simpa using World.var?_cell et e5 0
theorem lifted (os:Os)(started:os.Started)(H:Type)(enc:TypeId×Value→H):
 ReturnsInHanded {} Tryd.checked os 4 .any (fun w args=>(Rows.drivePlaysSpec.pre enc prog Tryd.f4 [] false w args∧laidMetH prog Rows.drivePlaysRow.laid w)∧sizedMet enc prog Tryd.f4 (OpenSpec.ofChange Rows.drivePlaysSpec) false w args)
  (Rows.drivePlaysSpec.post enc prog Tryd.f4 false true false false):=by
 refine returnsInHanded_of_change_and (C:=Tryd.checked) (X:=fun w _=>laidMetH prog Rows.drivePlaysRow.laid w) (fun _ _ _ hh h=>h.of_heap hh) own started (by kernel_rfl) func4
  (ChangeSpec.witness_at (enc:=enc) (C:=Tryd.checked) (os:=os) (X:=fun w _=>laidMetH prog Rows.drivePlaysRow.laid w) false
   { World.holding prog os ⟨#[],#[],[]⟩ with heap:=(World.holding prog os ⟨#[],#[],[]⟩).heap.modify 0 fun
    | .cells _ t frozen=>.cells #[.iface 110 (.agg #[.pointer (some ⟨1,25,none⟩)])] t frozen
    | o=>o }
   #[.slice none 0 0,.int i64 0,.slice none 0 0,.slice none 0 0] 8 rfl (by kernel_rfl) (by kernel_rfl) (by kernel_rfl) (by kernel_rfl) (by kernel_rfl) (laidMetH_of_parts (laidMet_nil _ _) (by kernel_rfl))) ?_
 intro W base args ds gs before hval0 hW _ _ hLaid _;have hval:∀(j:Nat) t v,Tryd.f4.params[j]?=some t→args[j]?=some v→Value.okWide prog W .any base t v:=hval0;have hW':=hW;obtain⟨p,q,hA0,hV0,rfl,hfz,hnd⟩:=hW;have hA:DataW.TrodAll enc prog W 0 (fun _=>true) true Tryd.f4.params.toList args.toList ds p:=hA0;have hV:DataW.TrodVars enc prog W (fun _=>true) [] gs q:=hV0;rw[params4] at hA hval;obtain⟨v0,vs0,d0,ds0,p0,q0,hargs,rfl,rfl,h0,r0⟩:=trodAll_cons hA;obtain⟨v1,vs1,d1,ds1,p1,q1,rfl,rfl,rfl,h1,r1⟩:=trodAll_cons r0;obtain⟨v2,vs2,d2,ds2,p2,q2,rfl,rfl,rfl,h2,r2⟩:=trodAll_cons r1;obtain⟨v3,vs3,d3,ds3,p3,q3,rfl,rfl,rfl,h3,r3⟩:=trodAll_cons r2;obtain⟨rfl,rfl,rfl⟩:=trodAll_nil r3;obtain rfl:args=#[v0,v1,v2,v3]:=by cases args;simp_all
 have hg:=handle_of_laid hLaid;obtain⟨rfl,rfl⟩:gs=[]∧q=[]:=by
  cases gs with
  | nil=>exact⟨rfl,hV⟩
  | cons g r=>exact absurd hV (by intro h;cases h)
 have k0:=h0;have lt0:∀x∈p0,x.block<W.heap.size:=by obtain⟨m,hm⟩:=k0;exact DataW.trod_lt m _ _ _ hm
 have k1:=h1;have lt1:∀x∈p1,x.block<W.heap.size:=by obtain⟨m,hm⟩:=k1;exact DataW.trod_lt m _ _ _ hm
 have k2:=h2;have lt2:∀x∈p2,x.block<W.heap.size:=by obtain⟨m,hm⟩:=k2;exact DataW.trod_lt m _ _ _ hm
 have k3:=h3;have lt3:∀x∈p3,x.block<W.heap.size:=by obtain⟨m,hm⟩:=k3;exact DataW.trod_lt m _ _ _ hm
 obtain⟨a6,n6,c6,lr,rfl,hlr⟩:=rounds_of (hval 0 22 v0 rfl rfl) h0;obtain⟨a,rfl⟩:=okWide_int underlying3 (hval 1 3 v1 rfl rfl);obtain⟨li,hli⟩:=ints_of (hval 2 40 v2 rfl rfl) h2;obtain⟨a8,n8,c8,rfl⟩:=okWide_slice underlying40 (hval 2 40 v2 rfl rfl);obtain⟨lm,hlm⟩:=msgs_of (hval 3 29 v3 rfl rfl) h3;obtain⟨a7,n7,c7,rfl⟩:=okWide_slice underlying29 (hval 3 29 v3 rfl rfl);clear hA0 hval0;refine (walk pdi a6 n6 c6 lr a a8 n8 c8 li a7 n7 c7 lm W hlr hli hlm hg).mono fun e W' ⟨he,bel⟩=>?_
 subst he;exact⟨_,rfl,_,_,_,[],_,[],hW',trodAll_mk1 (shut_bool underlying4 _),(trodAll_cons_mk (Below.trod laidOut (by kernel_rfl) (of_decide_eq_true (by kernel_rfl)) k0 bel lt0) (trodAll_cons_mk (Below.trod laidOut (by kernel_rfl) (of_decide_eq_true (by kernel_rfl)) k1 bel lt1) (trodAll_cons_mk (Below.trod laidOut (by kernel_rfl) (of_decide_eq_true (by kernel_rfl)) k2 bel lt2) (trodAll_cons_mk (Below.trod laidOut (by kernel_rfl) (of_decide_eq_true (by kernel_rfl)) k3 bel lt3) trodAll_mk0)))),rfl,bel.frame _,fun h=>by cases h⟩
theorem over:Rows.DrivePlaysSaid:=
 OpenClaim.holds_of_wide 4 Tryd.f4 rfl rfl rfl rfl rfl rfl rfl ⟨rfl,rfl,rfl,rfl,rfl⟩ rfl rfl rfl rfl rfl (by kernel_rfl) func4 (by kernel_rfl)
  (of_decide_eq_true (by kernel_rfl)) (by unfold Func.isWrapper;first | (rw[if_pos (by decide +kernel)];kernel_rfl) | (rw[if_neg (by decide +kernel)];exact⟨rfl,rfl⟩))
  (fun os started H enc _=>lifted os started H enc)
end drivePlays
end Go.Proofs.YtpgjkmefomldfaaDoor
