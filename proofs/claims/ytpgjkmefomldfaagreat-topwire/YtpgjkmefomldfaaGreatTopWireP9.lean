/- Contracts and facts on the way to TopWire, joined into one text: WireEnc, WireRead, WireRead2, WireDec, WireCut, TopWire, RefDrMem. -/
import Derived.Test.YtpgjkmefomldfaaGreatTopWireP8
namespace Go.Proofs.YtpgjkmefomldfaaGreat
set_option linter.unusedSimpArgs false
set_option linter.unusedVariables false
set_option maxHeartbeats 16000000
set_option maxRecDepth 100000
open Go.Proofs.Tryz
open IntKind (i64)
section
open Go.RowKit
theorem bit_same (b:Bool)(w:World):Calls prog 28 #[.bool b] w fun e w'=>e=.returned (.int i64 (btN b))∧w'=w:=by
 cases b
 ·go_enter func28,ntmps28;go_wp2;go_ret;exact⟨rfl,rfl⟩
 go_enter func28,ntmps28;go_wp2;go_ret;exact⟨rfl,rfl⟩
theorem keepC {V V':World}{b r:Nat}{x5:Bool}{x6 x7 x8 x9 x10 x11:Int}(hb:Below V.heap.size V V')(h:V.cell? ⟨b,5,none⟩=some (.bool x5)∧V.cell? ⟨r,0,none⟩=some (.int i64 x6)∧V.cell? ⟨r,1,none⟩=some (.int i64 x7)∧V.cell? ⟨r,2,none⟩=some (.int i64 x8)∧V.cell? ⟨r,3,none⟩=some (.int i64 x9)∧V.cell? ⟨r,4,none⟩=some (.int i64 x10)∧V.cell? ⟨r,5,none⟩=some (.int i64 x11)):V'.cell? ⟨b,5,none⟩=some (.bool x5)∧V'.cell? ⟨r,0,none⟩=some (.int i64 x6)∧V'.cell? ⟨r,1,none⟩=some (.int i64 x7)∧V'.cell? ⟨r,2,none⟩=some (.int i64 x8)∧V'.cell? ⟨r,3,none⟩=some (.int i64 x9)∧V'.cell? ⟨r,4,none⟩=some (.int i64 x10)∧V'.cell? ⟨r,5,none⟩=some (.int i64 x11):=by
 obtain⟨h1,h2,h3,h4,h5,h6,h7⟩:=h;exact⟨cell_later hb h1,cell_later hb h2,cell_later hb h3,cell_later hb h4,cell_later hb h5,cell_later hb h6,cell_later hb h7⟩
theorem keepD {V V':World}{b r R:Nat}{x5:Bool}{x6 x7 x8 x9 x10 x11:Int}(hg:V.grownBy V' (some R))(hb:some b≠some R)(hr:some r≠some R)(h:V.cell? ⟨b,5,none⟩=some (.bool x5)∧V.cell? ⟨r,0,none⟩=some (.int i64 x6)∧V.cell? ⟨r,1,none⟩=some (.int i64 x7)∧V.cell? ⟨r,2,none⟩=some (.int i64 x8)∧V.cell? ⟨r,3,none⟩=some (.int i64 x9)∧V.cell? ⟨r,4,none⟩=some (.int i64 x10)∧V.cell? ⟨r,5,none⟩=some (.int i64 x11)):V'.cell? ⟨b,5,none⟩=some (.bool x5)∧V'.cell? ⟨r,0,none⟩=some (.int i64 x6)∧V'.cell? ⟨r,1,none⟩=some (.int i64 x7)∧V'.cell? ⟨r,2,none⟩=some (.int i64 x8)∧V'.cell? ⟨r,3,none⟩=some (.int i64 x9)∧V'.cell? ⟨r,4,none⟩=some (.int i64 x10)∧V'.cell? ⟨r,5,none⟩=some (.int i64 x11):=by
 obtain⟨h1,h2,h3,h4,h5,h6,h7⟩:=h;exact⟨hg.cell h1 hb,hg.cell h2 hr,hg.cell h3 hr,hg.cell h4 hr,hg.cell h5 hr,hg.cell h6 hr,hg.cell h7 hr⟩
theorem wenc_no (x0 x1 x2 x3 x4:Int)(x5:Bool)(x6 x7 x8 x9 x10 x11:Int)(w:World)(h:mgN ⟨x0,x1,x2,x3,⟨x4,x5,⟨x6,x7,x8,x9,x10,x11⟩⟩⟩≠0):
 Calls prog 8 #[.agg #[.int i64 x0,.int i64 x1,.int i64 x2,.int i64 x3,.int i64 x4,.bool x5,.int i64 x6,.int i64 x7,.int i64 x8,.int i64 x9,.int i64 x10,.int i64 x11]] w fun e w'=>e=.returned (.tuple #[.string (enT ⟨x0,x1,x2,x3,⟨x4,x5,⟨x6,x7,x8,x9,x10,x11⟩⟩⟩),noV (mgN ⟨x0,x1,x2,x3,⟨x4,x5,⟨x6,x7,x8,x9,x10,x11⟩⟩⟩)])∧Below w.heap.size w w':=by
 have HB0:Hid (Below w.heap.size w (w.alloc (.cells #[.int i64 x0,.int i64 x1,.int i64 x2,.int i64 x3,.int i64 x4,.bool x5,.int i64 x6,.int i64 x7,.int i64 x8,.int i64 x9,.int i64 x10,.int i64 x11] 51))):=(bRQ _ _).alloc (nLQ _) _;obtain⟨N,hN⟩:∃N,N=mgN ⟨x0,x1,x2,x3,⟨x4,x5,⟨x6,x7,x8,x9,x10,x11⟩⟩⟩:=⟨_,rfl⟩;have HN:Hid (mgN ⟨x0,x1,x2,x3,⟨x4,x5,⟨x6,x7,x8,x9,x10,x11⟩⟩⟩=N):=hN.symm;have e:enT ⟨x0,x1,x2,x3,⟨x4,x5,⟨x6,x7,x8,x9,x10,x11⟩⟩⟩=ByteArray.empty:=by rw[enT,if_neg h]
 rw[e,←hN];rw[←hN] at h;clear hN e;go_enter func8,ntmps8
 go_wp2_with fail
 refine (mcheck_any x0 x1 x2 x3 x4 x5 x6 x7 x8 x9 x10 x11 _).mono ?_;rintro e w1 ⟨rfl,hb1⟩;have HB1:Hid (Below w.heap.size w w1):=HB0.out.trans (hb1.mono HB0.out.size);rw[HN.out,no_ne h];clear hb1;go_wp2;refine bodyPost_ret (v:=.tuple #[.string ⟨#[]⟩,.iface 81 (.int i64 N)]) (by simp[results,results8,go_sem]) rfl ⟨by rw[no_ne h];rfl,HB1.out⟩
theorem wenc_yes (x0 x1 x2 x3 x4:Int)(x5:Bool)(x6 x7 x8 x9 x10 x11:Int)(w:World)(h:mgN ⟨x0,x1,x2,x3,⟨x4,x5,⟨x6,x7,x8,x9,x10,x11⟩⟩⟩=0):
 Calls prog 8 #[.agg #[.int i64 x0,.int i64 x1,.int i64 x2,.int i64 x3,.int i64 x4,.bool x5,.int i64 x6,.int i64 x7,.int i64 x8,.int i64 x9,.int i64 x10,.int i64 x11]] w fun e w'=>e=.returned (.tuple #[.string (enT ⟨x0,x1,x2,x3,⟨x4,x5,⟨x6,x7,x8,x9,x10,x11⟩⟩⟩),noV (mgN ⟨x0,x1,x2,x3,⟨x4,x5,⟨x6,x7,x8,x9,x10,x11⟩⟩⟩)])∧Below w.heap.size w w':=by
 have HB0:Hid (Below w.heap.size w (w.alloc (.cells #[.int i64 x0,.int i64 x1,.int i64 x2,.int i64 x3,.int i64 x4,.bool x5,.int i64 x6,.int i64 x7,.int i64 x8,.int i64 x9,.int i64 x10,.int i64 x11] 51))):=(bRQ _ _).alloc (nLQ _) _;have HC0:Hid (MgC (w.alloc (.cells #[.int i64 x0,.int i64 x1,.int i64 x2,.int i64 x3,.int i64 x4,.bool x5,.int i64 x6,.int i64 x7,.int i64 x8,.int i64 x9,.int i64 x10,.int i64 x11] 51)) w.heap.size x0 x1 x2 x3 x4 x5 x6 x7 x8 x9 x10 x11):=mgc_new w x0 x1 x2 x3 x4 x5 x6 x7 x8 x9 x10 x11 _;have HN:Hid (mgN ⟨x0,x1,x2,x3,⟨x4,x5,⟨x6,x7,x8,x9,x10,x11⟩⟩⟩=0):=h;have HBY:Hid (byL (mgL ⟨x0,x1,x2,x3,⟨x4,x5,⟨x6,x7,x8,x9,x10,x11⟩⟩⟩)∧(mgL ⟨x0,x1,x2,x3,⟨x4,x5,⟨x6,x7,x8,x9,x10,x11⟩⟩⟩).length≤11∧4≤(mgL ⟨x0,x1,x2,x3,⟨x4,x5,⟨x6,x7,x8,x9,x10,x11⟩⟩⟩).length):=mg_by h;have e:enT ⟨x0,x1,x2,x3,⟨x4,x5,⟨x6,x7,x8,x9,x10,x11⟩⟩⟩=nmT (mgL ⟨x0,x1,x2,x3,⟨x4,x5,⟨x6,x7,x8,x9,x10,x11⟩⟩⟩):=by rw[enT,if_pos h];rfl
 have e2:noV (mgN ⟨x0,x1,x2,x3,⟨x4,x5,⟨x6,x7,x8,x9,x10,x11⟩⟩⟩)=.nilIface:=no_ok h;rw[e,e2];clear e e2 h;obtain⟨j0,hj,hy0,hy1,hy2⟩:=info_parts infoNum;have HJ:Hid (Tryz.prog.info? 3=some j0∧j0.zero=some (.int i64 0)∧j0.size=1∧j0.bytes=8):=⟨hj,hy0,hy1,hy2⟩;obtain⟨i0,hi,hz0,hz1,hz2⟩:=info_parts infoByte;have HI:Hid (Tryz.prog.info? 5=some i0∧i0.zero=some (.int .u8 0)∧i0.size=1∧i0.bytes=1):=⟨hi,hz0,hz1,hz2⟩;clear hj hy0 hy1 hy2 hi hz0 hz1 hz2;have HL1:Hid (x0=1→mgL ⟨x0,x1,x2,x3,⟨x4,x5,⟨x6,x7,x8,x9,x10,x11⟩⟩⟩=[x0,x1,x2,x3]++[btN x5,x6,x7,x8,x9,x10,x11]):=fun h=>by rw[mgL,if_pos h]
 have HL2:Hid (x0≠1→mgL ⟨x0,x1,x2,x3,⟨x4,x5,⟨x6,x7,x8,x9,x10,x11⟩⟩⟩=[x0,x1,x2,x3]):=fun h=>by rw[mgL,if_neg h];rfl
 obtain⟨L,hL⟩:∃L,L=mgL ⟨x0,x1,x2,x3,⟨x4,x5,⟨x6,x7,x8,x9,x10,x11⟩⟩⟩:=⟨_,rfl⟩;rw[←hL] at HBY HL1 HL2 ⊢;clear hL;go_enter func8,ntmps8
 go_wp2_with fail
 refine (mcheck_any x0 x1 x2 x3 x4 x5 x6 x7 x8 x9 x10 x11 _).mono ?_;rintro e w1 ⟨rfl,hb1⟩;have HB1:Hid (Below w.heap.size w w1):=HB0.out.trans (hb1.mono HB0.out.size);obtain⟨c0,c1,c2,c3,c4,c5,c6,c7,c8,c9,c10,c11⟩:=HC0.out.later hb1;rw[HN.out,no_ok rfl];have hlt1:w.heap.size<w1.heap.size:=bLQ _ _ c0;clear hb1
 go_upto_if 27 with fail
 go_cut [5] from 25 (fun v w'=>∃(g n c:Nat),v=.slice (some ⟨g,0,none⟩) n c∧L.length=n∧GAt inE w' g 0 L∧Below w.heap.size w w')
 case first =>
  obtain⟨w2,hw2⟩:∃V,V=w1.alloc (.cells #[.int i64 x0,.int i64 x1,.int i64 x2,.int i64 x3] 3):=⟨_,rfl⟩;have HG2:Hid (GAt inE w2 w1.heap.size 0 [x0,x1,x2,x3]):=by rw[hw2];exact in_new w1 [x0,x1,x2,x3] 3 [.int i64 x0,.int i64 x1,.int i64 x2,.int i64 x3] rfl
  have HB2:Hid (Below w.heap.size w w2):=by rw[hw2];exact HB1.out.alloc HB1.out.size _
  have hb12:Below w1.heap.size w1 w2:=by rw[hw2];exact (bRQ _ _).alloc (nLQ _) _
  have hsz2:w2.heap.size=w1.heap.size+1:=by rw[hw2];simp
  have HS2:Hid (w2.heap.size=w1.heap.size+1):=hsz2;have HO2:Hid (w2.ownsRow w1.heap.size 3 inE.n (.slice (some ⟨w1.heap.size,0,none⟩) 4 4) [x0,x1,x2,x3].length (cellsG inE [x0,x1,x2,x3])):=by
   rw[hw2];exact World.ownsRow_lit (base:=w1.heap.size) (e:=3) (size:=1) w1 #[.int i64 x0,.int i64 x1,.int i64 x2,.int i64 x3] 4 (nLQ _) (by decide) rfl
  rw[←hw2];by_cases hk:x0=1
  ·have hL:=HL1.out hk;subst hk;have d0:=cell_later hb12 c0;have d5:=cell_later hb12 c5;have d6:=cell_later hb12 c6;have d7:=cell_later hb12 c7;have d8:=cell_later hb12 c8;have d9:=cell_later hb12 c9;have d10:=cell_later hb12 c10;have d11:=cell_later hb12 c11;have HLL:Hid (L=[1,x1,x2,x3]++[btN x5,x6,x7,x8,x9,x10,x11]):=hL;clear c0 c1 c2 c3 c4 c5 c6 c7 c8 c9 c10 c11 hL hw2 hb12 hsz2;go_upto_region 7 with fail;obtain⟨w3,hw3⟩:∃V,V=w2.alloc (.cells #[.int i64 x6,.int i64 x7,.int i64 x8,.int i64 x9,.int i64 x10,.int i64 x11] 47):=⟨_,rfl⟩;rw[←hw3];have hb23:Below w2.heap.size w2 w3:=by rw[hw3];exact (bRQ _ _).alloc (nLQ _) _
   have hS3:w3.heap.size=w2.heap.size+1:=by rw[hw3];simp
   have HS3:Hid (w3.heap.size=w2.heap.size+1):=hS3;have f0:w3.cell? ⟨w2.heap.size,0,none⟩=some (.int i64 x6):=by rw[hw3];simp
   have f1:w3.cell? ⟨w2.heap.size,1,none⟩=some (.int i64 x7):=by rw[hw3];simp
   have f2:w3.cell? ⟨w2.heap.size,2,none⟩=some (.int i64 x8):=by rw[hw3];simp
   have f3:w3.cell? ⟨w2.heap.size,3,none⟩=some (.int i64 x9):=by rw[hw3];simp
   have f4:w3.cell? ⟨w2.heap.size,4,none⟩=some (.int i64 x10):=by rw[hw3];simp
   have f5:w3.cell? ⟨w2.heap.size,5,none⟩=some (.int i64 x11):=by rw[hw3];simp
   have hd5:=cell_later hb23 d5;have HO3:Hid (∀V,Below w3.heap.size w3 V→V.ownsRow w1.heap.size 3 inE.n (.slice (some ⟨w1.heap.size,0,none⟩) 4 4) [1,x1,x2,x3].length (cellsG inE [1,x1,x2,x3])):=fun V hV=>own_below (own_below HO2.out hb23) hV
   have HB3:Hid (Below w.heap.size w w3):=HB2.out.trans (hb23.mono HB2.out.size);have hgl:w2.heap.size<w3.heap.size:=by omega
   have hgl2:w.heap.size<w3.heap.size:=by have:=HS2.out;omega
   have HK:Hid (∀V,Below w3.heap.size w3 V→V.cell? ⟨w.heap.size,5,none⟩=some (.bool x5)∧V.cell? ⟨w2.heap.size,0,none⟩=some (.int i64 x6)∧V.cell? ⟨w2.heap.size,1,none⟩=some (.int i64 x7)∧V.cell? ⟨w2.heap.size,2,none⟩=some (.int i64 x8)∧V.cell? ⟨w2.heap.size,3,none⟩=some (.int i64 x9)∧V.cell? ⟨w2.heap.size,4,none⟩=some (.int i64 x10)∧V.cell? ⟨w2.heap.size,5,none⟩=some (.int i64 x11)):=fun V hV=>⟨cell_later hV hd5,cell_later hV f0,cell_later hV f1,cell_later hV f2,cell_later hV f3,cell_later hV f4,cell_later hV f5⟩
   have HKR:Hid (w3.cell? ⟨w.heap.size,5,none⟩=some (.bool x5)∧w3.cell? ⟨w2.heap.size,0,none⟩=some (.int i64 x6)∧w3.cell? ⟨w2.heap.size,1,none⟩=some (.int i64 x7)∧w3.cell? ⟨w2.heap.size,2,none⟩=some (.int i64 x8)∧w3.cell? ⟨w2.heap.size,3,none⟩=some (.int i64 x9)∧w3.cell? ⟨w2.heap.size,4,none⟩=some (.int i64 x10)∧w3.cell? ⟨w2.heap.size,5,none⟩=some (.int i64 x11)):=HK.out w3 (bRQ _ _);have HNE:Hid (some w.heap.size≠some w1.heap.size∧some w2.heap.size≠some w1.heap.size):=by
    have:=HS2.out;exact⟨fun h=>by have:=Option.some.inj h;omega,fun h=>by have:=Option.some.inj h;omega⟩
   have HLN1:Hid ([1,x1,x2,x3].length+7≤maxLen):=by show _≤_;unfold maxLen;simp
   have HLN2:Hid (([1,x1,x2,x3].length+7)*8≤140737488355328):=by show _≤_;simp
   have HSZ:Hid (∀V,Below w3.heap.size w3 V→w1.heap.size≤V.heap.size):=fun V hV=>by have:=hV.size;have:=HS3.out;have:=HS2.out;omega
   have HFIN:Hid (∀V V2,Below w3.heap.size w3 V→V.grownBy V2 (some w1.heap.size)→Below w.heap.size w V2):=fun V V2 hV hg=>by
    have h1:Below w.heap.size w V:=HB3.out.trans (hV.mono HB3.out.size);exact h1.grown hg h1.size (fun k hk=>by cases hk;exact Nat.le_of_lt hlt1)
   clear hw3 hb23 d0 d5 d6 d7 d8 d9 d10 d11 hS3
   go_region_held3 (fun V=>V.cell? ⟨w.heap.size,5,none⟩=some (.bool x5)∧V.cell? ⟨w2.heap.size,0,none⟩=some (.int i64 x6)∧V.cell? ⟨w2.heap.size,1,none⟩=some (.int i64 x7)∧V.cell? ⟨w2.heap.size,2,none⟩=some (.int i64 x8)∧V.cell? ⟨w2.heap.size,3,none⟩=some (.int i64 x9)∧V.cell? ⟨w2.heap.size,4,none⟩=some (.int i64 x10)∧V.cell? ⟨w2.heap.size,5,none⟩=some (.int i64 x11))
    (first | assumption | exact HKR.out | exact keepC (Below.drew (bRQ _ _)) (by assumption) | exact keepC (Below.alloc (bRQ _ _) (nLQ _) _) (by assumption) | exact keepD (by assumption) HNE.out.1 HNE.out.2 (by assumption))
    (first
     | (go_at_call 28;refine (bit_same x5 _).mono ?_;rintro e w' ⟨rfl,hb⟩;have hb':=hb.symm;subst hb';clear hb)
     | (refine step_append_lst (E:=inE) _ (by rfl) _ _ 87 3 (by rfl) underlying87 j0 _ 8 HJ.out.1 HJ.out.2.1 HJ.out.2.2.1 HJ.out.2.2.2 rfl w1.heap.size (.slice (some ⟨w1.heap.size,0,none⟩) 4 4) (by rfl) [1,x1,x2,x3] (HO3.out _ (by first | exact (bRQ _ _).drew.alloc (nLQ _) _ | exact ((bRQ _ _).alloc (nLQ _) _).drew | exact (bRQ _ _).alloc (nLQ _) _)) _ 0 7 7 (by rfl) [btN x5,x6,x7,x8,x9,x10,x11] (by rfl) (in_new _ [btN x5,x6,x7,x8,x9,x10,x11] 3 [.int i64 (btN x5),.int i64 x6,.int i64 x7,.int i64 x8,.int i64 x9,.int i64 x10,.int i64 x11] rfl) HLN1.out HLN2.out (HSZ.out _ (by first | exact (bRQ _ _).drew.alloc (nLQ _) _ | exact ((bRQ _ _).alloc (nLQ _) _).drew | exact (bRQ _ _).alloc (nLQ _) _)) ?_;intro v' w5 ho5 hg5;have HBF:Hid (Below w.heap.size w w5):=HFIN.out _ _ (by first | exact (bRQ _ _).drew.alloc (nLQ _) _ | exact ((bRQ _ _).alloc (nLQ _) _).drew | exact (bRQ _ _).alloc (nLQ _) _) hg5))
   obtain⟨gv,cv,hv'⟩:∃g c,v'=.slice (some ⟨g,0,none⟩) 11 c:=by
    rcases ho5.2 with ⟨_,h0⟩ | ⟨g,cap,cur,h1,_⟩
    ·cases h0
    exact⟨g,cap,h1⟩
   subst hv';have HG5:Hid (GS inE w5 (.slice (some ⟨gv,0,none⟩) 11 cv) ([1,x1,x2,x3]++[btN x5,x6,x7,x8,x9,x10,x11])):=own_GS ho5;clear ho5 hg5
   go_wp2_with fail
   go_meet
   refine⟨gv,11,cv,rfl,by rw[HLL.out];rfl,?_,HBF.out⟩;rw[HLL.out]
   rcases HG5.out with ⟨_,_,_,h⟩ | ⟨g,o,cap,h,_,_,h4⟩
   ·cases h
   cases h;exact h4
  have hL:=HL2.out hk;have k1:(x0==1)=false:=by simpa using hk
  have d0:=cell_later hb12 c0;clear c0 c1 c2 c3 c4 c5 c6 c7 c8 c9 c10 c11 hw2 hb12 hsz2
  go_wp2_with fail
  go_meet
  exact⟨w1.heap.size,4,4,rfl,by rw[hL];rfl,by rw[hL];exact HG2.out,HB2.out⟩
 case rest =>
  obtain⟨g,n,c,rfl,hn,hG,hB8⟩:=hcut;obtain⟨w8,hw8⟩:∃V,V=wc:=⟨_,rfl⟩;subst hw8;clear HC0 HB0 HB1 HL1 HL2 hlt1 c0 c1 c2 c3 c4 c5 c6 c7 c8 c9 c10 c11;have HB8:Hid (Below w.heap.size w w8):=hB8;have HGA:Hid (GAt inE w8 g 0 L):=hG;have HLN:Hid (L.length=n):=hn;have hn11:n≤11:=by have:=HBY.out.2.1;omega
  have hn4:4≤n:=by have:=HBY.out.2.2;omega
  clear hB8 hG hn;obtain⟨w9,hmk,hown0,hgr⟩:=run_make_own (P:=prog) w8 w8.heap.size 95 5 i0 (.int .u8 0) 1 underlying95 HI.out.1 HI.out.2.1 HI.out.2.2.1 .i64 .i64 12 (by rw[HI.out.2.2.2];decide) (by decide) (nLQ _);have hmk2:(Instr.makeSlice 95 (.int i64 0) (.int i64 12)).run prog w8=.ok (.slice (some ⟨w8.heap.size,0,none⟩) 0 12) w9:=hmk;have HO9:Hid (w9.ownsRow w8.heap.size 5 u8E.n (.slice (some ⟨w8.heap.size,0,none⟩) 0 12) (L.take 0).length (cellsG u8E (L.take 0))):=hown0;have HB9:Hid (Below w8.heap.size w8 w9):=below_grown hgr (nLQ _) (fun k hk=>by cases hk);clear hmk hown0 hgr;go_wp2
  go_loopw [7,8,55] (fun v sm ix wr=>∃k:Nat,k≤n∧ix=.int i64 (k:Int)∧sm=.int i64 (smL (L.take k))∧wr.ownsRow w8.heap.size 5 u8E.n v (L.take k).length (cellsG u8E (L.take k))∧Below w8.heap.size w8 wr) (fun _ _ ix _=>n-(intOf ix).toNat)
  case atStart=>exact⟨0,Nat.zero_le _,rfl,rfl,HO9.out,HB9.out⟩
  case round =>
   obtain⟨k,hk,rfl,rfl,hown,hB⟩:=hrel;obtain⟨T,hT⟩:∃T,T=L.take k:=⟨_,rfl⟩;have HT:Hid (L.take k=T):=hT.symm;have HOW:Hid (wr.ownsRow w8.heap.size 5 u8E.n u7 T.length (cellsG u8E T)):=by rw[hT];exact hown
   have HBR:Hid (Below w8.heap.size w8 wr):=hB;have hsz:w8.heap.size≤wr.heap.size:=hB.size;have HSB:Hid (0≤smL (L.take k)∧smL (L.take k)≤2200):=by
    have h1:=by_sum (by_take HBY.out.1 k);have h2:(L.take k).length≤11:=by simp;omega
    exact⟨h1.1,by omega⟩
   obtain⟨S,hS⟩:∃S,S=smL (L.take k):=⟨_,rfl⟩;have HS:Hid (smL (L.take k)=S):=hS.symm;rw[←hS] at HSB ⊢;have HLT:Hid (T.length≤11):=by show _≤_;rw[hT];simp;omega
   clear hown hS hT;by_cases hlt:k<n
   ·obtain⟨x,hkl,hx,q0⟩:=in_at (HGA.out.later hB) HLN.out hlt;rw[Nat.zero_add] at q0;have hxb:=HBY.out.1 L[k] (List.getElem_mem hkl);rw[hx] at hxb;have hu:=u8_wrap hxb;have HS2:Hid (smL (L.take (k+1))=S+x):=by show _=_;rw[sm_take hkl,hx,HS.out]
    have HT2:Hid (L.take (k+1)=T++[x]):=by show _=_;rw[take_g hkl,hx,HT.out]
    have hSw:IntKind.i64.wrap (S+x)=S+x:=by have:=HSB.out;rw[IntKind.wrap_i64];omega
    have hk0:(0:Int)≤(k:Int):=by omega
    have hk1:(k:Int)<(n:Int):=by omega
    clear hB hkl hx hxb
    go_wp2_with (at_builtin;refine wpList_append_blk (E:=u8E) _ rfl _ _ 95 5 rfl underlying95 i0 _ 1 HI.out.1 HI.out.2.1 HI.out.2.2.1 HI.out.2.2.2 rfl w8.heap.size _ rfl T (HOW.out.alloc _) wr.heap.size 0 1 rfl x (vat_new wr [.int .u8 x] _) ?c1 ?c2 ?c3 ?_)
    case c1=>have:=HLT.out;unfold maxLen;omega
    case c2=>have:=HLT.out;omega
    case c3=>first | (simp;omega) | omega
    intro v' w3 hown3 hgrow _;have HB3:Hid (Below w8.heap.size w8 w3):=(HBR.out.alloc hsz _).grown hgrow (by simp;omega) (fun g hg=>(HOW.out.lt g hg).1);have HO3:Hid (w3.ownsRow w8.heap.size 5 u8E.n v' (L.take (k+1)).length (cellsG u8E (L.take (k+1)))):=by
     show w3.ownsRow w8.heap.size 5 u8E.n v' (L.take (k+1)).length (cellsG u8E (L.take (k+1)));rw[HT2.out,List.length_append];exact hown3
    clear hgrow hown3;go_wp2;go_roundw
    case rel=>exact⟨k+1,by omega,by go_num,by rw[HS2.out],HO3.out,HB3.out⟩
    case measure=>simp[intOf];omega
   have hkn:k=n:=by omega
   have HLE:Hid (T=L):=by show _=_;rw[←HT.out,hkn,←HLN.out];exact List.take_length
   have HRR:Hid (∃R,R=smL L % 251∧S.tmod 251=R∧IntKind.i64.wrap R=R∧IntKind.u8.wrap R=R):=by
    have h1:=HSB.out;have h2:smL L=S:=by rw[←HS.out,HT.out,HLE.out]
    refine⟨smL L % 251,rfl,?_,?_,?_⟩
    ·rw[h2,Int.tmod_eq_emod_of_nonneg h1.1]
    ·rw[IntKind.wrap_i64];omega
    rw[IntKind.wrap_u8];omega
   obtain⟨R,hR,hR1,hR2,hR3⟩:=HRR.out;clear HRR;have HRR:Hid (nmT L=strOfNums (L++[R])):=by show _=_;rw[nmT,hR]
   have hk1:¬(k:Int)<(n:Int):=by omega
   clear hR hB hkn
   go_wp2_with (at_builtin;refine wpList_append_blk (E:=u8E) _ rfl _ _ 95 5 rfl underlying95 i0 _ 1 HI.out.1 HI.out.2.1 HI.out.2.2.1 HI.out.2.2.2 rfl w8.heap.size _ rfl T (HOW.out.alloc _) wr.heap.size 0 1 rfl R (vat_new wr [.int .u8 R] _) ?c1 ?c2 ?c3 ?_)
   case c1=>have:=HLT.out;unfold maxLen;omega
   case c2=>have:=HLT.out;omega
   case c3=>first | (simp;omega) | omega
   intro v' w3 hown3 hgrow _;have HB3:Hid (Below w8.heap.size w8 w3):=(HBR.out.alloc hsz _).grown hgrow (by simp;omega) (fun g hg=>(HOW.out.lt g hg).1);have HBF:Hid (Below w.heap.size w w3):=HB8.out.trans (HB3.out.mono HB8.out.size);rw[HLE.out] at hown3;have hown4:w3.ownsRow w8.heap.size 5 u8E.n v' (L++[R]).length (cellsG u8E (L++[R])):=by rw[List.length_append];exact hown3
   obtain⟨n9,hn9⟩:∃n9,(L++[R]).length=n9:=⟨_,rfl⟩;obtain⟨gv,cv,rfl,hcv⟩:=conv_own hown4 hn9 (by rw[←hn9];simp);clear hn9;clear hown4;clear hgrow hown3;go_wp2;refine bodyPost_ret (v:=.tuple #[.string (strOfNums (L++[R])),.nilIface]) (by simp[results,results8,go_sem]) rfl ⟨by rw[HRR.out],HBF.out⟩
theorem byN_ext {b:ByteArray}{i j:Nat}(h:i+j<b.size):byN (b.extract i b.size) j=byN b (i+j):=by
 have h2:j<(b.extract i b.size).size:=by rw[ByteArray.size_extract];omega
 rw[byN_at _ _ h2,byN_at _ _ h]
 congr 1
 rw[ByteArray.getElem_extract]
theorem wr_u8 (c:UInt8):wrap64 ((c.toNat:Nat):Int)=(c.toNat:Int):=by
 have:=UInt8.toNat_lt c;unfold wrap64;omega
theorem readRule_any (t:ByteArray)(h:6≤t.size)(w:World):
 Calls prog 92 #[.string t] w fun e w'=>e=.returned (.agg #[.int i64 (byN t 0:Int),.int i64 (byN t 1:Int),.int i64 (byN t 2:Int),.int i64 (byN t 3:Int),.int i64 (byN t 4:Int),.int i64 (byN t 5:Int)])∧Below w.heap.size w w':=by
 have l0:0<t.size:=by omega
 have l1:1<t.size:=by omega
 have l2:2<t.size:=by omega
 have l3:3<t.size:=by omega
 have l4:4<t.size:=by omega
 have l5:5<t.size:=by omega
 have i0:(0:Int)<(t.size:Int):=by omega
 have i1:(1:Int)<(t.size:Int):=by omega
 have i2:(2:Int)<(t.size:Int):=by omega
 have i3:(3:Int)<(t.size:Int):=by omega
 have i4:(4:Int)<(t.size:Int):=by omega
 have i5:(5:Int)<(t.size:Int):=by omega
 rw[byN_at t 0 l0,byN_at t 1 l1,byN_at t 2 l2,byN_at t 3 l3,byN_at t 4 l4,byN_at t 5 l5];go_enter func92,ntmps92;go_upto_region 1 with fail;have z0:=wr_u8 t[0];have z1:=wr_u8 t[1];have z2:=wr_u8 t[2];have z3:=wr_u8 t[3];have z4:=wr_u8 t[4];have z5:=wr_u8 t[5]
 go_region
 go_wp2;refine bodyPost_ret (v:=.agg #[.int i64 (t[0].toNat:Int),.int i64 (t[1].toNat:Int),.int i64 (t[2].toNat:Int),.int i64 (t[3].toNat:Int),.int i64 (t[4].toNat:Int),.int i64 (t[5].toNat:Int)]) (by simp[results,results92,go_sem]) rfl ⟨rfl,?_⟩;exact ((bRQ _ _).alloc (nLQ _) _).drew
theorem wr_sizes {b:ByteArray}(h0:b.size≠0)(h:b.size=lnM (byN b 0)):(byN b 0=1∧b.size=12)∨(byN b 0≠1∧b.size=5):=by
 unfold lnM at h
 split at h
 ·exact .inl ⟨by assumption,h⟩
 split at h
 ·exact .inr ⟨by assumption,h⟩
 exact absurd h h0
theorem wread_plain (b:ByteArray)(hk:byN b 0≠1)(hs:b.size=5)(w:World):
 Calls prog 63 #[.string b] w fun e w'=>e=.returned (mgV (wrM b))∧Below w.heap.size w w':=by
 have l0:0<b.size:=by omega
 have l1:1<b.size:=by omega
 have l2:2<b.size:=by omega
 have l3:3<b.size:=by omega
 have i0:(0:Int)<(b.size:Int):=by omega
 have i1:(1:Int)<(b.size:Int):=by omega
 have i2:(2:Int)<(b.size:Int):=by omega
 have i3:(3:Int)<(b.size:Int):=by omega
 have e:mgV (wrM b)=.agg #[.int i64 (b[0].toNat:Int),.int i64 (b[1].toNat:Int),.int i64 (b[2].toNat:Int),.int i64 (b[3].toNat:Int),.int i64 0,.bool false,.int i64 0,.int i64 0,.int i64 0,.int i64 0,.int i64 0,.int i64 0]:=by
  simp only[mgV,wrM,if_neg hk,zeP];rw[byN_at b 0 l0,byN_at b 1 l1,byN_at b 2 l2,byN_at b 3 l3]
 rw[e];have k1:((b[0].toNat:Int)==1)=false:=by rw[byN_at b 0 l0] at hk;simp;omega
 have z0:=wr_u8 b[0];have z1:=wr_u8 b[1];have z2:=wr_u8 b[2];have z3:=wr_u8 b[3];clear e hk hs;go_enter func63,ntmps63;go_upto_region 1 with fail
 go_region
 all_goals go_wp2
 all_goals refine bodyPost_ret (v:=.agg #[.int i64 (b[0].toNat:Int),.int i64 (b[1].toNat:Int),.int i64 (b[2].toNat:Int),.int i64 (b[3].toNat:Int),.int i64 0,.bool false,.int i64 0,.int i64 0,.int i64 0,.int i64 0,.int i64 0,.int i64 0]) (by simp[results,results63,go_sem]) rfl ⟨rfl,?_⟩
 all_goals exact (((bRQ _ _).alloc (nLQ _) _).alloc (by simp) _).drew
theorem below_set8 {B:Nat}{a W:World}(h:Below B a W)(g:Nat)(hb:B≤g)(x4 x5 x6 x7 x8 x9 x10 x11:Value):Below B a ((((((((W.setCell ⟨g,4,none⟩ x4).setCell ⟨g,5,none⟩ x5).setCell ⟨g,6,none⟩ x6).setCell ⟨g,7,none⟩ x7).setCell ⟨g,8,none⟩ x8).setCell ⟨g,9,none⟩ x9).setCell ⟨g,10,none⟩ x10).setCell ⟨g,11,none⟩ x11):=
 (((((((h.setCell hb _).setCell hb _).setCell hb _).setCell hb _).setCell hb _).setCell hb _).setCell hb _).setCell hb _
theorem cell1_set8 {W:World}{g:Nat}{v x4 x5 x6 x7 x8 x9 x10 x11:Value}(h:W.cell? ⟨g,1,none⟩=some v):((((((((W.setCell ⟨g,4,none⟩ x4).setCell ⟨g,5,none⟩ x5).setCell ⟨g,6,none⟩ x6).setCell ⟨g,7,none⟩ x7).setCell ⟨g,8,none⟩ x8).setCell ⟨g,9,none⟩ x9).setCell ⟨g,10,none⟩ x10).setCell ⟨g,11,none⟩ x11).cell? ⟨g,1,none⟩=some v:=by
 simp[go_sem,h]
theorem below_set12 {B:Nat}{a W:World}(h:Below B a W)(g:Nat)(hb:B≤g)(x0 x1 x2 x3 x4 x5 x6 x7 x8 x9 x10 x11:Value):Below B a ((((((((((((W.setCell ⟨g,0,none⟩ x0).setCell ⟨g,1,none⟩ x1).setCell ⟨g,2,none⟩ x2).setCell ⟨g,3,none⟩ x3).setCell ⟨g,4,none⟩ x4).setCell ⟨g,5,none⟩ x5).setCell ⟨g,6,none⟩ x6).setCell ⟨g,7,none⟩ x7).setCell ⟨g,8,none⟩ x8).setCell ⟨g,9,none⟩ x9).setCell ⟨g,10,none⟩ x10).setCell ⟨g,11,none⟩ x11):=
 (((((((((((h.setCell hb _).setCell hb _).setCell hb _).setCell hb _).setCell hb _).setCell hb _).setCell hb _).setCell hb _).setCell hb _).setCell hb _).setCell hb _).setCell hb _
theorem wread_do (b:ByteArray)(hk:byN b 0=1)(hs:b.size=12)(w:World):
 Calls prog 63 #[.string b] w fun e w'=>e=.returned (mgV (wrM b))∧Below w.heap.size w w':=by
 have l0:0<b.size:=by omega
 have l1:1<b.size:=by omega
 have l2:2<b.size:=by omega
 have l3:3<b.size:=by omega
 have l4:4<b.size:=by omega
 have i0:(0:Int)<(b.size:Int):=by omega
 have i1:(1:Int)<(b.size:Int):=by omega
 have i2:(2:Int)<(b.size:Int):=by omega
 have i3:(3:Int)<(b.size:Int):=by omega
 have i4:(4:Int)<(b.size:Int):=by omega
 have i5:(5:Int)≤(b.size:Int):=by omega
 obtain⟨y1,hy1⟩:∃y:Int,y=(b[1].toNat:Int):=⟨_,rfl⟩;obtain⟨y2,hy2⟩:∃y:Int,y=(b[2].toNat:Int):=⟨_,rfl⟩;obtain⟨y3,hy3⟩:∃y:Int,y=(b[3].toNat:Int):=⟨_,rfl⟩;obtain⟨c4,hc4⟩:∃c:Bool,c=((b[4].toNat:Int)==1):=⟨_,rfl⟩;obtain⟨x0,hx0⟩:∃y:Int,y=(byN b 5:Int):=⟨_,rfl⟩;obtain⟨x1,hx1⟩:∃y:Int,y=(byN b 6:Int):=⟨_,rfl⟩;obtain⟨x2,hx2⟩:∃y:Int,y=(byN b 7:Int):=⟨_,rfl⟩;obtain⟨x3,hx3⟩:∃y:Int,y=(byN b 8:Int):=⟨_,rfl⟩;obtain⟨x4,hx4⟩:∃y:Int,y=(byN b 9:Int):=⟨_,rfl⟩;obtain⟨x5,hx5⟩:∃y:Int,y=(byN b 10:Int):=⟨_,rfl⟩;have HE:Hid (mgV (wrM b)=.agg #[.int i64 1,.int i64 y1,.int i64 y2,.int i64 y3,.int i64 y1,.bool c4,.int i64 x0,.int i64 x1,.int i64 x2,.int i64 x3,.int i64 x4,.int i64 x5]):=by
  show _=_;simp only[mgV,wrM,if_pos hk,rrM];rw[hk,hy1,hy2,hy3,hc4,hx0,hx1,hx2,hx3,hx4,hx5,byN_at b 1 l1,byN_at b 2 l2,byN_at b 3 l3,byN_at b 4 l4];have:(b[4].toNat==1)=((b[4].toNat:Int)==1):=by
   by_cases h:b[4].toNat=1
   ·rw[h];rfl
   rw[beq_eq_false_iff_ne.2 h,beq_eq_false_iff_ne.2 (by omega)]
  rw[this];rfl
 have HRD:Hid (∀W,Calls prog 92 #[.string (b.extract 5 b.size)] W fun e w'=>e=.returned (.agg #[.int i64 x0,.int i64 x1,.int i64 x2,.int i64 x3,.int i64 x4,.int i64 x5])∧Below W.heap.size W w'):=fun W=>by
  have h:=readRule_any (b.extract 5 b.size) (by rw[ByteArray.size_extract];omega) W;rw[byN_ext (by omega),byN_ext (by omega),byN_ext (by omega),byN_ext (by omega),byN_ext (by omega),byN_ext (by omega)] at h;rw[hx0,hx1,hx2,hx3,hx4,hx5];exact h
 have k0:(b[0].toNat:Int)=1:=by rw[byN_at b 0 l0] at hk;omega
 have z0:=wr_u8 b[0];have z1:wrap64 ((b[1].toNat:Nat):Int)=y1:=(wr_u8 b[1]).trans hy1.symm;have z2:wrap64 ((b[2].toNat:Nat):Int)=y2:=(wr_u8 b[2]).trans hy2.symm;have z3:wrap64 ((b[3].toNat:Nat):Int)=y3:=(wr_u8 b[3]).trans hy3.symm;rw[k0] at z0;rw[HE.out];obtain⟨w3,hw3⟩:∃V,V=((w.alloc (.cells #[.int i64 0,.int i64 0,.int i64 0,.int i64 0,.int i64 0,.bool false,.int i64 0,.int i64 0,.int i64 0,.int i64 0,.int i64 0,.int i64 0] 51)).alloc (.cells #[.int i64 1,.int i64 y1,.int i64 y2,.int i64 y3,.int i64 0,.bool false,.int i64 0,.int i64 0,.int i64 0,.int i64 0,.int i64 0,.int i64 0] 51)).drew:=⟨_,rfl⟩;have HB3:Hid (Below w.heap.size w w3):=by rw[hw3];exact (((bRQ _ _).alloc (nLQ _) _).alloc (by simp) _).drew
 have HS3:Hid (w3.heap.size=w.heap.size+1+1):=by show _=_;rw[hw3];simp
 have hm3:MgC w3 (w.heap.size+1) 1 y1 y2 y3 0 false 0 0 0 0 0 0:=by
  rw[hw3];refine⟨?_,?_,?_,?_,?_,?_,?_,?_,?_,?_,?_,?_⟩ <;> simp
 have hr3:MgC w3 w.heap.size 0 0 0 0 0 false 0 0 0 0 0 0:=by
  rw[hw3];refine⟨?_,?_,?_,?_,?_,?_,?_,?_,?_,?_,?_,?_⟩ <;> simp
 have hf3:∀i,w3.frozen? ⟨w.heap.size,i,none⟩=false∧w3.frozen? ⟨w.heap.size+1,i,none⟩=false:=by
  intro i;rw[hw3];constructor <;> simp
 have HM3:Hid (∀W,Below w3.heap.size w3 W→MgC W (w.heap.size+1) 1 y1 y2 y3 0 false 0 0 0 0 0 0∧MgC W w.heap.size 0 0 0 0 0 false 0 0 0 0 0 0∧(∀i,W.frozen? ⟨w.heap.size,i,none⟩=false)∧(∀i,W.frozen? ⟨w.heap.size+1,i,none⟩=false)):=fun W h =>
  ⟨hm3.later h,hr3.later h,fun i=>by rw[h.frozen (p:=⟨w.heap.size,i,none⟩) hr3.lt];exact (hf3 i).1,fun i=>by rw[h.frozen (p:=⟨w.heap.size+1,i,none⟩) hm3.lt];exact (hf3 i).2⟩
 have HW3:Hid (((w.alloc (.cells #[.int i64 0,.int i64 0,.int i64 0,.int i64 0,.int i64 0,.bool false,.int i64 0,.int i64 0,.int i64 0,.int i64 0,.int i64 0,.int i64 0] 51)).alloc (.cells #[.int i64 1,.int i64 y1,.int i64 y2,.int i64 y3,.int i64 0,.bool false,.int i64 0,.int i64 0,.int i64 0,.int i64 0,.int i64 0,.int i64 0] 51)).drew=w3):=hw3.symm;subst hc4;clear hk hs hy1 hy2 hy3 hx0 hx1 hx2 hx3 hx4 hx5 hw3 hf3 hr3;go_enter func63,ntmps63;go_upto_region 1 with fail
 go_region
 go_upto_region 3 with fail;rw[HW3.out];obtain⟨m0,m1,m2,m3,m4,m5,m6,m7,m8,m9,m10,m11⟩:=hm3;have hd1:w3.drew.cell? ⟨w.heap.size+1,1,none⟩=some (.int i64 y1):=by simpa using m1
 go_region_held3 (fun V=>V.cell? ⟨w.heap.size+1,1,none⟩=some (.int i64 y1))
  (first | (with_reducible assumption) | (with_reducible exact hd1) | (with_reducible exact cell1_set8 (by assumption)))
  ((go_at_call 92;refine (HRD.out _).mono ?_;rintro e w5 ⟨rfl,hb5⟩;have HB5:Hid (Below w3.heap.size w3 w5):=(Below.drew (bRQ _ _)).trans hb5;clear hb5 m0 m1 m2 m3 m4 m5 m6 m7 m8 m9 m10 m11;obtain⟨⟨m0,m1,m2,m3,m4,m5,m6,m7,m8,m9,m10,m11⟩,⟨r0,r1,r2,r3,r4,r5,r6,r7,r8,r9,r10,r11⟩,hfr,hfm⟩:=HM3.out w5 HB5.out;have f4:=hfm 4;have f5:=hfm 5;have f6:=hfm 6;have f7:=hfm 7;have f8:=hfm 8;have f9:=hfm 9;have f10:=hfm 10;have f11:=hfm 11))
 all_goals
  have g0:=hfr 0;have g1:=hfr 1;have g2:=hfr 2;have g3:=hfr 3;have g4:=hfr 4;have g5:=hfr 5;have g6:=hfr 6;have g7:=hfr 7;have g8:=hfr 8;have g9:=hfr 9;have g10:=hfr 10;have g11:=hfr 11;have hl1:=bLQ _ _ m0;have hl2:=bLQ _ _ r0;have HBF:Hid (Below w.heap.size w w5):=HB3.out.trans (HB5.out.mono HB3.out.size);clear hfr hfm;go_wp2;refine bodyPost_ret (v:=.agg #[.int i64 1,.int i64 y1,.int i64 y2,.int i64 y3,.int i64 y1,.bool ((b[4].toNat:Int)==1),.int i64 x0,.int i64 x1,.int i64 x2,.int i64 x3,.int i64 x4,.int i64 x5]) (by simp[results,results63,go_sem, *]) rfl ⟨rfl,?_⟩;exact below_set12 (below_set8 HBF.out _ (Nat.le_succ _) _ _ _ _ _ _ _ _) _ (nLQ _) _ _ _ _ _ _ _ _ _ _ _ _
def dcE (b:ByteArray):Int:=if dcB b then 0 else 2
theorem dc_no {b:ByteArray}(h:dcB b=false):mgV (dcV b)=.agg #[.int i64 0,.int i64 0,.int i64 0,.int i64 0,.int i64 0,.bool false,.int i64 0,.int i64 0,.int i64 0,.int i64 0,.int i64 0,.int i64 0]∧noV (dcE b)=.iface 81 (.int i64 2):=by
 unfold dcV dcE;rw[h];exact⟨rfl,rfl⟩
theorem dc_yes {b:ByteArray}(h:dcB b=true):dcV b=wrM b∧noV (dcE b)=.nilIface:=by
 unfold dcV dcE;rw[h];exact⟨rfl,rfl⟩
theorem dc_0 {b:ByteArray}(h:b.size=0):dcB b=false:=by simp[dcB,h]
theorem dc_ln {b:ByteArray}(h:b.size≠lnM (byN b 0)):dcB b=false:=by simp[dcB,h]
theorem dc_mg {b:ByteArray}(h:mgN (wrM b)≠0):dcB b=false:=by simp[dcB,h]
theorem dc_tx {b:ByteArray}(h:mgT (wrM b)≠b):dcB b=false:=by simp[dcB,h]
theorem dc_all {b:ByteArray}(h0:b.size≠0)(h1:b.size=lnM (byN b 0))(h2:mgN (wrM b)=0)(h3:mgT (wrM b)=b):dcB b=true:=by
 unfold dcB;rw[decide_eq_true h1,decide_eq_true h2,decide_eq_true h3,beq_eq_false_iff_ne.2 h0];rfl
theorem wread_any (b:ByteArray)(h0:b.size≠0)(h:b.size=lnM (byN b 0))(w:World):
 Calls prog 63 #[.string b] w fun e w'=>e=.returned (mgV (wrM b))∧Below w.heap.size w w':=by
 rcases wr_sizes h0 h with ⟨h1,h2⟩ | ⟨h1,h2⟩
 ·exact wread_do b h1 h2 w
 exact wread_plain b h1 h2 w
theorem wenc_any (x0 x1 x2 x3 x4:Int)(x5:Bool)(x6 x7 x8 x9 x10 x11:Int)(w:World):
 Calls prog 8 #[.agg #[.int i64 x0,.int i64 x1,.int i64 x2,.int i64 x3,.int i64 x4,.bool x5,.int i64 x6,.int i64 x7,.int i64 x8,.int i64 x9,.int i64 x10,.int i64 x11]] w fun e w'=>e=.returned (.tuple #[.string (enT ⟨x0,x1,x2,x3,⟨x4,x5,⟨x6,x7,x8,x9,x10,x11⟩⟩⟩),noV (mgN ⟨x0,x1,x2,x3,⟨x4,x5,⟨x6,x7,x8,x9,x10,x11⟩⟩⟩)])∧Below w.heap.size w w':=by
 by_cases h:mgN ⟨x0,x1,x2,x3,⟨x4,x5,⟨x6,x7,x8,x9,x10,x11⟩⟩⟩=0
 ·exact wenc_yes x0 x1 x2 x3 x4 x5 x6 x7 x8 x9 x10 x11 w h
 exact wenc_no x0 x1 x2 x3 x4 x5 x6 x7 x8 x9 x10 x11 w h
theorem emp_no {b:ByteArray}(h:b.size≠0):b.toList.isEmpty=false:=by
 rw[Lib.toList_data];cases h2:b.data.toList with
 | nil =>
   exfalso
   have:=Lib.size_eq b;rw[h2] at this;exact h this
 | cons a b=>rfl
theorem txt_eq (a b:ByteArray):(a.toList==b.toList)=decide (a=b):=by
 rw[Lib.toList_data,Lib.toList_data];by_cases h:a=b
 ·subst h;simp
 rw[decide_eq_false h,beq_eq_false_iff_ne];intro h2
 apply h
 cases a;cases b;simp at h2;cases h2;rfl
theorem wdec_any (b:ByteArray)(w:World):
 Calls prog 30 #[.string b] w fun e w'=>e=.returned (.tuple #[mgV (dcV b),noV (dcE b)])∧Below w.heap.size w w':=by
 obtain⟨w1,hw1⟩:∃V,V=w.alloc (.cells #[.int i64 0,.int i64 0,.int i64 0,.int i64 0,.int i64 0,.bool false,.int i64 0,.int i64 0,.int i64 0,.int i64 0,.int i64 0,.int i64 0] 51):=⟨_,rfl⟩;have HB1:Hid (Below w.heap.size w w1):=by rw[hw1];exact (bRQ _ _).alloc (nLQ _) _
 have hm1:MgC w1 w.heap.size 0 0 0 0 0 false 0 0 0 0 0 0:=by rw[hw1];exact mgc_new w 0 0 0 0 0 false 0 0 0 0 0 0 _
 have hf1:∀i,w1.frozen? ⟨w.heap.size,i,none⟩=false:=by intro i;rw[hw1];simp
 have HR1:Hid (∀W,Below w1.heap.size w1 W→MgC W w.heap.size 0 0 0 0 0 false 0 0 0 0 0 0∧(∀i,W.frozen? ⟨w.heap.size,i,none⟩=false)):=fun W h =>
  ⟨hm1.later h,fun i=>by rw[h.frozen (p:=⟨w.heap.size,i,none⟩) hm1.lt];exact hf1 i⟩
 have HW1:Hid (w.alloc (.cells #[.int i64 0,.int i64 0,.int i64 0,.int i64 0,.int i64 0,.bool false,.int i64 0,.int i64 0,.int i64 0,.int i64 0,.int i64 0,.int i64 0] 51)=w1):=hw1.symm;have HBAD:Hid (∀W,dcB b=false→Below w.heap.size w W→Ending.returned (.tuple #[.agg #[.int i64 0,.int i64 0,.int i64 0,.int i64 0,.int i64 0,.bool false,.int i64 0,.int i64 0,.int i64 0,.int i64 0,.int i64 0,.int i64 0],.iface 81 (.int i64 2)])=.returned (.tuple #[mgV (dcV b),noV (dcE b)])∧Below w.heap.size w W):=fun W h hb=>by
  rw[(dc_no h).1,(dc_no h).2];exact⟨rfl,hb⟩
 clear hw1 hm1 hf1;by_cases h0:b.size=0
 ·have HDC:Hid (dcB b=false):=dc_0 h0;have e:b=⟨#[]⟩:=by
   apply ByteArray.ext
   exact Array.eq_empty_of_size_eq_zero h0
  subst e;clear h0;go_enter func30,ntmps30;go_wp2;refine bodyPost_ret (v:=.tuple #[.agg #[.int i64 0,.int i64 0,.int i64 0,.int i64 0,.int i64 0,.bool false,.int i64 0,.int i64 0,.int i64 0,.int i64 0,.int i64 0,.int i64 0],.iface 81 (.int i64 2)]) (by simp[results,results30,go_sem, *]) rfl ?_;exact HBAD.out _ HDC.out ((bRQ _ _).alloc (nLQ _) _)
 have he:=emp_no h0;have l0:0<b.size:=by omega
 have i0:(0:Int)<(b.size:Int):=by omega
 obtain⟨N,hN⟩:∃N,N=lnM (byN b 0):=⟨_,rfl⟩;have HN:Hid (lnM b[0].toNat=N):=by show _=_;rw[hN,byN_at b 0 l0]
 by_cases h1:b.size=N
 ·have hn1:((b.size:Int) != (N:Int))=false:=by simp[h1]
  have hn2:((b.size:Int)==(N:Int))=true:=by simp[h1]
  obtain⟨m,hm⟩:∃m,m=wrM b:=⟨_,rfl⟩;have HRD:Hid (∀W,Calls prog 63 #[.string b] W fun e w'=>e=.returned (mgV m)∧Below W.heap.size W w'):=fun W=>by rw[hm];exact wread_any b h0 (by rw[h1,hN]) W
  have HM:Hid (wrM b=m):=hm.symm;have HALL:Hid (mgN m=0→mgT m=b→dcB b=true):=fun h2 h3=>dc_all h0 (by rw[h1,hN]) (by rw[←hm];exact h2) (by rw[←hm];exact h3)
  clear hm h0 hN;obtain⟨x0,x1,x2,x3,⟨x4,x5,⟨x6,x7,x8,x9,x10,x11⟩⟩⟩:=m;obtain⟨Z,hZ⟩:∃Z,Z=mgN ⟨x0,x1,x2,x3,⟨x4,x5,⟨x6,x7,x8,x9,x10,x11⟩⟩⟩:=⟨_,rfl⟩;obtain⟨E,hE⟩:∃E,E=enT ⟨x0,x1,x2,x3,⟨x4,x5,⟨x6,x7,x8,x9,x10,x11⟩⟩⟩:=⟨_,rfl⟩;have HZ:Hid (mgN ⟨x0,x1,x2,x3,⟨x4,x5,⟨x6,x7,x8,x9,x10,x11⟩⟩⟩=Z∧enT ⟨x0,x1,x2,x3,⟨x4,x5,⟨x6,x7,x8,x9,x10,x11⟩⟩⟩=E):=⟨hZ.symm,hE.symm⟩;clear hZ hE;go_enter func30,ntmps30
  go_wp2_with fail
  refine (size_any _ _).mono ?_;rintro e w' ⟨rfl,hw'⟩;have hw'':=hw'.symm;subst hw'';clear hw';rw[HN.out]
  go_wp2_with fail
  rw[HW1.out];refine (HRD.out _).mono ?_;rintro e w2 ⟨rfl,hb2⟩
  dsimp only[mgV]
  obtain⟨w3,hw3⟩:∃V,V=w2.alloc (.cells #[.int i64 x0,.int i64 x1,.int i64 x2,.int i64 x3,.int i64 x4,.bool x5,.int i64 x6,.int i64 x7,.int i64 x8,.int i64 x9,.int i64 x10,.int i64 x11] 51):=⟨_,rfl⟩;have hb23:Below w2.heap.size w2 w3:=by rw[hw3];exact (bRQ _ _).alloc (nLQ _) _
  have HB3:Hid (Below w1.heap.size w1 w3):=hb2.trans (hb23.mono hb2.size);have hm3:MgC w3 w2.heap.size x0 x1 x2 x3 x4 x5 x6 x7 x8 x9 x10 x11:=by rw[hw3];exact mgc_new w2 x0 x1 x2 x3 x4 x5 x6 x7 x8 x9 x10 x11 _
  have HM3:Hid (∀W,Below w3.heap.size w3 W→MgC W w2.heap.size x0 x1 x2 x3 x4 x5 x6 x7 x8 x9 x10 x11):=fun W h=>hm3.later h
  have HG3:Hid (w1.heap.size≤w2.heap.size):=hb2.size;have HW3:Hid (w2.alloc (.cells #[.int i64 x0,.int i64 x1,.int i64 x2,.int i64 x3,.int i64 x4,.bool x5,.int i64 x6,.int i64 x7,.int i64 x8,.int i64 x9,.int i64 x10,.int i64 x11] 51)=w3):=hw3.symm;clear hb2 hb23 hw3;go_upto_region 4 with fail;rw[HW3.out];obtain⟨m0,m1,m2,m3,m4,m5,m6,m7,m8,m9,m10,m11⟩:=hm3
  go_wp2_with fail
  refine (wenc_any x0 x1 x2 x3 x4 x5 x6 x7 x8 x9 x10 x11 w3).mono ?_;rintro e w4 ⟨rfl,hb4⟩;have HBX:Hid (Below w1.heap.size w1 w4):=HB3.out.trans (hb4.mono HB3.out.size);have HM4:Hid (MgC w4 w2.heap.size x0 x1 x2 x3 x4 x5 x6 x7 x8 x9 x10 x11):=HM3.out w4 hb4;rw[HZ.out.1,HZ.out.2];clear hb4 m0 m1 m2 m3 m4 m5 m6 m7 m8 m9 m10 m11;by_cases hz:Z=0
  ·have HZ0:Hid (mgN ⟨x0,x1,x2,x3,⟨x4,x5,⟨x6,x7,x8,x9,x10,x11⟩⟩⟩=0):=by rw[hz] at HZ;exact HZ.out.1
   have HET:Hid (mgT ⟨x0,x1,x2,x3,⟨x4,x5,⟨x6,x7,x8,x9,x10,x11⟩⟩⟩=E):=by show _=_;rw[←HZ.out.2,enT,if_pos HZ0.out]
   subst hz;rw[no_ok rfl];by_cases hEb:E=b
   ·have HDC:Hid (dcB b=true):=HALL.out HZ0.out (by rw[HET.out,hEb]);have t1:(E.toList==b.toList)=true:=by rw[txt_eq,decide_eq_true hEb]
    obtain⟨⟨r0,r1,r2,r3,r4,r5,r6,r7,r8,r9,r10,r11⟩,hf⟩:=HR1.out _ HBX.out;obtain⟨m0,m1,m2,m3,m4,m5,m6,m7,m8,m9,m10,m11⟩:=HM4.out;have f0:=hf 0;have f1:=hf 1;have f2:=hf 2;have f3:=hf 3;have f4:=hf 4;have f5:=hf 5;have f6:=hf 6;have f7:=hf 7;have f8:=hf 8;have f9:=hf 9;have f10:=hf 10;have f11:=hf 11;have HFIN:Hid (.tuple #[.agg #[.int i64 x0,.int i64 x1,.int i64 x2,.int i64 x3,.int i64 x4,.bool x5,.int i64 x6,.int i64 x7,.int i64 x8,.int i64 x9,.int i64 x10,.int i64 x11],.nilIface]=Value.tuple #[mgV (dcV b),noV (dcE b)]):=by
     show _=_;rw[(dc_yes HDC.out).1,(dc_yes HDC.out).2,HM.out];rfl
    clear hf hEb;go_wp2;refine bodyPost_ret (v:=.tuple #[.agg #[.int i64 x0,.int i64 x1,.int i64 x2,.int i64 x3,.int i64 x4,.bool x5,.int i64 x6,.int i64 x7,.int i64 x8,.int i64 x9,.int i64 x10,.int i64 x11],.nilIface]) (by simp[results,results30,go_sem, *]) rfl ?_;exact⟨by rw[HFIN.out],below_set12 (HB1.out.trans (HBX.out.mono HB1.out.size)) _ (nLQ _) _ _ _ _ _ _ _ _ _ _ _ _⟩
   have HDC:Hid (dcB b=false):=dc_tx (by rw[HM.out,HET.out];exact hEb);have t1:(E.toList==b.toList)=false:=by rw[txt_eq,decide_eq_false hEb]
   obtain⟨⟨r0,r1,r2,r3,r4,r5,r6,r7,r8,r9,r10,r11⟩,hf⟩:=HR1.out _ HBX.out;have f0:=hf 0;have f1:=hf 1;have f2:=hf 2;have f3:=hf 3;have f4:=hf 4;have f5:=hf 5;have f6:=hf 6;have f7:=hf 7;have f8:=hf 8;have f9:=hf 9;have f10:=hf 10;have f11:=hf 11;clear hf;go_wp2;refine bodyPost_ret (v:=.tuple #[.agg #[.int i64 0,.int i64 0,.int i64 0,.int i64 0,.int i64 0,.bool false,.int i64 0,.int i64 0,.int i64 0,.int i64 0,.int i64 0,.int i64 0],.iface 81 (.int i64 2)]) (by simp[results,results30,go_sem, *]) rfl ?_;exact HBAD.out _ HDC.out (below_set12 (HB1.out.trans (HBX.out.mono HB1.out.size)) _ (nLQ _) _ _ _ _ _ _ _ _ _ _ _ _)
  have HDC:Hid (dcB b=false):=dc_mg (by rw[HM.out,HZ.out.1];exact hz);rw[no_ne hz];obtain⟨⟨r0,r1,r2,r3,r4,r5,r6,r7,r8,r9,r10,r11⟩,hf⟩:=HR1.out _ HBX.out;have f0:=hf 0;have f1:=hf 1;have f2:=hf 2;have f3:=hf 3;have f4:=hf 4;have f5:=hf 5;have f6:=hf 6;have f7:=hf 7;have f8:=hf 8;have f9:=hf 9;have f10:=hf 10;have f11:=hf 11;clear hf;go_wp2;refine bodyPost_ret (v:=.tuple #[.agg #[.int i64 0,.int i64 0,.int i64 0,.int i64 0,.int i64 0,.bool false,.int i64 0,.int i64 0,.int i64 0,.int i64 0,.int i64 0,.int i64 0],.iface 81 (.int i64 2)]) (by simp[results,results30,go_sem, *]) rfl ?_;exact HBAD.out _ HDC.out (below_set12 (HB1.out.trans (HBX.out.mono HB1.out.size)) _ (nLQ _) _ _ _ _ _ _ _ _ _ _ _ _)
 have HDC:Hid (dcB b=false):=dc_ln (by rw[←hN];exact h1);have hn1:((b.size:Int) != (N:Int))=true:=by simp;omega
 have hn2:((b.size:Int)==(N:Int))=false:=by simp;omega
 clear hN h0;go_enter func30,ntmps30
 go_wp2_with fail
 refine (size_any _ _).mono ?_;rintro e w' ⟨rfl,hw'⟩;have hw'':=hw'.symm;subst hw'';clear hw';rw[HN.out];go_wp2;refine bodyPost_ret (v:=.tuple #[.agg #[.int i64 0,.int i64 0,.int i64 0,.int i64 0,.int i64 0,.bool false,.int i64 0,.int i64 0,.int i64 0,.int i64 0,.int i64 0,.int i64 0],.iface 81 (.int i64 2)]) (by simp[results,results30,go_sem, *]) rfl ?_;exact HBAD.out _ HDC.out ((bRQ _ _).alloc (nLQ _) _)
def stZ:Value→Nat
 | .string s=>s.size
 | _=>0
theorem ne_emp {b:ByteArray}(h:b.size≠0):(b.toList==[])=false:=by
 have:=emp_no h;cases h2:b.toList with
 | nil=>rw[h2] at this;cases this
 | cons a r=>rfl
theorem wcut_own (b:ByteArray)(hsz:b.size≤1048576)(w:World):
 Calls prog 9 #[.string b] w fun e w'=>∃v,e=.returned (.tuple #[v,.string (wtR b),noV (wtN b)])∧w'.ownsRow w.heap.size 51 msgE.n v (wtL b).length (cellsG msgE (wtL b))∧Below w.heap.size w w':=by
 obtain⟨j0,hj,hy0,hy1,hy2⟩:=info_parts msg_info;have HI1:Hid (Tryz.prog.info? 51=some j0):=hj;have HI2:Hid (j0.zero=some (.agg #[.int i64 0,.int i64 0,.int i64 0,.int i64 0,.int i64 0,.bool false,.int i64 0,.int i64 0,.int i64 0,.int i64 0,.int i64 0,.int i64 0])):=hy0;have HI3:Hid (j0.size=12):=hy1;have HI4:Hid (j0.bytes=96):=hy2;have HSZ:Hid (b.size≤1048576):=hsz;have HEND:Hid (∀(W:World) (v:Value) (L:List Mg) (r:ByteArray),wtG [] b=some (L,r)→W.ownsRow w.heap.size 51 msgE.n v (L).length (cellsG msgE (L))→Below w.heap.size w W→∃v',Ending.returned (.tuple #[v,.string r,.nilIface])=.returned (.tuple #[v',.string (wtR b),noV (wtN b)])∧W.ownsRow w.heap.size 51 msgE.n v' (wtL b).length (cellsG msgE (wtL b))∧Below w.heap.size w W):=fun W v L r h h1 h2=>by
  rw[wg_nil] at h;obtain⟨e1,e2,e3⟩:=wt_some h;rw[e1,e2,e3];exact⟨v,rfl,h1,h2⟩
 have HBAD:Hid (∀(W:World),wtG [] b=none→Below w.heap.size w W→∃v',Ending.returned (.tuple #[.slice none 0 0,.string ⟨#[]⟩,.iface 81 (.int i64 2)])=.returned (.tuple #[v',.string (wtR b),noV (wtN b)])∧W.ownsRow w.heap.size 51 msgE.n v' (wtL b).length (cellsG msgE (wtL b))∧Below w.heap.size w W):=fun W h h2=>by
  rw[wg_nil] at h;obtain⟨e1,e2,e3⟩:=wt_none h;rw[e1,e2,e3];exact⟨_,rfl,World.ownsRow_nil _ _ _ _,h2⟩
 clear hj hy0 hy1 hy2 hsz;obtain⟨w0,hw0⟩:∃V,V=w:=⟨_,rfl⟩;go_enter func9,ntmps9;go_wp2
 go_loopw [5,6] (fun out rest wr=>∃(L:List Mg) (r:ByteArray),rest=.string r∧wtG L r=wtG [] b∧wr.ownsRow w.heap.size 51 msgE.n out L.length (cellsG msgE L)∧L.length*5+r.size≤b.size∧Below w.heap.size w wr) (fun _ rest _=>stZ rest)
 case atStart=>exact⟨[],b,rfl,rfl,World.ownsRow_nil _ _ _ _,by simp,bRQ _ _⟩
 case round =>
  obtain⟨L,r,rfl,hG,hown,hlen,hB⟩:=hrel;have HG:Hid (wtG L r=wtG [] b):=hG;have HOW:Hid (wr.ownsRow w.heap.size 51 msgE.n u5 L.length (cellsG msgE L)):=hown;have HB:Hid (Below w.heap.size w wr):=hB;have HLEN:Hid (L.length*5+r.size≤b.size):=hlen;clear hG hown hB hlen hw0;by_cases h0:r.size=0
  ·have HE:Hid (wtG [] b=some (L,r)):=by show _=_;rw[←HG.out];exact wg_0 h0
   have e:r=⟨#[]⟩:=by
    apply ByteArray.ext
    exact Array.eq_empty_of_size_eq_zero h0
   have HLS:Hid (r.size≤1000000):=by show _≤_;omega
   have HRE:Hid (r=⟨#[]⟩):=e;have hem:r.toList.isEmpty=true:=by rw[e,Lib.toList_data];rfl
   have hem2:(r.toList==[])=true:=by rw[e,Lib.toList_data];rfl
   clear e h0
   go_wp2_with fail
   refine (clone_any r _ HLS.out).mono ?_;rintro e w1 ⟨rfl,hb1⟩;have HF:Hid (w1.ownsRow w.heap.size 51 msgE.n u5 (L).length (cellsG msgE (L))):=own_below HOW.out hb1;have HBF:Hid (Below w.heap.size w w1):=HB.out.trans (hb1.mono HB.out.size);clear hb1;go_wp2;refine bodyPost_ret (v:=.tuple #[u5,.string r,.nilIface]) (by simp[results,results9,go_sem, *]) rfl ?_;exact HEND.out _ _ _ _ HE.out HF.out HBF.out
  have hem:=emp_no h0;have hem2:=ne_emp h0;have l0:0<r.size:=by omega
  have i0:(0:Int)<(r.size:Int):=by omega
  obtain⟨N,hN⟩:∃N,N=lnM (byN r 0):=⟨_,rfl⟩;have HN:Hid (lnM r[0].toNat=N):=by show _=_;rw[hN,byN_at r 0 l0]
  have hN12:N≤12:=by rw[hN];exact ln_le _
  by_cases hz:N=0
  ·have HE:Hid (wtG [] b=none):=by show _=_;rw[←HG.out];exact wg_no h0 (by rw[←hN];exact hz)
   subst hz;clear hN h0
   go_wp2_with fail
   refine (size_any _ _).mono ?_;rintro e w' ⟨rfl,hw'⟩;have hw'':=hw'.symm;subst hw'';clear hw';rw[HN.out];go_wp2;refine bodyPost_ret (v:=.tuple #[.slice none 0 0,.string ⟨#[]⟩,.iface 81 (.int i64 2)]) (by simp[results,results9,go_sem, *]) rfl ?_;exact HBAD.out _ HE.out HB.out
  have hz2:((N:Int)==0)=false:=by simp;omega
  have hz3:¬(N:Int)=0:=by omega
  by_cases hlt:r.size<N
  ·have HE:Hid (wtG [] b=some (L,r)):=by show _=_;rw[←HG.out];exact wg_end h0 (by rw[←hN];exact hz) (by rw[←hN];exact hlt)
   have hlt2:(r.size:Int)<(N:Int):=by omega
   have HLS:Hid (r.size≤1000000):=by show _≤_;omega
   clear hN h0
   go_wp2_with fail
   refine (size_any _ _).mono ?_;rintro e w' ⟨rfl,hw'⟩;have hw'':=hw'.symm;subst hw'';clear hw';rw[HN.out]
   go_wp2_with fail
   refine (clone_any r _ HLS.out).mono ?_;rintro e w1 ⟨rfl,hb1⟩;have HF:Hid (w1.ownsRow w.heap.size 51 msgE.n u5 (L).length (cellsG msgE (L))):=own_below HOW.out hb1;have HBF:Hid (Below w.heap.size w w1):=HB.out.trans (hb1.mono HB.out.size);clear hb1;go_wp2;refine bodyPost_ret (v:=.tuple #[u5,.string r,.nilIface]) (by simp[results,results9,go_sem, *]) rfl ?_;exact HEND.out _ _ _ _ HE.out HF.out HBF.out
  have hge:¬(r.size:Int)<(N:Int):=by omega
  have hge2:(N:Int)≤(r.size:Int):=by omega
  have hge3:(0:Int)≤(N:Int):=by omega
  obtain⟨T,hT⟩:∃T,T=r.extract 0 N:=⟨_,rfl⟩;have HT:Hid (r.extract 0 N=T):=hT.symm;have HX:Hid (∀d,dcB T=d→(d=false→wtG [] b=none)∧(d=true→wtG (L++[dcV T]) (r.extract N r.size)=wtG [] b)):=fun d hd=>by
   rw[hT,hN] at hd;refine⟨fun h=>?_,fun h=>?_⟩
   ·rw[←HG.out];exact wg_bad h0 (by rw[←hN];exact hz) (by rw[←hN];exact hlt) (by rw[hd,h])
   rw[←HG.out,hT,hN];exact (wg_on h0 (by rw[←hN];exact hz) (by rw[←hN];exact hlt) (by rw[hd,h])).symm
  have HEX:Hid ((r.extract N r.size).size+N=r.size):=by show _=_;rw[ByteArray.size_extract];omega
  have HN5:Hid (5≤N):=by show _≤_;rw[hN];exact ln_5 (by rw[←hN];exact hz)
  clear hN h0 hT
  go_wp2_with fail
  refine (size_any _ _).mono ?_;rintro e w' ⟨rfl,hw'⟩;have hw'':=hw'.symm;subst hw'';clear hw';rw[HN.out]
  go_wp2_with fail
  rw[HT.out];refine (wdec_any T _).mono ?_;rintro e w1 ⟨rfl,hb1⟩;have HB1:Hid (Below wr.heap.size wr w1):=hb1;clear hb1;obtain⟨d,hd⟩:∃d,dcB T=d:=⟨_,rfl⟩;obtain⟨hx1,hx2⟩:=HX.out d hd;cases d with
  | false =>
    have HE:Hid (wtG [] b=none):=hx1 rfl;rw[(dc_no hd).1,(dc_no hd).2];clear hx1 hx2 hd;have HBF:Hid (Below w.heap.size w (w1.alloc (.cells #[.int i64 0,.int i64 0,.int i64 0,.int i64 0,.int i64 0,.bool false,.int i64 0,.int i64 0,.int i64 0,.int i64 0,.int i64 0,.int i64 0] 51))):=(HB.out.trans (HB1.out.mono HB.out.size)).alloc (Nat.le_trans HB.out.size HB1.out.size) _;go_wp2;refine bodyPost_ret (v:=.tuple #[.slice none 0 0,.string ⟨#[]⟩,.iface 81 (.int i64 2)]) (by simp[results,results9,go_sem, *]) rfl ?_;exact HBAD.out _ HE.out HBF.out
  | true =>
    obtain⟨m,hm⟩:∃m,m=dcV T:=⟨_,rfl⟩;have HE:Hid (wtG (L++[m]) (r.extract N r.size)=wtG [] b):=by rw[hm];exact hx2 rfl
    rw[←hm,(dc_yes hd).2];clear hx1 hx2 hd hm;obtain⟨x0,x1,x2,x3,⟨x4,x5,⟨x6,x7,x8,x9,x10,x11⟩⟩⟩:=m
    dsimp only[mgV]
    obtain⟨w2,hw2⟩:∃V,V=w1.alloc (.cells #[.int i64 x0,.int i64 x1,.int i64 x2,.int i64 x3,.int i64 x4,.bool x5,.int i64 x6,.int i64 x7,.int i64 x8,.int i64 x9,.int i64 x10,.int i64 x11] 51):=⟨_,rfl⟩;have hb12:Below w1.heap.size w1 w2:=by rw[hw2];exact (bRQ _ _).alloc (nLQ _) _
    have HO2:Hid (w2.ownsRow w.heap.size 51 msgE.n u5 L.length (cellsG msgE L)):=own_below (own_below HOW.out HB1.out) hb12;have HB2:Hid (Below w.heap.size w w2):=HB.out.trans ((HB1.out.trans (hb12.mono HB1.out.size)).mono HB.out.size);have hm2:MgC w2 w1.heap.size x0 x1 x2 x3 x4 x5 x6 x7 x8 x9 x10 x11:=by rw[hw2];exact mgc_new w1 x0 x1 x2 x3 x4 x5 x6 x7 x8 x9 x10 x11 _
    have HW2:Hid (w1.alloc (.cells #[.int i64 x0,.int i64 x1,.int i64 x2,.int i64 x3,.int i64 x4,.bool x5,.int i64 x6,.int i64 x7,.int i64 x8,.int i64 x9,.int i64 x10,.int i64 x11] 51)=w2):=hw2.symm;have hsz2:w.heap.size≤w2.heap.size:=HB2.out.size;clear hw2 hb12;go_upto_region 11 with fail;rw[HW2.out];obtain⟨m0,m1,m2,m3,m4,m5,m6,m7,m8,m9,m10,m11⟩:=hm2
    go_wp2_with (at_builtin;refine wpList_append_blk (E:=msgE) _ rfl _ _ 39 51 rfl underlying39 j0 _ 96 HI1.out HI2.out HI3.out HI4.out msg_zero w.heap.size _ rfl L (HO2.out.alloc _) w2.heap.size 0 1 rfl ⟨x0,x1,x2,x3,⟨x4,x5,⟨x6,x7,x8,x9,x10,x11⟩⟩⟩ (msg_new w2 x0 x1 x2 x3 x4 x5 x6 x7 x8 x9 x10 x11 _) ?c1 ?c2 ?c3 ?_)
    case c1=>have:=HLEN.out;have:=HSZ.out;unfold maxLen;omega
    case c2=>have:=HLEN.out;have:=HSZ.out;omega
    case c3=>first | (simp;omega) | omega
    intro v' w3 hown3 hgrow _;have HB3:Hid (Below w.heap.size w w3):=(HB2.out.alloc hsz2 _).grown hgrow (by simp;omega) (fun g hg=>(HO2.out.lt g hg).1);have HO3:Hid (w3.ownsRow w.heap.size 51 msgE.n v' (L++[(⟨x0,x1,x2,x3,⟨x4,x5,⟨x6,x7,x8,x9,x10,x11⟩⟩⟩:Mg)]).length (cellsG msgE (L++[(⟨x0,x1,x2,x3,⟨x4,x5,⟨x6,x7,x8,x9,x10,x11⟩⟩⟩:Mg)]))):=by
     show w3.ownsRow _ _ _ _ _ _;rw[List.length_append];exact hown3
    clear hgrow hown3 m0 m1 m2 m3 m4 m5 m6 m7 m8 m9 m10 m11;go_wp2;go_roundw
    case rel=>exact⟨L++[(⟨x0,x1,x2,x3,⟨x4,x5,⟨x6,x7,x8,x9,x10,x11⟩⟩⟩:Mg)],r.extract N r.size,rfl,HE.out,HO3.out,by have:=HEX.out;have:=HLEN.out;have:=HN5.out;rw[List.length_append,List.length_singleton];omega,HB3.out⟩
    case measure=>have:=HEX.out;have:=HN5.out;simp only[stZ];omega
theorem wcut_any (b:ByteArray)(hsz:b.size≤1048576)(w:World):
 Calls prog 9 #[.string b] w fun e w'=>∃v,e=.returned (.tuple #[v,.string (wtR b),noV (wtN b)])∧GS msgE w' v (wtL b)∧Below w.heap.size w w':=
 (wcut_own b hsz w).mono fun e w' ⟨v,h1,h2,h3⟩=>⟨v,h1,own_GS h2,h3⟩
end
namespace topWire
open Go.RowKit
theorem rs_one {W:World}{a:AdQ}{n c:Nat}{l:List Op8}(h:GS opE W (.slice a n c) l)(t:TypeId):RS (W.alloc (.cells #[.slice a n c] t)) (.slice (some ⟨W.heap.size,0,none⟩) 1 1) [l]:=by
 refine⟨[(a,n,c)],.inr ⟨W.heap.size,0,1,rfl,nLQ _,by unfold maxLen;omega,fun i hi=>?_⟩,rfl,fun i x L h1 h2=>?_⟩
 ·have hi0:i=0:=by simpa using hi
  subst hi0;exact vat_new W [.slice a n c] t
 cases i with
 | zero =>
   simp only[List.getElem?_cons_zero,Option.some.injEq] at h1 h2;subst h1 h2;exact h.later ((bRQ _ _).alloc (nLQ _) _)
 | succ i=>simp at h1
theorem nx_one {l:List Op8}:nxN (dr0 [l] 5)=0∧nxS (dr0 [l] 5)=⟨[l],5,1,tcL l,0⟩∧nxA (dr0 [l] 5)=sayL l 0 (tcL l):=by
 have hm:mayD (dr0 [l] 5)=true:=may_iff.2 ⟨rfl,by show 0<1;omega⟩;refine⟨by rw[nxN,hm];rfl,by rw[nxS,hm];rfl,?_⟩;rw[nxA,hm,nxS,hm];rfl
theorem walk {Pd:DrP}(J:PdI Pd){Pg:World→Nat→Nat→(Nat→Prop)→Int→AgT→Prop}(I:PgI Pg)(S:Int)(ao:AdQ)(n cap:Nat)(ao2:AdQ)(n2 cap2:Nat)(ao3:AdQ)(n3 cap3:Nat)(Ls:LkQ)(Hs:HoQ)(Ts:TsQ)(a4:AdQ)(n4 c4:Nat)(l:List Op8)(c:Int)(w:World)
 (hL:GS lnkE w (.slice ao n cap) Ls) (hH:GS hstE w (.slice ao2 n2 cap2) Hs) (hT:TS w (.slice ao3 n3 cap3) Ts) (hl:GS opE w (.slice a4 n4 c4) l):
 Calls prog 3 #[.agg #[.int i64 S,.slice ao n cap,.slice ao2 n2 cap2,.slice ao3 n3 cap3],.slice a4 n4 c4,.int i64 c] w fun e w'=>e=.returned (.bool true)∧Below w.heap.size w w':=by
 have HL:Hid (∀V,Below w.heap.size w V→GS lnkE V (.slice ao n cap) Ls):=fun V hV=>hL.later hV
 have HH:Hid (∀V,Below w.heap.size w V→GS hstE V (.slice ao2 n2 cap2) Hs):=fun V hV=>hH.later hV
 have HT:Hid (∀V,Below w.heap.size w V→TS V (.slice ao3 n3 cap3) Ts):=fun V hV=>hT.later hV
 have HO:Hid (∀V,Below w.heap.size w V→GS opE V (.slice a4 n4 c4) l):=fun V hV=>hl.later hV
 have HLN:Hid (l.length=n4):=hl.len;obtain⟨wb,hwb⟩:∃V,V=w.alloc (.cells #[.int i64 S,.slice ao n cap,.slice ao2 n2 cap2,.slice ao3 n3 cap3] 28):=⟨_,rfl⟩;have HWB:Hid (w.alloc (.cells #[.int i64 S,.slice ao n cap,.slice ao2 n2 cap2,.slice ao3 n3 cap3] 28)=wb):=hwb.symm;have HBB:Hid (Below w.heap.size w wb):=by show Below _ _ _;rw[hwb];exact (bRQ _ _).alloc (nLQ _) _
 obtain⟨q,hq⟩:∃q,q=w.heap.size:=⟨_,rfl⟩;have HQ:Hid (q=w.heap.size):=hq;have HNB:Hid (∀V,Below wb.heap.size wb V→NeBox V q S (.slice ao n cap) (.slice ao2 n2 cap2) (.slice ao3 n3 cap3)):=fun V hV=>by
  have h1:NeBox wb q S (.slice ao n cap) (.slice ao2 n2 cap2) (.slice ao3 n3 cap3):=by rw[hwb,hq];exact nebox_new w S _ _ _ 28
  exact h1.later hV
 obtain⟨E,hE⟩:∃E,E=cgN S Ls Hs Ts l:=⟨_,rfl⟩;have HE:Hid (cgN S Ls Hs Ts l=E):=hE.symm;clear hL hH hT hl hwb hE;go_enter func3,ntmps3;go_upto_region 1 with fail;rw[HWB.out,←hq];clear HWB hq
 go_wp2_with fail
 refine (topone_any _).mono ?_;rintro e w1 ⟨rfl,hb1⟩;have HB1:Hid (Below wb.heap.size wb w1):=hb1;have HW1:Hid (Below w.heap.size w w1):=HBB.out.trans (hb1.mono HBB.out.size);obtain⟨z0,z1,z2,z3⟩:=HNB.out w1 hb1;clear hb1
 go_wp2_with fail
 refine (chApply_any S ao n cap ao2 n2 cap2 ao3 n3 cap3 a4 n4 c4 Ls Hs Ts l _ (HL.out _ HW1.out) (HH.out _ HW1.out) (HT.out _ HW1.out) (HO.out _ HW1.out)).mono ?_;rintro e w2 ⟨b1,k1,d1,b2,k2,d2,b3,k3,d3,rfl,_,_,ht2,hb2⟩;rw[HE.out] at ht2 ⊢;have HB2:Hid (Below wb.heap.size wb w2):=HB1.out.trans (hb2.mono HB1.out.size);have HT2:Hid (TS w2 (.slice b3 k3 d3) (nvL E (caT Ts l))):=ht2;clear hb2 ht2 z0 z1 z2 z3 HB1 HW1;go_upto_region 5 with fail;obtain⟨w3,hw3⟩:∃V,V=w2.alloc (.cells #[.int i64 (nvS E S),.slice b1 k1 d1,.slice b2 k2 d2,.slice b3 k3 d3] 28):=⟨_,rfl⟩;have b23:Below w2.heap.size w2 w3:=by rw[hw3];exact (bRQ _ _).alloc (nLQ _) _
 obtain⟨p8,hp8⟩:∃p,p=w2.heap.size:=⟨_,rfl⟩;have HN8:Hid (∀V,Below w3.heap.size w3 V→NeBox V p8 (nvS E S) (.slice b1 k1 d1) (.slice b2 k2 d2) (.slice b3 k3 d3)):=fun V hV=>by
  have h1:NeBox w3 p8 (nvS E S) (.slice b1 k1 d1) (.slice b2 k2 d2) (.slice b3 k3 d3):=by rw[hw3,hp8];exact nebox_new w2 _ _ _ _ 28
  exact h1.later hV
 have HB3:Hid (Below wb.heap.size wb w3):=HB2.out.trans (b23.mono HB2.out.size);have HW3:Hid (Below w.heap.size w w3):=HBB.out.trans (HB3.out.mono HBB.out.size);have HT3:Hid (∀V,Below w3.heap.size w3 V→TS V (.slice b3 k3 d3) (nvL E (caT Ts l))):=fun V hV=>(HT2.out.later b23).later hV
 rw[←hw3,←hp8];clear hw3 b23 hp8 HB2 HT2;by_cases hE0:E=0
 ·subst hE0;rw[show noV 0=.nilIface from rfl];by_cases h40:(n4:Int) > 40
  ·go_wp2;go_ret;exact⟨rfl,HW3.out⟩
  obtain⟨w4,hw4⟩:∃V,V=w3.alloc (.cells #[.slice a4 n4 c4] 90):=⟨_,rfl⟩;have HW4e:Hid (w3.alloc (.cells #[.slice a4 n4 c4] 90)=w4):=hw4.symm;have b34:Below w3.heap.size w3 w4:=by rw[hw4];exact (bRQ _ _).alloc (nLQ _) _
  have HB34:Hid (Below w3.heap.size w3 w4):=b34;have HR4:Hid (∀V,Below w4.heap.size w4 V→RS V (.slice (some ⟨w3.heap.size,0,none⟩) 1 1) [l]):=fun V hV=>by
   have h1:RS w4 (.slice (some ⟨w3.heap.size,0,none⟩) 1 1) [l]:=by rw[hw4];exact rs_one (HO.out _ HW3.out) _
   exact h1.later hV
  have HS6:Hid ((1≤S∧S≤6)∧(Ts.length:Int)=S∧caN S Ts l=0∧l.length≤40):=by
   obtain⟨h1,_,h3⟩:=cg_0 HE.out;obtain⟨h4,h5,_⟩:=nt_0 h1;have:=HLN.out;exact⟨(tp_0 h4).1,h5,h3,by omega⟩
  have HRS:Hid (rsF [l] 5=0):=rs_right HS6.out.1.2 (by have:=HS6.out.2.2.2;omega) HS6.out.2.2.1;clear hw4 b34
  go_wp2_with fail
  rw[HW4e.out];refine (J.new (some ⟨w3.heap.size,0,none⟩) 1 1 [l] 5 w4.heap.size _ (fun V hV=>HR4.out V hV) (nLQ _)).mono ?_;rintro e w5 ⟨v,rfl,hb5,hv⟩;rw[HRS.out] at hv ⊢;obtain⟨p,O,rfl,hP,_⟩:=hv rfl;rw[show noV 0=.nilIface from rfl];have HP5:Hid (Pd w5 p w4.heap.size O (dr0 [l] 5)):=hP;have HB5:Hid (Below w3.heap.size w3 w5):=HB34.out.trans (hb5.mono HB34.out.size);have HOK0:Hid (DrOK (dr0 [l] 5) 0):=dk_new HRS.out;clear hb5 hv hP HW4e
  go_wp2_with fail
  refine (J.next _ HP5.out HOK0.out (by omega)).mono ?_;obtain⟨h1,h2,h3⟩:=nx_one (l:=l);rw[h1,h2,h3];rintro e w6 ⟨a6,n6,c6,rfl,hg6,hn6,O6,hP6,hO6,hnO6,hk6⟩;rw[show noV 0=.nilIface from rfl];have HOK6:Hid (DrOK ⟨[l],5,1,tcL l,0⟩ 1):=by
   have h4:=dk_nx HOK0.out;rw[h2] at h4;exact h4
  have h34:w3.heap.size≤w4.heap.size:=HB34.out.size;have HP6:Hid (Pd w6 p w4.heap.size O6 ⟨[l],5,1,tcL l,0⟩):=hP6;have HB6:Hid (Below w3.heap.size w3 w6):=HB5.out.trans (hk6.below HB5.out.size fun b hb hc=>by have:=(J.lt HP5.out b hc).1;omega);obtain⟨M,hM⟩:∃M,M=sayL l 0 (tcL l):=⟨_,rfl⟩;rw[←hM] at hg6;have HM:Hid (okM M):=by
   show okM M;rw[hM];intro m hm;have hops:=ca_ops HS6.out.2.2.1;have hl4:=HS6.out.2.2.2;refine say_right (by omega) (fun o ho=>(hops o ho).2) (by omega) (tcL l) (fun s hs=>?_) m hm;obtain⟨o,ho,rfl⟩:=tc_in.1 hs;have:=(hops o ho).1;have:=HS6.out.1;omega
  have HMT:Hid (∀s,toS M s=if s∈tcL l then sayS l 0 s else []):=by rw[hM];exact fun s=>to_tc l 0 s
  have HMKD:Hid (∀m∈M,m.k=1∨m.k=2):=by rw[hM];exact fun m hm=>(say_kind l 0 (tcL l) m hm).1
  have HML:Hid (M.length≤246):=by
   show _≤_;have e1:=say_len l 0 (tcL l);have e2:(tcL l).length≤6:=HOK6.out.six;have e4:(tcL l).length*(l.length+1)≤6*41:=Nat.mul_le_mul e2 (by have:=HS6.out.2.2.2;omega);rw[hM];omega
  obtain⟨_,_,_,e6,hMn,_,_,hMa⟩:=hg6.form;cases e6;have HMN:Hid (M.length=n6):=hMn;have hn6b:n6≤246:=by have:=HML.out;have h7:M.length=n6:=hMn;omega
  have HMA:Hid (0<n6→∃g o,a6=some ⟨g,o,none⟩∧GAt msgE w6 g o M):=fun h=>by
   obtain⟨g,o,e1,e2,_⟩:=hMa h;exact⟨g,o,e1,e2⟩
  clear hg6 hn6 hP6 hO6 hnO6 hk6 h1 h2 h3 hM hMn hMa HP5 HB5 HOK0;go_wp2
  go_loopw [13,14] (fun u i wr=>∃k:Nat,k≤n6∧i=.int i64 (k:Int)∧u=.string (mjT (M.take k))∧Below w6.heap.size w6 wr) (fun _ i _=>n6-(intOf i).toNat)
  case atStart=>exact⟨0,by omega,rfl,rfl,bRQ _ _⟩
  case round =>
   obtain⟨k,hk,rfl,rfl,hb⟩:=hrel;obtain⟨wr0,hw0⟩:∃X,X=wr:=⟨_,rfl⟩;subst hw0;have HB7:Hid (Below w6.heap.size w6 wr0):=hb;clear hb;by_cases hkn:k<n6
   ·obtain⟨g,o,hae,hGA⟩:=HMA.out (by omega);subst hae;obtain⟨x0,x1,x2,x3,x4,x5,x6,x7,x8,x9,x10,x11,hkl,hMk,q0,q1,q2,q3,q4,q5,q6,q7,q8,q9,q10,q11⟩:=msg_at (hGA.later HB7.out) HMN.out hkn;have hm0:=HM.out M[k] (List.getElem_mem hkl);rw[hMk] at hm0;have HM0:Hid (mgN ⟨x0,x1,x2,x3,⟨x4,x5,⟨x6,x7,x8,x9,x10,x11⟩⟩⟩=0):=hm0;have HMK:Hid (mjT (M.take (k+1))=mjT (M.take k)++mgT ⟨x0,x1,x2,x3,⟨x4,x5,⟨x6,x7,x8,x9,x10,x11⟩⟩⟩):=by
     show _=_;rw[List.take_succ_eq_append_getElem hkl,mj_snoc,hMk]
    have HET:Hid (enT ⟨x0,x1,x2,x3,⟨x4,x5,⟨x6,x7,x8,x9,x10,x11⟩⟩⟩=mgT ⟨x0,x1,x2,x3,⟨x4,x5,⟨x6,x7,x8,x9,x10,x11⟩⟩⟩):=by
     show _=_;rw[enT,if_pos hm0]
    have jb0:(0:Int)≤(k:Int):=by omega
    have jb1:(k:Int)<(n6:Int):=by omega
    have hsz:¬9223372036854775807<(mjT (M.take k)).size+(mgT ⟨x0,x1,x2,x3,⟨x4,x5,⟨x6,x7,x8,x9,x10,x11⟩⟩⟩).size:=by
     have h1:=(mj_size (L:=M.take (k+1)) (fun m hm=>HM.out m (List.mem_of_mem_take hm))).2;have h2:(M.take (k+1)).length≤k+1:=List.length_take_le _ _;rw[HMK.out,ByteArray.size_append] at h1;omega
    clear hGA hMk hm0
    go_wp2_with fail
    refine (wenc_yes x0 x1 x2 x3 x4 x5 x6 x7 x8 x9 x10 x11 _ HM0.out).mono ?_;rw[HM0.out,HET.out];rintro e w8 ⟨rfl,hb8⟩;rw[show noV 0=.nilIface from rfl];have HB8:Hid (Below w6.heap.size w6 w8):=HB7.out.trans (hb8.mono HB7.out.size);clear hb8 q0 q1 q2 q3 q4 q5 q6 q7 q8 q9 q10 q11;go_wp2;go_roundw
    case rel=>exact⟨k+1,by omega,by go_num,by rw[HMK.out],HB8.out⟩
    case measure=>simp[intOf];omega
   obtain rfl:k=n6:=by omega
   have hall:M.take k=M:=by rw[←HMN.out];exact List.take_length
   rw[hall];obtain⟨B,hB⟩:∃B,B=mjT M:=⟨_,rfl⟩;have HBM:Hid (B=mjT M):=hB;have hBs:B.size≤2952:=by
    have h1:=(mj_size HM.out).2;have h2:=HML.out;rw[hB];omega
   rw[←hB];obtain⟨BC,hBC⟩:∃b:Bool,b=(decide (c<0) || decide (c > (B.size:Int))):=⟨_,rfl⟩;have HBC:Hid (BC=(decide (c<0) || decide (c > (B.size:Int)))):=hBC;clear hBC hB hall;go_upto_region 21 with fail
   go_cut [89] from 82 to 88 (fun q w'=>q=.bool BC∧w'=wr0)
   case first =>
    by_cases h1:c<0
    ·have hb:BC=true:=by rw[HBC.out];simp[h1]
     subst hb;go_wp2
     go_meet
     case rel=>exact⟨rfl,rfl⟩
    have hb:BC=decide (c > (B.size:Int)):=by rw[HBC.out];simp[h1]
    subst hb;go_wp2
    go_meet
    case rel=>exact⟨by first | rfl | simp,rfl⟩
   case rest =>
   obtain⟨rfl,hw0⟩:=hcut;have hw1:=hw0.symm;subst hw1;clear hw0
   go_upto_if 89 with fail
   go_cut [2] from 89 to 90 (fun v w'=>∃cc:Nat,cc≤B.size∧v=.int i64 (cc:Int)∧w'=wr0)
   case first =>
    cases BC with
    | true =>
      go_wp2
      go_meet
      exact⟨0,by omega,rfl,rfl⟩
    | false =>
      have h:=HBC.out;simp at h;obtain⟨cc,hcc⟩:∃cc:Nat,c=(cc:Int):=⟨c.toNat,by omega⟩;subst hcc;go_wp2
      go_meet
      exact⟨cc,by omega,rfl,rfl⟩
   case rest =>
   obtain⟨cc,hcs,rfl,hw0⟩:=hcut;have hw1:=hw0.symm;subst hw1;clear hw0 HBC;obtain⟨kk,r,hkM,hw1,hw2⟩:=cut_both HM.out (c:=cc) (by rw[←HBM.out];exact hcs);rw[←HBM.out] at hw1 hw2;obtain⟨e1,e2,e3⟩:=wt_some hw1;obtain⟨f1,f2,f3⟩:=wt_some hw2;have HC1:Hid (wtN (B.extract 0 cc)=0∧wtL (B.extract 0 cc)=M.take kk∧wtR (B.extract 0 cc)=r):=⟨e1,e2,e3⟩;have HC2:Hid (wtN (r++B.extract cc B.size)=0∧wtL (r++B.extract cc B.size)=M.drop kk∧wtR (r++B.extract cc B.size)=ByteArray.empty):=⟨f1,f2,f3⟩;have hc0:(0:Int)≤(cc:Int):=by omega
   have hc1:(cc:Int)≤(B.size:Int):=by omega
   have hwt1:=hw1;clear hw1 hw2 e1 e2 e3 f1 f2 f3;have hrs:r.size≤B.size:=by
    have h1:=(wt_join _ _ _ _ (nLQ _) hwt1).1;have h2:(B.extract 0 cc).size≤B.size:=by rw[ByteArray.size_extract];omega
    rw[h1,ByteArray.size_append] at h2;omega
   have hx1:(B.extract 0 cc).size≤1048576:=by rw[ByteArray.size_extract];omega
   have hx2:(r++B.extract cc B.size).size≤1048576:=by rw[ByteArray.size_append,ByteArray.size_extract];omega
   have hsz2:¬9223372036854775807<r.size+(B.extract cc B.size).size:=by rw[ByteArray.size_extract];omega
   clear hwt1
   go_wp2_with fail
   refine (wcut_own (B.extract 0 cc) hx1 _).mono ?_;rw[HC1.out.1,HC1.out.2.1,HC1.out.2.2];rintro e w8 ⟨v8,rfl,hg8,hb8⟩;obtain⟨a8,c8,hv8⟩:=own_form hg8;obtain⟨n8,hn8⟩:∃n,n=(M.take kk).length:=⟨_,rfl⟩;have HN8':Hid ((M.take kk).length=n8):=hn8.symm;rw[←hn8] at hv8;subst hv8;rw[show noV 0=.nilIface from rfl];have HB8:Hid (Below w6.heap.size w6 w8):=HB7.out.trans (hb8.mono HB7.out.size);have HG8:Hid (w8.ownsRow wr0.heap.size 51 msgE.n (.slice a8 n8 c8) (M.take kk).length (cellsG msgE (M.take kk))):=hg8;have HS8:Hid (wr0.heap.size≤w8.heap.size):=hb8.size;clear hb8 hg8 hn8
   go_wp2_with fail
   refine (wcut_any (r++B.extract cc B.size) hx2 _).mono ?_;rw[HC2.out.1,HC2.out.2.1,HC2.out.2.2];rintro e w9 ⟨v9,rfl,hg9,hb9⟩;obtain⟨a9,n9,c9,hv9,hn9,_⟩:=hg9.form;subst hv9;rw[show noV 0=.nilIface from rfl];have HB9:Hid (Below w6.heap.size w6 w9):=HB8.out.trans (hb9.mono HB8.out.size);have HG9:Hid (GS msgE w9 (.slice a9 n9 c9) (M.drop kk)):=hg9;have HO9:Hid (w9.ownsRow wr0.heap.size 51 msgE.n (.slice a8 n8 c8) (M.take kk).length (cellsG msgE (M.take kk))):=own_below HG8.out hb9;have HN9:Hid ((M.drop kk).length=n9):=hn9;have hsum:(n8:Int)+(n9:Int)=(k:Int):=by
    have h1:=HN8'.out;have h2:=HN9.out;have h3:=HMN.out;rw[List.length_take] at h1;rw[List.length_drop] at h2;omega
   have hwr:IntKind.i64.wrap ((n8:Int)+(n9:Int))=(k:Int):=by rw[IntKind.wrap_i64];omega
   obtain⟨j0,hj0,hz0,hz1,hz2⟩:=info_parts msg_info;have hrx:wr0.heap.size≤w9.heap.size:=Nat.le_trans HS8.out hb9.size;clear hb9 hg9 hn9;go_upto_region 27 with fail
   go_wp2_with (at_builtin;refine wpList_append_GS (E:=msgE) _ rfl _ _ 39 51 rfl underlying39 j0 _ 96 hj0 hz0 hz1 hz2 msg_zero wr0.heap.size (.slice a8 n8 c8) rfl (M.take kk) HO9.out (.slice a9 n9 c9) rfl (M.drop kk) HG9.out ?c1 ?c2 hrx ?_)
   case c1=>have:=HN8'.out;have:=HN9.out;unfold maxLen;omega
   case c2=>have:=HN8'.out;have:=HN9.out;omega
   intro v' w10 ho10 hg10
   try rw[List.take_append_drop] at ho10
   obtain⟨a10,c10,hv10⟩:=own_form ho10;rw[show M.length=k from HMN.out] at hv10;subst hv10;have HB10:Hid (Below w6.heap.size w6 w10):=HB9.out.grown hg10 (Nat.le_trans HB7.out.size hrx) (fun b hb=>Nat.le_trans HB7.out.size (HO9.out.lt b hb).1);have HG10:Hid (GS msgE w10 (.slice a10 k c10) M):=own_GS ho10;have HX10:Hid (∀ad,a10=some ad→w6.heap.size≤ad.block):=fun ad ha=>by
    subst ha;exact Nat.le_trans HB7.out.size (ho10.lt ad.block rfl).1
   have HP10:Hid (Pd w10 p w4.heap.size O6 ⟨[l],5,1,tcL l,0⟩):=J.kb HP6.out (Kb.of_below HB10.out fun b hl _=>hl);clear ho10 hg10 hj0 hz0 hz1 hz2 hrx HO9 HG9 HG8 HB8 HB9 HC1 HC2 hsum hwr hsz2 hx1 hx2 hrs;have HO6:Hid (∀b,O6 b→w4.heap.size≤b∧b<w6.heap.size):=J.lt HP6.out;have HK3:Hid (∀V,Kb (fun b=>b<w10.heap.size∧¬O6 b) w10 V→Below w3.heap.size w3 V):=fun V hk=>by
    have h1:Below w3.heap.size w3 w10:=HB6.out.trans (HB10.out.mono HB6.out.size);exact h1.trans (hk.below h1.size fun b hb=>⟨by have:=h1.size;omega,fun h=>by have:=(HO6.out b h).1;have:=HB34.out.size;omega⟩)
   have HGM:Hid (∀V,Kb (fun b=>b<w10.heap.size∧¬O6 b) w10 V→GS msgE V (.slice a10 k c10) M):=fun V hk=>gs_kept HG10.out hk (by
    by_cases h0:M=[]
    ·exact .inl h0
    refine .inr fun ad ha=>⟨?_,fun h=>?_⟩
    ·obtain⟨_,_,_,e,hn,_,_,h8⟩:=HG10.out.form;cases e;have h4:0<M.length:=List.length_pos_iff.2 h0;obtain⟨g,o,e1,hG,_⟩:=h8 (by omega);rw[e1] at ha;cases ha;exact bLQ _ _ (hG 0 h4 0 _ rfl)
    have:=HX10.out ad ha;have:=(HO6.out _ h).2;omega)
   have HNT:Hid (ntN S Ls Hs Ts=0):=(cg_0 HE.out).1;have hS1:=HS6.out.1;have HP11:Hid (Pd w10 p w4.heap.size O6 ⟨[l],5,1,geS (tcL l) ((1:Nat):Int),0⟩):=by
    have h1:geS (tcL l) ((1:Nat):Int)=tcL l:=ge_all fun x hx=>by
     obtain⟨o,ho,rfl⟩:=tc_in.1 hx;exact ((ca_ops HS6.out.2.2.1) o ho).1.1
    show Pd _ _ _ _ _;rw[h1];exact HP10.out
   clear HP10 HG10 HX10 HN8' HN9;go_wp2
   go_loopw [22] (fun i wr=>∃(s:Nat) (O:Nat→Prop),1≤s∧(s:Int)≤S+1∧i=.int i64 (s:Int)∧Pd wr p w4.heap.size O ⟨[l],5,1,geS (tcL l) (s:Int),0⟩∧(∀b,O b→O6 b∨w10.heap.size≤b)∧Kb (fun b=>b<w10.heap.size∧¬O6 b) w10 wr) (fun i _=>(S+1).toNat-(intOf i).toNat)
   case atStart=>exact⟨1,O6,by omega,by omega,rfl,HP11.out,fun b h=>.inl h,Kb.refl _ _⟩
   case round =>
    obtain⟨s,O1,hs1,hs2,rfl,hP,hO,hk⟩:=hrel;obtain⟨wz,hwz⟩:∃X,X=wr:=⟨_,rfl⟩;subst hwz;have HP:Hid (Pd wz p w4.heap.size O1 ⟨[l],5,1,geS (tcL l) (s:Int),0⟩):=hP;have HO1:Hid (∀b,O1 b→O6 b∨w10.heap.size≤b):=hO;have HK:Hid (Kb (fun b=>b<w10.heap.size∧¬O6 b) w10 wz):=hk;have HZ3:Hid (Below w3.heap.size w3 wz):=HK3.out _ hk;have HZW:Hid (Below w.heap.size w wz):=HW3.out.trans (HZ3.out.mono HW3.out.size);obtain⟨z0,z1,z2,z3⟩:=HNB.out wz (HB3.out.trans (HZ3.out.mono HB3.out.size));have HDK:Hid (DrOK ⟨[l],5,1,geS (tcL l) (s:Int),0⟩ 1):=⟨HOK6.out.w,HOK6.out.L,HOK6.out.r,HOK6.out.o,HOK6.out.s,fun h=>by simp at h,List.Pairwise.filter _ (tc_rise l),fun x hx=>HOK6.out.x x (List.mem_filter.1 hx).1,Nat.zero_le _⟩;clear hP hO hk HP11;by_cases hsS:(s:Int)≤S
    ·obtain⟨t,ht⟩:∃t,t=taT Ts (s:Int):=⟨_,rfl⟩;have HTT:Hid (t=taT Ts (s:Int)):=ht;obtain⟨_,_,_,e,hn3,_,_,hta⟩:=(HT.out w (bRQ _ _)).form;cases e;have hn3S:(n3:Int)=S:=by have:=HS6.out.2.1;omega
     obtain⟨gt,ot,hat,hTA,_⟩:=hta (by omega);subst hat;have hsl:s-1<Ts.length:=by omega
     obtain⟨ax,nx,cx,hcx,hsx⟩:=hTA (s-1) hsl;have htt:t=Ts[s-1]:=by
      rw[ht,taT,show ((s:Int)-1).toNat=s-1 by omega];simp[List.getD,hsl]
     rw[←htt] at hsx;have HOFF:Hid (nx=0∨∀ad,ax=some ad→ad.block<w3.heap.size):=by
      show _∨_
      rcases hsx with ⟨ao',cap',e,rfl⟩ | ⟨g,o,cap',e,h1,h2,h3⟩
      ·cases e;exact .inl rfl
      cases e;by_cases h0:t.length=0
      ·exact .inl h0
      refine .inr fun ad ha=>?_
      cases ha;exact Nat.lt_of_lt_of_le (h3.lt (by omega)) HW3.out.size
     have HSX:Hid (∀V,Below w.heap.size w V→SR V (.slice ax nx cx) t):=fun V hV=>hsx.later hV
     have hcx2:wz.cell? ⟨gt,ot+((s:Int)-1).toNat,none⟩=some (.slice ax nx cx):=by
      rw[show ((s:Int)-1).toNat=s-1 by omega];exact cell_later HZW.out hcx
     have HNW:Hid (nwN (s:Int) t=0∧tbN t=0):=by
      have h1:=(nt_0 HNT.out).2.2 (s-1) hsl;have h2:tbN t=0:=by
       rw[htt];simpa[List.getD,hsl] using h1
      exact⟨by rw[nwN,if_pos (by omega)];exact h2,h2⟩
     have hws:IntKind.i64.wrap ((s:Int)-1)=(s:Int)-1:=by rw[IntKind.wrap_i64];omega
     have sb0:(0:Int)≤(s:Int)-1:=by omega
     have sb1:(s:Int)-1<(n3:Int):=by omega
     have hcx3:wz.cell? ⟨gt,ot+(s-1),none⟩=some (.slice ax nx cx):=cell_later HZW.out hcx;clear ht hn3 hta hTA hsl hcx hsx htt
     go_wp2_with fail
     refine (I.new (s:Int) ax nx cx t w3.heap.size _ (HSX.out _ HZW.out) HZ3.out.size HOFF.out).mono ?_;rw[HNW.out.1];rintro e w11 ⟨v,rfl,hb11,hv⟩;obtain⟨pa,Oa,rfl,hPa,hOa⟩:=hv rfl;rw[show noV 0=.nilIface from rfl];have HB11:Hid (Below wz.heap.size wz w11):=hb11;have HA11:Hid (Pg w11 pa w3.heap.size Oa (s:Int) (ag0 t)):=hPa;have HOA:Hid (∀b,Oa b→wz.heap.size≤b):=hOa;clear hb11 hv hPa hOa hcx2 hcx3 z0 z1 z2 z3;go_wp2
     go_loopw [25,26] (fun tv iv wr=>∃(i:Nat) (Ob:Nat→Prop),i≤k∧iv=.int i64 (i:Int)∧tv=.bool (!(toS (M.take i) (s:Int)).isEmpty)∧Pg wr pa w3.heap.size Ob (s:Int) (agH (s:Int) (ag0 t) (toS (M.take i) (s:Int)))∧AgOK (agH (s:Int) (ag0 t) (toS (M.take i) (s:Int))) i∧(∀b,Ob b→wz.heap.size≤b)∧Below wz.heap.size wz wr) (fun _ iv _=>k-(intOf iv).toNat)
     case atStart=>exact⟨0,Oa,by omega,rfl,rfl,HA11.out,ok_new HNW.out.2,HOA.out,HB11.out⟩
     case round =>
      obtain⟨i,Ob,hi,rfl,rfl,hPb,hok,hOb,hb⟩:=hrel;obtain⟨wy,hwy⟩:∃X,X=wr:=⟨_,rfl⟩;subst hwy;obtain⟨TB,hTB⟩:∃b,b = !(toS (M.take i) (s:Int)).isEmpty:=⟨_,rfl⟩;have HTB:Hid (TB = !(toS (M.take i) (s:Int)).isEmpty):=hTB;rw[←hTB];have HPB:Hid (Pg wy pa w3.heap.size Ob (s:Int) (agH (s:Int) (ag0 t) (toS (M.take i) (s:Int)))):=hPb;have HKB:Hid (AgOK (agH (s:Int) (ag0 t) (toS (M.take i) (s:Int))) i):=hok;have HOB:Hid (∀b,Ob b→wz.heap.size≤b):=hOb;have HBY:Hid (Below wz.heap.size wz wy):=hb;clear hTB hPb hok hOb hb HA11 HB11 HOA;by_cases hik:i<k
      ·have hgm:=(HGM.out wz HK.out).later HBY.out;obtain⟨_,_,_,e,_,_,_,hma⟩:=hgm.form;cases e;obtain⟨gm,om,hae,hGA,_⟩:=hma (by omega);subst hae;obtain⟨x0,x1,x2,x3,x4,x5,x6,x7,x8,x9,x10,x11,hkl,hMk,q0,q1,q2,q3,q4,q5,q6,q7,q8,q9,q10,q11⟩:=msg_at hGA HMN.out hik;have hm0:=HM.out M[i] (List.getElem_mem hkl);have hmk:=HMKD.out M[i] (List.getElem_mem hkl);rw[hMk] at hm0 hmk;have HNX:Hid (toS (M.take (i+1)) (s:Int)=toS (M.take i) (s:Int)++(if x1=(s:Int) then [⟨x0,x1,x2,x3,⟨x4,x5,⟨x6,x7,x8,x9,x10,x11⟩⟩⟩] else [])):=by
        show _=_;rw[tos_next hkl,hMk]
       have HM0:Hid (mgN ⟨x0,x1,x2,x3,⟨x4,x5,⟨x6,x7,x8,x9,x10,x11⟩⟩⟩=0∧(x0=1∨x0=2)):=⟨hm0,hmk⟩;have jb0:(0:Int)≤(i:Int):=by omega
       have jb1:(i:Int)<(k:Int):=by omega
       have hi2:i≤1000:=by omega
       clear hgm hma hGA hMk hm0 hmk hkl;cases hx:(x1==(s:Int))
       ·have hne:¬x1=(s:Int):=by simpa using hx
        have HN2:Hid (toS (M.take (i+1)) (s:Int)=toS (M.take i) (s:Int)):=by
         show _=_;rw[HNX.out,if_neg hne,List.append_nil]
        have HK2:=HKB.out.mono (Nat.le_succ i);clear hne;go_wp2;go_roundw
        case rel=>exact⟨i+1,Ob,by omega,by go_num,by rw[HN2.out,←HTB.out],by rw[HN2.out];exact HPB.out,by rw[HN2.out];exact HK2,HOB.out,HBY.out⟩
        case measure=>simp[intOf];omega
       have heq:x1=(s:Int):=by simpa using hx
       have HN2:Hid (toS (M.take (i+1)) (s:Int)=toS (M.take i) (s:Int)++[⟨x0,x1,x2,x3,⟨x4,x5,⟨x6,x7,x8,x9,x10,x11⟩⟩⟩]):=by
        show _=_;rw[HNX.out,if_pos heq]
       have HH0:Hid (hrN (s:Int) ⟨x0,x1,x2,x3,⟨x4,x5,⟨x6,x7,x8,x9,x10,x11⟩⟩⟩=0):=hr_zero.2 ⟨HM0.out.1,heq,by show ¬x0=3;have:=HM0.out.2;omega⟩;have HTE:Hid ((!(toS (M.take (i+1)) (s:Int)).isEmpty)=true):=by
        show _=_;rw[HN2.out];cases toS (M.take i) (s:Int) <;> rfl
       clear heq
       go_wp2_with fail
       refine (I.hear x0 x1 x2 x3 x4 x5 x6 x7 x8 x9 x10 x11 _ HPB.out HKB.out hi2).mono ?_;rw[HH0.out];rintro e w12 ⟨a12,n12,c12,rfl,_,_,Oc,hPc,hOc,_,hkc⟩;rw[show noV 0=.nilIface from rfl];have HPC:Hid (Pg w12 pa w3.heap.size Oc (s:Int) (agH (s:Int) (ag0 t) (toS (M.take (i+1)) (s:Int)))):=by
        show Pg _ _ _ _ _ _;rw[HN2.out,ah_app];exact hPc
       have HKC:Hid (AgOK (agH (s:Int) (ag0 t) (toS (M.take (i+1)) (s:Int))) (i+1)):=by
        show AgOK _ _;rw[HN2.out,ah_app];exact ok_hr HKB.out
       have HOC:Hid (∀b,Oc b→wz.heap.size≤b):=fun b hb=>by
        rcases hOc b hb with h | h
        ·exact HOB.out b h
        exact Nat.le_trans HBY.out.size h
       have HBC:Hid (Below wz.heap.size wz w12):=HBY.out.trans (hkc.below HBY.out.size fun b hb hc=>by have:=HOB.out b hc;omega);clear hPc hOc hkc q0 q1 q2 q3 q4 q5 q6 q7 q8 q9 q10 q11;go_wp2;go_roundw
       case rel=>exact⟨i+1,Oc,by omega,by go_num,by rw[HTE.out],HPC.out,HKC.out,HOC.out,HBC.out⟩
       case measure=>simp[intOf];omega
      obtain rfl:i=k:=by omega
      have hall:M.take i=M:=by rw[←HMN.out];exact List.take_length
      rw[hall] at HTB HPB HKB;have HCF:Hid (alN t (forS l (s:Int))=0∧taT (caT Ts l) (s:Int)=alL t (forS l (s:Int))):=by
       have h1:=ca_for HS6.out.2.1 HS6.out.2.2.1 (s:Int) (by omega) hsS;rw[←HTT.out] at h1;exact h1
      have HBX:Hid (∀b,O1 b→b<wz.heap.size):=fun b hb=>(J.lt HP.out b hb).2
      have hi2:i≤1000:=by omega
      clear hall HGM
      go_upto_if 175 with fail
      go_cut [29,30] from 176 to 195 (fun _ _ w'=>∃(O2 Od:Nat→Prop) (a':AgT),Pd w' p w4.heap.size O2 ⟨[l],5,1,geS (tcL l) ((s:Int)+1),0⟩∧(∀b,O2 b→O6 b∨w10.heap.size≤b)∧Kb (fun b=>b<w10.heap.size∧¬O6 b) w10 w'∧Pg w' pa w3.heap.size Od (s:Int) a'∧AgOK a' (i+1)∧a'.t=alL t (forS l (s:Int)))
      case first =>
       by_cases hin:(s:Int)∈tcL l
       ·have hto:toS M (s:Int)=sayS l 0 (s:Int):=by rw[HMT.out,if_pos hin]
        have hb:TB=true:=by
         rw[HTB.out,hto,sayS];cases sdM 0 (s:Int) 0 l <;> rfl
        subst hb;have HAZ:Hid (agH (s:Int) (ag0 t) (toS M (s:Int))=zaS t (forS l (s:Int))):=by
         show _=_;rw[hto];exact ah_say ⟨by omega,by omega⟩ (by have:=HS6.out.2.2.2;omega) (fun o ho=>((ca_ops HS6.out.2.2.1) o ho).2)
        rw[HAZ.out] at HPB HKB;have HGE:Hid (geS (tcL l) (s:Int)=(s:Int) :: geS (tcL l) ((s:Int)+1)):=ge_in (tc_rise l) hin;have HF:=hr_first (x:=(s:Int)) (l:=geS (tcL l) ((s:Int)+1)) HDK.out (by show 0<1;omega) HGE.out;have HF1:Hid (dhN ⟨[l],5,1,geS (tcL l) (s:Int),0⟩ (yesM (s:Int) 0)=0∧dhS ⟨[l],5,1,geS (tcL l) (s:Int),0⟩ (yesM (s:Int) 0)=⟨[l],5,1,geS (tcL l) ((s:Int)+1),0⟩):=⟨HF.1,HF.2.1⟩;obtain⟨hw1,hw2,hw3⟩:=za_work (t:=t) (l:=forS l (s:Int)) (s:=(s:Int));have HZT:Hid ((zdS t (forS l (s:Int))).t=alL t (forS l (s:Int))):=by
         show wkTab t (forS l (s:Int))=_;rw[wkTab,if_pos HCF.out.1]
        clear hto HF hin
        go_wp2_with fail
        refine (I.work _ HPB.out HKB.out hi2).mono ?_;have HOKD:=ok_wk HKB.out;rw[hw2] at HOKD;rw[hw1,hw2,hw3];rintro e w13 ⟨a13,n13,c13,rfl,hg13,hn13,Od,hPd,hOd,hnd,hkd⟩;rw[show noV 0=.nilIface from rfl];have HB13:Hid (Below wz.heap.size wz w13):=HBY.out.trans (hkd.below HBY.out.size fun b hb hc=>by have:=HOB.out b hc;omega);have HOD:Hid (∀b,Od b→wz.heap.size≤b):=fun b hb=>by
         rcases hOd b hb with h | h
         ·exact HOB.out b h
         exact Nat.le_trans HBY.out.size h
        have HPD:Hid (Pg w13 pa w3.heap.size Od (s:Int) (zdS t (forS l (s:Int)))):=hPd;have HPJ:Hid (Pd w13 p w4.heap.size O1 ⟨[l],5,1,geS (tcL l) (s:Int),0⟩):=J.kb HP.out (Kb.of_below HB13.out fun b hl _=>hl);obtain⟨_,_,_,e,hn1,_,_,hy⟩:=hg13.form;cases e;have hn1':n13=1:=hn1.symm;subst hn1';obtain⟨gy,oy,hae,hGY,_⟩:=hy (by decide);subst hae;obtain⟨q0,q1,q2,q3,q4,q5,q6,q7,q8,q9,q10,q11⟩:=msg_cells (hGY 0 (by simp));simp only[Nat.zero_mul,Nat.add_zero] at q0 q1 q2 q3 q4 q5 q6 q7 q8 q9 q10 q11;clear hg13 hn13 hPd hOd hnd hkd hn1 hy hGY hw1 hw2 hw3
        go_wp2_with fail
        refine (J.hear 3 (s:Int) 0 0 0 false 0 0 0 0 0 0 _ HPJ.out HDK.out (by omega)).mono ?_;rw[show dhN ⟨[l],5,1,geS (tcL l) (s:Int),0⟩ ⟨3,(s:Int),0,0,⟨0,false,⟨0,0,0,0,0,0⟩⟩⟩=0 from HF1.out.1,show dhS ⟨[l],5,1,geS (tcL l) (s:Int),0⟩ ⟨3,(s:Int),0,0,⟨0,false,⟨0,0,0,0,0,0⟩⟩⟩=⟨[l],5,1,geS (tcL l) ((s:Int)+1),0⟩ from HF1.out.2];rintro e w14 ⟨rfl,O2,hP2,hO2,hk2⟩;rw[show noV 0=.nilIface from rfl];have HFIN:Hid (∃(O2 Od:Nat→Prop) (a':AgT),Pd w14 p w4.heap.size O2 ⟨[l],5,1,geS (tcL l) ((s:Int)+1),0⟩∧(∀b,O2 b→O6 b∨w10.heap.size≤b)∧Kb (fun b=>b<w10.heap.size∧¬O6 b) w10 w14∧Pg w14 pa w3.heap.size Od (s:Int) a'∧AgOK a' (i+1)∧a'.t=alL t (forS l (s:Int))):=by
         have hz10:=HK.out.size;have hz13:=HB13.out.size;refine⟨O2,Od,_,hP2,fun b hb=>?_,(HK.out.trans (Kb.of_below HB13.out fun b hl _=>by first | exact hl | omega)).trans (hk2.mono fun b _ hb h=>?_),I.kb HPD.out (hk2.mono fun b hb hc h=>?_),HOKD,HZT.out⟩
         ·rcases hO2 b hb with h | h
          ·exact HO1.out b h
          exact .inr (by omega)
         ·rcases HO1.out b h with h1 | h1
          ·exact hb.2 h1
          have:=hb.1;omega
         rcases hc with hc | hc
         ·have h1:=(J.lt HP.out b h).1;have h2:=HB34.out.size;omega
         have h1:=HOD.out b hc;have h2:=HBX.out b h;omega
        clear hP2 hO2 hk2 q0 q1 q2 q3 q4 q5 q6 q7 q8 q9 q10 q11;go_wp2
        go_meet
        exact HFIN.out
       have hto:toS M (s:Int)=[]:=by rw[HMT.out,if_neg hin]
       have hb:TB=false:=by rw[HTB.out,hto];rfl
       subst hb;have hfo:forS l (s:Int)=[]:=List.filter_eq_nil_iff.2 fun o ho he=>hin (tc_in.2 ⟨o,ho,by simpa using he⟩)
       have HFIN:Hid (∃(O2 Od:Nat→Prop) (a':AgT),Pd wy p w4.heap.size O2 ⟨[l],5,1,geS (tcL l) ((s:Int)+1),0⟩∧(∀b,O2 b→O6 b∨w10.heap.size≤b)∧Kb (fun b=>b<w10.heap.size∧¬O6 b) w10 wy∧Pg wy pa w3.heap.size Od (s:Int) a'∧AgOK a' (i+1)∧a'.t=alL t (forS l (s:Int))):=by
        have h1:=HPB.out;have h2:=HKB.out;rw[hto] at h1 h2;have h3:=HP.out;rw[ge_out hin] at h3;have hz10:=HK.out.size;exact⟨O1,Ob,_,J.kb h3 (Kb.of_below HBY.out fun b hl _=>hl),HO1.out,HK.out.trans (Kb.of_below HBY.out fun b hl _=>by first | exact hl | omega),h1,h2.mono (Nat.le_succ i),by rw[hfo];rfl⟩
       clear hto hfo hin;go_wp2
       go_meet
       exact HFIN.out
      case rest =>
       obtain⟨O2,Od,a',hP2,hO2,hk2,hPd,hokd,hat⟩:=hcut;obtain⟨wv,hwv⟩:∃V,V=wc:=⟨_,rfl⟩;subst hwv;have HP2:Hid (∀V,Below wv.heap.size wv V→Pd V p w4.heap.size O2 ⟨[l],5,1,geS (tcL l) ((s:Int)+1),0⟩):=fun V hV=>J.kb hP2 (Kb.of_below hV fun b hl _=>hl)
       have HO2:Hid (∀b,O2 b→O6 b∨w10.heap.size≤b):=hO2;have HK2:Hid (∀V,Below wv.heap.size wv V→Kb (fun b=>b<w10.heap.size∧¬O6 b) w10 V):=fun V hV=>hk2.trans (Kb.of_below hV fun b hl _=>hl)
       have HPD:Hid (∀V,Below wv.heap.size wv V→Pg V pa w3.heap.size Od (s:Int) a'):=fun V hV=>I.kb hPd (Kb.of_below hV fun b hl _=>hl)
       have HKD:Hid (AgOK a' (i+1)):=hokd;have hi3:i+1≤1000:=by omega
       have HV3:Hid (∀V,Below wv.heap.size wv V→Below w3.heap.size w3 V):=fun V hV=>HK3.out V (HK2.out V hV)
       have HWT:Hid (∀V,Below wv.heap.size wv V→V.cell? ⟨p8,3,none⟩=some (.slice b3 k3 d3)∧TS V (.slice b3 k3 d3) (caT Ts l)):=fun V hV=>⟨(HN8.out V (HV3.out V hV)).2.2.2,HT3.out V (HV3.out V hV)⟩
       obtain⟨c3,hts⟩:=HWT.out wv (bRQ _ _);obtain⟨_,_,_,e,hn3,_,_,hta⟩:=hts.form;cases e;have hk3S:(k3:Int)=S:=by
        have h1:=HS6.out.2.1;have h2:(caT Ts l).length=Ts.length:=ca_len Ts l;omega
       obtain⟨gw,ow,haw,hTW,_⟩:=hta (by omega);subst haw;have hsl:s-1<(caT Ts l).length:=by omega
       obtain⟨ay,ny,cy,hcy,hsy⟩:=hTW (s-1) hsl;have hty:(caT Ts l)[s-1]=alL t (forS l (s:Int)):=by
        rw[←HCF.out.2,taT,show ((s:Int)-1).toNat=s-1 by omega];simp[List.getD,hsl]
       rw[hty] at hsy;have HSY:Hid (∀V,Below wv.heap.size wv V→SR V (.slice ay ny cy) (alL t (forS l (s:Int)))):=fun V hV=>hsy.later hV
       have hcy2:wv.cell? ⟨gw,ow+(s-1),none⟩=some (.slice ay ny cy):=hcy;have HAT:Hid (a'.t=alL t (forS l (s:Int))):=hat;have hws2:IntKind.i64.wrap ((s:Int)-1)=(s:Int)-1:=hws;have tb1:(s:Int)-1<(k3:Int):=by omega
       clear hP2 hO2 hk2 hPd hokd hat hts hn3 hta hTW hsl hcy hsy hty hk3S HPB HKB HTB HOB HBY HP HO1 HK HCF;go_upto_region 47 with fail
       go_cut [31] from 196 to 204 (fun v w'=>v=.bool true∧Below wv.heap.size wv w')
       case first =>
        go_region_with (first | (go_at_call 15;refine (I.table _ (HPD.out _ (by first | exact Below.drew (bRQ _ _) | exact bRQ _ _)) HKD.out hi3).mono ?_;rintro e w15 ⟨a15,n15,c15,rfl,hs15,hb15⟩;rw[HAT.out] at hs15;have HB15:Hid (Below wv.heap.size wv w15):=(Below.drew (bRQ _ _)).trans hb15;have c3':=cell_later HB15.out c3;have hcy3:=cell_later HB15.out hcy2) | (go_at_call 14;refine (tabs_any a15 n15 c15 ay ny cy _ _ hs15 (HSY.out _ HB15.out)).mono ?_;rintro e w16 ⟨rfl,hb16⟩))
        all_goals (go_wp2_with fail;go_meet)
        all_goals exact⟨rfl,HB15.out.trans (hb16.mono HB15.out.size)⟩
       case rest =>
        obtain⟨rfl,hbx⟩:=hcut;have HPF:Hid (Pd wc p w4.heap.size O2 ⟨[l],5,1,geS (tcL l) (((s+1:Nat):Nat):Int),0⟩):=by
         have h1:=HP2.out wc hbx;rw[show (((s+1:Nat):Nat):Int)=(s:Int)+1 by omega];exact h1
        have HKF:Hid (Kb (fun b=>b<w10.heap.size∧¬O6 b) w10 wc):=HK2.out wc hbx;clear hbx c3 hcy2 HK3;go_wp2;go_roundw
        case rel=>exact⟨s+1,O2,by omega,by omega,by go_num,HPF.out,HO2.out,HKF.out⟩
        case measure=>simp[intOf];omega
    have HDN:Hid (doneD ⟨[l],5,1,geS (tcL l) (s:Int),0⟩=true):=by
     have h1:geS (tcL l) (s:Int)=[]:=ge_none fun x hx=>by
      obtain⟨o,ho,rfl⟩:=tc_in.1 hx;have:=((ca_ops HS6.out.2.2.1) o ho).1;omega
     show doneD _=true;rw[h1];rfl
    clear HK3 HGM
    go_wp2_with fail
    refine (J.done _ HP.out HDK.out (by omega)).mono ?_;rw[HDN.out];rintro e w11 ⟨rfl,hb11⟩;have HB11:Hid (Below w.heap.size w w11):=HZW.out.trans (hb11.mono HZW.out.size);clear hb11;go_wp2;go_ret;exact⟨rfl,HB11.out⟩
 rw[no_ne hE0];go_wp2;go_ret;exact⟨rfl,HW3.out⟩
end topWire
section
open Go.RowKit
section
variable {W W':World}{p B0:Nat}{O:Nat→Prop}{D:DrT}{xr xl:SlT}
theorem set_size (W:World)(q:Addr)(v:Value):(W.setCell q v).heap.size=W.heap.size:=by simp[World.setCell]
end
end
end Go.Proofs.YtpgjkmefomldfaaGreat
