/- Contracts and facts on the way to WireLong, joined into one text: WireEnc, WireDec, WireMath2, WireConv, AsErr, AsErr2, SameNo, WireLong, WireLongRow. -/
import Derived.Test.YtpfgaibfangciaaDoorWireLongP1
namespace Go.Proofs.YtpfgaibfangciaaDoor
set_option linter.unusedSimpArgs false
set_option linter.unusedVariables false
set_option maxHeartbeats 16000000
set_option maxRecDepth 100000
open Go.Proofs.Tryd
open IntKind (i64)
section
open Go.RowKit
theorem bit_same (b:Bool)(w:World):Calls prog 16 #[.bool b] w fun e w'=>e=.returned (.int i64 (btN b))∧w'=w:=by
 cases b
 ·go_enter func16,ntmps16;go_wp2;go_ret;exact⟨rfl,rfl⟩
 go_enter func16,ntmps16;go_wp2;go_ret;exact⟨rfl,rfl⟩
theorem keepC {V V':World}{b r:Nat}{x5:Bool}{x6 x7 x8 x9 x10 x11:Int}(hb:Below V.heap.size V V')(h:V.cell? ⟨b,5,none⟩=some (.bool x5)∧V.cell? ⟨r,0,none⟩=some (.int i64 x6)∧V.cell? ⟨r,1,none⟩=some (.int i64 x7)∧V.cell? ⟨r,2,none⟩=some (.int i64 x8)∧V.cell? ⟨r,3,none⟩=some (.int i64 x9)∧V.cell? ⟨r,4,none⟩=some (.int i64 x10)∧V.cell? ⟨r,5,none⟩=some (.int i64 x11)):V'.cell? ⟨b,5,none⟩=some (.bool x5)∧V'.cell? ⟨r,0,none⟩=some (.int i64 x6)∧V'.cell? ⟨r,1,none⟩=some (.int i64 x7)∧V'.cell? ⟨r,2,none⟩=some (.int i64 x8)∧V'.cell? ⟨r,3,none⟩=some (.int i64 x9)∧V'.cell? ⟨r,4,none⟩=some (.int i64 x10)∧V'.cell? ⟨r,5,none⟩=some (.int i64 x11):=by
 obtain⟨h1,h2,h3,h4,h5,h6,h7⟩:=h;exact⟨cell_later hb h1,cell_later hb h2,cell_later hb h3,cell_later hb h4,cell_later hb h5,cell_later hb h6,cell_later hb h7⟩
theorem keepD {V V':World}{b r R:Nat}{x5:Bool}{x6 x7 x8 x9 x10 x11:Int}(hg:V.grownBy V' (some R))(hb:some b≠some R)(hr:some r≠some R)(h:V.cell? ⟨b,5,none⟩=some (.bool x5)∧V.cell? ⟨r,0,none⟩=some (.int i64 x6)∧V.cell? ⟨r,1,none⟩=some (.int i64 x7)∧V.cell? ⟨r,2,none⟩=some (.int i64 x8)∧V.cell? ⟨r,3,none⟩=some (.int i64 x9)∧V.cell? ⟨r,4,none⟩=some (.int i64 x10)∧V.cell? ⟨r,5,none⟩=some (.int i64 x11)):V'.cell? ⟨b,5,none⟩=some (.bool x5)∧V'.cell? ⟨r,0,none⟩=some (.int i64 x6)∧V'.cell? ⟨r,1,none⟩=some (.int i64 x7)∧V'.cell? ⟨r,2,none⟩=some (.int i64 x8)∧V'.cell? ⟨r,3,none⟩=some (.int i64 x9)∧V'.cell? ⟨r,4,none⟩=some (.int i64 x10)∧V'.cell? ⟨r,5,none⟩=some (.int i64 x11):=by
 obtain⟨h1,h2,h3,h4,h5,h6,h7⟩:=h;exact⟨hg.cell h1 hb,hg.cell h2 hr,hg.cell h3 hr,hg.cell h4 hr,hg.cell h5 hr,hg.cell h6 hr,hg.cell h7 hr⟩
theorem wenc_no (x0 x1 x2 x3 x4:Int)(x5:Bool)(x6 x7 x8 x9 x10 x11:Int)(w:World)(h:mgN ⟨x0,x1,x2,x3,⟨x4,x5,⟨x6,x7,x8,x9,x10,x11⟩⟩⟩≠0):
 Calls prog 7 #[.agg #[.int i64 x0,.int i64 x1,.int i64 x2,.int i64 x3,.int i64 x4,.bool x5,.int i64 x6,.int i64 x7,.int i64 x8,.int i64 x9,.int i64 x10,.int i64 x11]] w fun e w'=>e=.returned (.tuple #[.string (enT ⟨x0,x1,x2,x3,⟨x4,x5,⟨x6,x7,x8,x9,x10,x11⟩⟩⟩),noV (mgN ⟨x0,x1,x2,x3,⟨x4,x5,⟨x6,x7,x8,x9,x10,x11⟩⟩⟩)])∧Below w.heap.size w w':=by
 have HB0:Hid (Below w.heap.size w (w.alloc (.cells #[.int i64 x0,.int i64 x1,.int i64 x2,.int i64 x3,.int i64 x4,.bool x5,.int i64 x6,.int i64 x7,.int i64 x8,.int i64 x9,.int i64 x10,.int i64 x11] 29))):=(bRQ _ _).alloc (nLQ _) _;obtain⟨N,hN⟩:∃N,N=mgN ⟨x0,x1,x2,x3,⟨x4,x5,⟨x6,x7,x8,x9,x10,x11⟩⟩⟩:=⟨_,rfl⟩;have HN:Hid (mgN ⟨x0,x1,x2,x3,⟨x4,x5,⟨x6,x7,x8,x9,x10,x11⟩⟩⟩=N):=hN.symm;have e:enT ⟨x0,x1,x2,x3,⟨x4,x5,⟨x6,x7,x8,x9,x10,x11⟩⟩⟩=ByteArray.empty:=by rw[enT,if_neg h]
 rw[e,←hN];rw[←hN] at h;clear hN e;go_enter func7,ntmps7
 go_wp2_with fail
 refine (wcheck_any x0 x1 x2 x3 x4 x5 x6 x7 x8 x9 x10 x11 _).mono ?_;rintro e w1 ⟨rfl,hb1⟩;have HB1:Hid (Below w.heap.size w w1):=HB0.out.trans (hb1.mono HB0.out.size);rw[HN.out,no_ne h];clear hb1;go_wp2;refine bodyPost_ret (v:=.tuple #[.string ⟨#[]⟩,.iface 54 (.int i64 N)]) (by simp[results,results7,go_sem]) rfl ⟨by rw[no_ne h];rfl,HB1.out⟩
theorem wenc_yes (x0 x1 x2 x3 x4:Int)(x5:Bool)(x6 x7 x8 x9 x10 x11:Int)(w:World)(h:mgN ⟨x0,x1,x2,x3,⟨x4,x5,⟨x6,x7,x8,x9,x10,x11⟩⟩⟩=0):
 Calls prog 7 #[.agg #[.int i64 x0,.int i64 x1,.int i64 x2,.int i64 x3,.int i64 x4,.bool x5,.int i64 x6,.int i64 x7,.int i64 x8,.int i64 x9,.int i64 x10,.int i64 x11]] w fun e w'=>e=.returned (.tuple #[.string (enT ⟨x0,x1,x2,x3,⟨x4,x5,⟨x6,x7,x8,x9,x10,x11⟩⟩⟩),noV (mgN ⟨x0,x1,x2,x3,⟨x4,x5,⟨x6,x7,x8,x9,x10,x11⟩⟩⟩)])∧Below w.heap.size w w':=by
 have HB0:Hid (Below w.heap.size w (w.alloc (.cells #[.int i64 x0,.int i64 x1,.int i64 x2,.int i64 x3,.int i64 x4,.bool x5,.int i64 x6,.int i64 x7,.int i64 x8,.int i64 x9,.int i64 x10,.int i64 x11] 29))):=(bRQ _ _).alloc (nLQ _) _;have HC0:Hid (MgC (w.alloc (.cells #[.int i64 x0,.int i64 x1,.int i64 x2,.int i64 x3,.int i64 x4,.bool x5,.int i64 x6,.int i64 x7,.int i64 x8,.int i64 x9,.int i64 x10,.int i64 x11] 29)) w.heap.size x0 x1 x2 x3 x4 x5 x6 x7 x8 x9 x10 x11):=mgc_new w x0 x1 x2 x3 x4 x5 x6 x7 x8 x9 x10 x11 _;have HN:Hid (mgN ⟨x0,x1,x2,x3,⟨x4,x5,⟨x6,x7,x8,x9,x10,x11⟩⟩⟩=0):=h;have HBY:Hid (byL (mgL ⟨x0,x1,x2,x3,⟨x4,x5,⟨x6,x7,x8,x9,x10,x11⟩⟩⟩)∧(mgL ⟨x0,x1,x2,x3,⟨x4,x5,⟨x6,x7,x8,x9,x10,x11⟩⟩⟩).length≤11∧4≤(mgL ⟨x0,x1,x2,x3,⟨x4,x5,⟨x6,x7,x8,x9,x10,x11⟩⟩⟩).length):=mg_by h;have e:enT ⟨x0,x1,x2,x3,⟨x4,x5,⟨x6,x7,x8,x9,x10,x11⟩⟩⟩=nmT (mgL ⟨x0,x1,x2,x3,⟨x4,x5,⟨x6,x7,x8,x9,x10,x11⟩⟩⟩):=by rw[enT,if_pos h];rfl
 have e2:noV (mgN ⟨x0,x1,x2,x3,⟨x4,x5,⟨x6,x7,x8,x9,x10,x11⟩⟩⟩)=.nilIface:=no_ok h;rw[e,e2];clear e e2 h;obtain⟨j0,hj,hy0,hy1,hy2⟩:=info_parts infoNum;have HJ:Hid (Tryd.prog.info? 3=some j0∧j0.zero=some (.int i64 0)∧j0.size=1∧j0.bytes=8):=⟨hj,hy0,hy1,hy2⟩;obtain⟨i0,hi,hz0,hz1,hz2⟩:=info_parts infoByte;have HI:Hid (Tryd.prog.info? 5=some i0∧i0.zero=some (.int .u8 0)∧i0.size=1∧i0.bytes=1):=⟨hi,hz0,hz1,hz2⟩;clear hj hy0 hy1 hy2 hi hz0 hz1 hz2;have HL1:Hid (x0=1→mgL ⟨x0,x1,x2,x3,⟨x4,x5,⟨x6,x7,x8,x9,x10,x11⟩⟩⟩=[x0,x1,x2,x3]++[btN x5,x6,x7,x8,x9,x10,x11]):=fun h=>by rw[mgL,if_pos h]
 have HL2:Hid (x0≠1→mgL ⟨x0,x1,x2,x3,⟨x4,x5,⟨x6,x7,x8,x9,x10,x11⟩⟩⟩=[x0,x1,x2,x3]):=fun h=>by rw[mgL,if_neg h];rfl
 obtain⟨L,hL⟩:∃L,L=mgL ⟨x0,x1,x2,x3,⟨x4,x5,⟨x6,x7,x8,x9,x10,x11⟩⟩⟩:=⟨_,rfl⟩;rw[←hL] at HBY HL1 HL2 ⊢;clear hL;go_enter func7,ntmps7
 go_wp2_with fail
 refine (wcheck_any x0 x1 x2 x3 x4 x5 x6 x7 x8 x9 x10 x11 _).mono ?_;rintro e w1 ⟨rfl,hb1⟩;have HB1:Hid (Below w.heap.size w w1):=HB0.out.trans (hb1.mono HB0.out.size);obtain⟨c0,c1,c2,c3,c4,c5,c6,c7,c8,c9,c10,c11⟩:=HC0.out.later hb1;rw[HN.out,no_ok rfl];have hlt1:w.heap.size<w1.heap.size:=bLQ _ _ c0;clear hb1
 go_upto_if 27 with fail
 go_cut [5] from 25 (fun v w'=>∃(g n c:Nat),v=.slice (some ⟨g,0,none⟩) n c∧L.length=n∧GAt inE w' g 0 L∧Below w.heap.size w w')
 case first =>
  obtain⟨w2,hw2⟩:∃V,V=w1.alloc (.cells #[.int i64 x0,.int i64 x1,.int i64 x2,.int i64 x3] 3):=⟨_,rfl⟩;have HG2:Hid (GAt inE w2 w1.heap.size 0 [x0,x1,x2,x3]):=by rw[hw2];exact in_new w1 [x0,x1,x2,x3] 3 [.int i64 x0,.int i64 x1,.int i64 x2,.int i64 x3] rfl
  have HB2:Hid (Below w.heap.size w w2):=by rw[hw2];exact HB1.out.alloc HB1.out.size _
  have hb12:Below w1.heap.size w1 w2:=by rw[hw2];exact (bRQ _ _).alloc (nLQ _) _
  have hsz2:w2.heap.size=w1.heap.size+1:=by rw[hw2];simp
  have HS2:Hid (w2.heap.size=w1.heap.size+1):=hsz2;have HO2:Hid (w2.ownsRow w1.heap.size 3 inE.n (.slice (some ⟨w1.heap.size,0,none⟩) 4 4) [x0,x1,x2,x3].length (cellsG inE [x0,x1,x2,x3])):=by
   rw[hw2];exact World.ownsRow_lit (base:=w1.heap.size) (e:=3) (size:=1) w1 #[.int i64 x0,.int i64 x1,.int i64 x2,.int i64 x3] 4 (nLQ _) (by decide) rfl
  rw[←hw2];by_cases hk:x0=1
  ·have hL:=HL1.out hk;subst hk;have d0:=cell_later hb12 c0;have d5:=cell_later hb12 c5;have d6:=cell_later hb12 c6;have d7:=cell_later hb12 c7;have d8:=cell_later hb12 c8;have d9:=cell_later hb12 c9;have d10:=cell_later hb12 c10;have d11:=cell_later hb12 c11;have HLL:Hid (L=[1,x1,x2,x3]++[btN x5,x6,x7,x8,x9,x10,x11]):=hL;clear c0 c1 c2 c3 c4 c5 c6 c7 c8 c9 c10 c11 hL hw2 hb12 hsz2;go_upto_region 7 with fail;obtain⟨w3,hw3⟩:∃V,V=w2.alloc (.cells #[.int i64 x6,.int i64 x7,.int i64 x8,.int i64 x9,.int i64 x10,.int i64 x11] 25):=⟨_,rfl⟩;rw[←hw3];have hb23:Below w2.heap.size w2 w3:=by rw[hw3];exact (bRQ _ _).alloc (nLQ _) _
   have hS3:w3.heap.size=w2.heap.size+1:=by rw[hw3];simp
   have HS3:Hid (w3.heap.size=w2.heap.size+1):=hS3;have f0:w3.cell? ⟨w2.heap.size,0,none⟩=some (.int i64 x6):=by rw[hw3];simp
   have f1:w3.cell? ⟨w2.heap.size,1,none⟩=some (.int i64 x7):=by rw[hw3];simp
   have f2:w3.cell? ⟨w2.heap.size,2,none⟩=some (.int i64 x8):=by rw[hw3];simp
   have f3:w3.cell? ⟨w2.heap.size,3,none⟩=some (.int i64 x9):=by rw[hw3];simp
   have f4:w3.cell? ⟨w2.heap.size,4,none⟩=some (.int i64 x10):=by rw[hw3];simp
   have f5:w3.cell? ⟨w2.heap.size,5,none⟩=some (.int i64 x11):=by rw[hw3];simp
   have hd5:=cell_later hb23 d5;have HO3:Hid (∀V,Below w3.heap.size w3 V→V.ownsRow w1.heap.size 3 inE.n (.slice (some ⟨w1.heap.size,0,none⟩) 4 4) [1,x1,x2,x3].length (cellsG inE [1,x1,x2,x3])):=fun V hV=>own_below (own_below HO2.out hb23) hV
   have HB3:Hid (Below w.heap.size w w3):=HB2.out.trans (hb23.mono HB2.out.size);have hgl:w2.heap.size<w3.heap.size:=by omega
   have hgl2:w.heap.size<w3.heap.size:=by have:=HS2.out;omega
   have HK:Hid (∀V,Below w3.heap.size w3 V→V.cell? ⟨w.heap.size,5,none⟩=some (.bool x5)∧V.cell? ⟨w2.heap.size,0,none⟩=some (.int i64 x6)∧V.cell? ⟨w2.heap.size,1,none⟩=some (.int i64 x7)∧V.cell? ⟨w2.heap.size,2,none⟩=some (.int i64 x8)∧V.cell? ⟨w2.heap.size,3,none⟩=some (.int i64 x9)∧V.cell? ⟨w2.heap.size,4,none⟩=some (.int i64 x10)∧V.cell? ⟨w2.heap.size,5,none⟩=some (.int i64 x11)):=fun V hV=>⟨cell_later hV hd5,cell_later hV f0,cell_later hV f1,cell_later hV f2,cell_later hV f3,cell_later hV f4,cell_later hV f5⟩
   have HKR:Hid (w3.cell? ⟨w.heap.size,5,none⟩=some (.bool x5)∧w3.cell? ⟨w2.heap.size,0,none⟩=some (.int i64 x6)∧w3.cell? ⟨w2.heap.size,1,none⟩=some (.int i64 x7)∧w3.cell? ⟨w2.heap.size,2,none⟩=some (.int i64 x8)∧w3.cell? ⟨w2.heap.size,3,none⟩=some (.int i64 x9)∧w3.cell? ⟨w2.heap.size,4,none⟩=some (.int i64 x10)∧w3.cell? ⟨w2.heap.size,5,none⟩=some (.int i64 x11)):=HK.out w3 (bRQ _ _);have HNE:Hid (some w.heap.size≠some w1.heap.size∧some w2.heap.size≠some w1.heap.size):=by
    have:=HS2.out;exact⟨fun h=>by have:=Option.some.inj h;omega,fun h=>by have:=Option.some.inj h;omega⟩
   have HLN1:Hid ([1,x1,x2,x3].length+7≤maxLen):=by show _≤_;unfold maxLen;simp
   have HLN2:Hid (([1,x1,x2,x3].length+7)*8≤140737488355328):=by show _≤_;simp
   have HSZ:Hid (∀V,Below w3.heap.size w3 V→w1.heap.size≤V.heap.size):=fun V hV=>by have:=hV.size;have:=HS3.out;have:=HS2.out;omega
   have HFIN:Hid (∀V V2,Below w3.heap.size w3 V→V.grownBy V2 (some w1.heap.size)→Below w.heap.size w V2):=fun V V2 hV hg=>by
    have h1:Below w.heap.size w V:=HB3.out.trans (hV.mono HB3.out.size);exact h1.grown hg h1.size (fun k hk=>by cases hk;exact Nat.le_of_lt hlt1)
   clear hw3 hb23 d0 d5 d6 d7 d8 d9 d10 d11 hS3
   go_region_held3 (fun V=>V.cell? ⟨w.heap.size,5,none⟩=some (.bool x5)∧V.cell? ⟨w2.heap.size,0,none⟩=some (.int i64 x6)∧V.cell? ⟨w2.heap.size,1,none⟩=some (.int i64 x7)∧V.cell? ⟨w2.heap.size,2,none⟩=some (.int i64 x8)∧V.cell? ⟨w2.heap.size,3,none⟩=some (.int i64 x9)∧V.cell? ⟨w2.heap.size,4,none⟩=some (.int i64 x10)∧V.cell? ⟨w2.heap.size,5,none⟩=some (.int i64 x11))
    (first | assumption | exact HKR.out | exact keepC (Below.drew (bRQ _ _)) (by assumption) | exact keepC (Below.alloc (bRQ _ _) (nLQ _) _) (by assumption) | exact keepD (by assumption) HNE.out.1 HNE.out.2 (by assumption))
    (first
     | (go_at_call 16;refine (bit_same x5 _).mono ?_;rintro e w' ⟨rfl,hb⟩;have hb':=hb.symm;subst hb';clear hb)
     | (refine step_append_lst (E:=inE) _ (by rfl) _ _ 51 3 (by rfl) underlying51 j0 _ 8 HJ.out.1 HJ.out.2.1 HJ.out.2.2.1 HJ.out.2.2.2 rfl w1.heap.size (.slice (some ⟨w1.heap.size,0,none⟩) 4 4) (by rfl) [1,x1,x2,x3] (HO3.out _ (by first | exact (bRQ _ _).drew.alloc (nLQ _) _ | exact ((bRQ _ _).alloc (nLQ _) _).drew | exact (bRQ _ _).alloc (nLQ _) _)) _ 0 7 7 (by rfl) [btN x5,x6,x7,x8,x9,x10,x11] (by rfl) (in_new _ [btN x5,x6,x7,x8,x9,x10,x11] 3 [.int i64 (btN x5),.int i64 x6,.int i64 x7,.int i64 x8,.int i64 x9,.int i64 x10,.int i64 x11] rfl) HLN1.out HLN2.out (HSZ.out _ (by first | exact (bRQ _ _).drew.alloc (nLQ _) _ | exact ((bRQ _ _).alloc (nLQ _) _).drew | exact (bRQ _ _).alloc (nLQ _) _)) ?_;intro v' w5 ho5 hg5;have HBF:Hid (Below w.heap.size w w5):=HFIN.out _ _ (by first | exact (bRQ _ _).drew.alloc (nLQ _) _ | exact ((bRQ _ _).alloc (nLQ _) _).drew | exact (bRQ _ _).alloc (nLQ _) _) hg5))
   obtain⟨gv,cv,hv'⟩:∃g c,v'=.slice (some ⟨g,0,none⟩) 11 c:=by
    rcases ho5.2 with ⟨_,h0⟩ | ⟨g,cap,cur,h1,_⟩
    ·cases h0
    exact⟨g,cap,h1⟩
   subst hv';have HG5:Hid (GS inE w5 (.slice (some ⟨gv,0,none⟩) 11 cv) ([1,x1,x2,x3]++[btN x5,x6,x7,x8,x9,x10,x11])):=own_GS ho5;clear ho5 hg5
   go_wp2_with fail
   go_meet
   refine⟨gv,11,cv,rfl,by rw[HLL.out];rfl,?_,HBF.out⟩;rw[HLL.out]
   rcases HG5.out with ⟨_,_,_,h⟩ | ⟨g,o,cap,h,_,_,h4⟩
   ·cases h
   cases h;exact h4
  have hL:=HL2.out hk;have k1:(x0==1)=false:=by simpa using hk
  have d0:=cell_later hb12 c0;clear c0 c1 c2 c3 c4 c5 c6 c7 c8 c9 c10 c11 hw2 hb12 hsz2
  go_wp2_with fail
  go_meet
  exact⟨w1.heap.size,4,4,rfl,by rw[hL];rfl,by rw[hL];exact HG2.out,HB2.out⟩
 case rest =>
  obtain⟨g,n,c,rfl,hn,hG,hB8⟩:=hcut;obtain⟨w8,hw8⟩:∃V,V=wc:=⟨_,rfl⟩;subst hw8;clear HC0 HB0 HB1 HL1 HL2 hlt1 c0 c1 c2 c3 c4 c5 c6 c7 c8 c9 c10 c11;have HB8:Hid (Below w.heap.size w w8):=hB8;have HGA:Hid (GAt inE w8 g 0 L):=hG;have HLN:Hid (L.length=n):=hn;have hn11:n≤11:=by have:=HBY.out.2.1;omega
  have hn4:4≤n:=by have:=HBY.out.2.2;omega
  clear hB8 hG hn;obtain⟨w9,hmk,hown0,hgr⟩:=run_make_own (P:=prog) w8 w8.heap.size 48 5 i0 (.int .u8 0) 1 underlying48 HI.out.1 HI.out.2.1 HI.out.2.2.1 .i64 .i64 12 (by rw[HI.out.2.2.2];decide) (by decide) (nLQ _);have hmk2:(Instr.makeSlice 48 (.int i64 0) (.int i64 12)).run prog w8=.ok (.slice (some ⟨w8.heap.size,0,none⟩) 0 12) w9:=hmk;have HO9:Hid (w9.ownsRow w8.heap.size 5 u8E.n (.slice (some ⟨w8.heap.size,0,none⟩) 0 12) (L.take 0).length (cellsG u8E (L.take 0))):=hown0;have HB9:Hid (Below w8.heap.size w8 w9):=below_grown hgr (nLQ _) (fun k hk=>by cases hk);clear hmk hown0 hgr;go_wp2
  go_loopw [7,8,55] (fun v sm ix wr=>∃k:Nat,k≤n∧ix=.int i64 (k:Int)∧sm=.int i64 (smL (L.take k))∧wr.ownsRow w8.heap.size 5 u8E.n v (L.take k).length (cellsG u8E (L.take k))∧Below w8.heap.size w8 wr) (fun _ _ ix _=>n-(intOf ix).toNat)
  case atStart=>exact⟨0,Nat.zero_le _,rfl,rfl,HO9.out,HB9.out⟩
  case round =>
   obtain⟨k,hk,rfl,rfl,hown,hB⟩:=hrel;obtain⟨T,hT⟩:∃T,T=L.take k:=⟨_,rfl⟩;have HT:Hid (L.take k=T):=hT.symm;have HOW:Hid (wr.ownsRow w8.heap.size 5 u8E.n u7 T.length (cellsG u8E T)):=by rw[hT];exact hown
   have HBR:Hid (Below w8.heap.size w8 wr):=hB;have hsz:w8.heap.size≤wr.heap.size:=hB.size;have HSB:Hid (0≤smL (L.take k)∧smL (L.take k)≤2200):=by
    have h1:=by_sum (by_take HBY.out.1 k);have h2:(L.take k).length≤11:=by simp;omega
    exact⟨h1.1,by omega⟩
   obtain⟨S,hS⟩:∃S,S=smL (L.take k):=⟨_,rfl⟩;have HS:Hid (smL (L.take k)=S):=hS.symm;rw[←hS] at HSB ⊢;have HLT:Hid (T.length≤11):=by show _≤_;rw[hT];simp;omega
   clear hown hS hT;by_cases hlt:k<n
   ·obtain⟨x,hkl,hx,q0⟩:=in_at (HGA.out.later hB) HLN.out hlt;rw[Nat.zero_add] at q0;have hxb:=HBY.out.1 L[k] (List.getElem_mem hkl);rw[hx] at hxb;have hu:=u8_wrap hxb;have HS2:Hid (smL (L.take (k+1))=S+x):=by show _=_;rw[sm_take hkl,hx,HS.out]
    have HT2:Hid (L.take (k+1)=T++[x]):=by show _=_;rw[take_g hkl,hx,HT.out]
    have hSw:IntKind.i64.wrap (S+x)=S+x:=by have:=HSB.out;rw[IntKind.wrap_i64];omega
    have hk0:(0:Int)≤(k:Int):=by omega
    have hk1:(k:Int)<(n:Int):=by omega
    clear hB hkl hx hxb
    go_wp2_with (at_builtin;refine wpList_append_blk (E:=u8E) _ rfl _ _ 48 5 rfl underlying48 i0 _ 1 HI.out.1 HI.out.2.1 HI.out.2.2.1 HI.out.2.2.2 rfl w8.heap.size _ rfl T (HOW.out.alloc _) wr.heap.size 0 1 rfl x (vat_new wr [.int .u8 x] _) ?c1 ?c2 ?c3 ?_)
    case c1=>have:=HLT.out;unfold maxLen;omega
    case c2=>have:=HLT.out;omega
    case c3=>first | (simp;omega) | omega
    intro v' w3 hown3 hgrow _;have HB3:Hid (Below w8.heap.size w8 w3):=(HBR.out.alloc hsz _).grown hgrow (by simp;omega) (fun g hg=>(HOW.out.lt g hg).1);have HO3:Hid (w3.ownsRow w8.heap.size 5 u8E.n v' (L.take (k+1)).length (cellsG u8E (L.take (k+1)))):=by
     show w3.ownsRow w8.heap.size 5 u8E.n v' (L.take (k+1)).length (cellsG u8E (L.take (k+1)));rw[HT2.out,List.length_append];exact hown3
    clear hgrow hown3;go_wp2;go_roundw
    case rel=>exact⟨k+1,by omega,by go_num,by rw[HS2.out],HO3.out,HB3.out⟩
    case measure=>simp[intOf];omega
   have hkn:k=n:=by omega
   have HLE:Hid (T=L):=by show _=_;rw[←HT.out,hkn,←HLN.out];exact List.take_length
   have HRR:Hid (∃R,R=smL L % 251∧S.tmod 251=R∧IntKind.i64.wrap R=R∧IntKind.u8.wrap R=R):=by
    have h1:=HSB.out;have h2:smL L=S:=by rw[←HS.out,HT.out,HLE.out]
    refine⟨smL L % 251,rfl,?_,?_,?_⟩
    ·rw[h2,Int.tmod_eq_emod_of_nonneg h1.1]
    ·rw[IntKind.wrap_i64];omega
    rw[IntKind.wrap_u8];omega
   obtain⟨R,hR,hR1,hR2,hR3⟩:=HRR.out;clear HRR;have HRR:Hid (nmT L=strOfNums (L++[R])):=by show _=_;rw[nmT,hR]
   have hk1:¬(k:Int)<(n:Int):=by omega
   clear hR hB hkn
   go_wp2_with (at_builtin;refine wpList_append_blk (E:=u8E) _ rfl _ _ 48 5 rfl underlying48 i0 _ 1 HI.out.1 HI.out.2.1 HI.out.2.2.1 HI.out.2.2.2 rfl w8.heap.size _ rfl T (HOW.out.alloc _) wr.heap.size 0 1 rfl R (vat_new wr [.int .u8 R] _) ?c1 ?c2 ?c3 ?_)
   case c1=>have:=HLT.out;unfold maxLen;omega
   case c2=>have:=HLT.out;omega
   case c3=>first | (simp;omega) | omega
   intro v' w3 hown3 hgrow _;have HB3:Hid (Below w8.heap.size w8 w3):=(HBR.out.alloc hsz _).grown hgrow (by simp;omega) (fun g hg=>(HOW.out.lt g hg).1);have HBF:Hid (Below w.heap.size w w3):=HB8.out.trans (HB3.out.mono HB8.out.size);rw[HLE.out] at hown3;have hown4:w3.ownsRow w8.heap.size 5 u8E.n v' (L++[R]).length (cellsG u8E (L++[R])):=by rw[List.length_append];exact hown3
   obtain⟨n9,hn9⟩:∃n9,(L++[R]).length=n9:=⟨_,rfl⟩;obtain⟨gv,cv,rfl,hcv⟩:=conv_own hown4 hn9 (by rw[←hn9];simp);clear hn9;clear hown4;clear hgrow hown3;go_wp2;refine bodyPost_ret (v:=.tuple #[.string (strOfNums (L++[R])),.nilIface]) (by simp[results,results7,go_sem]) rfl ⟨by rw[HRR.out],HBF.out⟩
def dcE (b:ByteArray):Int:=if dcB b then 0 else 2
theorem dc_no {b:ByteArray}(h:dcB b=false):mgV (dcV b)=.agg #[.int i64 0,.int i64 0,.int i64 0,.int i64 0,.int i64 0,.bool false,.int i64 0,.int i64 0,.int i64 0,.int i64 0,.int i64 0,.int i64 0]∧noV (dcE b)=.iface 54 (.int i64 2):=by
 unfold dcV dcE;rw[h];exact⟨rfl,rfl⟩
theorem dc_yes {b:ByteArray}(h:dcB b=true):dcV b=wrM b∧noV (dcE b)=.nilIface:=by
 unfold dcV dcE;rw[h];exact⟨rfl,rfl⟩
theorem dc_0 {b:ByteArray}(h:b.size=0):dcB b=false:=by simp[dcB,h]
theorem dc_ln {b:ByteArray}(h:b.size≠lnM (byN b 0)):dcB b=false:=by simp[dcB,h]
theorem dc_mg {b:ByteArray}(h:mgN (wrM b)≠0):dcB b=false:=by simp[dcB,h]
theorem dc_tx {b:ByteArray}(h:mgT (wrM b)≠b):dcB b=false:=by simp[dcB,h]
theorem dc_all {b:ByteArray}(h0:b.size≠0)(h1:b.size=lnM (byN b 0))(h2:mgN (wrM b)=0)(h3:mgT (wrM b)=b):dcB b=true:=by
 unfold dcB;rw[decide_eq_true h1,decide_eq_true h2,decide_eq_true h3,beq_eq_false_iff_ne.2 h0];rfl
theorem wread_any (b:ByteArray)(h0:b.size≠0)(h:b.size=lnM (byN b 0))(w:World):
 Calls prog 20 #[.string b] w fun e w'=>e=.returned (mgV (wrM b))∧Below w.heap.size w w':=by
 rcases wr_sizes h0 h with ⟨h1,h2⟩ | ⟨h1,h2⟩
 ·exact wread_do b h1 h2 w
 exact wread_plain b h1 h2 w
theorem wenc_any (x0 x1 x2 x3 x4:Int)(x5:Bool)(x6 x7 x8 x9 x10 x11:Int)(w:World):
 Calls prog 7 #[.agg #[.int i64 x0,.int i64 x1,.int i64 x2,.int i64 x3,.int i64 x4,.bool x5,.int i64 x6,.int i64 x7,.int i64 x8,.int i64 x9,.int i64 x10,.int i64 x11]] w fun e w'=>e=.returned (.tuple #[.string (enT ⟨x0,x1,x2,x3,⟨x4,x5,⟨x6,x7,x8,x9,x10,x11⟩⟩⟩),noV (mgN ⟨x0,x1,x2,x3,⟨x4,x5,⟨x6,x7,x8,x9,x10,x11⟩⟩⟩)])∧Below w.heap.size w w':=by
 by_cases h:mgN ⟨x0,x1,x2,x3,⟨x4,x5,⟨x6,x7,x8,x9,x10,x11⟩⟩⟩=0
 ·exact wenc_yes x0 x1 x2 x3 x4 x5 x6 x7 x8 x9 x10 x11 w h
 exact wenc_no x0 x1 x2 x3 x4 x5 x6 x7 x8 x9 x10 x11 w h
theorem emp_no {b:ByteArray}(h:b.size≠0):b.toList.isEmpty=false:=by
 rw[Lib.toList_data];cases h2:b.data.toList with
 | nil =>
   exfalso
   have:=Lib.size_eq b;rw[h2] at this;exact h this
 | cons a b=>rfl
theorem txt_eq (a b:ByteArray):(a.toList==b.toList)=decide (a=b):=by
 rw[Lib.toList_data,Lib.toList_data];by_cases h:a=b
 ·subst h;simp
 rw[decide_eq_false h,beq_eq_false_iff_ne];intro h2
 apply h
 cases a;cases b;simp at h2;cases h2;rfl
theorem wdec_any (b:ByteArray)(w:World):
 Calls prog 10 #[.string b] w fun e w'=>e=.returned (.tuple #[mgV (dcV b),noV (dcE b)])∧Below w.heap.size w w':=by
 obtain⟨w1,hw1⟩:∃V,V=w.alloc (.cells #[.int i64 0,.int i64 0,.int i64 0,.int i64 0,.int i64 0,.bool false,.int i64 0,.int i64 0,.int i64 0,.int i64 0,.int i64 0,.int i64 0] 29):=⟨_,rfl⟩;have HB1:Hid (Below w.heap.size w w1):=by rw[hw1];exact (bRQ _ _).alloc (nLQ _) _
 have hm1:MgC w1 w.heap.size 0 0 0 0 0 false 0 0 0 0 0 0:=by rw[hw1];exact mgc_new w 0 0 0 0 0 false 0 0 0 0 0 0 _
 have hf1:∀i,w1.frozen? ⟨w.heap.size,i,none⟩=false:=by intro i;rw[hw1];simp
 have HR1:Hid (∀W,Below w1.heap.size w1 W→MgC W w.heap.size 0 0 0 0 0 false 0 0 0 0 0 0∧(∀i,W.frozen? ⟨w.heap.size,i,none⟩=false)):=fun W h =>
  ⟨hm1.later h,fun i=>by rw[h.frozen (p:=⟨w.heap.size,i,none⟩) hm1.lt];exact hf1 i⟩
 have HW1:Hid (w.alloc (.cells #[.int i64 0,.int i64 0,.int i64 0,.int i64 0,.int i64 0,.bool false,.int i64 0,.int i64 0,.int i64 0,.int i64 0,.int i64 0,.int i64 0] 29)=w1):=hw1.symm;have HBAD:Hid (∀W,dcB b=false→Below w.heap.size w W→Ending.returned (.tuple #[.agg #[.int i64 0,.int i64 0,.int i64 0,.int i64 0,.int i64 0,.bool false,.int i64 0,.int i64 0,.int i64 0,.int i64 0,.int i64 0,.int i64 0],.iface 54 (.int i64 2)])=.returned (.tuple #[mgV (dcV b),noV (dcE b)])∧Below w.heap.size w W):=fun W h hb=>by
  rw[(dc_no h).1,(dc_no h).2];exact⟨rfl,hb⟩
 clear hw1 hm1 hf1;by_cases h0:b.size=0
 ·have HDC:Hid (dcB b=false):=dc_0 h0;have e:b=⟨#[]⟩:=by
   apply ByteArray.ext
   exact Array.eq_empty_of_size_eq_zero h0
  subst e;clear h0;go_enter func10,ntmps10;go_wp2;refine bodyPost_ret (v:=.tuple #[.agg #[.int i64 0,.int i64 0,.int i64 0,.int i64 0,.int i64 0,.bool false,.int i64 0,.int i64 0,.int i64 0,.int i64 0,.int i64 0,.int i64 0],.iface 54 (.int i64 2)]) (by simp[results,results10,go_sem, *]) rfl ?_;exact HBAD.out _ HDC.out ((bRQ _ _).alloc (nLQ _) _)
 have he:=emp_no h0;have l0:0<b.size:=by omega
 have i0:(0:Int)<(b.size:Int):=by omega
 obtain⟨N,hN⟩:∃N,N=lnM (byN b 0):=⟨_,rfl⟩;have HN:Hid (lnM b[0].toNat=N):=by show _=_;rw[hN,byN_at b 0 l0]
 by_cases h1:b.size=N
 ·have hn1:((b.size:Int) != (N:Int))=false:=by simp[h1]
  have hn2:((b.size:Int)==(N:Int))=true:=by simp[h1]
  obtain⟨m,hm⟩:∃m,m=wrM b:=⟨_,rfl⟩;have HRD:Hid (∀W,Calls prog 20 #[.string b] W fun e w'=>e=.returned (mgV m)∧Below W.heap.size W w'):=fun W=>by rw[hm];exact wread_any b h0 (by rw[h1,hN]) W
  have HM:Hid (wrM b=m):=hm.symm;have HALL:Hid (mgN m=0→mgT m=b→dcB b=true):=fun h2 h3=>dc_all h0 (by rw[h1,hN]) (by rw[←hm];exact h2) (by rw[←hm];exact h3)
  clear hm h0 hN;obtain⟨x0,x1,x2,x3,⟨x4,x5,⟨x6,x7,x8,x9,x10,x11⟩⟩⟩:=m;obtain⟨Z,hZ⟩:∃Z,Z=mgN ⟨x0,x1,x2,x3,⟨x4,x5,⟨x6,x7,x8,x9,x10,x11⟩⟩⟩:=⟨_,rfl⟩;obtain⟨E,hE⟩:∃E,E=enT ⟨x0,x1,x2,x3,⟨x4,x5,⟨x6,x7,x8,x9,x10,x11⟩⟩⟩:=⟨_,rfl⟩;have HZ:Hid (mgN ⟨x0,x1,x2,x3,⟨x4,x5,⟨x6,x7,x8,x9,x10,x11⟩⟩⟩=Z∧enT ⟨x0,x1,x2,x3,⟨x4,x5,⟨x6,x7,x8,x9,x10,x11⟩⟩⟩=E):=⟨hZ.symm,hE.symm⟩;clear hZ hE;go_enter func10,ntmps10
  go_wp2_with fail
  refine (size_any _ _).mono ?_;rintro e w' ⟨rfl,hw'⟩;have hw'':=hw'.symm;subst hw'';clear hw';rw[HN.out]
  go_wp2_with fail
  rw[HW1.out];refine (HRD.out _).mono ?_;rintro e w2 ⟨rfl,hb2⟩
  dsimp only[mgV]
  obtain⟨w3,hw3⟩:∃V,V=w2.alloc (.cells #[.int i64 x0,.int i64 x1,.int i64 x2,.int i64 x3,.int i64 x4,.bool x5,.int i64 x6,.int i64 x7,.int i64 x8,.int i64 x9,.int i64 x10,.int i64 x11] 29):=⟨_,rfl⟩;have hb23:Below w2.heap.size w2 w3:=by rw[hw3];exact (bRQ _ _).alloc (nLQ _) _
  have HB3:Hid (Below w1.heap.size w1 w3):=hb2.trans (hb23.mono hb2.size);have hm3:MgC w3 w2.heap.size x0 x1 x2 x3 x4 x5 x6 x7 x8 x9 x10 x11:=by rw[hw3];exact mgc_new w2 x0 x1 x2 x3 x4 x5 x6 x7 x8 x9 x10 x11 _
  have HM3:Hid (∀W,Below w3.heap.size w3 W→MgC W w2.heap.size x0 x1 x2 x3 x4 x5 x6 x7 x8 x9 x10 x11):=fun W h=>hm3.later h
  have HG3:Hid (w1.heap.size≤w2.heap.size):=hb2.size;have HW3:Hid (w2.alloc (.cells #[.int i64 x0,.int i64 x1,.int i64 x2,.int i64 x3,.int i64 x4,.bool x5,.int i64 x6,.int i64 x7,.int i64 x8,.int i64 x9,.int i64 x10,.int i64 x11] 29)=w3):=hw3.symm;clear hb2 hb23 hw3;go_upto_region 4 with fail;rw[HW3.out];obtain⟨m0,m1,m2,m3,m4,m5,m6,m7,m8,m9,m10,m11⟩:=hm3
  go_wp2_with fail
  refine (wenc_any x0 x1 x2 x3 x4 x5 x6 x7 x8 x9 x10 x11 w3).mono ?_;rintro e w4 ⟨rfl,hb4⟩;have HBX:Hid (Below w1.heap.size w1 w4):=HB3.out.trans (hb4.mono HB3.out.size);have HM4:Hid (MgC w4 w2.heap.size x0 x1 x2 x3 x4 x5 x6 x7 x8 x9 x10 x11):=HM3.out w4 hb4;rw[HZ.out.1,HZ.out.2];clear hb4 m0 m1 m2 m3 m4 m5 m6 m7 m8 m9 m10 m11;by_cases hz:Z=0
  ·have HZ0:Hid (mgN ⟨x0,x1,x2,x3,⟨x4,x5,⟨x6,x7,x8,x9,x10,x11⟩⟩⟩=0):=by rw[hz] at HZ;exact HZ.out.1
   have HET:Hid (mgT ⟨x0,x1,x2,x3,⟨x4,x5,⟨x6,x7,x8,x9,x10,x11⟩⟩⟩=E):=by show _=_;rw[←HZ.out.2,enT,if_pos HZ0.out]
   subst hz;rw[no_ok rfl];by_cases hEb:E=b
   ·have HDC:Hid (dcB b=true):=HALL.out HZ0.out (by rw[HET.out,hEb]);have t1:(E.toList==b.toList)=true:=by rw[txt_eq,decide_eq_true hEb]
    obtain⟨⟨r0,r1,r2,r3,r4,r5,r6,r7,r8,r9,r10,r11⟩,hf⟩:=HR1.out _ HBX.out;obtain⟨m0,m1,m2,m3,m4,m5,m6,m7,m8,m9,m10,m11⟩:=HM4.out;have f0:=hf 0;have f1:=hf 1;have f2:=hf 2;have f3:=hf 3;have f4:=hf 4;have f5:=hf 5;have f6:=hf 6;have f7:=hf 7;have f8:=hf 8;have f9:=hf 9;have f10:=hf 10;have f11:=hf 11;have HFIN:Hid (.tuple #[.agg #[.int i64 x0,.int i64 x1,.int i64 x2,.int i64 x3,.int i64 x4,.bool x5,.int i64 x6,.int i64 x7,.int i64 x8,.int i64 x9,.int i64 x10,.int i64 x11],.nilIface]=Value.tuple #[mgV (dcV b),noV (dcE b)]):=by
     show _=_;rw[(dc_yes HDC.out).1,(dc_yes HDC.out).2,HM.out];rfl
    clear hf hEb;go_wp2;refine bodyPost_ret (v:=.tuple #[.agg #[.int i64 x0,.int i64 x1,.int i64 x2,.int i64 x3,.int i64 x4,.bool x5,.int i64 x6,.int i64 x7,.int i64 x8,.int i64 x9,.int i64 x10,.int i64 x11],.nilIface]) (by simp[results,results10,go_sem, *]) rfl ?_;exact⟨by rw[HFIN.out],below_set12 (HB1.out.trans (HBX.out.mono HB1.out.size)) _ (nLQ _) _ _ _ _ _ _ _ _ _ _ _ _⟩
   have HDC:Hid (dcB b=false):=dc_tx (by rw[HM.out,HET.out];exact hEb);have t1:(E.toList==b.toList)=false:=by rw[txt_eq,decide_eq_false hEb]
   obtain⟨⟨r0,r1,r2,r3,r4,r5,r6,r7,r8,r9,r10,r11⟩,hf⟩:=HR1.out _ HBX.out;have f0:=hf 0;have f1:=hf 1;have f2:=hf 2;have f3:=hf 3;have f4:=hf 4;have f5:=hf 5;have f6:=hf 6;have f7:=hf 7;have f8:=hf 8;have f9:=hf 9;have f10:=hf 10;have f11:=hf 11;clear hf;go_wp2;refine bodyPost_ret (v:=.tuple #[.agg #[.int i64 0,.int i64 0,.int i64 0,.int i64 0,.int i64 0,.bool false,.int i64 0,.int i64 0,.int i64 0,.int i64 0,.int i64 0,.int i64 0],.iface 54 (.int i64 2)]) (by simp[results,results10,go_sem, *]) rfl ?_;exact HBAD.out _ HDC.out (below_set12 (HB1.out.trans (HBX.out.mono HB1.out.size)) _ (nLQ _) _ _ _ _ _ _ _ _ _ _ _ _)
  have HDC:Hid (dcB b=false):=dc_mg (by rw[HM.out,HZ.out.1];exact hz);rw[no_ne hz];obtain⟨⟨r0,r1,r2,r3,r4,r5,r6,r7,r8,r9,r10,r11⟩,hf⟩:=HR1.out _ HBX.out;have f0:=hf 0;have f1:=hf 1;have f2:=hf 2;have f3:=hf 3;have f4:=hf 4;have f5:=hf 5;have f6:=hf 6;have f7:=hf 7;have f8:=hf 8;have f9:=hf 9;have f10:=hf 10;have f11:=hf 11;clear hf;go_wp2;refine bodyPost_ret (v:=.tuple #[.agg #[.int i64 0,.int i64 0,.int i64 0,.int i64 0,.int i64 0,.bool false,.int i64 0,.int i64 0,.int i64 0,.int i64 0,.int i64 0,.int i64 0],.iface 54 (.int i64 2)]) (by simp[results,results10,go_sem, *]) rfl ?_;exact HBAD.out _ HDC.out (below_set12 (HB1.out.trans (HBX.out.mono HB1.out.size)) _ (nLQ _) _ _ _ _ _ _ _ _ _ _ _ _)
 have HDC:Hid (dcB b=false):=dc_ln (by rw[←hN];exact h1);have hn1:((b.size:Int) != (N:Int))=true:=by simp;omega
 have hn2:((b.size:Int)==(N:Int))=false:=by simp;omega
 clear hN h0;go_enter func10,ntmps10
 go_wp2_with fail
 refine (size_any _ _).mono ?_;rintro e w' ⟨rfl,hw'⟩;have hw'':=hw'.symm;subst hw'';clear hw';rw[HN.out];go_wp2;refine bodyPost_ret (v:=.tuple #[.agg #[.int i64 0,.int i64 0,.int i64 0,.int i64 0,.int i64 0,.bool false,.int i64 0,.int i64 0,.int i64 0,.int i64 0,.int i64 0,.int i64 0],.iface 54 (.int i64 2)]) (by simp[results,results10,go_sem, *]) rfl ?_;exact HBAD.out _ HDC.out ((bRQ _ _).alloc (nLQ _) _)
def nmS (b:ByteArray):List Int:=b.data.toList.map fun c=>(c.toNat:Int)
def chB (b:ByteArray)(i:Nat)(t:Int):ByteArray:=strOfNums ((nmS b).set i t)
theorem nms_len (b:ByteArray):(nmS b).length=b.size:=by unfold nmS;rw[List.length_map,Lib.size_eq]
theorem ch_size (b:ByteArray)(i:Nat)(t:Int):(chB b i t).size=b.size:=by unfold chB;rw[strOfNums_size,List.length_set,nms_len]
theorem ch_at {b:ByteArray}{i:Nat}{t:Int}(ht:0≤t∧t≤255){j:Nat}(hj:j<b.size):(byN (chB b i t) j:Int)=if i=j then t else (byN b j:Int):=by
 have h1:j<(nmS b).length:=by rw[nms_len];exact hj
 have h2:j<b.data.toList.length:=by rw[←Lib.size_eq];exact hj
 unfold byN chB;rw[strOfNums_data,List.getD_eq_getElem?_getD,List.getElem?_map,List.getElem?_set];by_cases h:i=j
 ·subst h;rw[if_pos rfl,if_pos h1,if_pos rfl];simp only[Option.map_some,Option.getD_some,UInt8.toNat_ofNat'];omega
 rw[if_neg h,if_neg h];unfold nmS;rw[List.getElem?_map,List.getElem?_eq_getElem h2,List.getD_eq_getElem?_getD,List.getElem?_eq_getElem h2];have h3:=UInt8.toNat_lt b.data.toList[j];simp only[Option.map_some,Option.getD_some,UInt8.toNat_ofNat',Int.toNat_natCast];omega
def suB (b:ByteArray):Nat→Nat
 | 0=>0
 | k+1=>suB b k+byN b k
theorem su_nm {l:List Int}(h:byL l):∀k,k≤l.length→(suB (nmT l) k:Int)=smL (l.take k)
 | 0,_=>rfl
 | k+1,hk=>by
   have hk2:k<l.length:=hk;rw[List.take_succ_eq_append_getElem hk2,sm_app,←su_nm h k (by omega),←nm_at h hk2,suB];omega
theorem dc_sum {b:ByteArray}(h:dcB b=true):5≤b.size∧byN b (b.size-1)=suB b (b.size-1) % 251:=by
 obtain⟨e,h0,_⟩:=dc_text h;have hb:=(mg_by h0).1;have h4:=(mg_by h0).2.2;have hs:b.size=(mgL (dcV b)).length+1:=by
  have:=nmt_size (mgL (dcV b));rw[←this];exact congrArg ByteArray.size e.symm
 refine⟨by omega,?_⟩;have e1:b.size-1=(mgL (dcV b)).length:=by omega
 rw[e1];have e2:(byN b (mgL (dcV b)).length:Int)=smL (mgL (dcV b)) % 251:=by
  have:=nm_last (l:=mgL (dcV b));rw[←this];exact congrArg (fun x=>(byN x (mgL (dcV b)).length:Int)) e.symm
 have e3:(suB b (mgL (dcV b)).length:Int)=smL (mgL (dcV b)):=by
  have:=su_nm hb _ (nLQ _);rw[List.take_length] at this;rw[←this];exact congrArg (fun x=>(suB x (mgL (dcV b)).length:Int)) e.symm
 omega
theorem su_same {a b:ByteArray}:∀k,(∀j,j<k→byN a j=byN b j)→suB a k=suB b k
 | 0,_=>rfl
 | k+1,h=>by rw[suB,suB,su_same k (fun j hj=>h j (by omega)),h k (by omega)]
theorem su_one {a b:ByteArray}{i:Nat}:∀k,i<k→(∀j,j<k→j≠i→byN a j=byN b j)→suB a k+byN b i=suB b k+byN a i
 | 0,h,_=>by omega
 | k+1,hi,h=>by
   by_cases e:i=k
   ·subst e;rw[suB,suB,su_same i (fun j hj=>h j (by omega) (by omega))];omega
   have:=su_one k (by omega) (fun j hj hne=>h j (by omega) hne);rw[suB,suB,h k (by omega) (fun h=>e h.symm)];omega
theorem long_no {m:Mg}(h:mgN m=0){i:Nat}{t:Int}(h1:i<(mgT m).size)(ht:0≤t∧t≤250)(hne:(byN (mgT m) i:Int)≠t):dcB (chB (mgT m) i t)=false:=by
 cases hd:dcB (chB (mgT m) i t) with
 | false=>rfl
 | true =>
   exfalso
   obtain⟨a1,a2⟩:=dc_sum hd;obtain⟨b1,b2⟩:=dc_sum (dc_back h).1;rw[ch_size] at a1 a2;have hc:∀j,j<(mgT m).size→(byN (chB (mgT m) i t) j:Int)=if i=j then t else (byN (mgT m) j:Int):=fun j hj=>ch_at (by omega) hj
   obtain⟨n,hn⟩:∃n,(mgT m).size=n+1:=⟨(mgT m).size-1,by omega⟩;rw[hn] at a2 b2 hc h1;simp only[Nat.add_sub_cancel] at a2 b2;have hlast:=hc n (by omega);have hi:=hc i h1;rw[if_pos rfl] at hi;by_cases hin:i=n
   ·subst hin;have e:=su_same (a:=chB (mgT m) i t) (b:=mgT m) i (fun j hj=>by
     have:=hc j (by omega);rw[if_neg (by omega)] at this;omega)
    rw[e] at a2;omega
   have e:=su_one (a:=chB (mgT m) i t) (b:=mgT m) (i:=i) n (by omega) (fun j hj hji=>by
    have:=hc j (by omega);rw[if_neg (fun h=>hji h.symm)] at this;omega)
   rw[if_neg hin] at hlast;have hb:(byN (mgT m) i:Int)≤200:=by
    have hl:=mg_by h;have hsz:n=(mgL m).length:=by have:=nmt_size (mgL m);unfold mgT at hn;omega
    have hil:i<(mgL m).length:=by omega
    have:=nm_at hl.1 hil;rw[show byN (mgT m) i=byN (nmT (mgL m)) i from rfl,this];exact (hl.1 _ (List.getElem_mem hil)).2
   omega
theorem bw_below (w:World)(e:TypeId)(s:ByteArray):Below w.heap.size w (Lib.bytesWorld w e s):=
 Lib.below_freeze (((bRQ _ _).drew).alloc (by simp) _) (p:=⟨w.heap.size,_,none⟩) (nLQ _) _
theorem bw_frozen (w:World)(e:TypeId)(s:ByteArray){j:Nat}(hj:j<s.size):(Lib.bytesWorld w e s).frozen? ⟨w.heap.size,j,none⟩=false:=by
 have h:=Lib.bytesWorld_at_new w e s;have hs:s.size≤(Lib.bytesCells w e s).size:=by simp[Lib.bytesCells]
 simp[World.frozen?,h];omega
theorem conv_new (s:ByteArray)(w:World):
 ∃(W:World) (cap:Nat),(convert 9 48 (.string s)).run prog w=.ok (.slice (some ⟨w.heap.size,0,none⟩) s.size cap) W∧(∀j,j<s.size→W.cell? ⟨w.heap.size,j,none⟩=some (.int .u8 (byN s j:Int)))∧(∀j,j<s.size→W.frozen? ⟨w.heap.size,j,none⟩=false)∧Below w.heap.size w W∧w.heap.size<W.heap.size:=by
 refine⟨_,_,Lib.run_convert_string_bytes (P:=prog) w 9 48 5 s underlying9 underlying48 underlying5,?_,?_,bw_below _ _ _,?_⟩
 ·intro j hj;exact Lib.bytesWorld_cell w _ s j hj
 ·intro j hj;exact bw_frozen w _ s hj
 rw[Lib.bytesWorld_size];omega
theorem conv_back {s:ByteArray}{W:World}{g cap:Nat}(h:∀j,j<s.size→W.cell? ⟨g,j,none⟩=some (.int .u8 (byN s j:Int))){i:Nat}(hi:i<s.size)(t:Int):
 (convert 48 9 (.slice (some ⟨g,0,none⟩) s.size cap)).run prog (W.setCell ⟨g,i,none⟩ (.int .u8 t))=.ok (.string (chB s i t)) (W.setCell ⟨g,i,none⟩ (.int .u8 t)):=by
 refine run_convert_bytes_arg (P:=prog) _ 48 5 underlying48 underlying5 g 0 s.size cap ((nmS s).set i t) (by rw[List.length_set,nms_len]) (fun j hj=>?_) 9 underlying9;rw[Nat.zero_add];have h1:j<(nmS s).length:=by rw[nms_len];exact hj
 have h2:j<s.data.toList.length:=by rw[←Lib.size_eq];exact hj
 rw[List.getD_eq_getElem?_getD,List.getElem?_set];by_cases e:i=j
 ·subst e;rw[if_pos rfl,if_pos h1,World.cell?_setCell_same _ _ _ (h i hi)];rfl
 rw[if_neg e,World.cell?_setCell_other _ _ _ _ (by simp[e]),h j hj,List.getElem?_eq_getElem h1];simp only[Option.getD_some];have e2:(nmS s)[j]=((s.data.toList[j]).toNat:Int):=by simp[nmS]
 rw[e2];unfold byN;rw[List.getD_eq_getElem?_getD,List.getElem?_eq_getElem h2];rfl
end
section
open Go.RowKit Go.Extern.Stop Go.Stop Go.Extern
def HasErr (w:World):Prop:=w.cell? ⟨0,0,none⟩=some (.iface 83 (.agg #[.pointer (some ⟨1,33,none⟩)]))
theorem HasErr.later {w w':World}(h:HasErr w)(hb:Below w.heap.size w w'):HasErr w':=cell_later hb h
theorem HasErr.alloc {w:World}(h:HasErr w)(o:Obj):HasErr (w.alloc o):=h.later ((bRQ _ _).alloc (nLQ _) _)
theorem vOfP (t:Addr)(w:World):(ReflectliteValue.unpack (.iface 64 (.pointer (some t)))).run prog w
 = .ok (.agg #[.pointer (some ⟨1,64,none⟩),.pointer (some ⟨w.heap.size,0,none⟩),.int .u64 150]) (w.alloc (.cells #[.pointer (some t)] 64)):=by kernel_rfl
theorem typeP (a : Addr)(w : World): (ReflectliteValue.methodAny (ReflectliteValue.valueError "reflectlite.Value.Type" 0) (fun t _ _ _ => ReflectliteType.toType t) #[.agg #[.pointer (some ⟨1, 64, none⟩), .pointer (some a), .int .u64 150]]).run prog w
 = .ok (.iface 83 (.agg #[.pointer (some ⟨1,64,none⟩)])) w:=by kernel_rfl
theorem methKind (h : Value)(w : World): (Go.method 225 83 (.agg #[h]) "Kind").run prog w = .ok (53, h) w := by kernel_rfl
theorem kindP (w:World):((ReflectliteType.abiMethod fun t=>Functor.map (fun a:Nat=>Value.int IntKind.u8 (a:Int)) (Rtype.kind t)) #[.pointer (some ⟨1,64,none⟩)]).run prog w=.ok (.int .u8 22) w:=by kernel_rfl
theorem kindE (w:World):((ReflectliteType.abiMethod fun t=>Functor.map (fun a:Nat=>Value.int IntKind.u8 (a:Int)) (Rtype.kind t)) #[.pointer (some ⟨1,54,none⟩)]).run prog w=.ok (.int .u8 2) w:=by kernel_rfl
theorem partsP (a:Addr)(w:World):(ReflectliteValue.parts (.agg #[.pointer (some ⟨1,64,none⟩),.pointer (some a),.int .u64 150])).run prog w=.ok (some (64,a,150)) w:=by kernel_rfl
theorem isNilP (a p:Addr)(W:World)(ha:W.cell? a=some (.pointer (some p))):
 (ReflectliteValue.method (ReflectliteValue.valueError "reflectlite.Value.IsNil" 0) ReflectliteValue.isNil #[.agg #[.pointer (some ⟨1, 64, none⟩), .pointer (some a), .int .u64 150]]).run prog W = .ok (.bool false) W := by
 change Sem.run _ (ReflectliteValue.parts (.agg #[.pointer (some ⟨1,64,none⟩),.pointer (some a),.int .u64 150]) >>= _) _=_
 rw[Sem.run_bind,partsP];simp only[Result.andThen];simp[ReflectliteValue.isNil,loadVar,isAgg,underlying,underlying64,ha,Result.andThen]
theorem methElem (h : Value)(w : World): (Go.method 225 83 (.agg #[h]) "Elem").run prog w = .ok (63, .agg #[h]) w := by kernel_rfl
theorem methImpl (h : Value)(w : World): (Go.method 225 83 (.agg #[h]) "Implements").run prog w = .ok (64, .agg #[h]) w := by kernel_rfl
theorem methAssign (h : Value)(w : World): (Go.method 225 83 (.agg #[h]) "AssignableTo").run prog w = .ok (61, .agg #[h]) w := by kernel_rfl
theorem elemP (w:World):(ReflectliteType.method ReflectliteType.elem #[.agg #[.pointer (some ⟨1,64,none⟩)]]).run prog w=.ok (.iface 83 (.agg #[.pointer (some ⟨1,54,none⟩)])) w:=by kernel_rfl
theorem implE (w : World): (ReflectliteType.relation "Implements" ReflectliteType.implements_ #[.agg #[.pointer (some ⟨1, 54, none⟩)], .iface 83 (.agg #[.pointer (some ⟨1, 33, none⟩)])]).run prog w = .ok (.bool true) w := by kernel_rfl
theorem typeOfE (v:Value)(w:World):(ReflectliteType.typeOf #[.iface 54 v]).run prog w=.ok (.iface 83 (.agg #[.pointer (some ⟨1,54,none⟩)])) w:=by kernel_rfl
theorem assignE (w : World): (ReflectliteType.relation "AssignableTo" ReflectliteType.assignableTo #[.agg #[.pointer (some ⟨1, 54, none⟩)], .iface 83 (.agg #[.pointer (some ⟨1, 54, none⟩)])]).run prog w = .ok (.bool true) w := by kernel_rfl
theorem vOfE (n:Int)(w:World):(ReflectliteValue.unpack (.iface 54 (.int i64 n))).run prog w
 = .ok (.agg #[.pointer (some ⟨1,54,none⟩),.pointer (some ⟨w.heap.size,0,none⟩),.int .u64 130]) (w.alloc (.cells #[.int i64 n] 54)):=by kernel_rfl
theorem elemOfP (w:World):(Rtype.elem? 64).run prog w=.ok (some 54) w:=by kernel_rfl
theorem mkE (p:Addr)(w:World):(ReflectliteValue.mk 54 p ReflectliteValue.flagAddr).run prog w=.ok (.agg #[.pointer (some ⟨1,54,none⟩),.pointer (some p),.int .u64 386]) w:=by kernel_rfl
theorem elemVP (a p:Addr)(W:World)(ha:W.cell? a=some (.pointer (some p))):
 (ReflectliteValue.method (ReflectliteValue.valueError "reflectlite.Value.Elem" 0) ReflectliteValue.elem #[.agg #[.pointer (some ⟨1, 64, none⟩), .pointer (some a), .int .u64 150]]).run prog W
  = .ok (.agg #[.pointer (some ⟨1,54,none⟩),.pointer (some p),.int .u64 386]) W:=by
 change Sem.run _ (ReflectliteValue.parts (.agg #[.pointer (some ⟨1,64,none⟩),.pointer (some a),.int .u64 150]) >>= _) _=_
 rw[Sem.run_bind,partsP];simp only[Result.andThen];simp[ReflectliteValue.elem,loadVar,isAgg,underlying,underlying64,ha,Result.andThen,elemOfP,mkE]
theorem partsEa (a:Addr)(w:World):(ReflectliteValue.parts (.agg #[.pointer (some ⟨1,54,none⟩),.pointer (some a),.int .u64 386])).run prog w=.ok (some (54,a,386)) w:=by kernel_rfl
theorem partsE (a:Addr)(w:World):(ReflectliteValue.parts (.agg #[.pointer (some ⟨1,54,none⟩),.pointer (some a),.int .u64 130])).run prog w=.ok (some (54,a,130)) w:=by kernel_rfl
theorem directE (w:World):(Rtype.directlyAssignable 54 54).run prog w=.ok true w:=by kernel_rfl
theorem setE (ta b:Addr)(n:Int)(old:Value)(W:World)(hb:W.cell? b=some (.int i64 n))(ht:W.cell? ta=some old)(hf:W.frozen? ta=false):
 (ReflectliteValue.set #[.agg #[.pointer (some ⟨1,54,none⟩),.pointer (some ta),.int .u64 386],.agg #[.pointer (some ⟨1,54,none⟩),.pointer (some b),.int .u64 130]]).run prog W
  = .ok (.tuple #[]) (W.setCell ta (.int i64 n)):=by
 change Sem.run _ (ReflectliteValue.parts (.agg #[.pointer (some ⟨1,54,none⟩),.pointer (some ta),.int .u64 386]) >>= _) _=_
 rw[Sem.run_bind,partsEa];simp only[Result.andThen]
 change Sem.run _ (ReflectliteValue.parts (.agg #[.pointer (some ⟨1,54,none⟩),.pointer (some b),.int .u64 130]) >>= _) _=_
 rw[Sem.run_bind,partsE];simp only[Result.andThen];simp[ReflectliteValue.flagAddr,loadVar,isAgg,underlying,underlying54,hb,Result.andThen,directE,storeVar,Value.cells,storeCells,Addr.add];rw[run_store prog W ta _ _ (by rfl)];simp[ht,hf]
theorem as_hit (n:Int)(t:Addr)(old:Value)(w:World)(hg:HasErr w)(ht0:w.cell? t=some old)(hf0:w.frozen? t=false):
 Calls prog 26 #[.iface 54 (.int i64 n),.iface 64 (.pointer (some t))] w fun ev w'=>ev=.returned (.bool true)∧w'=((((w.alloc (.cells #[.pointer (some t)] 64)).alloc (.cells #[.pointer (some ⟨1,64,none⟩),.pointer (some ⟨w.heap.size,0,none⟩),.int .u64 150] 70)).alloc (.cells #[.pointer (some ⟨1,64,none⟩),.pointer (some ⟨w.heap.size,0,none⟩),.int .u64 150] 70)).alloc (.cells #[.int i64 n] 54)).setCell t (.int i64 n):=by
 unfold HasErr at hg;have h6 := @run_callFunc_extern prog 30 _ (fun args=>ReflectliteValue.unpack (args.getD 0 (.tuple #[]))) func30 (by kernel_rfl) (by kernel_rfl) (by kernel_rfl) (by kernel_rfl);have h7 := @run_callFunc_extern prog 31 _ (ReflectliteValue.methodAny (ReflectliteValue.valueError "reflectlite.Value.Type" 0) (fun t _ _ _ => ReflectliteType.toType t)) func31 (by kernel_rfl) (by kernel_rfl) (by kernel_rfl) (by kernel_rfl)
 have h8 := @run_callFunc_extern prog 32 _ (ReflectliteValue.method (ReflectliteValue.valueError "reflectlite.Value.IsNil" 0) ReflectliteValue.isNil) func32 (by kernel_rfl) (by kernel_rfl) (by kernel_rfl) (by kernel_rfl)
 have h27 := @run_callFunc_extern prog 53 _ (ReflectliteType.abiMethod fun t=>do pure (.int .u8 (←Rtype.kind t))) func53 (by kernel_rfl) (by kernel_rfl) (by kernel_rfl) (by kernel_rfl);have h37 := @run_callFunc_extern prog 63 _ (ReflectliteType.method ReflectliteType.elem) func63 (by kernel_rfl) (by kernel_rfl) (by kernel_rfl) (by kernel_rfl);have h38 := @run_callFunc_extern prog 64 _ (ReflectliteType.relation "Implements" ReflectliteType.implements_) func64 (by kernel_rfl) (by kernel_rfl) (by kernel_rfl) (by kernel_rfl)
 have h10 := @run_callFunc_extern prog 36 _ ReflectliteType.typeOf func36 (by kernel_rfl) (by kernel_rfl) (by kernel_rfl) (by kernel_rfl);have h35 := @run_callFunc_extern prog 61 _ (ReflectliteType.relation "AssignableTo" ReflectliteType.assignableTo) func61 (by kernel_rfl) (by kernel_rfl) (by kernel_rfl) (by kernel_rfl)
 have h11 := @run_callFunc_extern prog 37 _ (ReflectliteValue.method (ReflectliteValue.valueError "reflectlite.Value.Elem" 0) ReflectliteValue.elem) func37 (by kernel_rfl) (by kernel_rfl) (by kernel_rfl) (by kernel_rfl)
 have h12 := @run_callFunc_extern prog 38 _ ReflectliteValue.set func38 (by kernel_rfl) (by kernel_rfl) (by kernel_rfl) (by kernel_rfl);have tO:=typeOfE;have mA:=methAssign;have a25:=assignE;have v25:=vOfE;have f6:=vOfP;have f7:=typeP;have mK:=methKind;have mE:=methElem;have mI:=methImpl;have k27:=kindP;have k25:=kindE;have e27:=elemP;have i25:=implE;have hlt:0<w.heap.size:=bLQ _ _ hg;have htl:t.block<w.heap.size:=bLQ _ _ ht0;have n8:=isNilP ⟨w.heap.size,0,none⟩ t ((w.alloc (.cells #[.pointer (some t)] 64)).alloc (.cells #[.pointer (some ⟨1,64,none⟩),.pointer (some ⟨w.heap.size,0,none⟩),.int .u64 150] 70)) (by simp);have hg2:((w.alloc (.cells #[.pointer (some t)] 64)).alloc (.cells #[.pointer (some ⟨1,64,none⟩),.pointer (some ⟨w.heap.size,0,none⟩),.int .u64 150] 70)).cell? ⟨0,0,none⟩=some (.iface 83 (.agg #[.pointer (some ⟨1,33,none⟩)])):=by
  rw[World.cell?_alloc_lt _ _ ⟨0,0,none⟩ (by simp <;> omega),World.cell?_alloc_lt _ _ ⟨0,0,none⟩ hlt];exact hg
 have el:=elemVP ⟨w.heap.size,0,none⟩ t (((w.alloc (.cells #[.pointer (some t)] 64)).alloc (.cells #[.pointer (some ⟨1,64,none⟩),.pointer (some ⟨w.heap.size,0,none⟩),.int .u64 150] 70)).alloc (.cells #[.pointer (some ⟨1,64,none⟩),.pointer (some ⟨w.heap.size,0,none⟩),.int .u64 150] 70)) (by rw[World.cell?_alloc_lt _ _ ⟨w.heap.size,0,none⟩ (by simp;omega)];simp);have st:=setE t ⟨w.heap.size+1+1+1,0,none⟩ n old ((((w.alloc (.cells #[.pointer (some t)] 64)).alloc (.cells #[.pointer (some ⟨1,64,none⟩),.pointer (some ⟨w.heap.size,0,none⟩),.int .u64 150] 70)).alloc (.cells #[.pointer (some ⟨1,64,none⟩),.pointer (some ⟨w.heap.size,0,none⟩),.int .u64 150] 70)).alloc (.cells #[.int i64 n] 54))
  (by rw[World.cell?_alloc_at _ _ _ _ (by simp)];rfl)
  (by rw[World.cell?_alloc_lt _ _ t (by simp;omega),World.cell?_alloc_lt _ _ t (by simp;omega),World.cell?_alloc_lt _ _ t (by simp;omega),World.cell?_alloc_lt _ _ t htl];exact ht0)
  (by rw[World.frozen?_alloc_old _ _ t (by simp;omega),World.frozen?_alloc_old _ _ t (by simp;omega),World.frozen?_alloc_old _ _ t (by simp;omega),World.frozen?_alloc_old _ _ t (Nat.ne_of_lt htl)];exact hf0)
 go_enter func26,ntmps26;go_wp2;refine wp_loop_rounds 1 ?_;rw[rounds_succ];go_wp2;go_ret;exact⟨rfl,rfl⟩
theorem told_nil (w:World):
 Calls prog 17 #[.nilIface] w fun e w'=>e=.returned (.int i64 0)∧Below w.heap.size w w':=by
 go_enter func17,ntmps17;go_wp2;go_ret;exact⟨rfl,bRQ _ _⟩
theorem told_some (n:Int)(w:World)(hg:HasErr w):
 Calls prog 17 #[.iface 54 (.int i64 n)] w fun e w'=>e=.returned (.int i64 n)∧Below w.heap.size w w':=by
 have HG:Hid (HasErr w):=hg;clear hg;go_enter func17,ntmps17
 go_wp2_with fail
 refine (as_hit n _ (.int i64 0) _ (HG.out.alloc _) (by simp) (by simp)).mono ?_;rintro e w' ⟨rfl,rfl⟩;go_wp2;go_ret;refine⟨rfl,?_⟩;exact ((((((bRQ _ _).alloc (nLQ _) _).alloc (by simp) _).alloc (by simp;omega) _).alloc (by simp;omega) _).alloc (by simp;omega) _)
theorem same_nil (k:Int)(w:World):
 Calls prog 8 #[.nilIface,.int i64 k] w fun e w'=>e=.returned (.bool (0==k))∧Below w.heap.size w w':=by
 go_enter func8,ntmps8
 go_wp2_with fail
 refine (told_nil _).mono ?_;rintro e w' ⟨rfl,hb⟩;go_wp2;go_ret;exact⟨rfl,hb⟩
theorem same_some (n k:Int)(w:World)(hg:HasErr w):
 Calls prog 8 #[.iface 54 (.int i64 n),.int i64 k] w fun e w'=>e=.returned (.bool (n==k))∧Below w.heap.size w w':=by
 have HG:Hid (HasErr w):=hg;clear hg;go_enter func8,ntmps8
 go_wp2_with fail
 refine (told_some n _ HG.out).mono ?_;rintro e w' ⟨rfl,hb⟩;go_wp2;go_ret;exact⟨rfl,hb⟩
end
section
open Go.RowKit
theorem same_noV (n:Int)(w:World)(hg:HasErr w):
 Calls prog 8 #[noV n,.int i64 n] w fun e w'=>e=.returned (.bool true)∧Below w.heap.size w w':=by
 by_cases h:n=0
 ·subst h;refine (same_nil _ w).mono ?_;rintro e w' ⟨rfl,hb⟩;exact⟨by simp,hb⟩
 rw[no_ne h];refine (same_some _ _ w hg).mono ?_;rintro e w' ⟨rfl,hb⟩;exact⟨by simp,hb⟩
end
namespace wireLong
open Go.RowKit
theorem fact_n:mgN ⟨2,1,0,0,⟨0,false,⟨0,0,0,0,0,0⟩⟩⟩=0:=by decide +kernel
theorem fact_s:(enT ⟨2,1,0,0,⟨0,false,⟨0,0,0,0,0,0⟩⟩⟩).size=5:=by rw[enT,if_pos fact_n,(mg_len fact_n).2];rfl
theorem walk (x0 x1 x2 x3 x4:Int)(x5:Bool)(x6 x7 x8 x9 x10 x11 a t:Int)(ht:0≤t∧t≤255)(w:World)(hg:HasErr w):
 Calls prog 4 #[.agg #[.int i64 x0,.int i64 x1,.int i64 x2,.int i64 x3,.int i64 x4,.bool x5,.int i64 x6,.int i64 x7,.int i64 x8,.int i64 x9,.int i64 x10,.int i64 x11],.int i64 a,.int .u8 t] w fun e w'=>e=.returned (.bool true)∧Below w.heap.size w w':=by
 obtain⟨w1,hw1⟩:∃V,V=w.alloc (.cells #[.int i64 x0,.int i64 x1,.int i64 x2,.int i64 x3,.int i64 x4,.bool x5,.int i64 x6,.int i64 x7,.int i64 x8,.int i64 x9,.int i64 x10,.int i64 x11] 29):=⟨_,rfl⟩;have HB1:Hid (Below w.heap.size w w1):=by rw[hw1];exact (bRQ _ _).alloc (nLQ _) _
 have hm1:MgC w1 w.heap.size x0 x1 x2 x3 x4 x5 x6 x7 x8 x9 x10 x11:=by rw[hw1];exact mgc_new w x0 x1 x2 x3 x4 x5 x6 x7 x8 x9 x10 x11 _
 have HM1:Hid (∀W,Below w1.heap.size w1 W→MgC W w.heap.size x0 x1 x2 x3 x4 x5 x6 x7 x8 x9 x10 x11):=fun W h=>hm1.later h
 have HW1:Hid (w.alloc (.cells #[.int i64 x0,.int i64 x1,.int i64 x2,.int i64 x3,.int i64 x4,.bool x5,.int i64 x6,.int i64 x7,.int i64 x8,.int i64 x9,.int i64 x10,.int i64 x11] 29)=w1):=hw1.symm;have HG:Hid (HasErr w):=hg;obtain⟨F,hF⟩:∃F,F=enT ⟨2,1,0,0,⟨0,false,⟨0,0,0,0,0,0⟩⟩⟩:=⟨_,rfl⟩;have HF:Hid (enT ⟨2,1,0,0,⟨0,false,⟨0,0,0,0,0,0⟩⟩⟩=F):=hF.symm;have hF5:(F.size:Int)=5:=by rw[hF,fact_s];rfl
 have hF6:((F.size:Int) != 5)=false:=by rw[hF5];rfl
 obtain⟨Z,hZ⟩:∃Z,Z=mgN ⟨x0,x1,x2,x3,⟨x4,x5,⟨x6,x7,x8,x9,x10,x11⟩⟩⟩:=⟨_,rfl⟩;obtain⟨E,hE⟩:∃E,E=enT ⟨x0,x1,x2,x3,⟨x4,x5,⟨x6,x7,x8,x9,x10,x11⟩⟩⟩:=⟨_,rfl⟩;have HZ:Hid (mgN ⟨x0,x1,x2,x3,⟨x4,x5,⟨x6,x7,x8,x9,x10,x11⟩⟩⟩=Z∧enT ⟨x0,x1,x2,x3,⟨x4,x5,⟨x6,x7,x8,x9,x10,x11⟩⟩⟩=E):=⟨hZ.symm,hE.symm⟩;clear hw1 hg hF hm1 hZ hE;go_enter func4,ntmps4;go_upto_region 1 with fail;rw[HW1.out]
 go_wp2_with fail
 refine (wenc_any 2 1 0 0 0 false 0 0 0 0 0 0 _).mono ?_;rintro e w2 ⟨rfl,hb2⟩;rw[HF.out,fact_n,no_ok rfl];have HB2:Hid (Below w1.heap.size w1 w2):=hb2;clear hb2;obtain⟨m0,m1,m2,m3,m4,m5,m6,m7,m8,m9,m10,m11⟩:=HM1.out w2 HB2.out
 go_wp2_with fail
 refine (wenc_any x0 x1 x2 x3 x4 x5 x6 x7 x8 x9 x10 x11 _).mono ?_;rintro e w3 ⟨rfl,hb3⟩;have HB3:Hid (Below w1.heap.size w1 w3):=HB2.out.trans (hb3.mono HB2.out.size);have HBW:Hid (Below w.heap.size w w3):=HB1.out.trans (HB3.out.mono HB1.out.size);rw[HZ.out.1,HZ.out.2];clear hb3 m0 m1 m2 m3 m4 m5 m6 m7 m8 m9 m10 m11;by_cases hz:Z=0
 ·have HZ0:Hid (mgN ⟨x0,x1,x2,x3,⟨x4,x5,⟨x6,x7,x8,x9,x10,x11⟩⟩⟩=0):=by rw[hz] at HZ;exact HZ.out.1
  have HET:Hid (mgT ⟨x0,x1,x2,x3,⟨x4,x5,⟨x6,x7,x8,x9,x10,x11⟩⟩⟩=E):=by show _=_;rw[←HZ.out.2,enT,if_pos HZ0.out]
  subst hz;rw[no_ok rfl];have hm3:=HM1.out w3 HB3.out;obtain⟨n,hn⟩:∃n:Nat,E.size=n∧n=(if x0=1 then 12 else 5):=⟨E.size,rfl,by rw[←HET.out];exact (mg_len HZ0.out).2⟩;have hEn:(E.size:Int)=(n:Int):=by rw[hn.1]
  have HEN:Hid (E.size=n):=hn.1;have hEn2:((E.size:Int) != (n:Int))=false:=by rw[hEn];simp
  obtain⟨m0,m1,m2,m3,m4,m5,m6,m7,m8,m9,m10,m11⟩:=hm3
  go_upto_if 36 with fail
  go_cut [11] from 36 (fun v w'=>v=.int i64 (n:Int)∧w'=w3)
  case first =>
   by_cases hk:x0=1
   ·have h12:n=12:=by rw[hn.2,if_pos hk]
    subst hk;clear hEn hEn2
    go_wp2_with fail
    go_meet
    exact⟨by rw[h12];rfl,rfl⟩
   have h5:n=5:=by rw[hn.2,if_neg hk]
   have hk1:(x0==1)=false:=by simpa using hk
   clear hEn hEn2
   go_wp2_with fail
   go_meet
   exact⟨by rw[h5];rfl,rfl⟩
  case rest =>
   obtain⟨rfl,hwc⟩:=hcut;have hwc2:=hwc.symm;subst hwc2;clear hwc hn m0 m1 m2 m3 m4 m5 m6 m7 m8 m9 m10 m11;by_cases h1:a<1
   ·go_wp2;refine bodyPost_ret (v:=.bool true) (by simp[results,results4,go_sem, *]) rfl ⟨rfl,?_⟩;exact HBW.out
   by_cases h2:(n:Int)≤a
   ·go_wp2;refine bodyPost_ret (v:=.bool true) (by simp[results,results4,go_sem, *]) rfl ⟨rfl,?_⟩;exact HBW.out
   obtain⟨i,hi⟩:∃i:Nat,a=(i:Int):=⟨a.toNat,by omega⟩;subst hi;have hin:i<n:=by omega
   have hie:i<E.size:=by rw[HEN.out];exact hin
   have i0:(0:Int)≤(i:Int):=by omega
   have i1:(i:Int)<(E.size:Int):=by omega
   have i2:(i:Int)<(n:Int):=by omega
   have HBI:Hid (byN E i=E[i].toNat):=byN_at E i hie;by_cases h3:(E[i].toNat:Int)=t
   ·have h3':((E[i].toNat:Int)==t)=true:=by simpa using h3
    clear h3;go_wp2;refine bodyPost_ret (v:=.bool true) (by simp[results,results4,go_sem, *]) rfl ⟨rfl,?_⟩;exact HBW.out
   have h3':((E[i].toNat:Int)==t)=false:=by simpa using h3
   by_cases h4:250<t
   ·clear h3;go_wp2;refine bodyPost_ret (v:=.bool true) (by simp[results,results4,go_sem, *]) rfl ⟨rfl,?_⟩;exact HBW.out
   have HNO:Hid (dcB (chB E i t)=false):=by
    have h:=long_no HZ0.out (i:=i) (t:=t) (by rw[HET.out];exact hie) (by omega) (by rw[HET.out,HBI.out];exact h3);rw[HET.out] at h;exact h
   obtain⟨w4,cap,hcv,hcells,hfrz,hb4,hlt4⟩:=conv_new E w3;have q0:=hcells i hie;have q1:=hfrz i hie;have hback:=conv_back (cap:=cap) hcells hie t;have HB4:Hid (Below w.heap.size w w4):=HBW.out.trans (hb4.mono HBW.out.size);have HG4:Hid (w.heap.size≤w3.heap.size):=HBW.out.size;clear hcells hfrz hb4 h3
   go_wp2_with fail
   refine (wdec_any (chB E i t) _).mono ?_;rintro e w5 ⟨rfl,hb5⟩;rw[(dc_no HNO.out).1,(show noV (dcE (chB E i t))=noV 2 by rw[(dc_no HNO.out).2];rfl)];have HB5:Hid (Below w.heap.size w w5):=(HB4.out.setCell HG4.out _).trans (hb5.mono (HB4.out.setCell HG4.out _).size);clear hb5 q0 q1 hback hcv;have HB6:Hid (Below w.heap.size w (w5.alloc (.cells #[.int i64 0,.int i64 0,.int i64 0,.int i64 0,.int i64 0,.bool false,.int i64 0,.int i64 0,.int i64 0,.int i64 0,.int i64 0,.int i64 0] 29))):=HB5.out.alloc HB5.out.size _
   go_wp2_with fail
   refine (same_noV 2 _ (HG.out.later HB6.out)).mono ?_;rintro e w7 ⟨rfl,hb7⟩;have HB7:Hid (Below w.heap.size w w7):=HB6.out.trans (hb7.mono HB6.out.size);clear hb7;go_wp2;refine bodyPost_ret (v:=.bool true) (by simp[results,results4,go_sem, *]) rfl ⟨rfl,?_⟩;exact HB7.out
 rw[no_ne hz];go_wp2;refine bodyPost_ret (v:=.bool true) (by simp[results,results4,go_sem, *]) rfl ⟨rfl,?_⟩;exact HBW.out
end wireLong
namespace wireLong
open Go.ChangeShapes Go.WideShapes Go.ChangeAt Go.RowKit
theorem byte_of {t:Int}(h:(Lit.int .u8 t).wf=true):0≤t∧t≤255:=by
 simp only[Lit.wf,Bool.and_eq_true,decide_eq_true_eq] at h;have e1:IntKind.u8.min=0:=rfl;have e2:IntKind.u8.max=255:=rfl;omega
theorem own:ownKnob Tryd.prog.godebug=none:=by kernel_rfl
theorem laidOut:laidOutB prog=true:=by kernel_rfl
theorem et : Tryd.prog.globalNamed "errors.errorType" = some 0 := by kernel_rfl
theorem oneRow:((List.range 125).filter fun t=>Tryd.prog.rowNamed t [101,114,114,111,114])=[33]:=by kernel_rfl
theorem tsize:Tryd.prog.types.size=125:=by kernel_rfl
theorem handle_of_laid {W:World}(h:laidMetH prog Rows.wireLongRow.laid W):HasErr W:=by
 have h':laidMet prog [] W∧handlesMet prog Rows.wireLongRow.laid W:=h;obtain⟨name,u,ty,e1,e2,e3,e4,e5⟩:=h'.2 _ (List.mem_singleton.2 rfl);have en:name=[101,114,114,111,114]:=(Option.some.inj e1).symm;subst en;have hu:some u=some 83:=e2.symm.trans (by kernel_rfl);obtain rfl:=Option.some.inj hu;have hm:ty∈(List.range 125).filter fun t=>Tryd.prog.rowNamed t [101,114,114,111,114]:=List.mem_filter.2 ⟨List.mem_range.2 (by rw[←tsize];exact e3),e4⟩
 rw[oneRow] at hm;obtain rfl:=List.mem_singleton.1 hm;have hh:typeHandle prog 33=.pointer (some ⟨1,33,none⟩):=by kernel_rfl
 rw[hh] at e5;unfold HasErr;simpa using World.var?_cell et e5 0
theorem lifted (os:Os)(started:os.Started)(H:Type)(enc:TypeId×Value→H):
 ReturnsInHanded {} Tryd.checked os 4 .any (fun w args=>(Rows.wireLongSpec.pre enc prog Tryd.f4 [] false w args∧laidMetH prog Rows.wireLongRow.laid w)∧sizedMet enc prog Tryd.f4 (OpenSpec.ofChange Rows.wireLongSpec) false w args)
  (Rows.wireLongSpec.post enc prog Tryd.f4 false true false false):=by
 refine returnsInHanded_of_change_and (C:=Tryd.checked) (X:=fun w _=>laidMetH prog Rows.wireLongRow.laid w) (fun _ _ _ hh h=>h.of_heap hh) own started (by kernel_rfl) func4
  (ChangeSpec.witness_at (enc:=enc) (C:=Tryd.checked) (os:=os) (X:=fun w _=>laidMetH prog Rows.wireLongRow.laid w) false
   { World.holding prog os ⟨#[],#[],[]⟩ with heap:=(World.holding prog os ⟨#[],#[],[]⟩).heap.modify 0 fun
    | .cells _ t frozen=>.cells #[.iface 83 (.agg #[.pointer (some ⟨1,33,none⟩)])] t frozen
    | o=>o }
   #[.agg #[.int i64 0,.int i64 0,.int i64 0,.int i64 0,.int i64 0,.bool false,.int i64 0,.int i64 0,.int i64 0,.int i64 0,.int i64 0,.int i64 0],.int i64 0,.int .u8 0] 8 rfl (by kernel_rfl) (by kernel_rfl) (by kernel_rfl) (by kernel_rfl) (by kernel_rfl) (laidMetH_of_parts (laidMet_nil _ _) (by kernel_rfl))) ?_
 intro W base args ds gs before hval0 hW _ _ hLaid _;have hval:∀(j:Nat) t v,Tryd.f4.params[j]?=some t→args[j]?=some v→Value.okWide prog W .any base t v:=hval0;have hW':=hW;obtain⟨p,q,hA0,hV0,rfl,hfz,hnd⟩:=hW;have hA:DataW.TrodAll enc prog W 0 (fun _=>true) true Tryd.f4.params.toList args.toList ds p:=hA0;have hV:DataW.TrodVars enc prog W (fun _=>true) [] gs q:=hV0;rw[params4] at hA hval;obtain⟨v0,vs0,d0,ds0,p0,q0,hargs,rfl,rfl,h0,r0⟩:=trodAll_cons hA;obtain⟨v1,vs1,d1,ds1,p1,q1,rfl,rfl,rfl,h1,r1⟩:=trodAll_cons r0;obtain⟨v2,vs2,d2,ds2,p2,q2,rfl,rfl,rfl,h2,r2⟩:=trodAll_cons r1;obtain⟨rfl,rfl,rfl⟩:=trodAll_nil r2;obtain rfl:args=#[v0,v1,v2]:=by cases args;simp_all
 have hg:=handle_of_laid hLaid;obtain⟨rfl,rfl⟩:gs=[]∧q=[]:=by
  cases gs with
  | nil=>exact⟨rfl,hV⟩
  | cons g r=>exact absurd hV (by intro h;cases h)
 have k0:=h0;have lt0:∀x∈p0,x.block<W.heap.size:=by obtain⟨m,hm⟩:=k0;exact DataW.trod_lt m _ _ _ hm
 have k1:=h1;have lt1:∀x∈p1,x.block<W.heap.size:=by obtain⟨m,hm⟩:=k1;exact DataW.trod_lt m _ _ _ hm
 have k2:=h2;have lt2:∀x∈p2,x.block<W.heap.size:=by obtain⟨m,hm⟩:=k2;exact DataW.trod_lt m _ _ _ hm
 obtain⟨x0,x1,x2,x3,x4,x5,x6,x7,x8,x9,x10,x11,rfl⟩:=msg_of (hval 0 29 v0 rfl rfl) h0;obtain⟨a,rfl⟩:=okWide_int underlying3 (hval 1 3 v1 rfl rfl);obtain⟨t,rfl,_,_,wt⟩:=open_int underlying5 (hval 2 5 v2 rfl rfl) h2;clear hA0 hval0;refine (walk x0 x1 x2 x3 x4 x5 x6 x7 x8 x9 x10 x11 a t (byte_of wt) W hg).mono fun e W' ⟨he,bel⟩=>?_
 subst he;exact⟨_,rfl,_,_,_,[],_,[],hW',trodAll_mk1 (shut_bool underlying4 _),(trodAll_cons_mk (Below.trod laidOut (by kernel_rfl) (of_decide_eq_true (by kernel_rfl)) k0 bel lt0) (trodAll_cons_mk (Below.trod laidOut (by kernel_rfl) (of_decide_eq_true (by kernel_rfl)) k1 bel lt1) (trodAll_cons_mk (Below.trod laidOut (by kernel_rfl) (of_decide_eq_true (by kernel_rfl)) k2 bel lt2) trodAll_mk0))),rfl,bel.frame _,fun h=>by cases h⟩
theorem over:Rows.WireLongSaid:=
 OpenClaim.holds_of_wide 4 Tryd.f4 rfl rfl rfl rfl rfl rfl rfl ⟨rfl,rfl,rfl,rfl,rfl⟩ rfl rfl rfl rfl rfl (by kernel_rfl) func4 (by kernel_rfl)
  (of_decide_eq_true (by kernel_rfl)) (by unfold Func.isWrapper;first | (rw[if_pos (by decide +kernel)];kernel_rfl) | (rw[if_neg (by decide +kernel)];exact⟨rfl,rfl⟩))
  (fun os started H enc _=>lifted os started H enc)
end wireLong
end Go.Proofs.YtpfgaibfangciaaDoor
