/- Contracts and facts on the way to RuleTells, joined into one text: CubeFacts, RefText, RefRead, RefRule, RuleDeed2, RuleParse, RulePaCut. -/
import Derived.Test.YtpbfgfphcjmcbaaGreatDoorRuleTellsP1
namespace Go.Proofs.YtpbfgfphcjmcbaaGreatDoor
set_option linter.unusedSimpArgs false
set_option linter.unusedVariables false
set_option maxHeartbeats 16000000
set_option maxRecDepth 100000
open Go.Proofs.Tryz
open IntKind (i64)
section
open Go.RowKit
def chr3 (k:Fin 3):UInt8:=if k=0 then 49 else if k=1 then 48 else 42
def txt (a b c d:Fin 3):ByteArray:=⟨#[chr3 a,chr3 b,chr3 c,chr3 d]⟩
theorem chr3_of {x:UInt8}(h:mayB x.toNat=true):∃k,x=chr3 k:=by
 simp only[mayB,Bool.or_eq_true,beq_iff_eq] at h
 rcases h with (h | h) | h
 ·exact⟨0,UInt8.toNat_inj.1 h⟩
 ·exact⟨1,UInt8.toNat_inj.1 h⟩
 exact⟨2,UInt8.toNat_inj.1 h⟩
theorem txt_of {s:ByteArray}(h:psOk s=true):∃a b c d,s=txt a b c d:=by
 obtain⟨⟨l⟩⟩:=s;simp only[psOk,Bool.and_eq_true,beq_iff_eq] at h;obtain⟨h4,hm⟩:=h;have hl:l.length=4:=by simpa[ByteArray.size] using h4
 match l,hl with
 | [x0,x1,x2,x3],_ =>
   simp only[mayTo,Bool.and_eq_true,Bool.true_and] at hm;obtain⟨⟨⟨m0,m1⟩,m2⟩,m3⟩:=hm;obtain⟨a,rfl⟩:=chr3_of (x:=x0) m0;obtain⟨b,rfl⟩:=chr3_of (x:=x1) m1;obtain⟨c,rfl⟩:=chr3_of (x:=x2) m2;obtain⟨d,rfl⟩:=chr3_of (x:=x3) m3;exact⟨a,b,c,d,rfl⟩
theorem read_all:∀a b c d:Fin 3,(okB (psM (txt a b c d)) (psB (txt a b c d))&&(prS (psM (txt a b c d)) (psB (txt a b c d))).data.toList==(txt a b c d).data.toList)=true:=by decide +kernel
theorem read {s:ByteArray}(h:psOk s=true):okB (psM s) (psB s)=true∧prS (psM s) (psB s)=s:=by
 obtain⟨a,b,c,d,rfl⟩:=txt_of h;have:=read_all a b c d;simp only[Bool.and_eq_true,beq_iff_eq] at this;exact⟨this.1,by
  have e:=this.2
  generalize prS _ _=x at *
  generalize txt a b c d=y at *
  obtain⟨⟨x⟩⟩:=x;obtain⟨⟨y⟩⟩:=y;simp at e;rw[e]⟩
def shL (m b:Int)(k:Nat):List Int:=(List.range k).map fun j=>ltrAt m b j
def shTo (m b:Int)(k:Nat):ByteArray:=strOfNums (shL m b k)
theorem sh_next (m b:Int)(k:Nat):shTo m b (k+1)=shTo m b k++⟨#[UInt8.ofNat (ltrAt m b k).toNat]⟩:=by
 apply ByteArray.ext
 simp[shTo,shL,strOfNums,List.range_succ]
theorem sh_four (m b:Int):shTo m b 4=prS m b:=rfl
theorem bit_fin:∀(m:Fin 16) (k:Fin 4),(bits .and .i64 ((m:Nat):Int) (bitN k)==0) = !bitB ((m:Nat):Int) (3-k):=by decide +kernel
theorem bit_and {m:Int}{k:Nat}(hm:0≤m∧m<16)(hk:k<4):(bits .and .i64 m (bitN k)==0) = !bitB m (3-k):=by
 obtain⟨x,rfl⟩:=small hm;exact bit_fin x ⟨k,hk⟩
theorem sh_star {m b:Int}{k:Nat}{S:ByteArray}(hm:0≤m∧m<16)(hk:k<4)(hS:shTo m b k=S)(h:(!bitB m (3-k))=true):S++⟨#[42]⟩=shTo m b (k+1):=by
 have e:ltrAt m b k=42:=by simp only[ltrAt,ltr,bit_and hm hk,h];rfl
 rw[sh_next,e,hS];rfl
theorem sh_one {m b:Int}{k:Nat}{S:ByteArray}(hm:0≤m∧m<16)(hb:0≤b∧b<16)(hk:k<4)(hS:shTo m b k=S)(h:(!bitB m (3-k))=false)(h2:bitB b (3-k)=true):S++⟨#[49]⟩=shTo m b (k+1):=by
 have e:ltrAt m b k=49:=by simp only[ltrAt,ltr,bit_and hm hk,bit_and hb hk,h,h2];rfl
 rw[sh_next,e,hS];rfl
theorem sh_zero {m b:Int}{k:Nat}{S:ByteArray}(hm:0≤m∧m<16)(hb:0≤b∧b<16)(hk:k<4)(hS:shTo m b k=S)(h:(!bitB m (3-k))=false)(h2:bitB b (3-k)=false):S++⟨#[48]⟩=shTo m b (k+1):=by
 have e:ltrAt m b k=48:=by simp only[ltrAt,ltr,bit_and hm hk,bit_and hb hk,h,h2];rfl
 rw[sh_next,e,hS];rfl
theorem refShow_any (m b:Int)(w:World)(h:okB m b=true):
 Calls prog 26 #[.agg #[.int i64 m,.int i64 b]] w fun e w'=>e=.returned (.string (prS m b))∧Below w.heap.size w w':=by
 have hm:=(ok_of h).1;have hb:=(ok_of h).2;clear h;go_enter func26,ntmps26;go_wp2
 go_loop [3,4] (fun t i=>∃k:Nat,k≤4∧i=.int i64 (3-k)∧t=.string (shTo m b k)) (fun _ i=>(intOf i+1).toNat)
 case atStart=>exact⟨0,by omega,rfl,rfl⟩
 case round =>
  obtain⟨k,hk,rfl,rfl⟩:=hrel;have hsz:(shTo m b k).size=k:=by simp[shTo,strOfNums,shL,ByteArray.size]
  generalize hS:shTo m b k=S at *
  have HS:Hid (shTo m b k=S):=hS;clear hS;by_cases hlt:k<4
  ·go_wp2_with (go_at_call 36;refine (refBit_any _ _ _ (by omega) (by omega)).mono ?_;rintro e w' ⟨rfl,rfl⟩)
   all_goals
    go_round
    case rel=>exact⟨k+1,by omega,by go_num,congrArg Value.string (by first | exact sh_star hm hlt HS.out (by assumption) | exact sh_one hm hb hlt HS.out (by assumption) (by assumption) | exact sh_zero hm hb hlt HS.out (by assumption) (by assumption))⟩
    case measure=>simp[intOf];omega
  obtain rfl:k=4:=by omega
  go_wp2;go_ret;exact⟨by rw[←sh_four,HS.out];rfl,(bRQ _ _).alloc (nLQ _) _⟩
def rcM (s:ByteArray):Nat→Int
 | 0=>0
 | k+1=>if byteN s k=49∨byteN s k=48 then rcM s k*2+1 else rcM s k*2
def rcD (s:ByteArray):Nat→Int
 | 0=>0
 | k+1=>if byteN s k=49 then rcD s k*2+1 else rcD s k*2
theorem rcM_bd (s:ByteArray):∀k,0≤rcM s k∧rcM s k<2 ^ k
 | 0=>by simp[rcM]
 | k+1=>by
   have:=rcM_bd s k;have e:(2:Int) ^ (k+1)=2 ^ k*2:=Int.pow_succ ..;unfold rcM
   split <;> omega
theorem rcD_bd (s:ByteArray):∀k,0≤rcD s k∧rcD s k<2 ^ k
 | 0=>by simp[rcD]
 | k+1=>by
   have:=rcD_bd s k;have e:(2:Int) ^ (k+1)=2 ^ k*2:=Int.pow_succ ..;unfold rcD
   split <;> omega
theorem pow_le16 {k:Nat}(h:k≤4):(2:Int) ^ k≤16:=by
 rcases (by omega:k=0∨k=1∨k=2∨k=3∨k=4) with rfl | rfl | rfl | rfl | rfl <;> decide
theorem rct_all:∀a b c d:Fin 3,(rcM (txt a b c d) 4==psM (txt a b c d)&&rcD (txt a b c d) 4==psB (txt a b c d))=true:=by decide +kernel
theorem rc_ps {s:ByteArray}(h:psOk s=true):rcM s 4=psM s∧rcD s 4=psB s:=by
 obtain⟨a,b,c,d,rfl⟩:=txt_of h;simpa using rct_all a b c d
theorem rcM_bit {s:ByteArray}{k:Nat}(hb:byteN s k=49∨byteN s k=48):rcM s (k+1)=rcM s k*2+1:=by simp[rcM,hb]
theorem rcD_one {s:ByteArray}{k:Nat}(hb:byteN s k=49):rcD s (k+1)=rcD s k*2+1:=by simp[rcD,hb]
theorem rcD_zero {s:ByteArray}{k:Nat}(hb:byteN s k≠49):rcD s (k+1)=rcD s k*2:=by simp[rcD,hb]
theorem rcM_any {s:ByteArray}{k:Nat}(hb:byteN s k=42):rcM s (k+1)=rcM s k*2:=by simp[rcM,hb]
theorem refRead_long (s:ByteArray)(w:World)(h:s.size≠4):
 Calls prog 31 #[.string s] w fun e w'=>e=.returned (.tuple #[.agg #[.int i64 0,.int i64 0],.bool false])∧Below w.heap.size w w':=by
 have h4:((s.size:Int)==4)=false:=by simp;omega
 go_enter func31,ntmps31;go_wp2;refine bodyPost_ret (v:=.tuple #[.agg #[.int i64 0,.int i64 0],.bool false]) (by simp[results,results31,go_sem]) rfl ⟨rfl,?_⟩
 first
  | exact ((bRQ _ _).alloc (nLQ _) _).alloc (by simp) _
  | exact ((((bRQ _ _).alloc (nLQ _) _).alloc (by simp) _).setCell (by simp) _).setCell (by simp) _
theorem refRead_four (s:ByteArray)(w:World)(M D:Int)(o:Bool)(h:s.size=4)
 (hok:psOk s=true→M=rcM s 4∧D=rcD s 4∧o=true) (hno:psOk s=false→M=0∧D=0∧o=false):
 Calls prog 31 #[.string s] w fun e w'=>e=.returned (.tuple #[.agg #[.int i64 M,.int i64 D],.bool o])∧Below w.heap.size w w':=by
 have h4:((s.size:Int)==4)=true:=by simp;omega
 have HOK:Hid (psOk s=true→M=rcM s 4∧D=rcD s 4∧o=true):=hok;have HNO:Hid (psOk s=false→M=0∧D=0∧o=false):=hno;clear hok hno;go_enter func31,ntmps31;go_wp2;have hI:PsC w 0 0 ((w.alloc (.cells #[.int i64 0,.int i64 0] 23)).alloc (.cells #[.int i64 0,.int i64 0] 23)):=by
  refine⟨((bRQ _ _).alloc (nLQ _) _).alloc (by simp) _,by simp,?_,?_,?_⟩ <;> simp
 generalize ((w.alloc (.cells #[.int i64 0,.int i64 0] 23)).alloc (.cells #[.int i64 0,.int i64 0] 23))=W1 at *
 go_loopw [5] (fun i w'=>∃k:Nat,k≤4∧i=.int i64 k∧mayTo s k=true∧PsC w (rcM s k) (rcD s k) w') (fun i _=>4-(intOf i).toNat)
 case atStart=>exact⟨0,by omega,rfl,rfl,hI⟩
 case round =>
  obtain⟨k,hk,rfl,hmay,hI'⟩:=hrel;have HM:Hid (mayTo s k=true):=hmay;clear hI hmay;have HI:Hid (PsC w (rcM s k) (rcD s k) wr):=hI';obtain⟨hB,hsz,⟨r0,r1⟩,⟨c0,c1⟩,⟨f0,f1,f2,f3⟩⟩:=hI';have hM:=rcM_bd s k;have hD:=rcD_bd s k;have hp:=pow_le16 hk;have bM0:=hM.1;have bM1:rcM s k<16:=by omega
  have bD0:=hD.1;have bD1:rcD s k<16:=by omega
  clear hM hD hp;by_cases hlt:k<4
  ·have hks:k<s.size:=by omega
   have HB:Hid (byteN s k=s[k].toNat):=byteN_at s k hks
   generalize hxM:rcM s k=x at *
   generalize hyD:rcD s k=y at *
   have HX:Hid (rcM s k=x):=hxM;have HY:Hid (rcD s k=y):=hyD;clear hxM hyD;by_cases h49:s[k].toNat=49
   ·have g:((s[k].toNat:Int)==49)=true:=by simp;omega
    have HN:Hid (byteN s k=49):=HB.out.trans h49;go_wp2;go_roundw
    case rel=>exact⟨k+1,by omega,by go_num,may_next HM.out (.inl HN.out),by rw[rcM_bit (.inl HN.out),rcD_one HN.out,HX.out,HY.out];exact (((HI.out.setM _ _ rfl).setD _ _ rfl).setM _ _ rfl).setD _ _ rfl⟩
    case measure=>simp[intOf];omega
   have g:((s[k].toNat:Int)==49)=false:=by simp;omega
   by_cases h48:s[k].toNat=48
   ·have g2:((s[k].toNat:Int)==48)=true:=by simp;omega
    have HN:Hid (byteN s k=48):=HB.out.trans h48;go_wp2;go_roundw
    case rel=>exact⟨k+1,by omega,by go_num,may_next HM.out (.inr (.inl HN.out)),by rw[rcM_bit (.inr HN.out),rcD_zero (by rw[HN.out];decide),HX.out,HY.out];exact ((HI.out.setM _ _ rfl).setD _ _ rfl).setM _ _ rfl⟩
    case measure=>simp[intOf];omega
   have g2:((s[k].toNat:Int)==48)=false:=by simp;omega
   by_cases h42:s[k].toNat=42
   ·have g3:((s[k].toNat:Int)==42)=true:=by simp;omega
    have HN:Hid (byteN s k=42):=HB.out.trans h42;go_wp2;go_roundw
    case rel=>exact⟨k+1,by omega,by go_num,may_next HM.out (.inr (.inr HN.out)),by rw[rcM_any HN.out,rcD_zero (by rw[HN.out];decide),HX.out,HY.out];exact (HI.out.setM _ _ rfl).setD _ _ rfl⟩
    case measure=>simp[intOf];omega
   have g3:((s[k].toNat:Int)==42)=false:=by simp;omega
   have HP:psOk s=false:=by
    cases hp:psOk s
    ·rfl
    simp only[psOk,Bool.and_eq_true] at hp;have:=mayTo_le s 4 k hlt hp.2;simp[mayB,HB.out] at this;omega
   obtain⟨rfl,rfl,rfl⟩:=HNO.out HP;clear HP;go_wp2;refine bodyPost_ret (v:=.tuple #[.agg #[.int i64 0,.int i64 0],.bool false]) (by simp[results,results31,go_sem, *]) rfl ⟨rfl,?_⟩;exact ((((hB.setCell (by simp) _).setCell (by simp) _).setCell (by simp) _).setCell (by simp) _)
  obtain rfl:k=4:=by omega
  obtain⟨rfl,rfl,rfl⟩:=HOK.out (by simp[psOk,h,HM.out]);clear HOK HNO bM0 bM1 bD0 bD1;go_wp2;refine bodyPost_ret (v:=.tuple #[.agg #[.int i64 (rcM s 4),.int i64 (rcD s 4)],.bool true]) (by simp[results,results31,go_sem, *]) rfl ⟨rfl,?_⟩;exact ((hB.setCell (by simp) _).setCell (by simp) _)
theorem refRead_any (s:ByteArray)(w:World):
 Calls prog 31 #[.string s] w fun e w'=>e=.returned (.tuple #[.agg #[.int i64 (psM s),.int i64 (psB s)],.bool (psOk s)])∧Below w.heap.size w w':=by
 by_cases h:s.size=4
 ·refine refRead_four s w _ _ _ h (fun hp=>⟨(rc_ps hp).1.symm,(rc_ps hp).2.symm,hp⟩) (fun hp=>⟨by simp[psM,hp],by simp[psB,hp],hp⟩)
 have hp:psOk s=false:=by simp[psOk,h]
 have e1:psM s=0:=by simp[psM,hp]
 have e2:psB s=0:=by simp[psB,hp]
 rw[e1,e2,hp];exact refRead_long s w h
theorem set_okB {s v:Int}(h:rngB s v=true):okB s v=(bits .andNot .i64 v s==0):=by simp[okB,h]
theorem refRule_prio (p m b o s v:Int)(w:World)(h:ruP p o=false):
 Calls prog 4 #[.agg #[.int i64 p,.int i64 m,.int i64 b,.int i64 o,.int i64 s,.int i64 v]] w fun e w'=>e=.returned (.int i64 1)∧Below w.heap.size w w':=by
 have hc:p<0∨(0≤p∧99<p)∨((0≤p∧p≤99)∧o<0)∨((0≤p∧p≤99)∧(0≤o∧4<o)):=by
  simp[ruP] at h;omega
 clear h
 rcases hc with h1 | ⟨h1,h2⟩ | ⟨⟨h1,h2⟩,h3⟩ | ⟨⟨h1,h2⟩,h3,h4⟩
 ·have e1:decide (p<0)=true:=by simp;omega
  go_enter func4,ntmps4
  go_wp2_with fail
  refine (header_any _ _).mono ?_;rintro e w' ⟨rfl,rfl⟩
  go_wp2_with fail
  refine (header_any _ _).mono ?_;rintro e w' ⟨rfl,rfl⟩;go_wp2;go_ret;exact⟨rfl,(bRQ _ _).alloc (nLQ _) _⟩
 ·have e1:decide (p<0)=false:=by simp;omega
  have e2:decide (99<p)=true:=by simp;omega
  go_enter func4,ntmps4
  go_wp2_with fail
  refine (header_any _ _).mono ?_;rintro e w' ⟨rfl,rfl⟩
  go_wp2_with fail
  refine (header_any _ _).mono ?_;rintro e w' ⟨rfl,rfl⟩;go_wp2;go_ret;exact⟨rfl,(bRQ _ _).alloc (nLQ _) _⟩
 ·have e1:decide (p<0)=false:=by simp;omega
  have e2:decide (99<p)=false:=by simp;omega
  have e3:decide (o<0)=true:=by simp;omega
  go_enter func4,ntmps4
  go_wp2_with fail
  refine (header_any _ _).mono ?_;rintro e w' ⟨rfl,rfl⟩
  go_wp2_with fail
  refine (header_any _ _).mono ?_;rintro e w' ⟨rfl,rfl⟩;go_wp2;go_ret;exact⟨rfl,(bRQ _ _).alloc (nLQ _) _⟩
 have e1:decide (p<0)=false:=by simp;omega
 have e2:decide (99<p)=false:=by simp;omega
 have e3:decide (o<0)=false:=by simp;omega
 have e4:decide (4<o)=true:=by simp;omega
 go_enter func4,ntmps4
 go_wp2_with fail
 refine (header_any _ _).mono ?_;rintro e w' ⟨rfl,rfl⟩
 go_wp2_with fail
 refine (header_any _ _).mono ?_;rintro e w' ⟨rfl,rfl⟩;go_wp2;go_ret;exact⟨rfl,(bRQ _ _).alloc (nLQ _) _⟩
theorem refRule_set (p m b o s v:Int)(w:World)(h:ruP p o=true)(h2:rngB s v=false):
 Calls prog 4 #[.agg #[.int i64 p,.int i64 m,.int i64 b,.int i64 o,.int i64 s,.int i64 v]] w fun e w'=>e=.returned (.int i64 1)∧Below w.heap.size w w':=by
 obtain⟨e1,e2,e3,e4⟩:=ruP_of h;clear h;cases hs:hdrB s
 ·clear h2;go_enter func4,ntmps4
  go_wp2_with fail
  refine (header_any _ _).mono ?_;rintro e w' ⟨rfl,rfl⟩;rw[hs]
  go_wp2_with fail
  refine (header_any _ _).mono ?_;rintro e w' ⟨rfl,rfl⟩;go_wp2;go_ret;exact⟨rfl,(bRQ _ _).alloc (nLQ _) _⟩
 have hv:hdrB v=false:=by simpa[rngB,hs] using h2
 clear h2;go_enter func4,ntmps4
 go_wp2_with fail
 refine (header_any _ _).mono ?_;rintro e w' ⟨rfl,rfl⟩;rw[hs]
 go_wp2_with fail
 refine (header_any _ _).mono ?_;rintro e w' ⟨rfl,rfl⟩;rw[hv];go_wp2;go_ret;exact⟨rfl,(bRQ _ _).alloc (nLQ _) _⟩
theorem refRule_cube (p m b o s v:Int)(w:World)(h:ruP p o=true)(h2:rngB s v=true)(h3:okB m b=false):
 Calls prog 4 #[.agg #[.int i64 p,.int i64 m,.int i64 b,.int i64 o,.int i64 s,.int i64 v]] w fun e w'=>e=.returned (.int i64 (refN m b))∧Below w.heap.size w w':=by
 obtain⟨e1,e2,e3,e4⟩:=ruP_of h;have hs:hdrB s=true:=by simp only[rngB,Bool.and_eq_true] at h2;exact h2.1
 have hv:hdrB v=true:=by simp only[rngB,Bool.and_eq_true] at h2;exact h2.2
 have hn:(refN m b != 0)=true:=by have:=ok_refN m b;rw[h3] at this;simpa using this
 clear h h2 h3;go_enter func4,ntmps4
 go_wp2_with fail
 refine (header_any _ _).mono ?_;rintro e w' ⟨rfl,rfl⟩;rw[hs]
 go_wp2_with fail
 refine (header_any _ _).mono ?_;rintro e w' ⟨rfl,rfl⟩;rw[hv]
 go_wp2_with fail
 refine (refCube_any _ _ _).mono ?_;rintro e w1 ⟨rfl,hb1⟩;go_wp2;go_ret;exact⟨rfl,((bRQ _ _).alloc (nLQ _) _).trans (hb1.mono (by simp))⟩
theorem refRule_end (p m b o s v:Int)(w:World)(h:ruP p o=true)(h2:rngB s v=true)(h3:okB m b=true)(x:Int)(hx:x=if ruSet o s v then 0 else 3):
 Calls prog 4 #[.agg #[.int i64 p,.int i64 m,.int i64 b,.int i64 o,.int i64 s,.int i64 v]] w fun e w'=>e=.returned (.int i64 x)∧Below w.heap.size w w':=by
 obtain⟨e1,e2,e3,e4⟩:=ruP_of h;have hs:hdrB s=true:=by simp only[rngB,Bool.and_eq_true] at h2;exact h2.1
 have hv:hdrB v=true:=by simp only[rngB,Bool.and_eq_true] at h2;exact h2.2
 have hn:refN m b=0:=refN_ok h3;have hlt:w.heap.size<(w.alloc (.cells #[.int i64 p,.int i64 m,.int i64 b,.int i64 o,.int i64 s,.int i64 v] 25)).heap.size:=by simp
 have ha0:=set_okB h2;clear h h2 h3;cases ha:(bits .andNot .i64 v s==0)
 ·have hx3:x=3:=by rw[hx];simp[ruSet,ha]
  subst hx3;have hz:(refN s v != 0)=true:=by have:=ok_refN s v;rw[ha0,ha] at this;simpa using this
  clear hx ha0;go_enter func4,ntmps4
  go_wp2_with fail
  refine (header_any _ _).mono ?_;rintro e w' ⟨rfl,rfl⟩;rw[hs]
  go_wp2_with fail
  refine (header_any _ _).mono ?_;rintro e w' ⟨rfl,rfl⟩;rw[hv]
  go_wp2_with fail
  refine (refCube_any _ _ _).mono ?_;rintro e w1 ⟨rfl,hb1⟩;rw[hn];obtain⟨hc1,hf1⟩:=bcell hb1;have hB:=((Below.refl w.heap.size w).alloc (nLQ _) (Obj.cells #[.int i64 p,.int i64 m,.int i64 b,.int i64 o,.int i64 s,.int i64 v] 25)).trans (hb1.mono (by simp));have hlt2:w.heap.size<w1.heap.size:=by have:=hb1.size;omega
  clear hb1
  go_wp2_with fail
  refine (refCube_any _ _ _).mono ?_;rintro e w2 ⟨rfl,hb2⟩
  generalize refN s v=N at *
  obtain⟨hc2,hf2⟩:=bcell hb2;have hB2:=hB.trans (hb2.mono (by omega));clear hb2 hB;go_wp2;go_ret;exact⟨rfl,hB2⟩
 have hz:refN s v=0:=refN_ok (by rw[ha0,ha]);clear ha0;cases ho:(o==0)
 ·have hx3:x=0:=by rw[hx];simp[ruSet,ha,ho]
  subst hx3;clear hx;go_enter func4,ntmps4
  go_wp2_with fail
  refine (header_any _ _).mono ?_;rintro e w' ⟨rfl,rfl⟩;rw[hs]
  go_wp2_with fail
  refine (header_any _ _).mono ?_;rintro e w' ⟨rfl,rfl⟩;rw[hv]
  go_wp2_with fail
  refine (refCube_any _ _ _).mono ?_;rintro e w1 ⟨rfl,hb1⟩;rw[hn];obtain⟨hc1,hf1⟩:=bcell hb1;have hB:=((Below.refl w.heap.size w).alloc (nLQ _) (Obj.cells #[.int i64 p,.int i64 m,.int i64 b,.int i64 o,.int i64 s,.int i64 v] 25)).trans (hb1.mono (by simp));have hlt2:w.heap.size<w1.heap.size:=by have:=hb1.size;omega
  clear hb1
  go_wp2_with fail
  refine (refCube_any _ _ _).mono ?_;rintro e w2 ⟨rfl,hb2⟩;rw[hz];obtain⟨hc2,hf2⟩:=bcell hb2;have hB2:=hB.trans (hb2.mono (by omega));clear hb2 hB;go_wp2;go_ret;exact⟨rfl,hB2⟩
 have hz2:x=if (s==0) then 0 else 3:=by rw[hx];simp[ruSet,ha,ho]
 clear hx;cases hs0:(s==0)
 ·rw[hs0] at hz2;have hs1:(s != 0)=true:=by simpa using hs0
  simp only[Bool.false_eq_true,if_false] at hz2;subst hz2;go_enter func4,ntmps4
  go_wp2_with fail
  refine (header_any _ _).mono ?_;rintro e w' ⟨rfl,rfl⟩;rw[hs]
  go_wp2_with fail
  refine (header_any _ _).mono ?_;rintro e w' ⟨rfl,rfl⟩;rw[hv]
  go_wp2_with fail
  refine (refCube_any _ _ _).mono ?_;rintro e w1 ⟨rfl,hb1⟩;rw[hn];obtain⟨hc1,hf1⟩:=bcell hb1;have hB:=((Below.refl w.heap.size w).alloc (nLQ _) (Obj.cells #[.int i64 p,.int i64 m,.int i64 b,.int i64 o,.int i64 s,.int i64 v] 25)).trans (hb1.mono (by simp));have hlt2:w.heap.size<w1.heap.size:=by have:=hb1.size;omega
  clear hb1
  go_wp2_with fail
  refine (refCube_any _ _ _).mono ?_;rintro e w2 ⟨rfl,hb2⟩;rw[hz];obtain⟨hc2,hf2⟩:=bcell hb2;have hB2:=hB.trans (hb2.mono (by omega));clear hb2 hB;go_wp2;go_ret;exact⟨rfl,hB2⟩
 rw[hs0] at hz2;have hs1:(s != 0)=false:=by simpa using hs0
 simp only[if_true] at hz2;subst hz2;go_enter func4,ntmps4
 go_wp2_with fail
 refine (header_any _ _).mono ?_;rintro e w' ⟨rfl,rfl⟩;rw[hs]
 go_wp2_with fail
 refine (header_any _ _).mono ?_;rintro e w' ⟨rfl,rfl⟩;rw[hv]
 go_wp2_with fail
 refine (refCube_any _ _ _).mono ?_;rintro e w1 ⟨rfl,hb1⟩;rw[hn];obtain⟨hc1,hf1⟩:=bcell hb1;have hB:=((Below.refl w.heap.size w).alloc (nLQ _) (Obj.cells #[.int i64 p,.int i64 m,.int i64 b,.int i64 o,.int i64 s,.int i64 v] 25)).trans (hb1.mono (by simp));have hlt2:w.heap.size<w1.heap.size:=by have:=hb1.size;omega
 clear hb1
 go_wp2_with fail
 refine (refCube_any _ _ _).mono ?_;rintro e w2 ⟨rfl,hb2⟩;rw[hz];obtain⟨hc2,hf2⟩:=bcell hb2;have hB2:=hB.trans (hb2.mono (by omega));clear hb2 hB;go_wp2;go_ret;exact⟨rfl,hB2⟩
theorem refRule_any (p m b o s v:Int)(w:World):
 Calls prog 4 #[.agg #[.int i64 p,.int i64 m,.int i64 b,.int i64 o,.int i64 s,.int i64 v]] w fun e w'=>e=.returned (.int i64 (ruN p m b o s v))∧Below w.heap.size w w':=by
 cases h1:ruP p o
 ·have e:ruN p m b o s v=1:=by simp[ruN,ruIn,h1]
  rw[e];exact refRule_prio p m b o s v w h1
 cases h2:rngB s v
 ·have e:ruN p m b o s v=1:=by simp[ruN,ruIn,h2]
  rw[e];exact refRule_set p m b o s v w h1 h2
 cases h3:okB m b
 ·have e:ruN p m b o s v=refN m b:=by simp[ruN,ruIn,h1,h2,h3]
  rw[e];exact refRule_cube p m b o s v w h1 h2 h3
 exact refRule_end p m b o s v w h1 h2 h3 _ (by simp[ruN,ruIn,h1,h2,h3])
def deOk:List ByteArray→Bool
 | [a]=>a.toList==[100,114,111,112]
 | [a,b]=>(a.toList==[111,117,116])&&(dcOk b && !(dcN b==0))
 | [a,b,c,d]=>(a.toList==[111,117,116])&&((dcOk b && !(dcN b==0))&&((c.toList==[115,101,116])&&(psOk d && !(psM d==0))))
 | _=>false
def deO:List ByteArray→Int
 | _ :: b :: _=>dcN b
 | _=>0
def deM:List ByteArray→Int
 | [_,_,_,d]=>psM d
 | _=>0
def deB:List ByteArray→Int
 | [_,_,_,d]=>psB d
 | _=>0
def DeP (ws:List ByteArray)(w:World)(e:Ending)(w':World):Prop:=
 (∃x m b:Int,e=.returned (.tuple #[.int i64 x,.agg #[.int i64 m,.int i64 b],.bool (deOk ws)])∧(deOk ws=true→x=deO ws∧m=deM ws∧b=deB ws))∧Below w.heap.size w w'
theorem deed_1 (a:ByteArray)(b o cap:Nat)(w:World)(h:WAt w b o [a]):
 Calls prog 35 #[.slice (some ⟨b,o,none⟩) 1 cap] w (DeP [a] w):=by
 have c0:=h.head;have hlt:b<w.heap.size:=bLQ _ _ c0;have e1:deOk [a]=(a.toList==[100,114,111,112]):=rfl;clear h;go_enter func35,ntmps35;go_wp2
 go_region
 all_goals
  go_wp2;refine bodyPost_ret (v:=.tuple #[.int i64 0,.agg #[.int i64 0,.int i64 0],.bool (a.toList==[100,114,111,112])]) (by simp[results,results35,go_sem]) rfl ⟨⟨0,0,0,by rw[e1],fun _=>⟨rfl,rfl,rfl⟩⟩,?_⟩
  repeat (first | exact (bRQ _ _).alloc (nLQ _) _ | apply Below.drew)
theorem below_new {w w1:World}(o:Obj)(hb:Below (w.alloc o).heap.size (w.alloc o) w1):Below w.heap.size w w1:=
 ((bRQ _ _).alloc (nLQ _) _).trans (hb.mono (by simp))
theorem de_no {a b:ByteArray}{r:List ByteArray}(h:(a.toList==[111,117,116])=false∨dcOk b=false∨(dcN b==0)=true):deOk (a :: b :: r)=false:=by
 match r with
 | []=>rcases h with h | h | h <;> simp[deOk,h]
 | [c]=>rfl
 | [c,d]=>rcases h with h | h | h <;> simp[deOk,h]
 | c :: d :: x :: y=>rfl
theorem deed_out (a b:ByteArray)(r:List ByteArray)(n g o cap:Nat)(w:World)(h:WAt w g o (a :: b :: r))(hn:r.length=n)
 (h1:(a.toList==[111,117,116])=false):
 Calls prog 35 #[.slice (some ⟨g,o,none⟩) (n+2) cap] w (DeP (a :: b :: r) w):=by
 have c0:=h.head;have hlt:g<w.heap.size:=bLQ _ _ c0;have HD:Hid (deOk (a :: b :: r)=false):=de_no (.inl h1);have en:(((n:Int)+2)==1)=false:=by simp;omega
 clear h hn;go_enter func35,ntmps35;go_wp2;refine bodyPost_ret (v:=.tuple #[.int i64 0,.agg #[.int i64 0,.int i64 0],.bool false]) (by simp[results,results35,go_sem]) rfl ⟨⟨0,0,0,by rw[HD.out],fun h=>by rw[HD.out] at h;cases h⟩,?_⟩;exact (bRQ _ _).alloc (nLQ _) _
theorem deed_num (a b:ByteArray)(r:List ByteArray)(n g o cap:Nat)(w:World)(h:WAt w g o (a :: b :: r))(hn:r.length=n)
 (h1:(a.toList==[111,117,116])=true) (h2:dcOk b=false∨dcOk b=true∧(dcN b==0)=true):
 Calls prog 35 #[.slice (some ⟨g,o,none⟩) (n+2) cap] w (DeP (a :: b :: r) w):=by
 have c0:=h.head;have c1:=h.tail.head;have hlt:g<w.heap.size:=bLQ _ _ c0;have HD:Hid (deOk (a :: b :: r)=false):=de_no (.inr (by rcases h2 with h2 | h2;exact .inl h2;exact .inr h2.2));have en:(((n:Int)+2)==1)=false:=by simp;omega
 clear h hn
 rcases h2 with h2 | ⟨h2,h3⟩
 ·go_enter func35,ntmps35
  go_wp2_with fail
  refine (dec_any _ _).mono ?_;rintro e w1 ⟨rfl,rfl⟩;rw[h2];go_wp2;refine bodyPost_ret (v:=.tuple #[.int i64 0,.agg #[.int i64 0,.int i64 0],.bool false]) (by simp[results,results35,go_sem]) rfl ⟨⟨0,0,0,by rw[HD.out],fun h=>by rw[HD.out] at h;cases h⟩,?_⟩;exact (bRQ _ _).alloc (nLQ _) _
 go_enter func35,ntmps35
 go_wp2_with fail
 refine (dec_any _ _).mono ?_;rintro e w1 ⟨rfl,rfl⟩;rw[h2];go_wp2;refine bodyPost_ret (v:=.tuple #[.int i64 0,.agg #[.int i64 0,.int i64 0],.bool false]) (by simp[results,results35,go_sem]) rfl ⟨⟨0,0,0,by rw[HD.out],fun h=>by rw[HD.out] at h;cases h⟩,?_⟩;exact (bRQ _ _).alloc (nLQ _) _
theorem deed_2 (a b:ByteArray)(g o cap:Nat)(w:World)(h:WAt w g o [a,b])
 (h1:(a.toList==[111,117,116])=true) (h2:dcOk b=true) (h3:(dcN b==0)=false):
 Calls prog 35 #[.slice (some ⟨g,o,none⟩) 2 cap] w (DeP [a,b] w):=by
 have c0:=h.head;have c1:=h.tail.head;have hlt:g<w.heap.size:=bLQ _ _ c0;have HD:Hid (deOk [a,b]=true):=by show deOk [a,b]=true;simp[deOk,h1,h2,h3]
 clear h;go_enter func35,ntmps35
 go_wp2_with fail
 refine (dec_any _ _).mono ?_;rintro e w1 ⟨rfl,rfl⟩;rw[h2];go_wp2;refine bodyPost_ret (v:=.tuple #[.int i64 (dcN b),.agg #[.int i64 0,.int i64 0],.bool true]) (by simp[results,results35,go_sem]) rfl ⟨⟨dcN b,0,0,by rw[HD.out],fun _=>⟨rfl,rfl,rfl⟩⟩,?_⟩;exact (bRQ _ _).alloc (nLQ _) _
theorem deed_long (a b:ByteArray)(r:List ByteArray)(n g o cap:Nat)(w:World)(h:WAt w g o (a :: b :: r))(hn:r.length=n)
 (h1:(a.toList==[111,117,116])=true) (h2:dcOk b=true) (h3:(dcN b==0)=false) (h4:n≠0∧n≠2):
 Calls prog 35 #[.slice (some ⟨g,o,none⟩) (n+2) cap] w (DeP (a :: b :: r) w):=by
 have c0:=h.head;have c1:=h.tail.head;have hlt:g<w.heap.size:=bLQ _ _ c0;have HD:Hid (deOk (a :: b :: r)=false):=by
  show deOk (a :: b :: r)=false
  match r,hn with
  | [],hn=>simp at hn;omega
  | [c],_=>rfl
  | [c,d],hn=>simp at hn;omega
  | c :: d :: x :: y,_=>rfl
 have en:(((n:Int)+2)==1)=false:=by simp;omega
 have en2:(((n:Int)+2)==2)=false:=by simp;omega
 have en4:(((n:Int)+2)==4)=false:=by simp;omega
 have en5:(((n:Int)+2) != 4)=true:=by simp;omega
 clear h hn h4;go_enter func35,ntmps35
 go_wp2_with fail
 refine (dec_any _ _).mono ?_;rintro e w1 ⟨rfl,rfl⟩;rw[h2];go_wp2;refine bodyPost_ret (v:=.tuple #[.int i64 0,.agg #[.int i64 0,.int i64 0],.bool false]) (by simp[results,results35,go_sem]) rfl ⟨⟨0,0,0,by rw[HD.out],fun h=>by rw[HD.out] at h;cases h⟩,?_⟩;exact (bRQ _ _).alloc (nLQ _) _
theorem deed_4 (a b c d:ByteArray)(g o cap:Nat)(w:World)(h:WAt w g o [a,b,c,d])
 (h1:(a.toList==[111,117,116])=true) (h2:dcOk b=true) (h3:(dcN b==0)=false):
 Calls prog 35 #[.slice (some ⟨g,o,none⟩) 4 cap] w (DeP [a,b,c,d] w):=by
 have c0:=h.head;have c1:=h.tail.head;have c2:=h.tail.tail.head;have c3:=h.tail.tail.tail.head;have hlt:g<w.heap.size:=bLQ _ _ c0;clear h;cases h4:(c.toList==[115,101,116])
 ·have HD:Hid (deOk [a,b,c,d]=false):=by show deOk [a,b,c,d]=false;simp[deOk,h4]
  go_enter func35,ntmps35
  go_wp2_with fail
  refine (dec_any _ _).mono ?_;rintro e w1 ⟨rfl,rfl⟩;rw[h2];go_wp2;refine bodyPost_ret (v:=.tuple #[.int i64 0,.agg #[.int i64 0,.int i64 0],.bool false]) (by simp[results,results35,go_sem]) rfl ⟨⟨0,0,0,by rw[HD.out],fun h=>by rw[HD.out] at h;cases h⟩,?_⟩;exact (bRQ _ _).alloc (nLQ _) _
 cases h5:psOk d
 ·have HD:Hid (deOk [a,b,c,d]=false):=by show deOk [a,b,c,d]=false;simp[deOk,h5]
  go_enter func35,ntmps35
  go_wp2_with fail
  refine (dec_any _ _).mono ?_;rintro e w1 ⟨rfl,rfl⟩;rw[h2]
  go_wp2_with fail
  refine (parse_no _ _ h5).mono ?_;rintro e w1 ⟨rfl,hb1⟩;obtain⟨hc1,hf1⟩:=bcell hb1;have hlt2:w.heap.size<(w.alloc (.cells #[.int i64 0,.int i64 0] 23)).heap.size:=by simp
  have hlt3:w.heap.size<w1.heap.size:=Nat.lt_of_lt_of_le hlt2 hb1.size;have hB:=below_new _ hb1;clear hb1;go_wp2
  go_region
  all_goals
   go_wp2;refine bodyPost_ret (v:=.tuple #[.int i64 (dcN b),.agg #[.int i64 0,.int i64 0],.bool false]) (by simp[results,results35,go_sem, *]) rfl ⟨⟨dcN b,0,0,by rw[HD.out],fun h=>by rw[HD.out] at h;cases h⟩,?_⟩
   repeat (first | exact hB | apply Below.drew | refine Below.alloc ?_ (by simp <;> omega) _ | refine Below.setCell ?_ (by simp) _)
 cases h6:(psM d==0)
 ·have HD:Hid (deOk [a,b,c,d]=true):=by show deOk [a,b,c,d]=true;simp[deOk,h1,h2,h3,h4,h5,h6]
  have h7:(psM d != 0)=true:=by simpa using h6
  go_enter func35,ntmps35
  go_wp2_with fail
  refine (dec_any _ _).mono ?_;rintro e w1 ⟨rfl,rfl⟩;rw[h2]
  go_wp2_with fail
  refine (parse_yes _ _ h5).mono ?_;rintro e w1 ⟨rfl,hb1⟩;obtain⟨hc1,hf1⟩:=bcell hb1;have hlt2:w.heap.size<(w.alloc (.cells #[.int i64 0,.int i64 0] 23)).heap.size:=by simp
  have hlt3:w.heap.size<w1.heap.size:=Nat.lt_of_lt_of_le hlt2 hb1.size;have hB:=below_new _ hb1;clear hb1;go_wp2
  go_region
  all_goals
   go_wp2;refine bodyPost_ret (v:=.tuple #[.int i64 (dcN b),.agg #[.int i64 (psM d),.int i64 (psB d)],.bool true]) (by simp[results,results35,go_sem, *]) rfl ⟨⟨dcN b,psM d,psB d,by rw[HD.out],fun _=>⟨rfl,rfl,rfl⟩⟩,?_⟩
   repeat (first | exact hB | apply Below.drew | refine Below.alloc ?_ (by simp <;> omega) _ | refine Below.setCell ?_ (by simp) _)
 have HD:Hid (deOk [a,b,c,d]=false):=by show deOk [a,b,c,d]=false;simp[deOk,h6]
 have h7:(psM d != 0)=false:=by simpa using h6
 go_enter func35,ntmps35
 go_wp2_with fail
 refine (dec_any _ _).mono ?_;rintro e w1 ⟨rfl,rfl⟩;rw[h2]
 go_wp2_with fail
 refine (parse_yes _ _ h5).mono ?_;rintro e w1 ⟨rfl,hb1⟩;obtain⟨hc1,hf1⟩:=bcell hb1;have hlt2:w.heap.size<(w.alloc (.cells #[.int i64 0,.int i64 0] 23)).heap.size:=by simp
 have hlt3:w.heap.size<w1.heap.size:=Nat.lt_of_lt_of_le hlt2 hb1.size;have hB:=below_new _ hb1;clear hb1;go_wp2
 go_region
 all_goals
  go_wp2;refine bodyPost_ret (v:=.tuple #[.int i64 (dcN b),.agg #[.int i64 (psM d),.int i64 (psB d)],.bool false]) (by simp[results,results35,go_sem, *]) rfl ⟨⟨dcN b,psM d,psB d,by rw[HD.out],fun h=>by rw[HD.out] at h;cases h⟩,?_⟩
  repeat (first | exact hB | apply Below.drew | refine Below.alloc ?_ (by simp <;> omega) _ | refine Below.setCell ?_ (by simp) _)
theorem deed_any (ws:List ByteArray)(n g o cap:Nat)(w:World)(h:WAt w g o ws)(hn:ws.length=n)(h1:1≤n):
 Calls prog 35 #[.slice (some ⟨g,o,none⟩) n cap] w (DeP ws w):=by
 match ws,hn with
 | [],hn=>simp at hn;omega
 | [a],hn =>
   obtain rfl:n=1:=by simpa using hn.symm
   exact deed_1 a g o cap w h
 | a :: b :: r,hn =>
   obtain rfl:n=r.length+2:=by simpa using hn.symm
   cases e1:(a.toList==[111,117,116])
   ·exact deed_out a b r _ g o cap w h rfl e1
   cases e2:dcOk b
   ·exact deed_num a b r _ g o cap w h rfl e1 (.inl e2)
   cases e3:(dcN b==0)
   ·match r with
    | []=>exact deed_2 a b g o cap w h e1 e2 e3
    | [c]=>exact deed_long a b [c] _ g o cap w h rfl e1 e2 e3 ⟨by simp,by simp⟩
    | [c,d]=>exact deed_4 a b c d g o cap w h e1 e2 e3
    | c :: d :: x :: y=>exact deed_long a b _ _ g o cap w h rfl e1 e2 e3 ⟨by simp,by simp⟩
   exact deed_num a b r _ g o cap w h rfl e1 (.inr ⟨e2,e3⟩)
def rdW:List ByteArray→Bool
 | a :: b :: c :: r=>dcOk a&&(psOk b&&deOk (c :: r))
 | _=>false
def rP (ws:List ByteArray):Int:=dcN (ws.getD 0 ByteArray.empty)
def rM (ws:List ByteArray):Int:=psM (ws.getD 1 ByteArray.empty)
def rB (ws:List ByteArray):Int:=psB (ws.getD 1 ByteArray.empty)
def rO (ws:List ByteArray):Int:=deO (ws.drop 2)
def rS (ws:List ByteArray):Int:=deM (ws.drop 2)
def rV (ws:List ByteArray):Int:=deB (ws.drop 2)
def paN (ws:List ByteArray):Int:=if rdW ws then ruN (rP ws) (rM ws) (rB ws) (rO ws) (rS ws) (rV ws) else 2
theorem paN_no {ws:List ByteArray}(h:rdW ws=false):paN ws=2:=by simp[paN,h]
theorem paN_yes {ws:List ByteArray}(h:rdW ws=true):paN ws=ruN (rP ws) (rM ws) (rB ws) (rO ws) (rS ws) (rV ws):=by simp[paN,h]
def paV (ws:List ByteArray):Value:=
 if paN ws=0 then .agg #[.int i64 (rP ws),.int i64 (rM ws),.int i64 (rB ws),.int i64 (rO ws),.int i64 (rS ws),.int i64 (rV ws)] else .agg #[.int i64 0,.int i64 0,.int i64 0,.int i64 0,.int i64 0,.int i64 0]
theorem paV_no {ws:List ByteArray}(h:paN ws≠0):paV ws=.agg #[.int i64 0,.int i64 0,.int i64 0,.int i64 0,.int i64 0,.int i64 0]:=by simp[paV,h]
theorem paV_yes {ws:List ByteArray}(h:paN ws=0):paV ws=.agg #[.int i64 (rP ws),.int i64 (rM ws),.int i64 (rB ws),.int i64 (rO ws),.int i64 (rS ws),.int i64 (rV ws)]:=by simp[paV,h]
structure PaK (w:World)(B:Nat)(ws:List ByteArray)(w':World):Prop where
 below:Below w.heap.size w w'
 lt:w.heap.size<w'.heap.size
 gt:w.heap.size<B
 ltB:B<w'.heap.size
 c:∀k,k<6→w'.cell? ⟨w.heap.size,k,none⟩=some (.int i64 0)
 f:∀k,w'.frozen? ⟨w.heap.size,k,none⟩=false
 words:WAt w' B 0 ws
theorem PaK.later {w w1 w2:World}{B:Nat}{ws:List ByteArray}(h:PaK w B ws w1)(hb:Below w1.heap.size w1 w2):PaK w B ws w2:=
 ⟨h.below.trans (hb.mono h.below.size),Nat.lt_of_lt_of_le h.lt hb.size,h.gt,Nat.lt_of_lt_of_le h.ltB hb.size,fun k hk=>cell_later hb (h.c k hk),fun k=>(hb.frozen (p:=⟨w.heap.size,k,none⟩) h.lt).trans (h.f k),h.words.later hb⟩
theorem PaK.alloc {w w1:World}{B:Nat}{ws:List ByteArray}(h:PaK w B ws w1)(o:Obj):PaK w B ws (w1.alloc o):=h.later ((bRQ _ _).alloc (nLQ _) o)
theorem PaK.start (s:ByteArray)(w w1:World){o:Obj}(ho:o=Obj.cells #[.int i64 0,.int i64 0,.int i64 0,.int i64 0,.int i64 0,.int i64 0] 25)
 (hb:Below (w.alloc o).heap.size (w.alloc o) w1) (hlt:(w.alloc o).heap.size<w1.heap.size) (hW:WAt w1 (w.alloc o).heap.size 0 (cutB 6 s)):PaK w (w.heap.size+1) (cutB 6 s) w1:=by
 have hs:(w.alloc o).heap.size=w.heap.size+1:=by simp
 subst ho;refine⟨below_new _ hb,by omega,by omega,by omega,fun k hk=>?_,fun k=>?_,by rw[hs] at hW;exact hW⟩
 ·rw[hb.cell (p:=⟨w.heap.size,k,none⟩) (by simp)]
  rcases (by omega:k=0∨k=1∨k=2∨k=3∨k=4∨k=5) with rfl | rfl | rfl | rfl | rfl | rfl <;> simp
 rw[hb.frozen (p:=⟨w.heap.size,k,none⟩) (by simp)];simp
theorem six {B b:Nat}{w w1:World}(h:Below B w w1)(hb:B≤b)(v0 v1 v2 v3 v4 v5:Value):
 Below B w ((((((w1.setCell ⟨b,0,none⟩ v0).setCell ⟨b,1,none⟩ v1).setCell ⟨b,2,none⟩ v2).setCell ⟨b,3,none⟩ v3).setCell ⟨b,4,none⟩ v4).setCell ⟨b,5,none⟩ v5):=
 (((((h.setCell (by simpa using hb) _).setCell (by simpa using hb) _).setCell (by simpa using hb) _).setCell (by simpa using hb) _).setCell (by simpa using hb) _).setCell (by simpa using hb) _
theorem ruParse_short (s:ByteArray)(w:World)(hs:s.size<4611686018427387904)(ws:List ByteArray)(n:Nat)(hws:cutB 6 s=ws)(hn:ws.length=n)(h1:1≤n)(h2:n<3):
 Calls prog 10 #[.string s] w fun e w'=>e=.returned (.tuple #[.agg #[.int i64 0,.int i64 0,.int i64 0,.int i64 0,.int i64 0,.int i64 0],.iface 55 (.int i64 2)])∧Below w.heap.size w w':=by
 go_enter func10,ntmps10
 go_wp2_with fail
 refine (splitN_any s _ hs).mono ?_;rintro e w1 ⟨cap,rfl,hcap,hcap7,hW,hb1⟩;have hlt1:(w.alloc (.cells #[.int i64 0,.int i64 0,.int i64 0,.int i64 0,.int i64 0,.int i64 0] 25)).heap.size<w1.heap.size:=
  bLQ _ _ (hW 0 (by rw[hws,hn];omega))
 have hK:=PaK.start s w w1 rfl hb1 hlt1 hW;rw[hws] at hcap hK ⊢;rw[hn] at hcap ⊢;have ek:(w.alloc (.cells #[.int i64 0,.int i64 0,.int i64 0,.int i64 0,.int i64 0,.int i64 0] 25)).heap.size=w.heap.size+1:=by simp
 rw[ek];clear hW hb1 hlt1 ek;have HK:Hid (PaK w (w.heap.size+1) ws w1):=hK;have lt1:=hK.lt;have q0:=hK.c 0 (by omega);have q1:=hK.c 1 (by omega);have q2:=hK.c 2 (by omega);have q3:=hK.c 3 (by omega);have q4:=hK.c 4 (by omega);have q5:=hK.c 5 (by omega);have qf:=hK.f;have e3:decide ((n:Int)<3)=true:=by simp;omega
 clear hK hws hn;go_wp2;refine bodyPost_ret (v:=.tuple #[.agg #[.int i64 0,.int i64 0,.int i64 0,.int i64 0,.int i64 0,.int i64 0],.iface 55 (.int i64 2)]) (by simp[results,results10,go_sem, *]) rfl ⟨rfl,?_⟩;exact six HK.out.below (nLQ _) _ _ _ _ _ _
theorem ruParse_num (s:ByteArray)(w:World)(hs:s.size<4611686018427387904)(a b c:ByteArray)(r:List ByteArray)(n:Nat)(hws:cutB 6 s=a :: b :: c :: r)(hn:r.length=n)(h1:dcOk a=false):
 Calls prog 10 #[.string s] w fun e w'=>e=.returned (.tuple #[.agg #[.int i64 0,.int i64 0,.int i64 0,.int i64 0,.int i64 0,.int i64 0],.iface 55 (.int i64 2)])∧Below w.heap.size w w':=by
 go_enter func10,ntmps10
 go_wp2_with fail
 refine (splitN_any s _ hs).mono ?_;rintro e w1 ⟨cap,rfl,hcap,hcap7,hW,hb1⟩;have hlt1:(w.alloc (.cells #[.int i64 0,.int i64 0,.int i64 0,.int i64 0,.int i64 0,.int i64 0] 25)).heap.size<w1.heap.size:=
  bLQ _ _ (hW 0 (by rw[hws];simp))
 have hK:=PaK.start s w w1 rfl hb1 hlt1 hW;rw[hws] at hcap hK ⊢;have ek:(w.alloc (.cells #[.int i64 0,.int i64 0,.int i64 0,.int i64 0,.int i64 0,.int i64 0] 25)).heap.size=w.heap.size+1:=by simp
 rw[ek];clear hW hb1 hlt1 ek;have hln:(a :: b :: c :: r).length=n+3:=by simp[hn]
 rw[hln] at hcap ⊢;have HK:Hid (PaK w (w.heap.size+1) (a :: b :: c :: r) w1):=hK;have lt1:=hK.lt;have q0:=hK.c 0 (by omega);have q1:=hK.c 1 (by omega);have q2:=hK.c 2 (by omega);have q3:=hK.c 3 (by omega);have q4:=hK.c 4 (by omega);have q5:=hK.c 5 (by omega);have qf:=hK.f;have k0:=hK.words.head;have k1:=hK.words.tail.head;have ltB:=hK.ltB;clear hws hln;have e3:decide ((n:Int)+3<3)=false:=by simp;omega
 clear hK
 go_wp2_with fail
 refine (dec_any _ _).mono ?_;rintro e w' ⟨rfl,rfl⟩;rw[h1];go_wp2;refine bodyPost_ret (v:=.tuple #[.agg #[.int i64 0,.int i64 0,.int i64 0,.int i64 0,.int i64 0,.int i64 0],.iface 55 (.int i64 2)]) (by simp[results,results10,go_sem, *]) rfl ⟨rfl,?_⟩;exact six HK.out.below (nLQ _) _ _ _ _ _ _
theorem ruParse_cube (s:ByteArray)(w:World)(hs:s.size<4611686018427387904)(a b c:ByteArray)(r:List ByteArray)(n:Nat)(hws:cutB 6 s=a :: b :: c :: r)(hn:r.length=n)(h1:dcOk a=true)(h2:psOk b=false):
 Calls prog 10 #[.string s] w fun e w'=>e=.returned (.tuple #[.agg #[.int i64 0,.int i64 0,.int i64 0,.int i64 0,.int i64 0,.int i64 0],.iface 55 (.int i64 2)])∧Below w.heap.size w w':=by
 go_enter func10,ntmps10
 go_wp2_with fail
 refine (splitN_any s _ hs).mono ?_;rintro e w1 ⟨cap,rfl,hcap,hcap7,hW,hb1⟩;have hlt1:(w.alloc (.cells #[.int i64 0,.int i64 0,.int i64 0,.int i64 0,.int i64 0,.int i64 0] 25)).heap.size<w1.heap.size:=
  bLQ _ _ (hW 0 (by rw[hws];simp))
 have hK:=PaK.start s w w1 rfl hb1 hlt1 hW;rw[hws] at hcap hK ⊢;have ek:(w.alloc (.cells #[.int i64 0,.int i64 0,.int i64 0,.int i64 0,.int i64 0,.int i64 0] 25)).heap.size=w.heap.size+1:=by simp
 rw[ek];clear hW hb1 hlt1 ek;have hln:(a :: b :: c :: r).length=n+3:=by simp[hn]
 rw[hln] at hcap ⊢;have HK:Hid (PaK w (w.heap.size+1) (a :: b :: c :: r) w1):=hK;have lt1:=hK.lt;have q0:=hK.c 0 (by omega);have q1:=hK.c 1 (by omega);have q2:=hK.c 2 (by omega);have q3:=hK.c 3 (by omega);have q4:=hK.c 4 (by omega);have q5:=hK.c 5 (by omega);have qf:=hK.f;have k0:=hK.words.head;have k1:=hK.words.tail.head;have ltB:=hK.ltB;clear hws hln;have e3:decide ((n:Int)+3<3)=false:=by simp;omega
 clear hK
 go_wp2_with fail
 refine (dec_any _ _).mono ?_;rintro e w' ⟨rfl,rfl⟩;rw[h1]
 go_wp2_with fail
 refine (parse_no _ _ h2).mono ?_;rintro e w2 ⟨rfl,hb2⟩;have HK2:Hid (PaK w (w.heap.size+1) (a :: b :: c :: r) w2):=HK.out.later hb2;clear hb2;clear q0 q1 q2 q3 q4 q5 qf;have lt2:=HK2.out.lt;have q0:=HK2.out.c 0 (by omega);have q1:=HK2.out.c 1 (by omega);have q2:=HK2.out.c 2 (by omega);have q3:=HK2.out.c 3 (by omega);have q4:=HK2.out.c 4 (by omega);have q5:=HK2.out.c 5 (by omega);have qf:=HK2.out.f;go_wp2;refine bodyPost_ret (v:=.tuple #[.agg #[.int i64 0,.int i64 0,.int i64 0,.int i64 0,.int i64 0,.int i64 0],.iface 55 (.int i64 2)]) (by simp[results,results10,go_sem, *]) rfl ⟨rfl,?_⟩;exact Below.alloc (six HK2.out.below (nLQ _) _ _ _ _ _ _) (by simp <;> omega) _
theorem ruParse_deed (s:ByteArray)(w:World)(hs:s.size<4611686018427387904)(a b c:ByteArray)(r:List ByteArray)(n:Nat)(hws:cutB 6 s=a :: b :: c :: r)(hn:r.length=n)(h1:dcOk a=true)(h2:psOk b=true)(h3:deOk (c :: r)=false):
 Calls prog 10 #[.string s] w fun e w'=>e=.returned (.tuple #[.agg #[.int i64 0,.int i64 0,.int i64 0,.int i64 0,.int i64 0,.int i64 0],.iface 55 (.int i64 2)])∧Below w.heap.size w w':=by
 go_enter func10,ntmps10
 go_wp2_with fail
 refine (splitN_any s _ hs).mono ?_;rintro e w1 ⟨cap,rfl,hcap,hcap7,hW,hb1⟩;have hlt1:(w.alloc (.cells #[.int i64 0,.int i64 0,.int i64 0,.int i64 0,.int i64 0,.int i64 0] 25)).heap.size<w1.heap.size:=
  bLQ _ _ (hW 0 (by rw[hws];simp))
 have hK:=PaK.start s w w1 rfl hb1 hlt1 hW;rw[hws] at hcap hK ⊢;have ek:(w.alloc (.cells #[.int i64 0,.int i64 0,.int i64 0,.int i64 0,.int i64 0,.int i64 0] 25)).heap.size=w.heap.size+1:=by simp
 rw[ek];clear hW hb1 hlt1 ek;have hln:(a :: b :: c :: r).length=n+3:=by simp[hn]
 rw[hln] at hcap ⊢;have HK:Hid (PaK w (w.heap.size+1) (a :: b :: c :: r) w1):=hK;have lt1:=hK.lt;have q0:=hK.c 0 (by omega);have q1:=hK.c 1 (by omega);have q2:=hK.c 2 (by omega);have q3:=hK.c 3 (by omega);have q4:=hK.c 4 (by omega);have q5:=hK.c 5 (by omega);have qf:=hK.f;have k0:=hK.words.head;have k1:=hK.words.tail.head;have ltB:=hK.ltB;clear hws hln;have e3:decide ((n:Int)+3<3)=false:=by simp;omega
 have hdW:WAt w1 (w.heap.size+1) (0+1+1) (c :: r):=hK.words.tail.tail;have hdl:(c :: r).length=n+1:=by simp[hn]
 clear hK
 go_wp2_with fail
 refine (dec_any _ _).mono ?_;rintro e w' ⟨rfl,rfl⟩;rw[h1]
 go_wp2_with fail
 refine (parse_yes _ _ h2).mono ?_;rintro e w2 ⟨rfl,hb2⟩;have hdW2:=(hdW.later hb2).later ((bRQ _ _).alloc (nLQ _) (Obj.cells #[.int i64 (psM b),.int i64 (psB b)] 23));have HK2:Hid (PaK w (w.heap.size+1) (a :: b :: c :: r) w2):=HK.out.later hb2;have lt2:=HK2.out.lt;clear hb2 hdW
 go_wp2_with fail
 refine (deed_any (c :: r) (n+1) _ _ _ _ hdW2 hdl (by omega)).mono ?_;rintro e w3 ⟨⟨x,m,y,rfl,hv⟩,hb3⟩;have HK3:Hid (PaK w (w.heap.size+1) (a :: b :: c :: r) w3):=(HK2.out.alloc _).later hb3;have o0:w3.cell? ⟨w2.heap.size,0,none⟩=some (.int i64 (psM b)):=cell_later hb3 (by simp);have o1:w3.cell? ⟨w2.heap.size,1,none⟩=some (.int i64 (psB b)):=cell_later hb3 (by simp);have ltO:w2.heap.size<w3.heap.size:=by have:=hb3.size;simp at this;omega
 clear hb3 hdW2 hdl;rw[h3];clear q0 q1 q2 q3 q4 q5 qf;have lt3:=HK3.out.lt;have q0:=HK3.out.c 0 (by omega);have q1:=HK3.out.c 1 (by omega);have q2:=HK3.out.c 2 (by omega);have q3:=HK3.out.c 3 (by omega);have q4:=HK3.out.c 4 (by omega);have q5:=HK3.out.c 5 (by omega);have qf:=HK3.out.f;clear hv o0 o1;go_wp2;refine bodyPost_ret (v:=.tuple #[.agg #[.int i64 0,.int i64 0,.int i64 0,.int i64 0,.int i64 0,.int i64 0],.iface 55 (.int i64 2)]) (by simp[results,results10,go_sem, *]) rfl ⟨rfl,?_⟩;exact Below.alloc (six HK3.out.below (nLQ _) _ _ _ _ _ _) (by simp <;> omega) _
theorem ruParse_range (s:ByteArray)(w:World)(hs:s.size<4611686018427387904)(a b c:ByteArray)(r:List ByteArray)(n:Nat)(hws:cutB 6 s=a :: b :: c :: r)(hn:r.length=n)(h1:dcOk a=true)(h2:psOk b=true)(h3:deOk (c :: r)=true)(h4:ruN (dcN a) (psM b) (psB b) (deO (c :: r)) (deM (c :: r)) (deB (c :: r))≠0):
 Calls prog 10 #[.string s] w fun e w'=>e=.returned (.tuple #[.agg #[.int i64 0,.int i64 0,.int i64 0,.int i64 0,.int i64 0,.int i64 0],.iface 55 (.int i64 (ruN (dcN a) (psM b) (psB b) (deO (c :: r)) (deM (c :: r)) (deB (c :: r))))])∧Below w.heap.size w w':=by
 go_enter func10,ntmps10
 go_wp2_with fail
 refine (splitN_any s _ hs).mono ?_;rintro e w1 ⟨cap,rfl,hcap,hcap7,hW,hb1⟩;have hlt1:(w.alloc (.cells #[.int i64 0,.int i64 0,.int i64 0,.int i64 0,.int i64 0,.int i64 0] 25)).heap.size<w1.heap.size:=
  bLQ _ _ (hW 0 (by rw[hws];simp))
 have hK:=PaK.start s w w1 rfl hb1 hlt1 hW;rw[hws] at hcap hK ⊢;have ek:(w.alloc (.cells #[.int i64 0,.int i64 0,.int i64 0,.int i64 0,.int i64 0,.int i64 0] 25)).heap.size=w.heap.size+1:=by simp
 rw[ek];clear hW hb1 hlt1 ek;have hln:(a :: b :: c :: r).length=n+3:=by simp[hn]
 rw[hln] at hcap ⊢;have HK:Hid (PaK w (w.heap.size+1) (a :: b :: c :: r) w1):=hK;have lt1:=hK.lt;have q0:=hK.c 0 (by omega);have q1:=hK.c 1 (by omega);have q2:=hK.c 2 (by omega);have q3:=hK.c 3 (by omega);have q4:=hK.c 4 (by omega);have q5:=hK.c 5 (by omega);have qf:=hK.f;have k0:=hK.words.head;have k1:=hK.words.tail.head;have ltB:=hK.ltB;clear hws hln;have e3:decide ((n:Int)+3<3)=false:=by simp;omega
 have hdW:WAt w1 (w.heap.size+1) (0+1+1) (c :: r):=hK.words.tail.tail;have hdl:(c :: r).length=n+1:=by simp[hn]
 clear hK
 go_wp2_with fail
 refine (dec_any _ _).mono ?_;rintro e w' ⟨rfl,rfl⟩;rw[h1]
 go_wp2_with fail
 refine (parse_yes _ _ h2).mono ?_;rintro e w2 ⟨rfl,hb2⟩;have hdW2:=(hdW.later hb2).later ((bRQ _ _).alloc (nLQ _) (Obj.cells #[.int i64 (psM b),.int i64 (psB b)] 23));have HK2:Hid (PaK w (w.heap.size+1) (a :: b :: c :: r) w2):=HK.out.later hb2;have lt2:=HK2.out.lt;clear hb2 hdW
 go_wp2_with fail
 refine (deed_any (c :: r) (n+1) _ _ _ _ hdW2 hdl (by omega)).mono ?_;rintro e w3 ⟨⟨x,m,y,rfl,hv⟩,hb3⟩;have HK3:Hid (PaK w (w.heap.size+1) (a :: b :: c :: r) w3):=(HK2.out.alloc _).later hb3;have o0:w3.cell? ⟨w2.heap.size,0,none⟩=some (.int i64 (psM b)):=cell_later hb3 (by simp);have o1:w3.cell? ⟨w2.heap.size,1,none⟩=some (.int i64 (psB b)):=cell_later hb3 (by simp);have ltO:w2.heap.size<w3.heap.size:=by have:=hb3.size;simp at this;omega
 clear hb3 hdW2 hdl;rw[h3];clear q0 q1 q2 q3 q4 q5 qf;have lt3:=HK3.out.lt;have q0:=HK3.out.c 0 (by omega);have q1:=HK3.out.c 1 (by omega);have q2:=HK3.out.c 2 (by omega);have q3:=HK3.out.c 3 (by omega);have q4:=HK3.out.c 4 (by omega);have q5:=HK3.out.c 5 (by omega);have qf:=HK3.out.f;obtain⟨rfl,rfl,rfl⟩:=hv h3
 go_wp2_with fail
 refine (ruCheck_any _ _ _ _ _ _ _).mono ?_;rintro e w4 ⟨rfl,hb4⟩;rw[no_ne h4];have HK4:Hid (PaK w (w.heap.size+1) (a :: b :: c :: r) w4):=((HK3.out.alloc _).alloc _).later hb4;have n0:w4.cell? ⟨w3.heap.size+1,0,none⟩=some (.int i64 (dcN a)):=cell_later hb4 (by simp);have n1:w4.cell? ⟨w3.heap.size+1,1,none⟩=some (.int i64 (psM b)):=cell_later hb4 (by simp);have n2:w4.cell? ⟨w3.heap.size+1,2,none⟩=some (.int i64 (psB b)):=cell_later hb4 (by simp);have n3:w4.cell? ⟨w3.heap.size+1,3,none⟩=some (.int i64 (deO (c :: r))):=cell_later hb4 (by simp);have n4:w4.cell? ⟨w3.heap.size+1,4,none⟩=some (.int i64 (deM (c :: r))):=cell_later hb4 (by simp);have n5:w4.cell? ⟨w3.heap.size+1,5,none⟩=some (.int i64 (deB (c :: r))):=cell_later hb4 (by simp);have ltN:w3.heap.size+1<w4.heap.size:=by have:=hb4.size;simp at this;omega
 clear hb4 o0 o1;clear q0 q1 q2 q3 q4 q5 qf;have lt4:=HK4.out.lt;have q0:=HK4.out.c 0 (by omega);have q1:=HK4.out.c 1 (by omega);have q2:=HK4.out.c 2 (by omega);have q3:=HK4.out.c 3 (by omega);have q4:=HK4.out.c 4 (by omega);have q5:=HK4.out.c 5 (by omega);have qf:=HK4.out.f;go_wp2;refine bodyPost_ret (v:=.tuple #[.agg #[.int i64 0,.int i64 0,.int i64 0,.int i64 0,.int i64 0,.int i64 0],.iface 55 (.int i64 (ruN (dcN a) (psM b) (psB b) (deO (c :: r)) (deM (c :: r)) (deB (c :: r))))]) (by simp[results,results10,go_sem, *]) rfl ⟨rfl,?_⟩;exact six HK4.out.below (nLQ _) _ _ _ _ _ _
theorem ruParse_good (s:ByteArray)(w:World)(hs:s.size<4611686018427387904)(a b c:ByteArray)(r:List ByteArray)(n:Nat)(hws:cutB 6 s=a :: b :: c :: r)(hn:r.length=n)(h1:dcOk a=true)(h2:psOk b=true)(h3:deOk (c :: r)=true)(h4:ruN (dcN a) (psM b) (psB b) (deO (c :: r)) (deM (c :: r)) (deB (c :: r))=0):
 Calls prog 10 #[.string s] w fun e w'=>e=.returned (.tuple #[.agg #[.int i64 (dcN a),.int i64 (psM b),.int i64 (psB b),.int i64 (deO (c :: r)),.int i64 (deM (c :: r)),.int i64 (deB (c :: r))],.nilIface])∧Below w.heap.size w w':=by
 go_enter func10,ntmps10
 go_wp2_with fail
 refine (splitN_any s _ hs).mono ?_;rintro e w1 ⟨cap,rfl,hcap,hcap7,hW,hb1⟩;have hlt1:(w.alloc (.cells #[.int i64 0,.int i64 0,.int i64 0,.int i64 0,.int i64 0,.int i64 0] 25)).heap.size<w1.heap.size:=
  bLQ _ _ (hW 0 (by rw[hws];simp))
 have hK:=PaK.start s w w1 rfl hb1 hlt1 hW;rw[hws] at hcap hK ⊢;have ek:(w.alloc (.cells #[.int i64 0,.int i64 0,.int i64 0,.int i64 0,.int i64 0,.int i64 0] 25)).heap.size=w.heap.size+1:=by simp
 rw[ek];clear hW hb1 hlt1 ek;have hln:(a :: b :: c :: r).length=n+3:=by simp[hn]
 rw[hln] at hcap ⊢;have HK:Hid (PaK w (w.heap.size+1) (a :: b :: c :: r) w1):=hK;have lt1:=hK.lt;have q0:=hK.c 0 (by omega);have q1:=hK.c 1 (by omega);have q2:=hK.c 2 (by omega);have q3:=hK.c 3 (by omega);have q4:=hK.c 4 (by omega);have q5:=hK.c 5 (by omega);have qf:=hK.f;have k0:=hK.words.head;have k1:=hK.words.tail.head;have ltB:=hK.ltB;clear hws hln;have e3:decide ((n:Int)+3<3)=false:=by simp;omega
 have hdW:WAt w1 (w.heap.size+1) (0+1+1) (c :: r):=hK.words.tail.tail;have hdl:(c :: r).length=n+1:=by simp[hn]
 clear hK
 go_wp2_with fail
 refine (dec_any _ _).mono ?_;rintro e w' ⟨rfl,rfl⟩;rw[h1]
 go_wp2_with fail
 refine (parse_yes _ _ h2).mono ?_;rintro e w2 ⟨rfl,hb2⟩;have hdW2:=(hdW.later hb2).later ((bRQ _ _).alloc (nLQ _) (Obj.cells #[.int i64 (psM b),.int i64 (psB b)] 23));have HK2:Hid (PaK w (w.heap.size+1) (a :: b :: c :: r) w2):=HK.out.later hb2;have lt2:=HK2.out.lt;clear hb2 hdW
 go_wp2_with fail
 refine (deed_any (c :: r) (n+1) _ _ _ _ hdW2 hdl (by omega)).mono ?_;rintro e w3 ⟨⟨x,m,y,rfl,hv⟩,hb3⟩;have HK3:Hid (PaK w (w.heap.size+1) (a :: b :: c :: r) w3):=(HK2.out.alloc _).later hb3;have o0:w3.cell? ⟨w2.heap.size,0,none⟩=some (.int i64 (psM b)):=cell_later hb3 (by simp);have o1:w3.cell? ⟨w2.heap.size,1,none⟩=some (.int i64 (psB b)):=cell_later hb3 (by simp);have ltO:w2.heap.size<w3.heap.size:=by have:=hb3.size;simp at this;omega
 clear hb3 hdW2 hdl;rw[h3];clear q0 q1 q2 q3 q4 q5 qf;have lt3:=HK3.out.lt;have q0:=HK3.out.c 0 (by omega);have q1:=HK3.out.c 1 (by omega);have q2:=HK3.out.c 2 (by omega);have q3:=HK3.out.c 3 (by omega);have q4:=HK3.out.c 4 (by omega);have q5:=HK3.out.c 5 (by omega);have qf:=HK3.out.f;obtain⟨rfl,rfl,rfl⟩:=hv h3
 go_wp2_with fail
 refine (ruCheck_any _ _ _ _ _ _ _).mono ?_;rintro e w4 ⟨rfl,hb4⟩;rw[no_ok h4];have HK4:Hid (PaK w (w.heap.size+1) (a :: b :: c :: r) w4):=((HK3.out.alloc _).alloc _).later hb4;have n0:w4.cell? ⟨w3.heap.size+1,0,none⟩=some (.int i64 (dcN a)):=cell_later hb4 (by simp);have n1:w4.cell? ⟨w3.heap.size+1,1,none⟩=some (.int i64 (psM b)):=cell_later hb4 (by simp);have n2:w4.cell? ⟨w3.heap.size+1,2,none⟩=some (.int i64 (psB b)):=cell_later hb4 (by simp);have n3:w4.cell? ⟨w3.heap.size+1,3,none⟩=some (.int i64 (deO (c :: r))):=cell_later hb4 (by simp);have n4:w4.cell? ⟨w3.heap.size+1,4,none⟩=some (.int i64 (deM (c :: r))):=cell_later hb4 (by simp);have n5:w4.cell? ⟨w3.heap.size+1,5,none⟩=some (.int i64 (deB (c :: r))):=cell_later hb4 (by simp);have ltN:w3.heap.size+1<w4.heap.size:=by have:=hb4.size;simp at this;omega
 clear hb4 o0 o1;clear q0 q1 q2 q3 q4 q5 qf;have lt4:=HK4.out.lt;have q0:=HK4.out.c 0 (by omega);have q1:=HK4.out.c 1 (by omega);have q2:=HK4.out.c 2 (by omega);have q3:=HK4.out.c 3 (by omega);have q4:=HK4.out.c 4 (by omega);have q5:=HK4.out.c 5 (by omega);have qf:=HK4.out.f;go_wp2;refine bodyPost_ret (v:=.tuple #[.agg #[.int i64 (dcN a),.int i64 (psM b),.int i64 (psB b),.int i64 (deO (c :: r)),.int i64 (deM (c :: r)),.int i64 (deB (c :: r))],.nilIface]) (by simp[results,results10,go_sem, *]) rfl ⟨rfl,?_⟩;exact six HK4.out.below (nLQ _) _ _ _ _ _ _
theorem ruParse_any (s:ByteArray)(w:World)(hs:s.size<4611686018427387904):
 Calls prog 10 #[.string s] w fun e w'=>e=.returned (.tuple #[paV (cutB 6 s),noV (paN (cutB 6 s))])∧Below w.heap.size w w':=by
 have hl:=(cut_len 6 s).2;have bad:rdW (cutB 6 s)=false→paV (cutB 6 s)=.agg #[.int i64 0,.int i64 0,.int i64 0,.int i64 0,.int i64 0,.int i64 0]∧noV (paN (cutB 6 s))=.iface 55 (.int i64 2):=fun h=>by
  have e:=paN_no h;exact⟨paV_no (by rw[e];decide),by rw[e];rfl⟩
 match hws:cutB 6 s with
 | []=>rw[hws] at hl;simp at hl
 | [a] =>
   rw[hws] at bad;obtain⟨e1,e2⟩:=bad rfl;rw[e1,e2];exact ruParse_short s w hs [a] 1 hws rfl (by omega) (by omega)
 | [a,b] =>
   rw[hws] at bad;obtain⟨e1,e2⟩:=bad rfl;rw[e1,e2];exact ruParse_short s w hs [a,b] 2 hws rfl (by omega) (by omega)
 | a :: b :: c :: r =>
   rw[hws] at bad;cases h1:dcOk a
   ·obtain⟨e1,e2⟩:=bad (by simp[rdW,h1]);rw[e1,e2];exact ruParse_num s w hs a b c r _ hws rfl h1
   cases h2:psOk b
   ·obtain⟨e1,e2⟩:=bad (by simp[rdW,h2]);rw[e1,e2];exact ruParse_cube s w hs a b c r _ hws rfl h1 h2
   cases h3:deOk (c :: r)
   ·obtain⟨e1,e2⟩:=bad (by simp[rdW,h3]);rw[e1,e2];exact ruParse_deed s w hs a b c r _ hws rfl h1 h2 h3
   have e:paN (a :: b :: c :: r)=ruN (dcN a) (psM b) (psB b) (deO (c :: r)) (deM (c :: r)) (deB (c :: r)):=paN_yes (by simp[rdW,h1,h2,h3]);by_cases h4:ruN (dcN a) (psM b) (psB b) (deO (c :: r)) (deM (c :: r)) (deB (c :: r))=0
   ·rw[paV_yes (by rw[e];exact h4),e,no_ok h4];exact ruParse_good s w hs a b c r _ hws rfl h1 h2 h3 h4
   rw[paV_no (by rw[e];exact h4),e,no_ne h4];exact ruParse_range s w hs a b c r _ hws rfl h1 h2 h3 h4
theorem rd_len {ws:List ByteArray}(h:rdW ws=true):ws.length=3∨ws.length=4∨ws.length=6:=by
 match ws,h with
 | a :: b :: c :: r,h =>
   simp only[rdW,Bool.and_eq_true] at h;have h2:=h.2.2
   match r,h2 with
   | [],_=>simp
   | [_],_=>simp
   | [_,_,_],_=>simp
   | [_,_],h2=>simp[deOk] at h2
   | _ :: _ :: _ :: _ :: _,h2=>simp[deOk] at h2
theorem rd_no {ws:List ByteArray}(h:¬(ws.length=3∨ws.length=4∨ws.length=6)):rdW ws=false:=by
 cases e:rdW ws
 ·rfl
 exact absurd (rd_len e) h
theorem pa_cut (s:ByteArray):paN (cutB 6 s)=paN (cutA s)∧paV (cutB 6 s)=paV (cutA s):=by
 obtain⟨h1,h2⟩:=cut_few 6 s;by_cases h:(cutA s).length≤7
 ·rw[h1 h];exact⟨rfl,rfl⟩
 have e1:=h2 (by omega);have p1:paN (cutB 6 s)=2:=paN_no (rd_no (by omega));have p2:paN (cutA s)=2:=paN_no (rd_no (by omega));exact⟨by rw[p1,p2],by rw[paV_no (by rw[p1];decide),paV_no (by rw[p2];decide)]⟩
end
end Go.Proofs.YtpbfgfphcjmcbaaGreatDoor
