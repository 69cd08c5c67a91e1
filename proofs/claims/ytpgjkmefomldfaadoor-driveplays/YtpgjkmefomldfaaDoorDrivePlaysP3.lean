/- Contracts and facts on the way to DrivePlays, joined into one text: RefWithout, WireCon, RefRule, RefMsg, RefDrHear, RefDrRounds, DriveLawMem, MsgTwo, SmMsg, MsgBox, AsErr. -/
import Derived.Test.YtpgjkmefomldfaaDoorDrivePlaysP2
namespace Go.Proofs.YtpgjkmefomldfaaDoor
set_option linter.unusedSimpArgs false
set_option linter.unusedVariables false
set_option maxHeartbeats 16000000
set_option maxRecDepth 100000
open Go.Proofs.Tryd
open IntKind (i64)
section
open Go.RowKit
theorem wt_next {D l:List Int}{k:Nat}(hk:k<D.length):wtI (D.take (k+1)) l=wtI (D.take k) l++(if (l.any fun y=>y==D[k])=true then [] else [D[k]]):=by
 unfold wtI;rw[List.take_succ_eq_append_getElem hk,List.filter_append];cases h:l.any fun y=>y==D[k]
 ·simp[h]
 simp[h]
theorem wt_le (D l:List Int):(wtI D l).length≤D.length:=List.length_filter_le _ _
theorem rwithout_own (ao:AdQ)(n cap:Nat)(a2:AdQ)(n2 c2:Nat)(D l:List Int)(w:World)(hD:GS inE w (.slice ao n cap) D)(hl:GS inE w (.slice a2 n2 c2) l)(hn0:D.length≤1000):
 Calls prog 34 #[.slice ao n cap,.slice a2 n2 c2] w fun e w'=>∃a3 n3 c3,e=.returned (.slice a3 n3 c3)∧GS inE w' (.slice a3 n3 c3) (wtI D l)∧(∀ad,a3=some ad→w.heap.size≤ad.block)∧Below w.heap.size w w':=by
 obtain⟨_,_,_,e1,hn,hn2,_,ha⟩:=hD.form;cases e1;have HN:Hid (D.length=n):=hn;have HA:Hid (0<n→∃g o,ao=some ⟨g,o,none⟩∧GAt inE w g o D∧cap≤maxLen):=ha;have HL:Hid (∀W,Below w.heap.size w W→GS inE W (.slice a2 n2 c2) l):=fun W h=>hl.later h
 have n63:n≤9223372036854775807:=by omega
 have HN0:Hid (n≤1000):=by show _≤_;omega
 clear hD hl hn ha hn2 hn0;obtain⟨i0,hi,hz0,hz1,hz2⟩:=info_parts infoInt;have HIN:Hid (Tryd.prog.info? 3=some i0∧i0.zero=some (.int i64 0)∧i0.size=inE.n∧i0.bytes=8):=⟨hi,hz0,hz1,hz2⟩;clear hi hz0 hz1 hz2;go_enter func34,ntmps34;go_wp2
 go_loopw [5,6] (fun v i wr=>∃k:Nat,k≤n∧i=.int i64 (k:Int)∧wr.ownsRow w.heap.size 3 inE.n v (wtI (D.take k) l).length (cellsG inE (wtI (D.take k) l))∧Below w.heap.size w wr) (fun _ i _=>n-(intOf i).toNat)
 case atStart=>exact⟨0,by omega,rfl,World.ownsRow_nil _ _ _ _,bRQ _ _⟩
 case round =>
  obtain⟨k,hk,rfl,hNO,hB⟩:=hrel;obtain⟨wi,hwi⟩:∃X,X=wr:=⟨_,rfl⟩;subst hwi;have HNO:Hid (wi.ownsRow w.heap.size 3 inE.n u5 (wtI (D.take k) l).length (cellsG inE (wtI (D.take k) l))):=hNO;have HB:Hid (Below w.heap.size w wi):=hB;clear hNO hB;by_cases hlt:k<n
  ·obtain⟨g,o,hao,hga,_⟩:=HA.out (by omega);subst hao;obtain⟨x,hkl,hLk,y0⟩:=in_at (hga.later HB.out) HN.out hlt;obtain⟨T,hT⟩:∃T,T=l.any fun y=>y==x:=⟨_,rfl⟩
   have HT:Hid ((l.any fun y=>y==x)=T):=hT.symm;have HNX:Hid (wtI (D.take (k+1)) l=wtI (D.take k) l++(if T=true then [] else [x])):=show _=_ by
    rw[wt_next hkl,hLk,hT]
   have HLEN:Hid ((wtI (D.take k) l).length≤1000):=by
    have h1:=wt_le (D.take k) l;have h2:(D.take k).length≤D.length:=by rw[List.length_take];omega
    have h3:=HN.out;have h4:=HN0.out;show _≤_;omega
   have kb0:(0:Int)≤(k:Int):=by omega
   have kb1:(k:Int)<(n:Int):=by omega
   clear hga hLk hT
   go_wp2_with fail
   refine (in_any a2 n2 c2 l x wi (HL.out wi HB.out)).mono ?_;rintro e w2 ⟨rfl,hw2⟩;have hw2:=hw2.symm;subst hw2;rw[HT.out];cases T with
   | true =>
     have HN2:Hid (wtI (D.take (k+1)) l=wtI (D.take k) l):=HNX.out.trans (by simp);clear y0;go_wp2;go_roundw
     case rel=>exact⟨k+1,by omega,by go_num,by rw[HN2.out];exact HNO.out,HB.out⟩
     case measure=>simp[intOf];omega
   | false =>
     have HN2:Hid (wtI (D.take (k+1)) l=wtI (D.take k) l++[x]):=HNX.out.trans (by simp);have hal:Below wi.heap.size wi (wi.alloc (.cells #[.int i64 x] 3)):=(bRQ _ _).alloc (nLQ _) _;have HO4:Hid ((wi.alloc (.cells #[.int i64 x] 3)).ownsRow w.heap.size 3 inE.n u5 (wtI (D.take k) l).length (cellsG inE (wtI (D.take k) l))):=HNO.out.kept (grown_below hal) (none_or _);have HB4:Hid (Below w.heap.size w (wi.alloc (.cells #[.int i64 x] 3))):=HB.out.trans (hal.mono HB.out.size);have HVA:Hid (VAt (wi.alloc (.cells #[.int i64 x] 3)) wi.heap.size 0 (inE.c x)):=vat_new wi [.int i64 x] 3;have HL1:Hid ((wtI (D.take k) l).length+1≤maxLen):=by have:=HLEN.out;show _≤_;unfold maxLen;omega
     have HL2:Hid (((wtI (D.take k) l).length+1)*8≤140737488355328):=by have:=HLEN.out;show _≤_;omega
     clear hal
     go_wp2_with (at_builtin;refine wpList_append_blk (E:=inE) _ rfl _ _ 40 3 rfl underlying40 i0 (.int i64 0) 8 HIN.out.1 HIN.out.2.1 HIN.out.2.2.1 HIN.out.2.2.2 rfl w.heap.size u5 rfl _ HO4.out wi.heap.size 0 1 rfl x HVA.out HL1.out HL2.out HB4.out.size ?_)
     intro v5 w5 ho5 hg5 hl5;have HO5:Hid (w5.ownsRow w.heap.size 3 inE.n v5 (wtI (D.take (k+1)) l).length (cellsG inE (wtI (D.take (k+1)) l))):=by
      rw[HN2.out,List.length_append];exact ho5
     have HB5:Hid (Below w.heap.size w w5):=HB4.out.trans (below_grown hg5 HB4.out.size (fun b hb=>(HNO.out.lt b hb).1));clear ho5 hg5 hl5 y0;go_wp2;go_roundw
     case rel=>exact⟨k+1,by omega,by go_num,HO5.out,HB5.out⟩
     case measure=>simp[intOf];omega
  obtain rfl:k=n:=by omega
  have hall:D.take k=D:=by rw[←HN.out];exact List.take_length
  rw[hall] at HNO;obtain⟨a3,n3,c3,rfl,_⟩:=(own_GS HNO.out).form;go_wp2;go_ret;exact⟨_,_,_,rfl,own_GS HNO.out,fun ad ha=>by subst ha;exact (HNO.out.lt ad.block rfl).1,HB.out⟩
def MgC (W:World)(g:Nat)(x0 x1 x2 x3 x4:Int)(x5:Bool)(x6 x7 x8 x9 x10 x11:Int):Prop:=
 W.cell? ⟨g,0,none⟩=some (.int i64 x0)∧W.cell? ⟨g,1,none⟩=some (.int i64 x1)∧W.cell? ⟨g,2,none⟩=some (.int i64 x2)∧W.cell? ⟨g,3,none⟩=some (.int i64 x3)∧W.cell? ⟨g,4,none⟩=some (.int i64 x4)∧W.cell? ⟨g,5,none⟩=some (.bool x5)∧W.cell? ⟨g,6,none⟩=some (.int i64 x6)∧W.cell? ⟨g,7,none⟩=some (.int i64 x7)∧W.cell? ⟨g,8,none⟩=some (.int i64 x8)∧W.cell? ⟨g,9,none⟩=some (.int i64 x9)∧W.cell? ⟨g,10,none⟩=some (.int i64 x10)∧W.cell? ⟨g,11,none⟩=some (.int i64 x11)
theorem MgC.later {W W':World}{g:Nat}{x0 x1 x2 x3 x4:Int}{x5:Bool}{x6 x7 x8 x9 x10 x11:Int}(h:MgC W g x0 x1 x2 x3 x4 x5 x6 x7 x8 x9 x10 x11)(hb:Below W.heap.size W W'):MgC W' g x0 x1 x2 x3 x4 x5 x6 x7 x8 x9 x10 x11:=by
 obtain⟨c0,c1,c2,c3,c4,c5,c6,c7,c8,c9,c10,c11⟩:=h;exact⟨cell_later hb c0,cell_later hb c1,cell_later hb c2,cell_later hb c3,cell_later hb c4,cell_later hb c5,cell_later hb c6,cell_later hb c7,cell_later hb c8,cell_later hb c9,cell_later hb c10,cell_later hb c11⟩
theorem MgC.lt {W:World}{g:Nat}{x0 x1 x2 x3 x4:Int}{x5:Bool}{x6 x7 x8 x9 x10 x11:Int}(h:MgC W g x0 x1 x2 x3 x4 x5 x6 x7 x8 x9 x10 x11):g<W.heap.size:=bLQ _ _ h.1
theorem mgc_new (w:World)(x0 x1 x2 x3 x4:Int)(x5:Bool)(x6 x7 x8 x9 x10 x11:Int)(T:TypeId):MgC (w.alloc (.cells #[.int i64 x0,.int i64 x1,.int i64 x2,.int i64 x3,.int i64 x4,.bool x5,.int i64 x6,.int i64 x7,.int i64 x8,.int i64 x9,.int i64 x10,.int i64 x11] T)) w.heap.size x0 x1 x2 x3 x4 x5 x6 x7 x8 x9 x10 x11:=by
 refine⟨?_,?_,?_,?_,?_,?_,?_,?_,?_,?_,?_,?_⟩ <;> simp
theorem checkOp_any (x4:Int)(x5:Bool)(x6 x7 x8 x9 x10 x11 t:Int)(w:World):
 Calls prog 57 #[.agg #[.int i64 x4,.bool x5,.int i64 x6,.int i64 x7,.int i64 x8,.int i64 x9,.int i64 x10,.int i64 x11],.int i64 t] w fun e w'=>e=.returned (noV (moN ⟨x4,x5,⟨x6,x7,x8,x9,x10,x11⟩⟩ t))∧Below w.heap.size w w':=by
 have HB0:Hid (Below w.heap.size w (w.alloc (.cells #[.int i64 x4,.bool x5,.int i64 x6,.int i64 x7,.int i64 x8,.int i64 x9,.int i64 x10,.int i64 x11] 37))):=(bRQ _ _).alloc (nLQ _) _;have HC0:Hid ((w.alloc (.cells #[.int i64 x4,.bool x5,.int i64 x6,.int i64 x7,.int i64 x8,.int i64 x9,.int i64 x10,.int i64 x11] 37)).cell? ⟨w.heap.size,0,none⟩=some (.int i64 x4)):=by show _=_;simp
 obtain⟨N,hN⟩:∃N,N=ruN x6 x7 x8 x9 x10 x11:=⟨_,rfl⟩;have e:moN ⟨x4,x5,⟨x6,x7,x8,x9,x10,x11⟩⟩ t=if N=0 then (if x4=t then 0 else 3) else N:=by rw[hN];rfl
 rw[e];have HN:Hid (ruN x6 x7 x8 x9 x10 x11=N):=hN.symm;clear e hN;by_cases h0:N=0
 ·subst h0;by_cases h1:x4=t
  ·subst h1;have ht:(x4==x4)=true:=by simp
   go_enter func57,ntmps57
   go_wp2_with fail
   refine (ruCheck_any x6 x7 x8 x9 x10 x11 _).mono ?_;rintro e w1 ⟨rfl,hb1⟩;have c1:=cell_later hb1 HC0.out;have HB1:Hid (Below w.heap.size w w1):=HB0.out.trans (hb1.mono HB0.out.size);rw[HN.out,no_ok rfl];clear hb1;go_wp2;go_ret;exact⟨by simp[noV],HB1.out⟩
  have ht:(x4==t)=false:=by simpa using h1
  rw[if_pos rfl,if_neg h1];go_enter func57,ntmps57
  go_wp2_with fail
  refine (ruCheck_any x6 x7 x8 x9 x10 x11 _).mono ?_;rintro e w1 ⟨rfl,hb1⟩;have c1:=cell_later hb1 HC0.out;have HB1:Hid (Below w.heap.size w w1):=HB0.out.trans (hb1.mono HB0.out.size);rw[HN.out,no_ok rfl];clear hb1;go_wp2;go_ret;exact⟨rfl,HB1.out⟩
 rw[if_neg h0];go_enter func57,ntmps57
 go_wp2_with fail
 refine (ruCheck_any x6 x7 x8 x9 x10 x11 _).mono ?_;rintro e w1 ⟨rfl,hb1⟩;have HB1:Hid (Below w.heap.size w w1):=HB0.out.trans (hb1.mono HB0.out.size);rw[HN.out,no_ne h0];clear hb1;go_wp2;go_ret;exact⟨by rw[no_ne h0];rfl,HB1.out⟩
theorem mg_no {m:Mg}(h:mgR m=false):mgN m=1:=by unfold mgN;rw[h];rfl
theorem mg_k {m:Mg}(h:¬(1≤m.k∧m.k≤3)):mgR m=false:=by
 cases e:mgR m
 ·rfl
 exact absurd (mg_rng.1 e).1 h
theorem mg_s {m:Mg}(h:¬(1≤m.s∧m.s≤6)):mgR m=false:=by
 cases e:mgR m
 ·rfl
 exact absurd (mg_rng.1 e).2.1 h
theorem mg_r {m:Mg}(h:¬(0≤m.r∧m.r≤19)):mgR m=false:=by
 cases e:mgR m
 ·rfl
 exact absurd (mg_rng.1 e).2.2.1 h
theorem mg_i {m:Mg}(h:¬(0≤m.i∧m.i≤200)):mgR m=false:=by
 cases e:mgR m
 ·rfl
 exact absurd (mg_rng.1 e).2.2.2 h
theorem mg_do {m:Mg}(h:mgR m=true)(h1:m.k=1):mgN m=moN m.o m.s:=by unfold mgN;rw[if_pos h,if_pos h1]
def elN (c:Bool)(k i:Int):Int:=if c && !(decide (k=3) && !(decide (i=0))) then 0 else 3
theorem mg_els {m:Mg}(h:mgR m=true)(h1:m.k≠1):mgN m=elN (oqB m.o zeP) m.k m.i:=by unfold mgN elN;rw[if_pos h,if_neg h1]
theorem k_no {x:Int}(h:¬(1≤x∧x≤3)):(x==1)=false∧(x==2)=false∧(x==3)=false:=by
 refine⟨?_,?_,?_⟩ <;> simp <;> omega
theorem wcheck_kind (x0 x1 x2 x3 x4:Int)(x5:Bool)(x6 x7 x8 x9 x10 x11:Int)(w:World)(hk:¬(1≤x0∧x0≤3)):
 Calls prog 44 #[.agg #[.int i64 x0,.int i64 x1,.int i64 x2,.int i64 x3,.int i64 x4,.bool x5,.int i64 x6,.int i64 x7,.int i64 x8,.int i64 x9,.int i64 x10,.int i64 x11]] w fun e w'=>e=.returned (.iface 63 (.int i64 1))∧Below w.heap.size w w':=by
 have HB0:Hid (Below w.heap.size w (w.alloc (.cells #[.int i64 x0,.int i64 x1,.int i64 x2,.int i64 x3,.int i64 x4,.bool x5,.int i64 x6,.int i64 x7,.int i64 x8,.int i64 x9,.int i64 x10,.int i64 x11] 39))):=(bRQ _ _).alloc (nLQ _) _;obtain⟨k1,k2,k3⟩:=k_no hk;have n1:(x0 != 1)=true:=by simp[bne,k1]
 have n2:(x0 != 2)=true:=by simp[bne,k2]
 have n3:(x0 != 3)=true:=by simp[bne,k3]
 have l1:¬x0=1:=by omega
 have l2:¬x0=2:=by omega
 have l3:¬x0=3:=by omega
 clear hk;go_enter func44,ntmps44;go_wp2;go_ret;exact⟨rfl,HB0.out⟩
theorem wcheck_switch (x0 x1 x2 x3 x4:Int)(x5:Bool)(x6 x7 x8 x9 x10 x11:Int)(w:World)(hk:1≤x0∧x0≤3)(hs:swB 6 x1=false):
 Calls prog 44 #[.agg #[.int i64 x0,.int i64 x1,.int i64 x2,.int i64 x3,.int i64 x4,.bool x5,.int i64 x6,.int i64 x7,.int i64 x8,.int i64 x9,.int i64 x10,.int i64 x11]] w fun e w'=>e=.returned (.iface 63 (.int i64 1))∧Below w.heap.size w w':=by
 have HB0:Hid (Below w.heap.size w (w.alloc (.cells #[.int i64 x0,.int i64 x1,.int i64 x2,.int i64 x3,.int i64 x4,.bool x5,.int i64 x6,.int i64 x7,.int i64 x8,.int i64 x9,.int i64 x10,.int i64 x11] 39))):=(bRQ _ _).alloc (nLQ _) _;have HC0:Hid (MgC (w.alloc (.cells #[.int i64 x0,.int i64 x1,.int i64 x2,.int i64 x3,.int i64 x4,.bool x5,.int i64 x6,.int i64 x7,.int i64 x8,.int i64 x9,.int i64 x10,.int i64 x11] 39)) w.heap.size x0 x1 x2 x3 x4 x5 x6 x7 x8 x9 x10 x11):=mgc_new w x0 x1 x2 x3 x4 x5 x6 x7 x8 x9 x10 x11 _;have HSW:Hid (swB 6 x1=false):=hs;clear hs
 rcases (by omega:x0=1∨x0=2∨x0=3) with rfl | rfl | rfl
 all_goals
  go_enter func44,ntmps44
  go_wp2_with fail
  refine (isSwitch_any 6 x1 _).mono ?_;rintro e w1 ⟨rfl,hb1⟩;have HB1:Hid (Below w.heap.size w w1):=HB0.out.trans (hb1.mono HB0.out.size);have HC1:Hid (MgC w1 w.heap.size _ x1 x2 x3 x4 x5 x6 x7 x8 x9 x10 x11):=HC0.out.later hb1;obtain⟨c0,c1,c2,c3,c4,c5,c6,c7,c8,c9,c10,c11⟩:=HC1.out;rw[HSW.out];clear hb1;go_wp2;go_ret;exact⟨rfl,HB1.out⟩
theorem wcheck_round (x0 x1 x2 x3 x4:Int)(x5:Bool)(x6 x7 x8 x9 x10 x11:Int)(w:World)(hk:1≤x0∧x0≤3)(hs:swB 6 x1=true)(hr:¬(0≤x2∧x2≤19)):
 Calls prog 44 #[.agg #[.int i64 x0,.int i64 x1,.int i64 x2,.int i64 x3,.int i64 x4,.bool x5,.int i64 x6,.int i64 x7,.int i64 x8,.int i64 x9,.int i64 x10,.int i64 x11]] w fun e w'=>e=.returned (.iface 63 (.int i64 1))∧Below w.heap.size w w':=by
 have HB0:Hid (Below w.heap.size w (w.alloc (.cells #[.int i64 x0,.int i64 x1,.int i64 x2,.int i64 x3,.int i64 x4,.bool x5,.int i64 x6,.int i64 x7,.int i64 x8,.int i64 x9,.int i64 x10,.int i64 x11] 39))):=(bRQ _ _).alloc (nLQ _) _;have HC0:Hid (MgC (w.alloc (.cells #[.int i64 x0,.int i64 x1,.int i64 x2,.int i64 x3,.int i64 x4,.bool x5,.int i64 x6,.int i64 x7,.int i64 x8,.int i64 x9,.int i64 x10,.int i64 x11] 39)) w.heap.size x0 x1 x2 x3 x4 x5 x6 x7 x8 x9 x10 x11):=mgc_new w x0 x1 x2 x3 x4 x5 x6 x7 x8 x9 x10 x11 _;have HSW:Hid (swB 6 x1=true):=hs;clear hs
 rcases (by omega:x2<0∨(¬x2<0∧20≤x2)) with h1 | ⟨h1,h2⟩
 all_goals
  clear hr
  rcases (by omega:x0=1∨x0=2∨x0=3) with rfl | rfl | rfl
  all_goals
   go_enter func44,ntmps44
   go_wp2_with fail
   refine (isSwitch_any 6 x1 _).mono ?_;rintro e w1 ⟨rfl,hb1⟩;have HB1:Hid (Below w.heap.size w w1):=HB0.out.trans (hb1.mono HB0.out.size);have HC1:Hid (MgC w1 w.heap.size _ x1 x2 x3 x4 x5 x6 x7 x8 x9 x10 x11):=HC0.out.later hb1;obtain⟨c0,c1,c2,c3,c4,c5,c6,c7,c8,c9,c10,c11⟩:=HC1.out;rw[HSW.out];clear hb1;go_wp2;go_ret;exact⟨rfl,HB1.out⟩
theorem wcheck_index (x0 x1 x2 x3 x4:Int)(x5:Bool)(x6 x7 x8 x9 x10 x11:Int)(w:World)(hk:1≤x0∧x0≤3)(hs:swB 6 x1=true)(hr:0≤x2∧x2≤19)(hi:¬(0≤x3∧x3≤200)):
 Calls prog 44 #[.agg #[.int i64 x0,.int i64 x1,.int i64 x2,.int i64 x3,.int i64 x4,.bool x5,.int i64 x6,.int i64 x7,.int i64 x8,.int i64 x9,.int i64 x10,.int i64 x11]] w fun e w'=>e=.returned (.iface 63 (.int i64 1))∧Below w.heap.size w w':=by
 have HB0:Hid (Below w.heap.size w (w.alloc (.cells #[.int i64 x0,.int i64 x1,.int i64 x2,.int i64 x3,.int i64 x4,.bool x5,.int i64 x6,.int i64 x7,.int i64 x8,.int i64 x9,.int i64 x10,.int i64 x11] 39))):=(bRQ _ _).alloc (nLQ _) _;have HC0:Hid (MgC (w.alloc (.cells #[.int i64 x0,.int i64 x1,.int i64 x2,.int i64 x3,.int i64 x4,.bool x5,.int i64 x6,.int i64 x7,.int i64 x8,.int i64 x9,.int i64 x10,.int i64 x11] 39)) w.heap.size x0 x1 x2 x3 x4 x5 x6 x7 x8 x9 x10 x11):=mgc_new w x0 x1 x2 x3 x4 x5 x6 x7 x8 x9 x10 x11 _;have HSW:Hid (swB 6 x1=true):=hs;clear hs;have hr1:¬x2<0:=by omega
 have hr2:¬20≤x2:=by omega
 rcases (by omega:x3<0∨(¬x3<0∧200<x3)) with h1 | ⟨h1,h2⟩
 all_goals
  clear hi hr
  rcases (by omega:x0=1∨x0=2∨x0=3) with rfl | rfl | rfl
  all_goals
   go_enter func44,ntmps44
   go_wp2_with fail
   refine (isSwitch_any 6 x1 _).mono ?_;rintro e w1 ⟨rfl,hb1⟩;have HB1:Hid (Below w.heap.size w w1):=HB0.out.trans (hb1.mono HB0.out.size);have HC1:Hid (MgC w1 w.heap.size _ x1 x2 x3 x4 x5 x6 x7 x8 x9 x10 x11):=HC0.out.later hb1;obtain⟨c0,c1,c2,c3,c4,c5,c6,c7,c8,c9,c10,c11⟩:=HC1.out;rw[HSW.out];clear hb1;go_wp2;go_ret;exact⟨rfl,HB1.out⟩
theorem wcheck_do (x1 x2 x3 x4:Int)(x5:Bool)(x6 x7 x8 x9 x10 x11:Int)(w:World)(hs:swB 6 x1=true)(hr:0≤x2∧x2≤19)(hi:0≤x3∧x3≤200):
 Calls prog 44 #[.agg #[.int i64 1,.int i64 x1,.int i64 x2,.int i64 x3,.int i64 x4,.bool x5,.int i64 x6,.int i64 x7,.int i64 x8,.int i64 x9,.int i64 x10,.int i64 x11]] w fun e w'=>e=.returned (noV (moN ⟨x4,x5,⟨x6,x7,x8,x9,x10,x11⟩⟩ x1))∧Below w.heap.size w w':=by
 have HB0:Hid (Below w.heap.size w (w.alloc (.cells #[.int i64 1,.int i64 x1,.int i64 x2,.int i64 x3,.int i64 x4,.bool x5,.int i64 x6,.int i64 x7,.int i64 x8,.int i64 x9,.int i64 x10,.int i64 x11] 39))):=(bRQ _ _).alloc (nLQ _) _;have HC0:Hid (MgC (w.alloc (.cells #[.int i64 1,.int i64 x1,.int i64 x2,.int i64 x3,.int i64 x4,.bool x5,.int i64 x6,.int i64 x7,.int i64 x8,.int i64 x9,.int i64 x10,.int i64 x11] 39)) w.heap.size 1 x1 x2 x3 x4 x5 x6 x7 x8 x9 x10 x11):=mgc_new w 1 x1 x2 x3 x4 x5 x6 x7 x8 x9 x10 x11 _;have HSW:Hid (swB 6 x1=true):=hs;have hr1:¬x2<0:=by omega
 have hr2:¬20≤x2:=by omega
 have hi1:¬x3<0:=by omega
 have hi2:¬200<x3:=by omega
 clear hs hr hi;go_enter func44,ntmps44
 go_wp2_with fail
 refine (isSwitch_any 6 x1 _).mono ?_;rintro e w1 ⟨rfl,hb1⟩;have HB1:Hid (Below w.heap.size w w1):=HB0.out.trans (hb1.mono HB0.out.size);have HC1:Hid (MgC w1 w.heap.size 1 x1 x2 x3 x4 x5 x6 x7 x8 x9 x10 x11):=HC0.out.later hb1;obtain⟨c0,c1,c2,c3,c4,c5,c6,c7,c8,c9,c10,c11⟩:=HC1.out;rw[HSW.out];clear hb1
 go_wp2_with fail
 refine (checkOp_any x4 x5 x6 x7 x8 x9 x10 x11 x1 _).mono ?_;rintro e w2 ⟨rfl,hb2⟩;have HB2:Hid (Below w.heap.size w w2):=HB1.out.trans (hb2.mono HB1.out.size);clear hb2;go_wp2;go_ret;exact⟨rfl,HB2.out⟩
theorem wcheck_else (x0 x1 x2 x3 x4:Int)(x5:Bool)(x6 x7 x8 x9 x10 x11:Int)(w:World)(hk:x0=2∨x0=3)(hs:swB 6 x1=true)(hr:0≤x2∧x2≤19)(hi:0≤x3∧x3≤200):
 Calls prog 44 #[.agg #[.int i64 x0,.int i64 x1,.int i64 x2,.int i64 x3,.int i64 x4,.bool x5,.int i64 x6,.int i64 x7,.int i64 x8,.int i64 x9,.int i64 x10,.int i64 x11]] w fun e w'=>e=.returned (noV (elN (oqB ⟨x4,x5,⟨x6,x7,x8,x9,x10,x11⟩⟩ zeP) x0 x3))∧Below w.heap.size w w':=by
 have HB0:Hid (Below w.heap.size w (w.alloc (.cells #[.int i64 x0,.int i64 x1,.int i64 x2,.int i64 x3,.int i64 x4,.bool x5,.int i64 x6,.int i64 x7,.int i64 x8,.int i64 x9,.int i64 x10,.int i64 x11] 39))):=(bRQ _ _).alloc (nLQ _) _;have HC0:Hid (MgC (w.alloc (.cells #[.int i64 x0,.int i64 x1,.int i64 x2,.int i64 x3,.int i64 x4,.bool x5,.int i64 x6,.int i64 x7,.int i64 x8,.int i64 x9,.int i64 x10,.int i64 x11] 39)) w.heap.size x0 x1 x2 x3 x4 x5 x6 x7 x8 x9 x10 x11):=mgc_new w x0 x1 x2 x3 x4 x5 x6 x7 x8 x9 x10 x11 _;have HSW:Hid (swB 6 x1=true):=hs;have hr1:¬x2<0:=by omega
 have hr2:¬20≤x2:=by omega
 have hi1:¬x3<0:=by omega
 have hi2:¬200<x3:=by omega
 clear hs hr hi;obtain⟨c,hc⟩:∃c,c=opB ⟨x4,x5,⟨x6,x7,x8,x9,x10,x11⟩⟩ ⟨0,false,⟨0,0,0,0,0,0⟩⟩:=⟨_,rfl⟩;have HC:Hid (opB ⟨x4,x5,⟨x6,x7,x8,x9,x10,x11⟩⟩ ⟨0,false,⟨0,0,0,0,0,0⟩⟩=c):=hc.symm;rw[show oqB ⟨x4,x5,⟨x6,x7,x8,x9,x10,x11⟩⟩ zeP=c from hc.symm];clear hc
 rcases hk with rfl | rfl
 all_goals
  go_enter func44,ntmps44
  go_wp2_with fail
  refine (isSwitch_any 6 x1 _).mono ?_;rintro e w1 ⟨rfl,hb1⟩;have HB1:Hid (Below w.heap.size w w1):=HB0.out.trans (hb1.mono HB0.out.size);have HC1:Hid (MgC w1 w.heap.size _ x1 x2 x3 x4 x5 x6 x7 x8 x9 x10 x11):=HC0.out.later hb1;obtain⟨c0,c1,c2,c3,c4,c5,c6,c7,c8,c9,c10,c11⟩:=HC1.out;rw[HSW.out];clear hb1;go_upto_region 8 with fail
  go_cut [47] from 48 (fun v w'=>v=.bool (!c)∧w'=w1)
  case first =>
   rcases op_ways x4 x5 x6 x7 x8 x9 x10 x11 0 false 0 0 0 0 0 0 with ⟨e0,e⟩ | ⟨e0,e1,e⟩ | ⟨e0,e1,e2,e⟩ | ⟨e0,e1,e2,e3,e⟩ | ⟨e0,e1,e2,e3,e4,e⟩ | ⟨e0,e1,e2,e3,e4,e5,e⟩ | ⟨e0,e1,e2,e3,e4,e5,e6,e⟩ | ⟨e0,e1,e2,e3,e4,e5,e6,e7,e⟩ | ⟨e0,e1,e2,e3,e4,e5,e6,e7,e⟩
   all_goals
    rw[HC.out] at e;have HE:Hid (c=_):=e;clear e
    go_wp2_with fail
    go_meet
    exact⟨by rw[HE.out];rfl,rfl⟩
  case rest =>
   obtain⟨rfl,hwc⟩:=hcut;have hwc2:=hwc.symm;clear hwc;subst hwc2;cases c with
   | false =>
     go_wp2;go_ret;exact⟨by simp[elN,noV],HB1.out⟩
   | true =>
     by_cases h0:x3=0
     ·subst h0;go_wp2;go_ret;exact⟨by simp[elN,noV],HB1.out⟩
     have h0':(x3==0)=false:=by simpa using h0
     have h0n:(x3 != 0)=true:=by simpa using h0
     go_wp2;go_ret;exact⟨by simp[elN,noV,h0],HB1.out⟩
theorem mcheck_any (x0 x1 x2 x3 x4:Int)(x5:Bool)(x6 x7 x8 x9 x10 x11:Int)(w:World):
 Calls prog 44 #[.agg #[.int i64 x0,.int i64 x1,.int i64 x2,.int i64 x3,.int i64 x4,.bool x5,.int i64 x6,.int i64 x7,.int i64 x8,.int i64 x9,.int i64 x10,.int i64 x11]] w fun e w'=>e=.returned (noV (mgN ⟨x0,x1,x2,x3,⟨x4,x5,⟨x6,x7,x8,x9,x10,x11⟩⟩⟩))∧Below w.heap.size w w':=by
 by_cases hk:1≤x0∧x0≤3
 ·cases hs:swB 6 x1
  ·rw[mg_no (mg_s (fun h=>by have:=sw_of.2 h;rw[hs] at this;cases this)),no_ne (by decide)];exact wcheck_switch x0 x1 x2 x3 x4 x5 x6 x7 x8 x9 x10 x11 w hk hs
  by_cases hr:0≤x2∧x2≤19
  ·by_cases hi:0≤x3∧x3≤200
   ·have hR:mgR ⟨x0,x1,x2,x3,⟨x4,x5,⟨x6,x7,x8,x9,x10,x11⟩⟩⟩=true:=mg_rng.2 ⟨hk,sw_of.1 hs,hr,hi⟩;by_cases h1:x0=1
    ·subst h1;rw[mg_do hR rfl];exact wcheck_do x1 x2 x3 x4 x5 x6 x7 x8 x9 x10 x11 w hs hr hi
    rw[mg_els hR h1];exact wcheck_else x0 x1 x2 x3 x4 x5 x6 x7 x8 x9 x10 x11 w (by omega) hs hr hi
   rw[mg_no (mg_i hi),no_ne (by decide)];exact wcheck_index x0 x1 x2 x3 x4 x5 x6 x7 x8 x9 x10 x11 w hk hs hr hi
  rw[mg_no (mg_r hr),no_ne (by decide)];exact wcheck_round x0 x1 x2 x3 x4 x5 x6 x7 x8 x9 x10 x11 w hk hs hr
 rw[mg_no (mg_k hk),no_ne (by decide)];exact wcheck_kind x0 x1 x2 x3 x4 x5 x6 x7 x8 x9 x10 x11 w hk
theorem set_okB {s v:Int}(h:rngB s v=true):okB s v=(bits .andNot .i64 v s==0):=by simp[okB,h]
theorem refRule_prio (p m b o s v:Int)(w:World)(h:ruP p o=false):
 Calls prog 28 #[.agg #[.int i64 p,.int i64 m,.int i64 b,.int i64 o,.int i64 s,.int i64 v]] w fun e w'=>e=.returned (.int i64 1)∧Below w.heap.size w w':=by
 have hc:p<0∨(0≤p∧99<p)∨((0≤p∧p≤99)∧o<0)∨((0≤p∧p≤99)∧(0≤o∧4<o)):=by
  simp[ruP] at h;omega
 clear h
 rcases hc with h1 | ⟨h1,h2⟩ | ⟨⟨h1,h2⟩,h3⟩ | ⟨⟨h1,h2⟩,h3,h4⟩
 ·have e1:decide (p<0)=true:=by simp;omega
  go_enter func28,ntmps28
  go_wp2_with fail
  refine (header_any _ _).mono ?_;rintro e w' ⟨rfl,rfl⟩
  go_wp2_with fail
  refine (header_any _ _).mono ?_;rintro e w' ⟨rfl,rfl⟩;go_wp2;go_ret;exact⟨rfl,(bRQ _ _).alloc (nLQ _) _⟩
 ·have e1:decide (p<0)=false:=by simp;omega
  have e2:decide (99<p)=true:=by simp;omega
  go_enter func28,ntmps28
  go_wp2_with fail
  refine (header_any _ _).mono ?_;rintro e w' ⟨rfl,rfl⟩
  go_wp2_with fail
  refine (header_any _ _).mono ?_;rintro e w' ⟨rfl,rfl⟩;go_wp2;go_ret;exact⟨rfl,(bRQ _ _).alloc (nLQ _) _⟩
 ·have e1:decide (p<0)=false:=by simp;omega
  have e2:decide (99<p)=false:=by simp;omega
  have e3:decide (o<0)=true:=by simp;omega
  go_enter func28,ntmps28
  go_wp2_with fail
  refine (header_any _ _).mono ?_;rintro e w' ⟨rfl,rfl⟩
  go_wp2_with fail
  refine (header_any _ _).mono ?_;rintro e w' ⟨rfl,rfl⟩;go_wp2;go_ret;exact⟨rfl,(bRQ _ _).alloc (nLQ _) _⟩
 have e1:decide (p<0)=false:=by simp;omega
 have e2:decide (99<p)=false:=by simp;omega
 have e3:decide (o<0)=false:=by simp;omega
 have e4:decide (4<o)=true:=by simp;omega
 go_enter func28,ntmps28
 go_wp2_with fail
 refine (header_any _ _).mono ?_;rintro e w' ⟨rfl,rfl⟩
 go_wp2_with fail
 refine (header_any _ _).mono ?_;rintro e w' ⟨rfl,rfl⟩;go_wp2;go_ret;exact⟨rfl,(bRQ _ _).alloc (nLQ _) _⟩
theorem refRule_set (p m b o s v:Int)(w:World)(h:ruP p o=true)(h2:rngB s v=false):
 Calls prog 28 #[.agg #[.int i64 p,.int i64 m,.int i64 b,.int i64 o,.int i64 s,.int i64 v]] w fun e w'=>e=.returned (.int i64 1)∧Below w.heap.size w w':=by
 obtain⟨e1,e2,e3,e4⟩:=ruP_of h;clear h;cases hs:hdrB s
 ·clear h2;go_enter func28,ntmps28
  go_wp2_with fail
  refine (header_any _ _).mono ?_;rintro e w' ⟨rfl,rfl⟩;rw[hs]
  go_wp2_with fail
  refine (header_any _ _).mono ?_;rintro e w' ⟨rfl,rfl⟩;go_wp2;go_ret;exact⟨rfl,(bRQ _ _).alloc (nLQ _) _⟩
 have hv:hdrB v=false:=by simpa[rngB,hs] using h2
 clear h2;go_enter func28,ntmps28
 go_wp2_with fail
 refine (header_any _ _).mono ?_;rintro e w' ⟨rfl,rfl⟩;rw[hs]
 go_wp2_with fail
 refine (header_any _ _).mono ?_;rintro e w' ⟨rfl,rfl⟩;rw[hv];go_wp2;go_ret;exact⟨rfl,(bRQ _ _).alloc (nLQ _) _⟩
theorem refRule_cube (p m b o s v:Int)(w:World)(h:ruP p o=true)(h2:rngB s v=true)(h3:okB m b=false):
 Calls prog 28 #[.agg #[.int i64 p,.int i64 m,.int i64 b,.int i64 o,.int i64 s,.int i64 v]] w fun e w'=>e=.returned (.int i64 (refN m b))∧Below w.heap.size w w':=by
 obtain⟨e1,e2,e3,e4⟩:=ruP_of h;have hs:hdrB s=true:=by simp only[rngB,Bool.and_eq_true] at h2;exact h2.1
 have hv:hdrB v=true:=by simp only[rngB,Bool.and_eq_true] at h2;exact h2.2
 have hn:(refN m b != 0)=true:=by have:=ok_refN m b;rw[h3] at this;simpa using this
 clear h h2 h3;go_enter func28,ntmps28
 go_wp2_with fail
 refine (header_any _ _).mono ?_;rintro e w' ⟨rfl,rfl⟩;rw[hs]
 go_wp2_with fail
 refine (header_any _ _).mono ?_;rintro e w' ⟨rfl,rfl⟩;rw[hv]
 go_wp2_with fail
 refine (refCube_any _ _ _).mono ?_;rintro e w1 ⟨rfl,hb1⟩;go_wp2;go_ret;exact⟨rfl,((bRQ _ _).alloc (nLQ _) _).trans (hb1.mono (by simp))⟩
theorem refRule_end (p m b o s v:Int)(w:World)(h:ruP p o=true)(h2:rngB s v=true)(h3:okB m b=true)(x:Int)(hx:x=if ruSet o s v then 0 else 3):
 Calls prog 28 #[.agg #[.int i64 p,.int i64 m,.int i64 b,.int i64 o,.int i64 s,.int i64 v]] w fun e w'=>e=.returned (.int i64 x)∧Below w.heap.size w w':=by
 obtain⟨e1,e2,e3,e4⟩:=ruP_of h;have hs:hdrB s=true:=by simp only[rngB,Bool.and_eq_true] at h2;exact h2.1
 have hv:hdrB v=true:=by simp only[rngB,Bool.and_eq_true] at h2;exact h2.2
 have hn:refN m b=0:=refN_ok h3;have hlt:w.heap.size<(w.alloc (.cells #[.int i64 p,.int i64 m,.int i64 b,.int i64 o,.int i64 s,.int i64 v] 35)).heap.size:=by simp
 have ha0:=set_okB h2;clear h h2 h3;cases ha:(bits .andNot .i64 v s==0)
 ·have hx3:x=3:=by rw[hx];simp[ruSet,ha]
  subst hx3;have hz:(refN s v != 0)=true:=by have:=ok_refN s v;rw[ha0,ha] at this;simpa using this
  clear hx ha0;go_enter func28,ntmps28
  go_wp2_with fail
  refine (header_any _ _).mono ?_;rintro e w' ⟨rfl,rfl⟩;rw[hs]
  go_wp2_with fail
  refine (header_any _ _).mono ?_;rintro e w' ⟨rfl,rfl⟩;rw[hv]
  go_wp2_with fail
  refine (refCube_any _ _ _).mono ?_;rintro e w1 ⟨rfl,hb1⟩;rw[hn];obtain⟨hc1,hf1⟩:=bcell hb1;have hB:=((Below.refl w.heap.size w).alloc (nLQ _) (Obj.cells #[.int i64 p,.int i64 m,.int i64 b,.int i64 o,.int i64 s,.int i64 v] 35)).trans (hb1.mono (by simp));have hlt2:w.heap.size<w1.heap.size:=by have:=hb1.size;omega
  clear hb1
  go_wp2_with fail
  refine (refCube_any _ _ _).mono ?_;rintro e w2 ⟨rfl,hb2⟩
  generalize refN s v=N at *
  obtain⟨hc2,hf2⟩:=bcell hb2;have hB2:=hB.trans (hb2.mono (by omega));clear hb2 hB;go_wp2;go_ret;exact⟨rfl,hB2⟩
 have hz:refN s v=0:=refN_ok (by rw[ha0,ha]);clear ha0;cases ho:(o==0)
 ·have hx3:x=0:=by rw[hx];simp[ruSet,ha,ho]
  subst hx3;clear hx;go_enter func28,ntmps28
  go_wp2_with fail
  refine (header_any _ _).mono ?_;rintro e w' ⟨rfl,rfl⟩;rw[hs]
  go_wp2_with fail
  refine (header_any _ _).mono ?_;rintro e w' ⟨rfl,rfl⟩;rw[hv]
  go_wp2_with fail
  refine (refCube_any _ _ _).mono ?_;rintro e w1 ⟨rfl,hb1⟩;rw[hn];obtain⟨hc1,hf1⟩:=bcell hb1;have hB:=((Below.refl w.heap.size w).alloc (nLQ _) (Obj.cells #[.int i64 p,.int i64 m,.int i64 b,.int i64 o,.int i64 s,.int i64 v] 35)).trans (hb1.mono (by simp));have hlt2:w.heap.size<w1.heap.size:=by have:=hb1.size;omega
  clear hb1
  go_wp2_with fail
  refine (refCube_any _ _ _).mono ?_;rintro e w2 ⟨rfl,hb2⟩;rw[hz];obtain⟨hc2,hf2⟩:=bcell hb2;have hB2:=hB.trans (hb2.mono (by omega));clear hb2 hB;go_wp2;go_ret;exact⟨rfl,hB2⟩
 have hz2:x=if (s==0) then 0 else 3:=by rw[hx];simp[ruSet,ha,ho]
 clear hx;cases hs0:(s==0)
 ·rw[hs0] at hz2;have hs1:(s != 0)=true:=by simpa using hs0
  simp only[Bool.false_eq_true,if_false] at hz2;subst hz2;go_enter func28,ntmps28
  go_wp2_with fail
  refine (header_any _ _).mono ?_;rintro e w' ⟨rfl,rfl⟩;rw[hs]
  go_wp2_with fail
  refine (header_any _ _).mono ?_;rintro e w' ⟨rfl,rfl⟩;rw[hv]
  go_wp2_with fail
  refine (refCube_any _ _ _).mono ?_;rintro e w1 ⟨rfl,hb1⟩;rw[hn];obtain⟨hc1,hf1⟩:=bcell hb1;have hB:=((Below.refl w.heap.size w).alloc (nLQ _) (Obj.cells #[.int i64 p,.int i64 m,.int i64 b,.int i64 o,.int i64 s,.int i64 v] 35)).trans (hb1.mono (by simp));have hlt2:w.heap.size<w1.heap.size:=by have:=hb1.size;omega
  clear hb1
  go_wp2_with fail
  refine (refCube_any _ _ _).mono ?_;rintro e w2 ⟨rfl,hb2⟩;rw[hz];obtain⟨hc2,hf2⟩:=bcell hb2;have hB2:=hB.trans (hb2.mono (by omega));clear hb2 hB;go_wp2;go_ret;exact⟨rfl,hB2⟩
 rw[hs0] at hz2;have hs1:(s != 0)=false:=by simpa using hs0
 simp only[if_true] at hz2;subst hz2;go_enter func28,ntmps28
 go_wp2_with fail
 refine (header_any _ _).mono ?_;rintro e w' ⟨rfl,rfl⟩;rw[hs]
 go_wp2_with fail
 refine (header_any _ _).mono ?_;rintro e w' ⟨rfl,rfl⟩;rw[hv]
 go_wp2_with fail
 refine (refCube_any _ _ _).mono ?_;rintro e w1 ⟨rfl,hb1⟩;rw[hn];obtain⟨hc1,hf1⟩:=bcell hb1;have hB:=((Below.refl w.heap.size w).alloc (nLQ _) (Obj.cells #[.int i64 p,.int i64 m,.int i64 b,.int i64 o,.int i64 s,.int i64 v] 35)).trans (hb1.mono (by simp));have hlt2:w.heap.size<w1.heap.size:=by have:=hb1.size;omega
 clear hb1
 go_wp2_with fail
 refine (refCube_any _ _ _).mono ?_;rintro e w2 ⟨rfl,hb2⟩;rw[hz];obtain⟨hc2,hf2⟩:=bcell hb2;have hB2:=hB.trans (hb2.mono (by omega));clear hb2 hB;go_wp2;go_ret;exact⟨rfl,hB2⟩
theorem refRule_any (p m b o s v:Int)(w:World):
 Calls prog 28 #[.agg #[.int i64 p,.int i64 m,.int i64 b,.int i64 o,.int i64 s,.int i64 v]] w fun e w'=>e=.returned (.int i64 (ruN p m b o s v))∧Below w.heap.size w w':=by
 cases h1:ruP p o
 ·have e:ruN p m b o s v=1:=by simp[ruN,ruIn,h1]
  rw[e];exact refRule_prio p m b o s v w h1
 cases h2:rngB s v
 ·have e:ruN p m b o s v=1:=by simp[ruN,ruIn,h2]
  rw[e];exact refRule_set p m b o s v w h1 h2
 cases h3:okB m b
 ·have e:ruN p m b o s v=refN m b:=by simp[ruN,ruIn,h1,h2,h3]
  rw[e];exact refRule_cube p m b o s v w h1 h2 h3
 exact refRule_end p m b o s v w h1 h2 h3 _ (by simp[ruN,ruIn,h1,h2,h3])
theorem rmsg_no (x0 x1 x2 x3 x4:Int)(x5:Bool)(x6 x7 x8 x9 x10 x11:Int)(w:World)(h:mgR ⟨x0,x1,x2,x3,⟨x4,x5,⟨x6,x7,x8,x9,x10,x11⟩⟩⟩=false):
 Calls prog 32 #[.agg #[.int i64 x0,.int i64 x1,.int i64 x2,.int i64 x3,.int i64 x4,.bool x5,.int i64 x6,.int i64 x7,.int i64 x8,.int i64 x9,.int i64 x10,.int i64 x11]] w fun e w'=>e=.returned (.int i64 1)∧Below w.heap.size w w':=by
 have HB0:Hid (Below w.heap.size w (w.alloc (.cells #[.int i64 x0,.int i64 x1,.int i64 x2,.int i64 x3,.int i64 x4,.bool x5,.int i64 x6,.int i64 x7,.int i64 x8,.int i64 x9,.int i64 x10,.int i64 x11] 39))):=(bRQ _ _).alloc (nLQ _) _;have h8:x0<1∨(¬x0<1∧3<x0)∨(¬x0<1∧¬3<x0∧x1<1)∨(¬x0<1∧¬3<x0∧¬x1<1∧6<x1)∨(¬x0<1∧¬3<x0∧¬x1<1∧¬6<x1∧x2<0)∨(¬x0<1∧¬3<x0∧¬x1<1∧¬6<x1∧¬x2<0∧19<x2)∨(¬x0<1∧¬3<x0∧¬x1<1∧¬6<x1∧¬x2<0∧¬19<x2∧x3<0)∨(¬x0<1∧¬3<x0∧¬x1<1∧¬6<x1∧¬x2<0∧¬19<x2∧¬x3<0∧200<x3):=by
  by_cases hR:(1≤x0∧x0≤3)∧(1≤x1∧x1≤6)∧(0≤x2∧x2≤19)∧(0≤x3∧x3≤200)
  ·have:=mg_rng (m:=⟨x0,x1,x2,x3,⟨x4,x5,⟨x6,x7,x8,x9,x10,x11⟩⟩⟩).2 hR;rw[h] at this;cases this
  omega
 clear h
 rcases h8 with a1 | ⟨a1,a2⟩ | ⟨a1,a2,a3⟩ | ⟨a1,a2,a3,a4⟩ | ⟨a1,a2,a3,a4,a5⟩ | ⟨a1,a2,a3,a4,a5,a6⟩ | ⟨a1,a2,a3,a4,a5,a6,a7⟩ | ⟨a1,a2,a3,a4,a5,a6,a7,a8⟩
 all_goals
  go_enter func32,ntmps32;go_wp2;go_ret;exact⟨rfl,HB0.out⟩
theorem rmsg_do (x1 x2 x3 x4:Int)(x5:Bool)(x6 x7 x8 x9 x10 x11:Int)(w:World)(h:mgR ⟨1,x1,x2,x3,⟨x4,x5,⟨x6,x7,x8,x9,x10,x11⟩⟩⟩=true):
 Calls prog 32 #[.agg #[.int i64 1,.int i64 x1,.int i64 x2,.int i64 x3,.int i64 x4,.bool x5,.int i64 x6,.int i64 x7,.int i64 x8,.int i64 x9,.int i64 x10,.int i64 x11]] w fun e w'=>e=.returned (.int i64 (moN ⟨x4,x5,⟨x6,x7,x8,x9,x10,x11⟩⟩ x1))∧Below w.heap.size w w':=by
 have HB0:Hid (Below w.heap.size w (w.alloc (.cells #[.int i64 1,.int i64 x1,.int i64 x2,.int i64 x3,.int i64 x4,.bool x5,.int i64 x6,.int i64 x7,.int i64 x8,.int i64 x9,.int i64 x10,.int i64 x11] 39))):=(bRQ _ _).alloc (nLQ _) _;have HC0:Hid (MgC (w.alloc (.cells #[.int i64 1,.int i64 x1,.int i64 x2,.int i64 x3,.int i64 x4,.bool x5,.int i64 x6,.int i64 x7,.int i64 x8,.int i64 x9,.int i64 x10,.int i64 x11] 39)) w.heap.size 1 x1 x2 x3 x4 x5 x6 x7 x8 x9 x10 x11):=mgc_new w 1 x1 x2 x3 x4 x5 x6 x7 x8 x9 x10 x11 _;obtain⟨_,⟨a3,a4⟩,⟨a5,a6⟩,⟨a7,a8⟩⟩:=mg_rng.1 h;simp only at a3 a4 a5 a6 a7 a8;have b3:¬x1<1:=by omega
 have b4:¬6<x1:=by omega
 have b5:¬x2<0:=by omega
 have b6:¬19<x2:=by omega
 have b7:¬x3<0:=by omega
 have b8:¬200<x3:=by omega
 clear h a3 a4 a5 a6 a7 a8;obtain⟨N,hN⟩:∃N,N=ruN x6 x7 x8 x9 x10 x11:=⟨_,rfl⟩;have HN:Hid (ruN x6 x7 x8 x9 x10 x11=N):=hN.symm;obtain⟨M,hM⟩:∃M,M=moN ⟨x4,x5,⟨x6,x7,x8,x9,x10,x11⟩⟩ x1:=⟨_,rfl⟩;have HM:Hid (M=if N=0 then (if x4=x1 then 0 else 3) else N):=by show _=_;rw[hM,hN];rfl
 rw[←hM];clear hN hM;by_cases h0:N=0
 ·subst h0;by_cases h1:x4=x1
  ·have f1:(x4 != x1)=false:=by simp[h1]
   have HM2:Hid (M=0):=by show _=_;rw[HM.out,if_pos rfl,if_pos h1]
   clear h1;go_enter func32,ntmps32
   go_wp2_with fail
   refine (refRule_any x6 x7 x8 x9 x10 x11 _).mono ?_;rintro e w1 ⟨rfl,hb1⟩;have HB1:Hid (Below w.heap.size w w1):=HB0.out.trans (hb1.mono HB0.out.size);obtain⟨c0,c1,c2,c3,c4,c5,c6,c7,c8,c9,c10,c11⟩:=HC0.out.later hb1;rw[HN.out];clear hb1;go_wp2;go_ret;exact⟨by rw[HM2.out];rfl,HB1.out⟩
  have f1:(x4 != x1)=true:=by simpa using h1
  have HM2:Hid (M=3):=by show _=_;rw[HM.out,if_pos rfl,if_neg h1]
  go_enter func32,ntmps32
  go_wp2_with fail
  refine (refRule_any x6 x7 x8 x9 x10 x11 _).mono ?_;rintro e w1 ⟨rfl,hb1⟩;have HB1:Hid (Below w.heap.size w w1):=HB0.out.trans (hb1.mono HB0.out.size);obtain⟨c0,c1,c2,c3,c4,c5,c6,c7,c8,c9,c10,c11⟩:=HC0.out.later hb1;rw[HN.out];clear hb1;go_wp2;go_ret;exact⟨by rw[HM2.out];rfl,HB1.out⟩
 have f0:(N != 0)=true:=by simpa using h0
 have HM2:Hid (M=N):=by show _=_;rw[HM.out,if_neg h0]
 go_enter func32,ntmps32
 go_wp2_with fail
 refine (refRule_any x6 x7 x8 x9 x10 x11 _).mono ?_;rintro e w1 ⟨rfl,hb1⟩;have HB1:Hid (Below w.heap.size w w1):=HB0.out.trans (hb1.mono HB0.out.size);rw[HN.out];clear hb1;go_wp2;go_ret;exact⟨by rw[HM2.out];rfl,HB1.out⟩
theorem rmsg_else (x0 x1 x2 x3 x4:Int)(x5:Bool)(x6 x7 x8 x9 x10 x11:Int)(w:World)(hk:x0=2∨x0=3)(h:mgR ⟨x0,x1,x2,x3,⟨x4,x5,⟨x6,x7,x8,x9,x10,x11⟩⟩⟩=true):
 Calls prog 32 #[.agg #[.int i64 x0,.int i64 x1,.int i64 x2,.int i64 x3,.int i64 x4,.bool x5,.int i64 x6,.int i64 x7,.int i64 x8,.int i64 x9,.int i64 x10,.int i64 x11]] w fun e w'=>e=.returned (.int i64 (elN (oqB ⟨x4,x5,⟨x6,x7,x8,x9,x10,x11⟩⟩ zeP) x0 x3))∧Below w.heap.size w w':=by
 have HB0:Hid (Below w.heap.size w (w.alloc (.cells #[.int i64 x0,.int i64 x1,.int i64 x2,.int i64 x3,.int i64 x4,.bool x5,.int i64 x6,.int i64 x7,.int i64 x8,.int i64 x9,.int i64 x10,.int i64 x11] 39))):=(bRQ _ _).alloc (nLQ _) _;have HC0:Hid (MgC (w.alloc (.cells #[.int i64 x0,.int i64 x1,.int i64 x2,.int i64 x3,.int i64 x4,.bool x5,.int i64 x6,.int i64 x7,.int i64 x8,.int i64 x9,.int i64 x10,.int i64 x11] 39)) w.heap.size x0 x1 x2 x3 x4 x5 x6 x7 x8 x9 x10 x11):=mgc_new w x0 x1 x2 x3 x4 x5 x6 x7 x8 x9 x10 x11 _;obtain⟨_,⟨a3,a4⟩,⟨a5,a6⟩,⟨a7,a8⟩⟩:=mg_rng.1 h;simp only at a3 a4 a5 a6 a7 a8;have b3:¬x1<1:=by omega
 have b4:¬6<x1:=by omega
 have b5:¬x2<0:=by omega
 have b6:¬19<x2:=by omega
 have b7:¬x3<0:=by omega
 have b8:¬200<x3:=by omega
 clear h a3 a4 a5 a6 a7 a8;obtain⟨c,hc⟩:∃c,c=opB ⟨x4,x5,⟨x6,x7,x8,x9,x10,x11⟩⟩ ⟨0,false,⟨0,0,0,0,0,0⟩⟩:=⟨_,rfl⟩;have HC:Hid (opB ⟨x4,x5,⟨x6,x7,x8,x9,x10,x11⟩⟩ ⟨0,false,⟨0,0,0,0,0,0⟩⟩=c):=hc.symm;rw[show oqB ⟨x4,x5,⟨x6,x7,x8,x9,x10,x11⟩⟩ zeP=c from hc.symm];clear hc;obtain⟨q,hq⟩:∃q,q=(!c || (decide (x0=3) && !(decide (x3=0)))):=⟨_,rfl⟩;have HQ:Hid (q=(!c || (decide (x0=3) && !(decide (x3=0))))):=hq;have HE:Hid (elN c x0 x3=if q then 3 else 0):=by
  show _=_;rw[elN,hq];cases c <;> cases decide (x0=3) <;> cases decide (x3=0) <;> rfl
 rw[HE.out];clear hq HE;have h30:x3=0∨(¬x3=0∧(x3 != 0)=true):=by
  by_cases h0:x3=0
  ·exact .inl h0
  exact .inr ⟨h0,by simpa using h0⟩
 obtain⟨N,hN⟩:∃N:Int,N=if q then 3 else 0:=⟨_,rfl⟩
 have HN:Hid (N=if q then 3 else 0):=hN;rw[←hN];clear hN;obtain⟨d,hd⟩:∃d,d=decide (x3=0):=⟨_,rfl⟩;have HD:Hid (decide (x3=0)=d):=hd.symm;have hd2:(x3==0)=d:=by rw[hd];rfl
 have hd3:(x3 != 0) = !d:=by rw[hd];rfl
 clear hd h30;obtain⟨w1,hw1⟩:∃V,V=w.alloc (.cells #[.int i64 x0,.int i64 x1,.int i64 x2,.int i64 x3,.int i64 x4,.bool x5,.int i64 x6,.int i64 x7,.int i64 x8,.int i64 x9,.int i64 x10,.int i64 x11] 39):=⟨_,rfl⟩;rw[←hw1] at HC0 HB0;have HW1:Hid (w.alloc (.cells #[.int i64 x0,.int i64 x1,.int i64 x2,.int i64 x3,.int i64 x4,.bool x5,.int i64 x6,.int i64 x7,.int i64 x8,.int i64 x9,.int i64 x10,.int i64 x11] 39)=w1):=hw1.symm;clear hw1;cases d
 all_goals
  rcases hk with rfl | rfl
  all_goals
   go_enter func32,ntmps32;go_upto_region 4 with fail;rw[HW1.out];obtain⟨c0,c1,c2,c3,c4,c5,c6,c7,c8,c9,c10,c11⟩:=HC0.out
   go_cut [58] from 45 (fun v w'=>v=.bool q∧w'=w1)
   case first =>
    rcases op_ways x4 x5 x6 x7 x8 x9 x10 x11 0 false 0 0 0 0 0 0 with ⟨e0,e⟩ | ⟨e0,e1,e⟩ | ⟨e0,e1,e2,e⟩ | ⟨e0,e1,e2,e3,e⟩ | ⟨e0,e1,e2,e3,e4,e⟩ | ⟨e0,e1,e2,e3,e4,e5,e⟩ | ⟨e0,e1,e2,e3,e4,e5,e6,e⟩ | ⟨e0,e1,e2,e3,e4,e5,e6,e7,e⟩ | ⟨e0,e1,e2,e3,e4,e5,e6,e7,e⟩
    all_goals
     rw[HC.out] at e;have HE:Hid (c=_):=e;clear e
     as_aux_lemma =>
      go_wp2_with fail
      go_meet
      exact⟨by rw[HQ.out,HE.out,HD.out];rfl,rfl⟩
   case rest =>
    obtain⟨rfl,hwc⟩:=hcut;have hwc2:=hwc.symm;clear hwc;subst hwc2;clear c0 c1 c2 c3 c4 c5 c6 c7 c8 c9 c10 c11;cases q with
    | false =>
      go_wp2;go_ret;exact⟨by rw[HN.out];rfl,HB0.out⟩
    | true =>
      go_wp2;go_ret;exact⟨by rw[HN.out];rfl,HB0.out⟩
theorem rmsg_any (x0 x1 x2 x3 x4:Int)(x5:Bool)(x6 x7 x8 x9 x10 x11:Int)(w:World):
 Calls prog 32 #[.agg #[.int i64 x0,.int i64 x1,.int i64 x2,.int i64 x3,.int i64 x4,.bool x5,.int i64 x6,.int i64 x7,.int i64 x8,.int i64 x9,.int i64 x10,.int i64 x11]] w fun e w'=>e=.returned (.int i64 (mgN ⟨x0,x1,x2,x3,⟨x4,x5,⟨x6,x7,x8,x9,x10,x11⟩⟩⟩))∧Below w.heap.size w w':=by
 cases hR:mgR ⟨x0,x1,x2,x3,⟨x4,x5,⟨x6,x7,x8,x9,x10,x11⟩⟩⟩
 ·rw[mg_no hR];exact rmsg_no x0 x1 x2 x3 x4 x5 x6 x7 x8 x9 x10 x11 w hR
 have hk:=(mg_rng.1 hR).1;by_cases h1:x0=1
 ·subst h1;rw[mg_do hR rfl];exact rmsg_do x1 x2 x3 x4 x5 x6 x7 x8 x9 x10 x11 w hR
 rw[mg_els hR h1];exact rmsg_else x0 x1 x2 x3 x4 x5 x6 x7 x8 x9 x10 x11 w (by simp only at hk;omega) hR
theorem in_row1 (W:World)(x:Int)(t:TypeId):GS inE (W.alloc (.cells #[.int i64 x] t)) (.slice (some ⟨W.heap.size,0,none⟩) 1 1) [x]:=by
 refine .inr ⟨W.heap.size,0,1,rfl,nLQ _,by unfold maxLen;omega,fun i hi=>?_⟩;have hi0:i=0:=by simpa using hi
 subst hi0;exact vat_new W [.int i64 x] t
theorem dvh_same {w w':World}{p B0:Nat}{O:Nat→Prop}{D:DrT}{E:Int}(h:DrR w p B0 O D)(hb:Below w.heap.size w w'):DvH DrR (.int i64) w p B0 O D E (.returned (.int i64 E)) w':=
 ⟨rfl,O,h.kb (Kb.of_below hb fun b hl _=>hl),fun b h=>.inl h,Kb.of_below hb fun b hl _=>hl⟩
theorem rdhear_any {p B0:Nat}{O:Nat→Prop}{D:DrT}{xr xl:SlT}{K:Nat}(x0 x1 x2 x3 x4:Int)(x5:Bool)(x6 x7 x8 x9 x10 x11:Int)(w:World)(h:RfD w p B0 O D xr xl)(hok:DrOK D K):
 Calls prog 16 #[.pointer (some ⟨p,0,none⟩),.agg #[.int i64 x0,.int i64 x1,.int i64 x2,.int i64 x3,.int i64 x4,.bool x5,.int i64 x6,.int i64 x7,.int i64 x8,.int i64 x9,.int i64 x10,.int i64 x11]] w fun e w' =>
  DvH DrR (.int i64) w p B0 O (dhS D ⟨x0,x1,x2,x3,⟨x4,x5,⟨x6,x7,x8,x9,x10,x11⟩⟩⟩) (dhN D ⟨x0,x1,x2,x3,⟨x4,x5,⟨x6,x7,x8,x9,x10,x11⟩⟩⟩) e w':=by
 obtain⟨ar,nr,cr⟩:=xr;obtain⟨al,nl,cl⟩:=xl;have HH:Hid (RfD w p B0 O D (ar,nr,cr) (al,nl,cl)):=h;obtain⟨m,hm⟩:∃m:Mg,m=⟨x0,x1,x2,x3,⟨x4,x5,⟨x6,x7,x8,x9,x10,x11⟩⟩⟩:=⟨_,rfl⟩;have HM:Hid (m.k=x0∧m.s=x1∧m.r=x2):=by rw[hm];exact⟨rfl,rfl,rfl⟩
 obtain⟨wb,hwb⟩:∃V,V=w.alloc (.cells #[.int i64 x0,.int i64 x1,.int i64 x2,.int i64 x3,.int i64 x4,.bool x5,.int i64 x6,.int i64 x7,.int i64 x8,.int i64 x9,.int i64 x10,.int i64 x11] 39):=⟨_,rfl⟩;have HWB:Hid (w.alloc (.cells #[.int i64 x0,.int i64 x1,.int i64 x2,.int i64 x3,.int i64 x4,.bool x5,.int i64 x6,.int i64 x7,.int i64 x8,.int i64 x9,.int i64 x10,.int i64 x11] 39)=wb):=hwb.symm;have hbb:Below w.heap.size w wb:=by rw[hwb];exact (bRQ _ _).alloc (nLQ _) _
 have hmc:MgC wb w.heap.size x0 x1 x2 x3 x4 x5 x6 x7 x8 x9 x10 x11:=by rw[hwb];exact mgc_new w x0 x1 x2 x3 x4 x5 x6 x7 x8 x9 x10 x11 _
 have HBB:Hid (Below w.heap.size w wb):=hbb;obtain⟨q0,q1,q2,q3,q4,q5,q6,q7,q8,q9,q10,q11⟩:=hmc;have HQ:Hid (∀V,Below wb.heap.size wb V→V.cell? ⟨w.heap.size,0,none⟩=some (.int i64 x0)∧V.cell? ⟨w.heap.size,1,none⟩=some (.int i64 x1)∧V.cell? ⟨w.heap.size,2,none⟩=some (.int i64 x2)):=fun V hV=>⟨cell_later hV q0,cell_later hV q1,cell_later hV q2⟩
 obtain⟨Z,hZ⟩:∃Z,Z=mgN m:=⟨_,rfl⟩;have HZ:Hid (mgN m=Z):=hZ.symm;have HOK:Hid (DrOK D K):=hok;have HR3:Hid (¬(Z=0∧x0=3)→∀w',Below w.heap.size w w'→DvH DrR (.int i64) w p B0 O (dhS D m) (dhN D m) (.returned (.int i64 3)) w'):=fun hn w' hb=>by
  have e:dhN D m=3:=by
   rw[dhN,if_neg];rintro⟨h1,h2⟩;exact hn ⟨by rw[hZ];exact h1,by rw[←HM.out.1];exact h2⟩
  rw[dhS,e,if_neg (by omega)];exact dvh_same ⟨_,_,HH.out⟩ hb
 have hz':mgN ⟨x0,x1,x2,x3,⟨x4,x5,⟨x6,x7,x8,x9,x10,x11⟩⟩⟩=Z:=by rw[hZ,hm]
 have HZ2:Hid (mgN ⟨x0,x1,x2,x3,⟨x4,x5,⟨x6,x7,x8,x9,x10,x11⟩⟩⟩=Z):=hz';rw[←hm];clear h hok hm hwb hbb hZ hz';go_enter func16,ntmps16;go_upto_region 1 with fail;rw[HWB.out];clear HWB
 go_wp2_with fail
 refine (rmsg_any x0 x1 x2 x3 x4 x5 x6 x7 x8 x9 x10 x11 _).mono ?_;rintro e w1 ⟨rfl,hb1⟩;rw[HZ2.out];have HB1:Hid (Below wb.heap.size wb w1):=hb1;have HBW:Hid (Below w.heap.size w w1):=HBB.out.trans (hb1.mono HBB.out.size);obtain⟨r0,r1,r2⟩:=HQ.out _ hb1;clear hb1 q0 q1 q2 q3 q4 q5 q6 q7 q8 q9 q10 q11 HZ2;by_cases hz0:Z=0
 ·subst hz0;by_cases h3:x0=3
  ·subst h3;have HL1:Hid (∀V,Below w1.heap.size w1 V→RfD V p B0 O D (ar,nr,cr) (al,nl,cl)∧V.cell? ⟨w.heap.size,1,none⟩=some (.int i64 x1)∧V.cell? ⟨w.heap.size,2,none⟩=some (.int i64 x2)):=fun V hV =>
    ⟨HH.out.later (HBW.out.trans (hV.mono HBW.out.size)),(HQ.out V (HB1.out.trans (hV.mono HB1.out.size))).2⟩
   have c3:w1.cell? ⟨p,3,none⟩=some (.slice al nl cl):=(HL1.out _ (bRQ _ _)).1.c3;go_upto_region 3 with fail
   go_cut [5] from 14 to 20 (fun v w'=>v=.bool (inD D x1)∧Below w1.heap.size w1 w')
   case first =>
    go_region_with (go_at_call 33;refine (in_any al nl cl D.l x1 _ ((HL1.out _ (by first | exact Below.drew (bRQ _ _) | exact bRQ _ _)).1.l)).mono ?_;rintro e w9 ⟨rfl,rfl⟩)
    all_goals (go_wp2_with fail;go_meet)
    all_goals exact⟨rfl,Below.drew (bRQ _ _)⟩
   case rest =>
    obtain⟨rfl,hb2⟩:=hcut;obtain⟨w2,hw2⟩:∃V,V=wc:=⟨_,rfl⟩;subst hw2;have HB2:Hid (Below w1.heap.size w1 w2):=hb2;have HBX:Hid (Below w.heap.size w w2):=HBW.out.trans (hb2.mono HBW.out.size);have HL2:Hid (∀V,Below w2.heap.size w2 V→RfD V p B0 O D (ar,nr,cr) (al,nl,cl)∧V.cell? ⟨w.heap.size,1,none⟩=some (.int i64 x1)∧V.cell? ⟨w.heap.size,2,none⟩=some (.int i64 x2)):=fun V hV =>
     HL1.out V (HB2.out.trans (hV.mono HB2.out.size))
    obtain⟨hx,y1,y2⟩:=HL2.out w2 (bRQ _ _);obtain⟨s,hs⟩:∃s:Int,s=(D.s:Int):=⟨_,rfl⟩;have HS:Hid (s=(D.s:Int)):=hs;have c2:w2.cell? ⟨p,2,none⟩=some (.int i64 s):=by rw[hs];exact hx.c2
    have hs20:D.s≤20:=Nat.le_trans HOK.out.s HOK.out.L;have hs0:0≤s:=by omega
    have hs2:s≤20:=by omega
    have hwr:IntKind.i64.wrap (s-1)=s-1:=by rw[IntKind.wrap_i64];omega
    obtain⟨B,hB⟩:∃B,B=inD D x1:=⟨_,rfl⟩;have HBI:Hid (inD D x1=B):=hB.symm;rw[←hB];have HMZ:Hid (mgN m=0∧m.k=3):=⟨HZ.out,HM.out.1⟩;clear hb2 hx hs hs20 hB r0 r1 r2 c3 HL1;by_cases hr:x2=s-1
    ·have hr1:(x2 != s-1)=false:=by simp[hr]
     have HRX:Hid (x2=s-1):=hr;clear hr;cases B with
     | false =>
       have HE:Hid (dhN D m=6):=by
        show _=_;rw[dhN,if_pos HMZ.out,if_neg];rintro⟨_,h2⟩;rw[HM.out.2.1,HBI.out] at h2;cases h2
       go_upto_region 4 with fail
       go_quiet (fail)
       have HF:Hid (DvH DrR (.int i64) w p B0 O (dhS D m) (dhN D m) (.returned (.int i64 6)) (w2.drewN nq)):=by
        show DvH _ _ _ _ _ _ _ _ _ _;rw[dhS,HE.out,if_neg (by omega)];exact dvh_same ⟨_,_,HH.out⟩ (HBX.out.trans ((below_drwN w2 nq).mono HBX.out.size))
       go_wp2;go_ret;exact HF.out
     | true =>
       have HE:Hid (dhN D m=0):=by
        show _=_;rw[dhN,if_pos HMZ.out,if_pos];refine⟨?_,?_⟩
        ·rw[HM.out.2.2,HRX.out,HS.out]
        rw[HM.out.2.1];exact HBI.out
       have HD2:Hid (dhS D m={ D with l:=wtI D.l [x1] }):=by
        show _=_;rw[dhS,if_pos HE.out,HM.out.2.1]
       go_upto_region 4 with fail
       go_quiet (fail)
       obtain⟨w3,hw3⟩:∃V,V=w2.drewN nq:=⟨_,rfl⟩;have HB3:Hid (Below w2.heap.size w2 w3):=by show Below _ _ _;rw[hw3];exact below_drwN _ _
       rw[←hw3];have HBY:Hid (Below w.heap.size w w3):=HBX.out.trans (HB3.out.mono HBX.out.size);have HL3:Hid (∀V,Below w3.heap.size w3 V→RfD V p B0 O D (ar,nr,cr) (al,nl,cl)∧V.cell? ⟨w.heap.size,1,none⟩=some (.int i64 x1)):=fun V hV =>
        ⟨(HL2.out V (HB3.out.trans (hV.mono HB3.out.size))).1,(HL2.out V (HB3.out.trans (hV.mono HB3.out.size))).2.1⟩
       have c3:w3.cell? ⟨p,3,none⟩=some (.slice al nl cl):=(HL3.out _ (bRQ _ _)).1.c3;have d1:w3.cell? ⟨w.heap.size,1,none⟩=some (.int i64 x1):=(HL3.out _ (bRQ _ _)).2;have f3:w3.frozen? ⟨p,3,none⟩=false:=(HL3.out _ (bRQ _ _)).1.f 3;have hn6:D.l.length≤1000:=by have:=HOK.out.six;omega
       clear hw3 y1 y2 c2 HL2;go_upto_region 6 with fail
       go_cut [] from 33 to 43 (fun w'=>∃(w4:World) (a3:AdQ) (m3 c3:Nat),Below w3.heap.size w3 w4∧GS inE w4 (.slice a3 m3 c3) (wtI D.l [x1])∧(∀ad,a3=some ad→w3.heap.size≤ad.block)∧w'=w4.setCell ⟨p,3,none⟩ (.slice a3 m3 c3))
       case first =>
        have HCW:Hid (∀V,Below w3.heap.size w3 V→Calls prog 34 #[.slice al nl cl,.slice (some ⟨V.heap.size,0,none⟩) 1 1] (V.alloc (.cells #[.int i64 x1] 3)) fun e w9 =>
         ∃a3 m3 c4,e=.returned (.slice a3 m3 c4)∧Below w3.heap.size w3 w9∧GS inE w9 (.slice a3 m3 c4) (wtI D.l [x1])∧(∀ad,a3=some ad→w3.heap.size≤ad.block)∧w9.cell? ⟨p,3,none⟩=some (.slice al nl cl)∧w9.frozen? ⟨p,3,none⟩=false):=fun V hV=>by
         have hbe:Below w3.heap.size w3 (V.alloc (.cells #[.int i64 x1] 3)):=hV.alloc hV.size _;refine (rwithout_own al nl cl _ 1 1 D.l [x1] _ ((HL3.out _ hbe).1.l) (in_row1 _ _ _) hn6).mono ?_;rintro e w9 ⟨a3,m3,c4,rfl,hg3,hn3,hb3⟩;have hb9:Below w3.heap.size w3 w9:=hbe.trans (hb3.mono hbe.size);exact⟨a3,m3,c4,rfl,hb9,hg3,fun ad ha=>Nat.le_trans hbe.size (hn3 ad ha),(HL3.out _ hb9).1.c3,(HL3.out _ hb9).1.f 3⟩
        have gp:p<w3.heap.size:=bLQ _ _ c3;have gm:w.heap.size<w3.heap.size:=bLQ _ _ d1
        go_region_with (go_at_call 34;refine (HCW.out _ (by first | exact Below.drew (bRQ _ _) | exact bRQ _ _)).mono ?_;rintro e w9 ⟨a3,m3,c4,rfl,hb9,hg9,hn9,g3,gf⟩;have HB9:Hid (Below w3.heap.size w3 w9):=hb9;have HN9:Hid (∀ad,a3=some ad→w3.heap.size≤ad.block):=hn9;have HG9:Hid (GS inE w9 (.slice a3 m3 c4) (wtI D.l [x1])):=hg9;clear hb9 hg9 hn9)
        all_goals (go_wp2_with fail;go_meet)
        all_goals exact⟨_,_,_,_,HB9.out,HG9.out,HN9.out,rfl⟩
       case rest =>
        obtain⟨w4,a3,m3,c3,hb4,hg4,hn4,rfl⟩:=hcut;have HFF:Hid (DvH DrR (.int i64) w p B0 O (dhS D m) (dhN D m) (.returned (.int i64 0)) (w4.setCell ⟨p,3,none⟩ (.slice a3 m3 c3))):=by
         show DvH _ _ _ _ _ _ _ _ _ _;rw[HE.out,HD2.out];have hpO:=HH.out.pO;have hpl:=(HH.out.lt p hpO).2;have hs3:=HBY.out.size;have h5:=((HL3.out w4 hb4).1).set3 (y:=(a3,m3,c3)) hg4 fun ad ha=>by
          have h6:=hn4 ad ha;have h7:=HH.out.low;omega
         have h4:Kb (fun b=>¬O b) w w4:=Kb.of_below (HBY.out.trans (hb4.mono HBY.out.size)) fun b hl _=>hl
         refine⟨rfl,_,⟨_,_,h5⟩,fun b hb=>?_,h4.setCell (fun _ hn=>hn hpO) _⟩
         rcases hb with hb | ⟨ad,ha,_,rfl⟩
         ·exact .inl hb
         have h6:=hn4 ad ha;exact .inr (by omega)
        clear hb4 hg4 hn4;go_wp2;go_ret;exact HFF.out
    have hr1:(x2 != s-1)=true:=by simp[hr]
    have HE:Hid (dhN D m=6):=by
     show _=_;rw[dhN,if_pos HMZ.out,if_neg];rintro⟨h1,_⟩;rw[HM.out.2.2,←HS.out] at h1;exact hr h1
    go_upto_region 4 with fail
    go_quiet (fail)
    have HF:Hid (DvH DrR (.int i64) w p B0 O (dhS D m) (dhN D m) (.returned (.int i64 6)) (w2.drewN nq)):=by
     show DvH _ _ _ _ _ _ _ _ _ _;rw[dhS,HE.out,if_neg (by omega)];exact dvh_same ⟨_,_,HH.out⟩ (HBX.out.trans ((below_drwN w2 nq).mono HBX.out.size))
    go_wp2;go_ret;exact HF.out
  have HF:Hid (DvH DrR (.int i64) w p B0 O (dhS D m) (dhN D m) (.returned (.int i64 3)) w1):=HR3.out (fun h=>h3 h.2) _ HBW.out;go_wp2;go_ret;exact HF.out
 have HF:Hid (DvH DrR (.int i64) w p B0 O (dhS D m) (dhN D m) (.returned (.int i64 3)) w1):=HR3.out (fun h=>hz0 h.1) _ HBW.out;have hzb:(Z != 0)=true:=by simp[hz0]
 go_wp2;go_ret;exact HF.out
theorem rd_step {L:List (List Op8)}{i:Nat}(hi:i<L.length):rdF (L.drop i)=(if osF L[i]=0 then rdF (L.drop (i+1)) else osF L[i]):=by
 rw[List.drop_eq_getElem_cons hi];rfl
theorem os_step {r:List Op8}{j:Nat}(hj:j<r.length):osF (r.drop j)=(if opF r[j]=0 then osF (r.drop (j+1)) else opF r[j]):=by
 rw[List.drop_eq_getElem_cons hj];rfl
theorem few_not {L:List (List Op8)}{i:Nat}(hi:i<L.length)(h:200<L[i].length):fewB L=false:=by
 rw[fewB,List.all_eq_false];exact⟨L[i],List.getElem_mem _,by simp;omega⟩
theorem few_all {L:List (List Op8)}(h:∀i (hi:i<L.length),L[i].length≤200):fewB L=true:=by
 rw[fewB,List.all_eq_true];intro r hr;obtain⟨i,hi,rfl⟩:=List.getElem_of_mem hr;simp[h i hi]
theorem rrounds_any (ao:AdQ)(n cap:Nat)(L:List (List Op8))(T:Int)(w:World)(h:RS w (.slice ao n cap) L):
 Calls prog 12 #[.slice ao n cap,.int i64 T] w fun e w'=>e=.returned (.int i64 (rsF L T))∧Below w.heap.size w w':=by
 have HN:Hid (L.length=n):=h.len;have HR:Hid (∀V,Below w.heap.size w V→RS V (.slice ao n cap) L):=fun V hV=>h.later hV
 have hnm:n≤maxLen:=by
  obtain⟨_,_,_,e,h1,h2,_⟩:=h.form;cases e;exact h2
 unfold maxLen at hnm;obtain⟨Z,hZ⟩:∃Z,Z=rsF L T:=⟨_,rfl⟩;have HZ:Hid (Z=rsF L T):=hZ;rw[←hZ];clear h hZ;go_enter func12,ntmps12;by_cases hT:T<1
 ·have HF:Hid (Z=1):=by
   show _=_;rw[HZ.out,rsF,if_neg (by omega)]
  go_wp2;go_ret;exact⟨by rw[HF.out];rfl,bRQ _ _⟩
 by_cases hT2:T > 100
 ·have HF:Hid (Z=1):=by
   show _=_;rw[HZ.out,rsF,if_neg (by omega)]
  go_wp2;go_ret;exact⟨by rw[HF.out];rfl,bRQ _ _⟩
 by_cases hn20:(n:Int) > 20
 ·have HF:Hid (Z=4):=by
   show _=_;have:=HN.out;rw[HZ.out,rsF,if_pos (by omega),if_neg (by omega)]
  go_wp2;go_ret;exact⟨by rw[HF.out];rfl,bRQ _ _⟩
 have HZ2:Hid (Z=if fewB L=true then rdF L else 4):=by
  show _=_;have:=HN.out;rw[HZ.out,rsF,if_pos (by omega)];by_cases hf:fewB L=true
  ·rw[if_pos ⟨by omega,hf⟩,if_pos hf]
  rw[if_neg (fun h=>hf h.2),if_neg hf]
 go_wp2
 go_loopw [5] (fun i wr=>∃k:Nat,k≤n∧i=.int i64 (k:Int)∧(∀j (hj:j<L.length),j<k→L[j].length≤200)∧Below w.heap.size w wr) (fun i _=>n-(intOf i).toNat)
 case atStart=>exact⟨0,by omega,rfl,fun j hj h=>by omega,bRQ _ _⟩
 case round =>
  obtain⟨k,hk,rfl,hf,hb⟩:=hrel;obtain⟨wy,hwy⟩:∃X,X=wr:=⟨_,rfl⟩;subst hwy;have HF:Hid (∀j (hj:j<L.length),j<k→L[j].length≤200):=hf;have HB:Hid (Below w.heap.size w wy):=hb;clear hf hb;by_cases hkn:k<n
  ·obtain⟨g,o,R,a1,n1,c1,hao,hRs,hc,hG⟩:=(HR.out wy HB.out).at hkn;subst hao;have hkl:k<L.length:=by rw[HN.out];exact hkn
   have hLk:L[k]=R:=by
    have:=List.getElem?_eq_getElem hkl;rw[this] at hRs;cases hRs;rfl
   have hn1:R.length=n1:=hG.len;have kb0:(0:Int)≤(k:Int):=by omega
   have kb1:(k:Int)<(n:Int):=by omega
   by_cases h200:(n1:Int) > 200
   ·have HZ4:Hid (Z=4):=by
     show _=_;rw[HZ2.out,few_not hkl (by rw[hLk];omega)];rfl
    clear hG hRs hLk;go_wp2;go_ret;exact⟨by rw[HZ4.out];rfl,HB.out⟩
   have HF2:Hid (∀j (hj:j<L.length),j<k+1→L[j].length≤200):=fun j hj hjk=>by
    by_cases e:j=k
    ·subst e;rw[hLk];omega
    exact HF.out j hj (by omega)
   clear hG hRs hLk;go_wp2;go_roundw
   case rel=>exact⟨k+1,by omega,by go_num,HF2.out,HB.out⟩
   case measure=>simp[intOf];omega
  obtain rfl:k=n:=by omega
  have HZ3:Hid (Z=rdF L):=by
   show _=_;rw[HZ2.out,few_all (fun i hi=>HF.out i hi (by rw[←HN.out];exact hi))];rfl
  clear HZ2 HF;go_wp2
  go_loopw [6] (fun i wr=>∃q:Nat,q≤k∧i=.int i64 (q:Int)∧Z=rdF (L.drop q)∧Below w.heap.size w wr) (fun i _=>k-(intOf i).toNat)
  case atStart=>exact⟨0,by omega,rfl,HZ3.out,HB.out⟩
  case round =>
   obtain⟨q,hq,rfl,hz,hb⟩:=hrel;obtain⟨wz,hwz⟩:∃X,X=wr:=⟨_,rfl⟩;subst hwz;have HZ4:Hid (Z=rdF (L.drop q)):=hz;have HB4:Hid (Below w.heap.size w wz):=hb;clear hz hb HZ3 HB;by_cases hqk:q<k
   ·obtain⟨g,o,R,a1,n1,c1,hao,hRs,hc,hG⟩:=(HR.out wz HB4.out).at hqk;subst hao;have hkl:q<L.length:=by rw[HN.out];exact hqk
    have hLk:L[q]=R:=by
     have:=List.getElem?_eq_getElem hkl;rw[this] at hRs;cases hRs;rfl
    have HR1:Hid (R.length=n1):=hG.len;have hn1:n1≤maxLen:=by
     obtain⟨_,_,_,e,h1,h2,_⟩:=hG.form;cases e;exact h2
    unfold maxLen at hn1;have HZ5:Hid (Z=if osF R=0 then rdF (L.drop (q+1)) else osF R):=by
     show _=_;rw[HZ4.out,rd_step hkl,hLk]
    have HC:Hid (∀V,Below w.heap.size w V→Below wz.heap.size wz V→V.cell? ⟨g,o+q,none⟩=some (.slice a1 n1 c1)∧GS opE V (.slice a1 n1 c1) R):=fun V _ hV=>⟨cell_later hV hc,hG.later hV⟩
    have kb0:(0:Int)≤(q:Int):=by omega
    have kb1:(q:Int)<(k:Int):=by omega
    clear hG hRs hLk hc HZ4;go_wp2
    go_loopw [7] (fun i wr=>∃j:Nat,j≤n1∧i=.int i64 (j:Int)∧osF R=osF (R.drop j)∧Below wz.heap.size wz wr) (fun i _=>n1-(intOf i).toNat)
    case atStart=>exact⟨0,by omega,rfl,rfl,bRQ _ _⟩
    case round =>
     obtain⟨j,hj,rfl,ho,hb⟩:=hrel;obtain⟨wu,hwu⟩:∃X,X=wr:=⟨_,rfl⟩;subst hwu;have HO:Hid (osF R=osF (R.drop j)):=ho;have HB5:Hid (Below wz.heap.size wz wu):=hb;have HBW:Hid (Below w.heap.size w wu):=HB4.out.trans (hb.mono HB4.out.size);obtain⟨hc,hG⟩:=HC.out wu HBW.out hb;clear ho hb;by_cases hjn:j<n1
     ·obtain⟨_,_,_,e,_,_,_,ha⟩:=hG.form;cases e;obtain⟨go,oo,ha1,hGo,_⟩:=ha (by omega);subst ha1;obtain⟨x0,x1,x2,x3,x4,x5,x6,x7,hjl,hLj,q0,q1,q2,q3,q4,q5,q6,q7⟩:=op_at hGo HR1.out hjn;have HO2:Hid (osF R=if opF ⟨x0,x1,⟨x2,x3,x4,x5,x6,x7⟩⟩=0 then osF (R.drop (j+1)) else opF ⟨x0,x1,⟨x2,x3,x4,x5,x6,x7⟩⟩):=by
       show _=_;rw[HO.out,os_step hjl,hLj]
      have jb0:(0:Int)≤(j:Int):=by omega
      have jb1:(j:Int)<(n1:Int):=by omega
      clear hGo hG ha hLj HO;by_cases h1:x0<1
      ·have HE:Hid (Z=1):=by
        show _=_;have e:opF ⟨x0,x1,⟨x2,x3,x4,x5,x6,x7⟩⟩=1:=by rw[opF,if_neg];intro h;have:=h.1;dsimp only at this;omega
        rw[HZ5.out,HO2.out,e];rfl
       go_wp2;go_ret;exact⟨by rw[HE.out];rfl,HBW.out⟩
      by_cases h6:x0 > 6
      ·have HE:Hid (Z=1):=by
        show _=_;have e:opF ⟨x0,x1,⟨x2,x3,x4,x5,x6,x7⟩⟩=1:=by rw[opF,if_neg];intro h;have:=h.2;dsimp only at this;omega
        rw[HZ5.out,HO2.out,e];rfl
       go_wp2;go_ret;exact⟨by rw[HE.out];rfl,HBW.out⟩
      obtain⟨E,hE⟩:∃E,E=(⟨x2,x3,x4,x5,x6,x7⟩:Ru).n:=⟨_,rfl⟩;have HE1:Hid ((⟨x2,x3,x4,x5,x6,x7⟩:Ru).n=E):=hE.symm;have HE:Hid (opF ⟨x0,x1,⟨x2,x3,x4,x5,x6,x7⟩⟩=E):=by
       show _=_;rw[opF,if_pos ⟨by dsimp only;omega,by dsimp only;omega⟩,hE]
      clear hE
      go_wp2_with fail
      refine (refRule_any x2 x3 x4 x5 x6 x7 _).mono ?_;rintro e w5 ⟨rfl,hb5⟩;rw[show ruN x2 x3 x4 x5 x6 x7=E from HE1.out];have HB6:Hid (Below wz.heap.size wz w5):=HB5.out.trans (hb5.mono HB5.out.size);have HB7:Hid (Below w.heap.size w w5):=HBW.out.trans (hb5.mono HBW.out.size);clear hb5 q0 q1 q2 q3 q4 q5 q6 q7 hc;by_cases hE0:E=0
      ·subst hE0;have HO3:Hid (osF R=osF (R.drop (j+1))):=by
        show _=_;rw[HO2.out,HE.out];rfl
       go_wp2;go_roundw
       case rel=>exact⟨j+1,by omega,by go_num,HO3.out,HB6.out⟩
       case measure=>simp[intOf];omega
      have HZE:Hid (Z=E):=by
       show _=_;have e:osF R=E:=by rw[HO2.out,HE.out,if_neg hE0]
       rw[HZ5.out,e,if_neg hE0]
      have hne:(E != 0)=true:=by simp[hE0]
      go_wp2;go_ret;exact⟨by rw[HZE.out];rfl,HB7.out⟩
     obtain rfl:j=n1:=by omega
     have HE:Hid (Z=rdF (L.drop (q+1))):=by
      show _=_;rw[HZ5.out,HO.out,←HR1.out,List.drop_length];rfl
     go_wp2;go_roundw
     case rel=>exact⟨q+1,by omega,by go_num,HE.out,HBW.out⟩
     case measure=>simp[intOf];omega
   obtain rfl:q=k:=by omega
   have HE:Hid (Z=0):=by
    show _=_;rw[HZ4.out,←HN.out,List.drop_length];rfl
   go_wp2;go_ret;exact⟨by rw[HE.out];rfl,HB4.out⟩
structure DrS (Pd:DrP)(w:World)(p1 p2:Nat)(O1 O2:Nat→Prop)(D:DrT)(k:Nat)(W:World):Prop where
 g:Pd W p1 w.heap.size O1 D
 r:DrR W p2 w.heap.size O2 D
 d:∀b,O1 b→¬O2 b
 ok:DrOK D k
 b:Below w.heap.size w W
 l2:∀b,O2 b→w.heap.size≤b∧b<W.heap.size
section
variable {Pd:DrP}{w W W':World}{p1 p2:Nat}{O1 O2:Nat→Prop}{D:DrT}{k:Nat}
theorem DrS.later (I:PdI Pd)(h:DrS Pd w p1 p2 O1 O2 D k W)(hb:Below W.heap.size W W'):DrS Pd w p1 p2 O1 O2 D k W':=
 ⟨I.kb h.g (Kb.of_below hb fun b hl _=>hl),h.r.kb (Kb.of_below hb fun b hl _=>hl),h.d,h.ok,h.b.trans (hb.mono h.b.size),fun b hb1=>⟨(h.l2 b hb1).1,Nat.lt_of_lt_of_le (h.l2 b hb1).2 hb.size⟩⟩
theorem DrS.mono (h:DrS Pd w p1 p2 O1 O2 D k W){k':Nat}(hk:k≤k'):DrS Pd w p1 p2 O1 O2 D k' W:=⟨h.g,h.r,h.d,h.ok.mono hk,h.b,h.l2⟩
theorem dr_two (I:PdI Pd){W2 W3:World}{D':DrT}{O1' O2':Nat→Prop}(h:DrS Pd w p1 p2 O1 O2 D k W)(hok:DrOK D' (k+1))
 (h2:DrR W2 p2 w.heap.size O2' D') (hO2:∀b,O2' b→O2 b∨W.heap.size≤b) (k2:Kb (fun b=>¬O2 b) W W2)
 (h3:Pd W3 p1 w.heap.size O1' D') (hO1:∀b,O1' b→O1 b∨W2.heap.size≤b) (k3:Kb (fun b=>¬O1 b) W2 W3):DrS Pd w p1 p2 O1' O2' D' (k+1) W3:=by
 have l1:=I.lt h.g;have l2:=h.r.lt;have l22:=h2.lt;have hr3:DrR W3 p2 w.heap.size O2' D':=h2.kb (k3.mono fun b hb hc=>by
  rcases hc with hc | hc
  ·exact fun h1=>by have:=(l1 b h1).1;omega
  rcases hO2 b hc with h5 | h5
  ·exact fun h1=>h.d b h1 h5
  exact fun h1=>by have:=(l1 b h1).2;omega)
 refine⟨h3,hr3,fun b h1 h5=>?_,hok,?_,hr3.lt⟩
 ·rcases hO1 b h1 with h6 | h6
  ·rcases hO2 b h5 with h7 | h7
   ·exact h.d b h6 h7
   have:=(l1 b h6).2;omega
  have:=(l22 b h5).2;omega
 have hs:=h.b.size;exact (h.b.trans (k2.below hs fun b hb hc=>by have:=(l2 b hc).1;omega)).trans (k3.below (Nat.le_trans hs k2.size) fun b hb hc=>by have:=(l1 b hc).1;omega)
theorem dr_keep (I:PdI Pd){W2:World}(h:DrS Pd w p1 p2 O1 O2 D k W)(k2:Kb (fun b=>¬O2 b) W W2):Pd W2 p1 w.heap.size O1 D:=
 I.kb h.g (k2.mono fun b hb hc=>by
  have l2:=h.r.lt
  rcases hc with hc | hc
  ·exact fun h1=>by have:=(l2 b h1).1;omega
  exact h.d b hc)
end
theorem rnext_R {p B0:Nat}{O:Nat→Prop}{D:DrT}{k:Nat}(w:World)(h:DrR w p B0 O D)(hok:DrOK D k):
 Calls prog 13 #[.pointer (some ⟨p,0,none⟩)] w fun e w'=>DvN DrR (.int i64) w p B0 O (nxS D) (nxN D) (nxA D) e w':=by
 obtain⟨xr,xl,h⟩:=h;exact rnext_any w h hok
theorem rtick_R {p B0:Nat}{O:Nat→Prop}{D:DrT}{k:Nat}(w:World)(h:DrR w p B0 O D)(hok:DrOK D k)(hk:k≤1000000):
 Calls prog 14 #[.pointer (some ⟨p,0,none⟩)] w fun e w'=>DvT DrR w p B0 O (tkS D) (tkA D) e w':=by
 obtain⟨xr,xl,h⟩:=h;exact rtick_any w h hok hk
theorem rdhear_R {p B0:Nat}{O:Nat→Prop}{D:DrT}{k:Nat}(x0 x1 x2 x3 x4:Int)(x5:Bool)(x6 x7 x8 x9 x10 x11:Int)(w:World)(h:DrR w p B0 O D)(hok:DrOK D k):
 Calls prog 16 #[.pointer (some ⟨p,0,none⟩),.agg #[.int i64 x0,.int i64 x1,.int i64 x2,.int i64 x3,.int i64 x4,.bool x5,.int i64 x6,.int i64 x7,.int i64 x8,.int i64 x9,.int i64 x10,.int i64 x11]] w fun e w' =>
  DvH DrR (.int i64) w p B0 O (dhS D ⟨x0,x1,x2,x3,⟨x4,x5,⟨x6,x7,x8,x9,x10,x11⟩⟩⟩) (dhN D ⟨x0,x1,x2,x3,⟨x4,x5,⟨x6,x7,x8,x9,x10,x11⟩⟩⟩) e w':=by
 obtain⟨xr,xl,h⟩:=h;exact rdhear_any x0 x1 x2 x3 x4 x5 x6 x7 x8 x9 x10 x11 w h hok
theorem rdnew {w:World}{B0:Nat}{ar:AdQ}{nr cr:Nat}{L:List (List Op8)}{T:Int}(hr:∀V,Below B0 w V→RS V (.slice ar nr cr) L)(hB:B0≤w.heap.size)(t:TypeId):
 DrR (w.alloc (.cells #[.slice ar nr cr,.int i64 T,.int i64 0,.slice none 0 0,.int i64 0] t)) w.heap.size B0 (fun b=>b=w.heap.size) (dr0 L T):=by
 have hb:Below B0 w (w.alloc (.cells #[.slice ar nr cr,.int i64 T,.int i64 0,.slice none 0 0,.int i64 0] t)):=(Below.refl B0 w).alloc hB _;have hv:=vat_new w [.slice ar nr cr,.int i64 T,.int i64 0,.slice none 0 0,.int i64 0] t;have hs:(w.alloc (.cells #[.slice ar nr cr,.int i64 T,.int i64 0,.slice none 0 0,.int i64 0] t)).heap.size=w.heap.size+1:=Array.size_push ..;refine⟨(ar,nr,cr),(none,0,0),?_,?_,?_,?_,?_,fun i=>?_,fun V hV=>hr V (hb.trans hV),GS.nil _,.inl rfl,rfl,fun b hb=>by subst hb;rw[hs];omega⟩
 ·have h0:=hv 0 _ rfl;rw[Nat.zero_add] at h0;exact h0
 ·have h1:=hv 1 _ rfl;rw[Nat.zero_add] at h1;exact h1
 ·have h2:=hv 2 _ rfl;rw[Nat.zero_add] at h2;exact h2
 ·have h3:=hv 3 _ rfl;rw[Nat.zero_add] at h3;exact h3
 ·have h4:=hv 4 _ rfl;rw[Nat.zero_add] at h4;exact h4
 exact World.frozen?_alloc_at _ _ _ _ rfl
def msgCD (w:World)(g o:Nat)(x0 x1 x2 x3 x4:Int)(x5:Bool)(x6 x7 x8 x9 x10 x11:Int)(g' o':Nat)(y0 y1 y2 y3 y4:Int)(y5:Bool)(y6 y7 y8 y9 y10 y11:Int)(w':World):Prop:=
 Below w.heap.size w w'∧(w'.cell? ⟨g,o,none⟩=some (.int i64 x0)∧w'.cell? ⟨g,o+1,none⟩=some (.int i64 x1)∧w'.cell? ⟨g,o+2,none⟩=some (.int i64 x2)∧w'.cell? ⟨g,o+3,none⟩=some (.int i64 x3)∧w'.cell? ⟨g,o+4,none⟩=some (.int i64 x4)∧w'.cell? ⟨g,o+5,none⟩=some (.bool x5)∧w'.cell? ⟨g,o+6,none⟩=some (.int i64 x6)∧w'.cell? ⟨g,o+7,none⟩=some (.int i64 x7)∧w'.cell? ⟨g,o+8,none⟩=some (.int i64 x8)∧w'.cell? ⟨g,o+9,none⟩=some (.int i64 x9)∧w'.cell? ⟨g,o+10,none⟩=some (.int i64 x10)∧w'.cell? ⟨g,o+11,none⟩=some (.int i64 x11)) ∧
 w'.cell? ⟨g',o',none⟩=some (.int i64 y0)∧w'.cell? ⟨g',o'+1,none⟩=some (.int i64 y1)∧w'.cell? ⟨g',o'+2,none⟩=some (.int i64 y2)∧w'.cell? ⟨g',o'+3,none⟩=some (.int i64 y3)∧w'.cell? ⟨g',o'+4,none⟩=some (.int i64 y4)∧w'.cell? ⟨g',o'+5,none⟩=some (.bool y5)∧w'.cell? ⟨g',o'+6,none⟩=some (.int i64 y6)∧w'.cell? ⟨g',o'+7,none⟩=some (.int i64 y7)∧w'.cell? ⟨g',o'+8,none⟩=some (.int i64 y8)∧w'.cell? ⟨g',o'+9,none⟩=some (.int i64 y9)∧w'.cell? ⟨g',o'+10,none⟩=some (.int i64 y10)∧w'.cell? ⟨g',o'+11,none⟩=some (.int i64 y11)
theorem msgCD.later {w W W':World}{g o:Nat}{x0 x1 x2 x3 x4:Int}{x5:Bool}{x6 x7 x8 x9 x10 x11:Int}{g' o':Nat}{y0 y1 y2 y3 y4:Int}{y5:Bool}{y6 y7 y8 y9 y10 y11:Int}(hb:Below W.heap.size W W')(h:msgCD w g o x0 x1 x2 x3 x4 x5 x6 x7 x8 x9 x10 x11 g' o' y0 y1 y2 y3 y4 y5 y6 y7 y8 y9 y10 y11 W):msgCD w g o x0 x1 x2 x3 x4 x5 x6 x7 x8 x9 x10 x11 g' o' y0 y1 y2 y3 y4 y5 y6 y7 y8 y9 y10 y11 W':=by
 obtain⟨h0,⟨h1,h2,h3,h4,h5,h6,h7,h8,h9,h10,h11,h12⟩,k1,k2,k3,k4,k5,k6,k7,k8,k9,k10,k11,k12⟩:=h;exact⟨h0.trans (hb.mono h0.size),⟨cell_later hb h1,cell_later hb h2,cell_later hb h3,cell_later hb h4,cell_later hb h5,cell_later hb h6,cell_later hb h7,cell_later hb h8,cell_later hb h9,cell_later hb h10,cell_later hb h11,cell_later hb h12⟩,cell_later hb k1,cell_later hb k2,cell_later hb k3,cell_later hb k4,cell_later hb k5,cell_later hb k6,cell_later hb k7,cell_later hb k8,cell_later hb k9,cell_later hb k10,cell_later hb k11,cell_later hb k12⟩
theorem msg_same (ao:AdQ)(n cap:Nat)(ao2:AdQ)(n2 cap2:Nat)(L M:List (Mg))(w:World)(hs:GS msgE w (.slice ao n cap) L)(ht:GS msgE w (.slice ao2 n2 cap2) M):
 Calls prog 17 #[.slice ao n cap,.slice ao2 n2 cap2] w fun e w'=>e=.returned (.bool (smG msgB L M))∧Below w.heap.size w w':=by
 obtain⟨ao',n',cap',e,hn,hn2,hn3,ha⟩:=hs.form;cases e;obtain⟨ao',n',cap',e,hm,hm2,hm3,hb⟩:=ht.form;cases e;have HN:Hid (L.length=n):=hn;have HM:Hid (M.length=n2):=hm;have HA:Hid (0<n→∃g o,ao=some ⟨g,o,none⟩∧GAt msgE w g o L∧cap≤maxLen):=ha;have HA2:Hid (0<n2→∃g o,ao2=some ⟨g,o,none⟩∧GAt msgE w g o M∧cap2≤maxLen):=hb;have hn63:n≤9223372036854775807:=by unfold maxLen at hn2;omega
 clear hs ht hn ha hm hb hn2 hm2;obtain⟨R,hR⟩:∃R,R=smG msgB L M:=⟨_,rfl⟩;have HR:Hid (R=smG msgB L M):=hR;rw[←hR];clear hR;by_cases hl:n=n2
 ·subst hl;go_enter func17,ntmps17;go_wp2
  go_loopw [5] (fun i wr=>∃k:Nat,k≤n∧i=.int i64 k∧(∀j,j<k→∀(h1:j<L.length) (h2:j<M.length),msgB L[j] M[j]=true)∧Below w.heap.size w wr) (fun i _=>n-(intOf i).toNat)
  case atStart=>exact⟨0,by omega,rfl,fun j hj=>absurd hj (by omega),bRQ _ _⟩
  case round =>
   obtain⟨k,hk,rfl,hall,hB⟩:=hrel;have HB:Hid (Below w.heap.size w wr):=hB;have HALL:Hid (∀j,j<k→∀(h1:j<L.length) (h2:j<M.length),msgB L[j] M[j]=true):=hall;clear hall;by_cases hlt:k<n
   ·obtain⟨g,og,hao,hc,_⟩:=HA.out (by omega);obtain⟨g2,og2,hao2,hc2,_⟩:=HA2.out (by omega);subst hao hao2;obtain⟨x0,x1,x2,x3,x4,x5,x6,x7,x8,x9,x10,x11,hkl,hLk,q0,q1,q2,q3,q4,q5,q6,q7,q8,q9,q10,q11⟩:=msg_at (hc.later hB) HN.out hlt;obtain⟨y0,y1,y2,y3,y4,y5,y6,y7,y8,y9,y10,y11,hkm,hMk,r0,r1,r2,r3,r4,r5,r6,r7,r8,r9,r10,r11⟩:=msg_at (hc2.later hB) HM.out hlt;have HCE:Hid (msgCD w g (og+k*12) x0 x1 x2 x3 x4 x5 x6 x7 x8 x9 x10 x11 g2 (og2+k*12) y0 y1 y2 y3 y4 y5 y6 y7 y8 y9 y10 y11 wr):=⟨hB,⟨q0,q1,q2,q3,q4,q5,q6,q7,q8,q9,q10,q11⟩,r0,r1,r2,r3,r4,r5,r6,r7,r8,r9,r10,r11⟩;have HLK:Hid (L[k]=⟨x0,x1,x2,x3,⟨x4,x5,⟨x6,x7,x8,x9,x10,x11⟩⟩⟩∧M[k]=⟨y0,y1,y2,y3,⟨y4,y5,⟨y6,y7,y8,y9,y10,y11⟩⟩⟩):=⟨hLk,hMk⟩;clear q0 q1 q2 q3 q4 q5 q6 q7 q8 q9 q10 q11 r0 r1 r2 r3 r4 r5 r6 r7 r8 r9 r10 r11 hB hc hc2 hLk hMk HA HA2;go_upto_region 6 with fail;have kb0:(0:Int)≤(k:Int):=by omega
    have kb1:(k:Int)<(n:Int):=by omega
    go_cut [25] from 11 to 25 (fun c w'=>c=.bool (!msgB ⟨x0,x1,x2,x3,⟨x4,x5,⟨x6,x7,x8,x9,x10,x11⟩⟩⟩ ⟨y0,y1,y2,y3,⟨y4,y5,⟨y6,y7,y8,y9,y10,y11⟩⟩⟩)∧Below w.heap.size w w')
    case first =>
     as_aux_lemma =>
      refine wp_region_quiet (C:=msgCD w g (og+k*12) x0 x1 x2 x3 x4 x5 x6 x7 x8 x9 x10 x11 g2 (og2+k*12) y0 y1 y2 y3 y4 y5 y6 y7 y8 y9 y10 y11) (by kernel_rfl) (by kernel_rfl) (msgCD.later (W:=wr) (Below.drew (bRQ _ _)) HCE.out) ?_;simp only[List.toList_toArray];go_big_quiet_want;refine qv (.slice (some ⟨g,og,none⟩) n cap) ?_ ?_
      ·rintro w' ⟨z,⟨z0,z1,z2,z3,z4,z5,z6,z7,z8,z9,z10,z11⟩,u0,u1,u2,u3,u4,u5,u6,u7,u8,u9,u10,u11⟩;go_simp
      simp only[Act.put,AP];go_big_quiet_on;go_big_quiet_want;refine qv (.int i64 (k:Int)) ?_ ?_
      ·rintro w' ⟨z,⟨z0,z1,z2,z3,z4,z5,z6,z7,z8,z9,z10,z11⟩,u0,u1,u2,u3,u4,u5,u6,u7,u8,u9,u10,u11⟩;go_simp
      simp only[Act.put,AP];go_big_quiet_on;go_big_quiet_want;refine qv (.pointer (some ⟨g,og+k*12,none⟩)) ?_ ?_
      ·rintro w' ⟨z,⟨z0,z1,z2,z3,z4,z5,z6,z7,z8,z9,z10,z11⟩,u0,u1,u2,u3,u4,u5,u6,u7,u8,u9,u10,u11⟩;go_simp
      simp only[Act.put,AP];go_big_quiet_on;go_big_quiet_want;refine qv (.agg #[.int i64 x0,.int i64 x1,.int i64 x2,.int i64 x3,.int i64 x4,.bool x5,.int i64 x6,.int i64 x7,.int i64 x8,.int i64 x9,.int i64 x10,.int i64 x11]) ?_ ?_
      ·rintro w' ⟨z,⟨z0,z1,z2,z3,z4,z5,z6,z7,z8,z9,z10,z11⟩,u0,u1,u2,u3,u4,u5,u6,u7,u8,u9,u10,u11⟩;go_simp
      simp only[Act.put,AP];go_big_quiet_on;go_big_quiet_want;refine qv (.slice (some ⟨g2,og2,none⟩) n cap2) ?_ ?_
      ·rintro w' ⟨z,⟨z0,z1,z2,z3,z4,z5,z6,z7,z8,z9,z10,z11⟩,u0,u1,u2,u3,u4,u5,u6,u7,u8,u9,u10,u11⟩;go_simp
      simp only[Act.put,AP];go_big_quiet_on;go_big_quiet_want;refine qv (.int i64 (k:Int)) ?_ ?_
      ·rintro w' ⟨z,⟨z0,z1,z2,z3,z4,z5,z6,z7,z8,z9,z10,z11⟩,u0,u1,u2,u3,u4,u5,u6,u7,u8,u9,u10,u11⟩;go_simp
      simp only[Act.put,AP];go_big_quiet_on;go_big_quiet_want;refine qv (.pointer (some ⟨g2,og2+k*12,none⟩)) ?_ ?_
      ·rintro w' ⟨z,⟨z0,z1,z2,z3,z4,z5,z6,z7,z8,z9,z10,z11⟩,u0,u1,u2,u3,u4,u5,u6,u7,u8,u9,u10,u11⟩;go_simp
      simp only[Act.put,AP];go_big_quiet_on;go_big_quiet_want;refine qv (.agg #[.int i64 y0,.int i64 y1,.int i64 y2,.int i64 y3,.int i64 y4,.bool y5,.int i64 y6,.int i64 y7,.int i64 y8,.int i64 y9,.int i64 y10,.int i64 y11]) ?_ ?_
      ·rintro w' ⟨z,⟨z0,z1,z2,z3,z4,z5,z6,z7,z8,z9,z10,z11⟩,u0,u1,u2,u3,u4,u5,u6,u7,u8,u9,u10,u11⟩;go_simp
      simp only[Act.put,AP];go_big_quiet_on;go_big_quiet_want;refine quiet_val (v:=.bool (!msgB ⟨x0,x1,x2,x3,⟨x4,x5,⟨x6,x7,x8,x9,x10,x11⟩⟩⟩ ⟨y0,y1,y2,y3,⟨y4,y5,⟨y6,y7,y8,y9,y10,y11⟩⟩⟩)) (fun w' hC=>exec_bin rfl (by go_simp) (run_neq_of (msg_eq x0 x1 x2 x3 x4 x5 x6 x7 x8 x9 x10 x11 y0 y1 y2 y3 y4 y5 y6 y7 y8 y9 y10 y11 w'))) ?_;simp only[Act.put,AP];go_big_quiet_on;refine wpQuiet_nil ?_;intro w' hC
      go_wp2_with fail
      go_meet
      case rel=>exact⟨rfl,hC.1⟩
    case rest =>
     obtain⟨rfl,hB2⟩:=hcut;have HB2:Hid (Below w.heap.size w wc):=hB2;clear HCE hB2;cases ho:msgB ⟨x0,x1,x2,x3,⟨x4,x5,⟨x6,x7,x8,x9,x10,x11⟩⟩⟩ ⟨y0,y1,y2,y3,⟨y4,y5,⟨y6,y7,y8,y9,y10,y11⟩⟩⟩
     ·have HF:Hid (R=false):=by
       show R=false;rw[HR.out];exact smG_no hkl hkm (by rw[HLK.out.1,HLK.out.2];exact ho)
      go_wp2;go_ret;exact⟨by rw[HF.out];rfl,HB2.out⟩
     have HAL2:Hid (∀j,j<k+1→∀(h1:j<L.length) (h2:j<M.length),msgB L[j] M[j]=true):=by
      intro j hj h1 h2;by_cases e:j=k
      ·subst e;rw[HLK.out.1,HLK.out.2];exact ho
      exact HALL.out j (by omega) h1 h2
     clear ho;go_wp2;go_roundw
     case rel=>exact⟨k+1,by omega,by go_num,HAL2.out,HB2.out⟩
     case measure=>simp[intOf];omega
   obtain rfl:k=n:=by omega
   have HF:Hid (R=true):=by
    show R=true;rw[HR.out];refine smG_iff.2 ⟨by rw[HN.out,HM.out],fun i h1 h2=>HALL.out i (by rw[HN.out] at h1;exact h1) h1 h2⟩
   go_wp2;go_ret;exact⟨by rw[HF.out];rfl,HB.out⟩
 have HF:Hid (R=false):=by
  show R=false;rw[HR.out];exact smG_len (by rw[HN.out,HM.out];exact hl)
 have e1:((n:Int)==(n2:Int))=false:=beq_eq_false_iff_ne.2 (by omega);have e2:((n:Int) != (n2:Int))=true:=by simp;omega
 go_enter func17,ntmps17;go_wp2;go_ret;exact⟨by rw[HF.out];rfl,bRQ _ _⟩
def putL (q:Nat):World→Nat→List Value→World
 | V,_,[]=>V
 | V,i,v :: vs=>putL q (V.setCell ⟨q,i,none⟩ v) (i+1) vs
theorem putL_kb (q:Nat):∀(vs:List Value) (V:World) (i:Nat),Kb (fun b=>b≠q) V (putL q V i vs)
 | [],V,i=>Kb.refl _ _
 | v :: vs,V,i=>((Kb.refl _ V).setCell (q:=⟨q,i,none⟩) (fun _ h=>h rfl) v).trans (putL_kb q vs _ _)
theorem putL_frozen (q:Nat)(a:Addr):∀(vs:List Value) (V:World) (i:Nat),(putL q V i vs).frozen? a=V.frozen? a
 | [],V,i=>rfl
 | v :: vs,V,i=>by rw[putL,putL_frozen q a vs,World.frozen?_setCell]
theorem putL_low (q:Nat):∀(vs:List Value) (V:World) (i j:Nat),j<i→(putL q V i vs).cell? ⟨q,j,none⟩=V.cell? ⟨q,j,none⟩
 | [],V,i,j,_=>rfl
 | v :: vs,V,i,j,h=>by
   rw[putL,putL_low q vs _ (i+1) j (by omega),World.cell?_setCell_other _ _ _ _ (by first | (simp;done) | (simp;omega))]
theorem putL_at (q:Nat):∀(vs:List Value) (V:World) (i:Nat),(∀j,j<vs.length→∃u,V.cell? ⟨q,i+j,none⟩=some u)→∀(j:Nat) (u:Value),vs[j]?=some u→(putL q V i vs).cell? ⟨q,i+j,none⟩=some u
 | [],V,i,_,j,u,h=>by simp at h
 | v :: vs,V,i,hc,j,u,h=>by
   rw[putL];cases j with
   | zero =>
     obtain⟨u0,h0⟩:=hc 0 (by simp);simp only[List.getElem?_cons_zero,Option.some.injEq] at h;subst h;simp only[Nat.add_zero] at h0 ⊢;rw[putL_low q vs _ (i+1) i (by omega)];exact World.cell?_setCell_same _ _ _ h0
   | succ j =>
     have h2:vs[j]?=some u:=by simpa using h
     have:=putL_at q vs (V.setCell ⟨q,i,none⟩ v) (i+1) (fun k hk=>by
      obtain⟨u1,h1⟩:=hc (k+1) (by simp;omega);refine⟨u1,?_⟩;rw[World.cell?_setCell_other _ _ _ _ (by first | (simp;done) | (simp;omega))];rw[show i+1+k=i+(k+1) by omega];exact h1) j u h2
     rw[show i+(j+1)=i+1+j by omega];exact this
structure MBx (V:World)(q:Nat)(m:Mg):Prop where
 v:VAt V q 0 (msgE.c m)
 f:∀i,V.frozen? ⟨q,i,none⟩=false
theorem MBx.lt {V:World}{q:Nat}{m:Mg}(h:MBx V q m):q<V.heap.size:=bLQ _ _ (h.v 0 _ rfl)
theorem MBx.later {V W:World}{q:Nat}{m:Mg}(h:MBx V q m)(hb:Below V.heap.size V W):MBx W q m:=
 ⟨h.v.later hb,fun i=>by rw[hb.frozen (p:=⟨q,i,none⟩) h.lt];exact h.f i⟩
theorem MBx.put {V:World}{q:Nat}{m:Mg}(h:MBx V q m)(x0 x1 x2 x3 x4:Int)(x5:Bool)(x6 x7 x8 x9 x10 x11:Int):
 MBx (putL q V 0 [.int i64 x0,.int i64 x1,.int i64 x2,.int i64 x3,.int i64 x4,.bool x5,.int i64 x6,.int i64 x7,.int i64 x8,.int i64 x9,.int i64 x10,.int i64 x11]) q ⟨x0,x1,x2,x3,⟨x4,x5,⟨x6,x7,x8,x9,x10,x11⟩⟩⟩:=by
 refine⟨fun j u hu=>?_,fun i=>by rw[putL_frozen];exact h.f i⟩;refine putL_at q _ V 0 (fun k hk=>?_) j u hu;have hk2:k<(msgE.c m).length:=hk;exact⟨_,h.v k _ (List.getElem?_eq_getElem hk2)⟩
theorem MBx.drew {V:World}{q:Nat}{m:Mg}(h:MBx V q m):MBx V.drew q m:=⟨fun j u hu=>h.v j u hu,fun i=>h.f i⟩
theorem mbx_new (w:World)(t:TypeId):MBx (w.alloc (.cells #[.int i64 0,.int i64 0,.int i64 0,.int i64 0,.int i64 0,.bool false,.int i64 0,.int i64 0,.int i64 0,.int i64 0,.int i64 0,.int i64 0] t)) w.heap.size zeM:=
 ⟨msg_new w 0 0 0 0 0 false 0 0 0 0 0 0 t,fun i=>World.frozen?_alloc_at _ _ _ _ rfl⟩
end
section
open Go.RowKit Go.Extern.Stop Go.Stop Go.Extern
def HasErr (w:World):Prop:=w.cell? ⟨0,0,none⟩=some (.iface 110 (.agg #[.pointer (some ⟨1,25,none⟩)]))
theorem HasErr.later {w w':World}(h:HasErr w)(hb:Below w.heap.size w w'):HasErr w':=cell_later hb h
theorem HasErr.alloc {w:World}(h:HasErr w)(o:Obj):HasErr (w.alloc o):=h.later ((bRQ _ _).alloc (nLQ _) _)
theorem vOfP (t:Addr)(w:World):(ReflectliteValue.unpack (.iface 79 (.pointer (some t)))).run prog w
 = .ok (.agg #[.pointer (some ⟨1,79,none⟩),.pointer (some ⟨w.heap.size,0,none⟩),.int .u64 150]) (w.alloc (.cells #[.pointer (some t)] 79)):=by kernel_rfl
theorem typeP (a : Addr)(w : World): (ReflectliteValue.methodAny (ReflectliteValue.valueError "reflectlite.Value.Type" 0) (fun t _ _ _ => ReflectliteType.toType t) #[.agg #[.pointer (some ⟨1, 79, none⟩), .pointer (some a), .int .u64 150]]).run prog w
 = .ok (.iface 110 (.agg #[.pointer (some ⟨1,79,none⟩)])) w:=by kernel_rfl
theorem methKind (h : Value)(w : World): (Go.method 272 110 (.agg #[h]) "Kind").run prog w = .ok (95, h) w := by kernel_rfl
theorem kindP (w:World):((ReflectliteType.abiMethod fun t=>Functor.map (fun a:Nat=>Value.int IntKind.u8 (a:Int)) (Rtype.kind t)) #[.pointer (some ⟨1,79,none⟩)]).run prog w=.ok (.int .u8 22) w:=by kernel_rfl
theorem kindE (w:World):((ReflectliteType.abiMethod fun t=>Functor.map (fun a:Nat=>Value.int IntKind.u8 (a:Int)) (Rtype.kind t)) #[.pointer (some ⟨1,63,none⟩)]).run prog w=.ok (.int .u8 2) w:=by kernel_rfl
theorem partsP (a:Addr)(w:World):(ReflectliteValue.parts (.agg #[.pointer (some ⟨1,79,none⟩),.pointer (some a),.int .u64 150])).run prog w=.ok (some (79,a,150)) w:=by kernel_rfl
theorem isNilP (a p:Addr)(W:World)(ha:W.cell? a=some (.pointer (some p))):
 (ReflectliteValue.method (ReflectliteValue.valueError "reflectlite.Value.IsNil" 0) ReflectliteValue.isNil #[.agg #[.pointer (some ⟨1, 79, none⟩), .pointer (some a), .int .u64 150]]).run prog W = .ok (.bool false) W := by
 change Sem.run _ (ReflectliteValue.parts (.agg #[.pointer (some ⟨1,79,none⟩),.pointer (some a),.int .u64 150]) >>= _) _=_
 rw[Sem.run_bind,partsP];simp only[Result.andThen];simp[ReflectliteValue.isNil,loadVar,isAgg,underlying,underlying79,ha,Result.andThen]
theorem methElem (h : Value)(w : World): (Go.method 272 110 (.agg #[h]) "Elem").run prog w = .ok (105, .agg #[h]) w := by kernel_rfl
theorem methImpl (h : Value)(w : World): (Go.method 272 110 (.agg #[h]) "Implements").run prog w = .ok (106, .agg #[h]) w := by kernel_rfl
theorem methAssign (h : Value)(w : World): (Go.method 272 110 (.agg #[h]) "AssignableTo").run prog w = .ok (103, .agg #[h]) w := by kernel_rfl
theorem elemP (w:World):(ReflectliteType.method ReflectliteType.elem #[.agg #[.pointer (some ⟨1,79,none⟩)]]).run prog w=.ok (.iface 110 (.agg #[.pointer (some ⟨1,63,none⟩)])) w:=by kernel_rfl
theorem implE (w : World): (ReflectliteType.relation "Implements" ReflectliteType.implements_ #[.agg #[.pointer (some ⟨1, 63, none⟩)], .iface 110 (.agg #[.pointer (some ⟨1, 25, none⟩)])]).run prog w = .ok (.bool true) w := by kernel_rfl
theorem typeOfE (v:Value)(w:World):(ReflectliteType.typeOf #[.iface 63 v]).run prog w=.ok (.iface 110 (.agg #[.pointer (some ⟨1,63,none⟩)])) w:=by kernel_rfl
theorem assignE (w : World): (ReflectliteType.relation "AssignableTo" ReflectliteType.assignableTo #[.agg #[.pointer (some ⟨1, 63, none⟩)], .iface 110 (.agg #[.pointer (some ⟨1, 63, none⟩)])]).run prog w = .ok (.bool true) w := by kernel_rfl
theorem vOfE (n:Int)(w:World):(ReflectliteValue.unpack (.iface 63 (.int i64 n))).run prog w
 = .ok (.agg #[.pointer (some ⟨1,63,none⟩),.pointer (some ⟨w.heap.size,0,none⟩),.int .u64 130]) (w.alloc (.cells #[.int i64 n] 63)):=by kernel_rfl
theorem elemOfP (w:World):(Rtype.elem? 79).run prog w=.ok (some 63) w:=by kernel_rfl
theorem mkE (p:Addr)(w:World):(ReflectliteValue.mk 63 p ReflectliteValue.flagAddr).run prog w=.ok (.agg #[.pointer (some ⟨1,63,none⟩),.pointer (some p),.int .u64 386]) w:=by kernel_rfl
theorem elemVP (a p:Addr)(W:World)(ha:W.cell? a=some (.pointer (some p))):
 (ReflectliteValue.method (ReflectliteValue.valueError "reflectlite.Value.Elem" 0) ReflectliteValue.elem #[.agg #[.pointer (some ⟨1, 79, none⟩), .pointer (some a), .int .u64 150]]).run prog W
  = .ok (.agg #[.pointer (some ⟨1,63,none⟩),.pointer (some p),.int .u64 386]) W:=by
 change Sem.run _ (ReflectliteValue.parts (.agg #[.pointer (some ⟨1,79,none⟩),.pointer (some a),.int .u64 150]) >>= _) _=_
 rw[Sem.run_bind,partsP];simp only[Result.andThen];simp[ReflectliteValue.elem,loadVar,isAgg,underlying,underlying79,ha,Result.andThen,elemOfP,mkE]
theorem partsEa (a:Addr)(w:World):(ReflectliteValue.parts (.agg #[.pointer (some ⟨1,63,none⟩),.pointer (some a),.int .u64 386])).run prog w=.ok (some (63,a,386)) w:=by kernel_rfl
theorem partsE (a:Addr)(w:World):(ReflectliteValue.parts (.agg #[.pointer (some ⟨1,63,none⟩),.pointer (some a),.int .u64 130])).run prog w=.ok (some (63,a,130)) w:=by kernel_rfl
theorem directE (w:World):(Rtype.directlyAssignable 63 63).run prog w=.ok true w:=by kernel_rfl
theorem setE (ta b:Addr)(n:Int)(old:Value)(W:World)(hb:W.cell? b=some (.int i64 n))(ht:W.cell? ta=some old)(hf:W.frozen? ta=false):
 (ReflectliteValue.set #[.agg #[.pointer (some ⟨1,63,none⟩),.pointer (some ta),.int .u64 386],.agg #[.pointer (some ⟨1,63,none⟩),.pointer (some b),.int .u64 130]]).run prog W
  = .ok (.tuple #[]) (W.setCell ta (.int i64 n)):=by
 change Sem.run _ (ReflectliteValue.parts (.agg #[.pointer (some ⟨1,63,none⟩),.pointer (some ta),.int .u64 386]) >>= _) _=_
 rw[Sem.run_bind,partsEa];simp only[Result.andThen]
 change Sem.run _ (ReflectliteValue.parts (.agg #[.pointer (some ⟨1,63,none⟩),.pointer (some b),.int .u64 130]) >>= _) _=_
 rw[Sem.run_bind,partsE];simp only[Result.andThen];simp[ReflectliteValue.flagAddr,loadVar,isAgg,underlying,underlying63,hb,Result.andThen,directE,storeVar,Value.cells,storeCells,Addr.add];rw[run_store prog W ta _ _ (by rfl)];simp[ht,hf]
end
end Go.Proofs.YtpgjkmefomldfaaDoor
