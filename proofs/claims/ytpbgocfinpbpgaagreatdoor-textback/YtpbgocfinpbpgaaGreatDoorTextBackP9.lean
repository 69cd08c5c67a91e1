/- Contracts and facts on the way to TextBack, joined into one text: SmNet, SmWish, TextBack, RuleLaid, TextBackRow. -/
import Derived.Test.YtpbgocfinpbpgaaGreatDoorTextBackP8
namespace Go.Proofs.YtpbgocfinpbpgaaGreatDoor
set_option linter.unusedSimpArgs false
set_option linter.unusedVariables false
set_option maxHeartbeats 16000000
set_option maxRecDepth 100000
open Go.Proofs.Tryz
open IntKind (i64)
section
open Go.RowKit
def NN (W:World)(B:Nat)(S:Int)(a1 a2 a3:Value)(S':Int)(b1 b2 b3:Value):Prop:=NeBox W B S a1 a2 a3∧NeBox W (B+1) S' b1 b2 b3
theorem nn_new (w:World)(S:Int)(a1 a2 a3:Value)(S':Int)(b1 b2 b3:Value)(t:TypeId):NN ((w.alloc (.cells #[.int i64 S,a1,a2,a3] t)).alloc (.cells #[.int i64 S',b1,b2,b3] t)) w.heap.size S a1 a2 a3 S' b1 b2 b3:=by
 refine⟨(nebox_new w S a1 a2 a3 t).later ((bRQ _ _).alloc (nLQ _) _),?_⟩;have:=nebox_new (w.alloc (.cells #[.int i64 S,a1,a2,a3] t)) S' b1 b2 b3 t;simpa using this
theorem NN.later {W W':World}{B:Nat}{S:Int}{a1 a2 a3:Value}{S':Int}{b1 b2 b3:Value}(h:NN W B S a1 a2 a3 S' b1 b2 b3)(hb:Below W.heap.size W W'):NN W' B S a1 a2 a3 S' b1 b2 b3:=⟨h.1.later hb,h.2.later hb⟩
theorem NeBox.grown {W W':World}{g:Nat}{S:Int}{v1 v2 v3:Value}{row:Option Nat}(h:NeBox W g S v1 v2 v3)(hg:W.grownBy W' row)(hne:some g≠row):NeBox W' g S v1 v2 v3:=
 ⟨hg.cell h.1 hne,hg.cell h.2.1 hne,hg.cell h.2.2.1 hne,hg.cell h.2.2.2 hne⟩
theorem NN.grown {W W':World}{B:Nat}{S:Int}{a1 a2 a3:Value}{S':Int}{b1 b2 b3:Value}{row:Option Nat}(h:NN W B S a1 a2 a3 S' b1 b2 b3)(hg:W.grownBy W' row)(hr:∀g,row=some g→B+2≤g):NN W' B S a1 a2 a3 S' b1 b2 b3:=
 ⟨h.1.grown hg (fun e=>by have:=hr _ e.symm;omega),h.2.grown hg (fun e=>by have:=hr _ e.symm;omega)⟩
def NC (wr:World)(B:Nat)(S:Int)(a1 a2 a3:Value)(S':Int)(b1 b2 b3:Value)(g q:Nat)(u:Value)(f p:Nat)(v:Value)(L M:List Ru)(w':World):Prop:=
 Below wr.heap.size wr w'∧NN w' B S a1 a2 a3 S' b1 b2 b3∧w'.cell? ⟨g,q,none⟩=some u∧w'.cell? ⟨f,p,none⟩=some v∧SR w' u L∧SR w' v M
theorem NC.later {wr W W':World}{B:Nat}{S:Int}{a1 a2 a3:Value}{S':Int}{b1 b2 b3:Value}{g q:Nat}{u:Value}{f p:Nat}{v:Value}{L M:List Ru}(hb:Below W.heap.size W W')(h:NC wr B S a1 a2 a3 S' b1 b2 b3 g q u f p v L M W):NC wr B S a1 a2 a3 S' b1 b2 b3 g q u f p v L M W':=
 ⟨h.1.trans (hb.mono h.1.size),h.2.1.later hb,cell_later hb h.2.2.1,cell_later hb h.2.2.2.1,h.2.2.2.2.1.later hb,h.2.2.2.2.2.later hb⟩
theorem smNet_any (S:Int)(ao:AdQ)(n cap:Nat)(ao2:AdQ)(n2 cap2:Nat)(ao3:AdQ)(n3 cap3:Nat)(bo:AdQ)(m dap:Nat)(bo2:AdQ)(m2 dap2:Nat)(bo3:AdQ)(m3 dap3:Nat)(Ls:LkQ)(Hs:HoQ)(Ts:TsQ)(w:World)
 (hL:GS lnkE w (.slice ao n cap) Ls) (hH:GS hstE w (.slice ao2 n2 cap2) Hs) (hT:TS w (.slice ao3 n3 cap3) Ts) (hL':GS lnkE w (.slice bo m dap) Ls) (hH':GS hstE w (.slice bo2 m2 dap2) Hs) (hT':TS w (.slice bo3 m3 dap3) Ts):
 Calls prog 12 #[.agg #[.int i64 S,.slice ao n cap,.slice ao2 n2 cap2,.slice ao3 n3 cap3],.agg #[.int i64 S,.slice bo m dap,.slice bo2 m2 dap2,.slice bo3 m3 dap3]] w fun e w'=>e=.returned (.bool true)∧Below w.heap.size w w':=by
 have hb0:Below w.heap.size w ((w.alloc (.cells #[.int i64 S,.slice ao n cap,.slice ao2 n2 cap2,.slice ao3 n3 cap3] 28)).alloc (.cells #[.int i64 S,.slice bo m dap,.slice bo2 m2 dap2,.slice bo3 m3 dap3] 28)):=((bRQ _ _).alloc (nLQ _) _).alloc (by simp) _;have HNN:=nn_new w S (.slice ao n cap) (.slice ao2 n2 cap2) (.slice ao3 n3 cap3) S (.slice bo m dap) (.slice bo2 m2 dap2) (.slice bo3 m3 dap3) 28;have HL1:=hL.later hb0;have HL2:=hL'.later hb0;have HH1:=hH.later hb0;have HH2:=hH'.later hb0;have HT1:Hid (∀W,Below w.heap.size w W→TS W (.slice ao3 n3 cap3) Ts∧TS W (.slice bo3 m3 dap3) Ts):=fun W h=>⟨hT.later h,hT'.later h⟩
 have HB0:Hid (Below w.heap.size w ((w.alloc (.cells #[.int i64 S,.slice ao n cap,.slice ao2 n2 cap2,.slice ao3 n3 cap3] 28)).alloc (.cells #[.int i64 S,.slice bo m dap,.slice bo2 m2 dap2,.slice bo3 m3 dap3] 28))):=hb0;obtain⟨_,_,_,e,hn,hn2,hn3,ha⟩:=hT.form;cases e;obtain⟨_,_,_,e,hm,hm2,hm3,hb⟩:=hT'.form;cases e;obtain rfl:n3=m3:=by omega
 have HN:Hid (Ts.length=n3):=hn;have HA:Hid (0<n3→∃g o,ao3=some ⟨g,o,none⟩∧TAt w g o Ts∧cap3≤maxLen):=ha;have HA2:Hid (0<n3→∃g o,bo3=some ⟨g,o,none⟩∧TAt w g o Ts∧dap3≤maxLen):=hb;have n63:n3≤9223372036854775807:=by unfold maxLen at hn2;omega
 have e3:((n3:Int)==(n3:Int))=true:=by simp
 clear hL hL' hH hH' hT hT' hn ha hm hb hn2 hm2 hb0;go_enter func12,ntmps12
 go_wp2_with fail
 refine (smTopo_any S ao n cap ao2 n2 cap2 Ls Hs S bo m dap bo2 m2 dap2 Ls Hs _ HL1 HH1 HL2 HH2).mono ?_;rintro e w1 ⟨rfl,hb1⟩;rw[tpB_iff.2 ⟨rfl,rfl,rfl⟩];have HB1:Hid (Below w.heap.size w w1):=HB0.out.trans (hb1.mono HB0.out.size);have HN1:Hid (NN w1 w.heap.size S (.slice ao n cap) (.slice ao2 n2 cap2) (.slice ao3 n3 cap3) S (.slice bo m dap) (.slice bo2 m2 dap2) (.slice bo3 n3 dap3)):=HNN.later hb1;obtain⟨⟨p0,p1,p2,p3⟩,s0,s1,s2,s3⟩:=HNN.later hb1;have hlt1:w.heap.size<w1.heap.size:=bLQ _ _ p0;have hlt2:w.heap.size+1<w1.heap.size:=bLQ _ _ s0;clear hb1 HL1 HL2 HH1 HH2 HB0 HNN;go_wp2
 go_loopw [6] (fun i wr=>∃k:Nat,k≤n3∧i=.int i64 k∧NN wr w.heap.size S (.slice ao n cap) (.slice ao2 n2 cap2) (.slice ao3 n3 cap3) S (.slice bo m dap) (.slice bo2 m2 dap2) (.slice bo3 n3 dap3)∧Below w.heap.size w wr) (fun i _=>n3-(intOf i).toNat)
 case atStart=>exact⟨0,by omega,rfl,HN1.out,HB1.out⟩
 case round =>
  obtain⟨k,hk,rfl,hX,hB⟩:=hrel;clear HN1 p0 p1 p2 p3 s0 s1 s2 s3 hlt1 hlt2 HB1;have HB:Hid (Below w.heap.size w wr):=hB;have HX:Hid (NN wr w.heap.size S (.slice ao n cap) (.slice ao2 n2 cap2) (.slice ao3 n3 cap3) S (.slice bo m dap) (.slice bo2 m2 dap2) (.slice bo3 n3 dap3)):=hX;obtain⟨⟨p0,p1,p2,p3⟩,s0,s1,s2,s3⟩:=hX;have hlt1:w.heap.size<wr.heap.size:=bLQ _ _ p0;have hlt2:w.heap.size+1<wr.heap.size:=bLQ _ _ s0;by_cases hlt:k<n3
  ·obtain⟨g,og,hao,hc,_⟩:=HA.out (by omega);obtain⟨f,of,hbo,hd,_⟩:=HA2.out (by omega);subst hao hbo;obtain⟨a3,l3,c3,r0,hG3⟩:=(hc.later hB) k (by rw[HN.out];exact hlt);obtain⟨a4,l4,c4,r1,hG4⟩:=(hd.later hB) k (by rw[HN.out];exact hlt);have HCL:Hid (NC wr w.heap.size S (.slice ao n cap) (.slice ao2 n2 cap2) (.slice (some ⟨g,og,none⟩) n3 cap3) S (.slice bo m dap) (.slice bo2 m2 dap2) (.slice (some ⟨f,of,none⟩) n3 dap3) g (og+k) (.slice a3 l3 c3) f (of+k) (.slice a4 l4 c4) (Ts[k]'(by rw[HN.out];exact hlt)) (Ts[k]'(by rw[HN.out];exact hlt)) wr):=⟨bRQ _ _,HX.out,r0,r1,hG3,hG4⟩;have kb0:(0:Int)≤(k:Int):=by omega
   have kb1:(k:Int)<(n3:Int):=by omega
   clear hc hd hB r0 r1 hG3 hG4;go_upto_region 7 with fail;clear p0 p1 p2 p3 s0 s1 s2 s3;refine wp_region_quiet (C:=NC wr w.heap.size S (.slice ao n cap) (.slice ao2 n2 cap2) (.slice (some ⟨g,og,none⟩) n3 cap3) S (.slice bo m dap) (.slice bo2 m2 dap2) (.slice (some ⟨f,of,none⟩) n3 dap3) g (og+k) (.slice a3 l3 c3) f (of+k) (.slice a4 l4 c4) (Ts[k]'(by rw[HN.out];exact hlt)) (Ts[k]'(by rw[HN.out];exact hlt))) (by kernel_rfl) (by kernel_rfl) (NC.later (W:=wr) (Below.drew (bRQ _ _)) HCL.out) ?_;simp only[List.toList_toArray];go_big_quiet_want;refine qv (.pointer (some ⟨w.heap.size,3,none⟩)) ?_ ?_
   ·rintro w' ⟨z,⟨⟨z0,z1,z2,z3⟩,y0,y1,y2,y3⟩,x0,x1,x2,x3⟩;go_simp
   simp only[Act.put,AP];go_big_quiet_on;go_big_quiet_want;refine qv (.slice (some ⟨g,og,none⟩) n3 cap3) ?_ ?_
   ·rintro w' ⟨z,⟨⟨z0,z1,z2,z3⟩,y0,y1,y2,y3⟩,x0,x1,x2,x3⟩;go_simp
   simp only[Act.put,AP];go_big_quiet_on;go_big_quiet_want;refine qv (.int i64 (k:Int)) ?_ ?_
   ·rintro w' ⟨z,⟨⟨z0,z1,z2,z3⟩,y0,y1,y2,y3⟩,x0,x1,x2,x3⟩;go_simp
   simp only[Act.put,AP];go_big_quiet_on;go_big_quiet_want;refine qv (.pointer (some ⟨g,og+k,none⟩)) ?_ ?_
   ·rintro w' ⟨z,⟨⟨z0,z1,z2,z3⟩,y0,y1,y2,y3⟩,x0,x1,x2,x3⟩;go_simp
   simp only[Act.put,AP];go_big_quiet_on;go_big_quiet_want;refine qv (.slice a3 l3 c3) ?_ ?_
   ·rintro w' ⟨z,⟨⟨z0,z1,z2,z3⟩,y0,y1,y2,y3⟩,x0,x1,x2,x3⟩;go_simp
   simp only[Act.put,AP];go_big_quiet_on;go_big_quiet_want;refine qv (.pointer (some ⟨w.heap.size+1,3,none⟩)) ?_ ?_
   ·rintro w' ⟨z,⟨⟨z0,z1,z2,z3⟩,y0,y1,y2,y3⟩,x0,x1,x2,x3⟩;go_simp
   simp only[Act.put,AP];go_big_quiet_on;go_big_quiet_want;refine qv (.slice (some ⟨f,of,none⟩) n3 dap3) ?_ ?_
   ·rintro w' ⟨z,⟨⟨z0,z1,z2,z3⟩,y0,y1,y2,y3⟩,x0,x1,x2,x3⟩;go_simp
   simp only[Act.put,AP];go_big_quiet_on;go_big_quiet_want;refine qv (.int i64 (k:Int)) ?_ ?_
   ·rintro w' ⟨z,⟨⟨z0,z1,z2,z3⟩,y0,y1,y2,y3⟩,x0,x1,x2,x3⟩;go_simp
   simp only[Act.put,AP];go_big_quiet_on;go_big_quiet_want;refine qv (.pointer (some ⟨f,of+k,none⟩)) ?_ ?_
   ·rintro w' ⟨z,⟨⟨z0,z1,z2,z3⟩,y0,y1,y2,y3⟩,x0,x1,x2,x3⟩;go_simp
   simp only[Act.put,AP];go_big_quiet_on;go_big_quiet_want;refine qv (.slice a4 l4 c4) ?_ ?_
   ·rintro w' ⟨z,⟨⟨z0,z1,z2,z3⟩,y0,y1,y2,y3⟩,x0,x1,x2,x3⟩;go_simp
   simp only[Act.put,AP];go_big_quiet_on;go_big_quiet_want;refine quiet_call (f:=36) (args:=#[.slice a3 l3 c3,.slice a4 l4 c4]) (v:=.bool true) (fun w'=>?_) (fun w' hC=>(tabs_any a3 l3 c3 a4 l4 c4 _ w' hC.2.2.2.2.1 hC.2.2.2.2.2).mono (fun e w2 h2=>⟨h2.1,NC.later h2.2 hC⟩)) ?_
   ·go_simp
   simp only[Act.put,AP];go_big_quiet_on;go_big_quiet_want;refine qv (.bool true) ?_ ?_
   ·rintro w' ⟨z,⟨⟨z0,z1,z2,z3⟩,y0,y1,y2,y3⟩,x0,x1,x2,x3⟩;go_simp
   simp only[Act.put,AP];go_big_quiet_on;refine wpQuiet_nil ?_;intro w' hC;have HBY:Hid (Below wr.heap.size wr w'):=hC.1;have HXY:Hid (NN w' w.heap.size S (.slice ao n cap) (.slice ao2 n2 cap2) (.slice (some ⟨g,og,none⟩) n3 cap3) S (.slice bo m dap) (.slice bo2 m2 dap2) (.slice (some ⟨f,of,none⟩) n3 dap3)):=hC.2.1;clear hC;go_wp2;go_roundw
   case rel=>exact⟨k+1,by omega,by go_num,HXY.out,HB.out.trans (HBY.out.mono HB.out.size)⟩
   case measure=>simp[intOf];omega
  obtain rfl:k=n3:=by omega
  clear hB;go_wp2;go_ret;exact⟨rfl,HB.out⟩
def wisCD (w:World)(g o:Nat)(x0:Int)(x1 x2:ByteArray)(x3:Int)(g' o':Nat)(y0:Int)(y1 y2:ByteArray)(y3:Int)(w':World):Prop:=
 Below w.heap.size w w'∧(w'.cell? ⟨g,o,none⟩=some (.int i64 x0)∧w'.cell? ⟨g,o+1,none⟩=some (.string x1)∧w'.cell? ⟨g,o+2,none⟩=some (.string x2)∧w'.cell? ⟨g,o+3,none⟩=some (.int i64 x3)) ∧
 w'.cell? ⟨g',o',none⟩=some (.int i64 y0)∧w'.cell? ⟨g',o'+1,none⟩=some (.string y1)∧w'.cell? ⟨g',o'+2,none⟩=some (.string y2)∧w'.cell? ⟨g',o'+3,none⟩=some (.int i64 y3)
theorem wisCD.later {w W W':World}{g o:Nat}{x0:Int}{x1 x2:ByteArray}{x3:Int}{g' o':Nat}{y0:Int}{y1 y2:ByteArray}{y3:Int}(hb:Below W.heap.size W W')(h:wisCD w g o x0 x1 x2 x3 g' o' y0 y1 y2 y3 W):wisCD w g o x0 x1 x2 x3 g' o' y0 y1 y2 y3 W':=by
 obtain⟨h0,⟨h1,h2,h3,h4⟩,k1,k2,k3,k4⟩:=h;exact⟨h0.trans (hb.mono h0.size),⟨cell_later hb h1,cell_later hb h2,cell_later hb h3,cell_later hb h4⟩,cell_later hb k1,cell_later hb k2,cell_later hb k3,cell_later hb k4⟩
theorem wis_same (ao:AdQ)(n cap:Nat)(ao2:AdQ)(n2 cap2:Nat)(L M:List (Wi))(w:World)(hs:GS wisE w (.slice ao n cap) L)(ht:GS wisE w (.slice ao2 n2 cap2) M):
 Calls prog 13 #[.slice ao n cap,.slice ao2 n2 cap2] w fun e w'=>e=.returned (.bool (smG wisB L M))∧Below w.heap.size w w':=by
 obtain⟨ao',n',cap',e,hn,hn2,hn3,ha⟩:=hs.form;cases e;obtain⟨ao',n',cap',e,hm,hm2,hm3,hb⟩:=ht.form;cases e;have HN:Hid (L.length=n):=hn;have HM:Hid (M.length=n2):=hm;have HA:Hid (0<n→∃g o,ao=some ⟨g,o,none⟩∧GAt wisE w g o L∧cap≤maxLen):=ha;have HA2:Hid (0<n2→∃g o,ao2=some ⟨g,o,none⟩∧GAt wisE w g o M∧cap2≤maxLen):=hb;have hn63:n≤9223372036854775807:=by unfold maxLen at hn2;omega
 clear hs ht hn ha hm hb hn2 hm2;obtain⟨R,hR⟩:∃R,R=smG wisB L M:=⟨_,rfl⟩;have HR:Hid (R=smG wisB L M):=hR;rw[←hR];clear hR;by_cases hl:n=n2
 ·subst hl;go_enter func13,ntmps13;go_wp2
  go_loopw [5] (fun i wr=>∃k:Nat,k≤n∧i=.int i64 k∧(∀j,j<k→∀(h1:j<L.length) (h2:j<M.length),wisB L[j] M[j]=true)∧Below w.heap.size w wr) (fun i _=>n-(intOf i).toNat)
  case atStart=>exact⟨0,by omega,rfl,fun j hj=>absurd hj (by omega),bRQ _ _⟩
  case round =>
   obtain⟨k,hk,rfl,hall,hB⟩:=hrel;have HB:Hid (Below w.heap.size w wr):=hB;have HALL:Hid (∀j,j<k→∀(h1:j<L.length) (h2:j<M.length),wisB L[j] M[j]=true):=hall;clear hall;by_cases hlt:k<n
   ·obtain⟨g,og,hao,hc,_⟩:=HA.out (by omega);obtain⟨g2,og2,hao2,hc2,_⟩:=HA2.out (by omega);subst hao hao2;obtain⟨x0,x1,x2,x3,hkl,hLk,q0,q1,q2,q3⟩:=wis_at (hc.later hB) HN.out hlt;obtain⟨y0,y1,y2,y3,hkm,hMk,r0,r1,r2,r3⟩:=wis_at (hc2.later hB) HM.out hlt;have HCE:Hid (wisCD w g (og+k*4) x0 x1 x2 x3 g2 (og2+k*4) y0 y1 y2 y3 wr):=⟨hB,⟨q0,q1,q2,q3⟩,r0,r1,r2,r3⟩;have HLK:Hid (L[k]=⟨x0,x1,x2,x3⟩∧M[k]=⟨y0,y1,y2,y3⟩):=⟨hLk,hMk⟩;clear q0 q1 q2 q3 r0 r1 r2 r3 hB hc hc2 hLk hMk HA HA2;go_upto_region 6 with fail;have kb0:(0:Int)≤(k:Int):=by omega
    have kb1:(k:Int)<(n:Int):=by omega
    go_cut [25] from 11 to 25 (fun c w'=>c=.bool (!wisB ⟨x0,x1,x2,x3⟩ ⟨y0,y1,y2,y3⟩)∧Below w.heap.size w w')
    case first =>
     as_aux_lemma =>
      refine wp_region_quiet (C:=wisCD w g (og+k*4) x0 x1 x2 x3 g2 (og2+k*4) y0 y1 y2 y3) (by kernel_rfl) (by kernel_rfl) (wisCD.later (W:=wr) (Below.drew (bRQ _ _)) HCE.out) ?_;simp only[List.toList_toArray];go_big_quiet_want;refine qv (.slice (some ⟨g,og,none⟩) n cap) ?_ ?_
      ·rintro w' ⟨z,⟨z0,z1,z2,z3⟩,u0,u1,u2,u3⟩;go_simp
      simp only[Act.put,AP];go_big_quiet_on;go_big_quiet_want;refine qv (.int i64 (k:Int)) ?_ ?_
      ·rintro w' ⟨z,⟨z0,z1,z2,z3⟩,u0,u1,u2,u3⟩;go_simp
      simp only[Act.put,AP];go_big_quiet_on;go_big_quiet_want;refine qv (.pointer (some ⟨g,og+k*4,none⟩)) ?_ ?_
      ·rintro w' ⟨z,⟨z0,z1,z2,z3⟩,u0,u1,u2,u3⟩;go_simp
      simp only[Act.put,AP];go_big_quiet_on;go_big_quiet_want;refine qv (.agg #[.int i64 x0,.string x1,.string x2,.int i64 x3]) ?_ ?_
      ·rintro w' ⟨z,⟨z0,z1,z2,z3⟩,u0,u1,u2,u3⟩;go_simp
      simp only[Act.put,AP];go_big_quiet_on;go_big_quiet_want;refine qv (.slice (some ⟨g2,og2,none⟩) n cap2) ?_ ?_
      ·rintro w' ⟨z,⟨z0,z1,z2,z3⟩,u0,u1,u2,u3⟩;go_simp
      simp only[Act.put,AP];go_big_quiet_on;go_big_quiet_want;refine qv (.int i64 (k:Int)) ?_ ?_
      ·rintro w' ⟨z,⟨z0,z1,z2,z3⟩,u0,u1,u2,u3⟩;go_simp
      simp only[Act.put,AP];go_big_quiet_on;go_big_quiet_want;refine qv (.pointer (some ⟨g2,og2+k*4,none⟩)) ?_ ?_
      ·rintro w' ⟨z,⟨z0,z1,z2,z3⟩,u0,u1,u2,u3⟩;go_simp
      simp only[Act.put,AP];go_big_quiet_on;go_big_quiet_want;refine qv (.agg #[.int i64 y0,.string y1,.string y2,.int i64 y3]) ?_ ?_
      ·rintro w' ⟨z,⟨z0,z1,z2,z3⟩,u0,u1,u2,u3⟩;go_simp
      simp only[Act.put,AP];go_big_quiet_on;go_big_quiet_want;refine quiet_val (v:=.bool (!wisB ⟨x0,x1,x2,x3⟩ ⟨y0,y1,y2,y3⟩)) (fun w' hC=>exec_bin rfl (by go_simp) (run_neq_of (wis_eq x0 x1 x2 x3 y0 y1 y2 y3 w'))) ?_;simp only[Act.put,AP];go_big_quiet_on;refine wpQuiet_nil ?_;intro w' hC
      go_wp2_with fail
      go_meet
      case rel=>exact⟨rfl,hC.1⟩
    case rest =>
     obtain⟨rfl,hB2⟩:=hcut;have HB2:Hid (Below w.heap.size w wc):=hB2;clear HCE hB2;cases ho:wisB ⟨x0,x1,x2,x3⟩ ⟨y0,y1,y2,y3⟩
     ·have HF:Hid (R=false):=by
       show R=false;rw[HR.out];exact smG_no hkl hkm (by rw[HLK.out.1,HLK.out.2];exact ho)
      go_wp2;go_ret;exact⟨by rw[HF.out];rfl,HB2.out⟩
     have HAL2:Hid (∀j,j<k+1→∀(h1:j<L.length) (h2:j<M.length),wisB L[j] M[j]=true):=by
      intro j hj h1 h2;by_cases e:j=k
      ·subst e;rw[HLK.out.1,HLK.out.2];exact ho
      exact HALL.out j (by omega) h1 h2
     clear ho;go_wp2;go_roundw
     case rel=>exact⟨k+1,by omega,by go_num,HAL2.out,HB2.out⟩
     case measure=>simp[intOf];omega
   obtain rfl:k=n:=by omega
   have HF:Hid (R=true):=by
    show R=true;rw[HR.out];refine smG_iff.2 ⟨by rw[HN.out,HM.out],fun i h1 h2=>HALL.out i (by rw[HN.out] at h1;exact h1) h1 h2⟩
   go_wp2;go_ret;exact⟨by rw[HF.out];rfl,HB.out⟩
 have HF:Hid (R=false):=by
  show R=false;rw[HR.out];exact smG_len (by rw[HN.out,HM.out];exact hl)
 have e1:((n:Int)==(n2:Int))=false:=beq_eq_false_iff_ne.2 (by omega);have e2:((n:Int) != (n2:Int))=true:=by simp;omega
 go_enter func13,ntmps13;go_wp2;go_ret;exact⟨by rw[HF.out];rfl,bRQ _ _⟩
end
namespace textBack
open Go.RowKit
theorem fact_n:rtN ⟨#[115,119,105,116,99,104,101,115,32,50,10,108,105,110,107,32,49,46,49,32,50,46,49,10,114,117,108,101,32,50,32,53,32,49,42,42,42,32,100,114,111,112,10]⟩=0:=by decide +kernel
theorem fact_k:rtK ⟨#[115,119,105,116,99,104,101,115,32,50,10,108,105,110,107,32,49,46,49,32,50,46,49,10,114,117,108,101,32,50,32,53,32,49,42,42,42,32,100,114,111,112,10]⟩=0:=by decide +kernel
theorem fact_s:(rxE ⟨#[115,119,105,116,99,104,101,115,32,50,10,108,105,110,107,32,49,46,49,32,50,46,49,10,114,117,108,101,32,50,32,53,32,49,42,42,42,32,100,114,111,112,10]⟩).S=2:=by decide +kernel
theorem fact_t:(rxE ⟨#[115,119,105,116,99,104,101,115,32,50,10,108,105,110,107,32,49,46,49,32,50,46,49,10,114,117,108,101,32,50,32,53,32,49,42,42,42,32,100,114,111,112,10]⟩).Ts.map (·.length)=[0,1]:=by decide +kernel
theorem two_tabs {W:World}{v:Value}{Ts:TsQ}(h:TS W v Ts)(e:Ts.map (·.length)=[0,1]):∃g o cap a c,v=.slice (some ⟨g,o,none⟩) 2 cap∧W.cell? ⟨g,o+1,none⟩=some (.slice a 1 c):=by
 have hl:Ts.length=2:=by simpa using congrArg List.length e
 obtain⟨A,B,rfl⟩:∃A B,Ts=[A,B]:=by
  match Ts,hl with
  | [A,B],_=>exact⟨A,B,rfl⟩
 have hB:B.length=1:=by
  simp at e;exact e.2
 rcases h with ⟨_,_,_,h⟩ | ⟨g,o,cap,h1,_,_,h4⟩
 ·cases h
 obtain⟨a,n,c,h5,h6⟩:=h4 1 (by simp);obtain⟨_,_,_,e2,h7,_⟩:=h6.form;cases e2;have h8:B.length=n:=h7;rw[hB] at h8;subst h8;exact⟨g,o,cap,a,c,h1,h5⟩
theorem by_refl (a:ByteArray):(a==a)=true:=by rw[←beq_turn];simp
theorem wis_refl (l:List Wi):smG wisB l l=true:=smG_iff.2 ⟨rfl,fun i h1 h2=>by unfold wisB;simp[by_refl]⟩
theorem rx_back {s:ByteArray}(h:rtN s=0):nwsN (rxE s).S (rxE s).Ls (rxE s).Hs (rxE s).Ts (rxE s).ws=0∧ptS (rxE s).S (rxE s).Ls (rxE s).Hs (rxE s).Ts (rxE s).ws=s:=by
 obtain⟨_,_,_,_,h5,h6⟩:=rt_0 h;have hx:rxE s={ rtE s with Ts:=fiT (rtE s).S (rtE s).Ts }:=by rw[rxE,if_pos h]
 have hn:nwsN (rxE s).S (rxE s).Ls (rxE s).Hs (rxE s).Ts (rxE s).ws=0:=by
  rw[hx];unfold nwsN;rw[if_pos h5];exact h6
 refine⟨hn,?_⟩;rw[ptS,if_pos hn,hx];exact rt_text h
theorem tx_back {S:Int}{Ls:LkQ}{Hs:HoQ}{Ts:TsQ}{ws:List Wi}(h:nwsN S Ls Hs Ts ws=0)(hl:(textT S Ls Hs Ts ws).size≤3000):
 rtN (textT S Ls Hs Ts ws)=0∧(rxE (textT S Ls Hs Ts ws)).S=S∧(rxE (textT S Ls Hs Ts ws)).Ls=Ls∧(rxE (textT S Ls Hs Ts ws)).Hs=Hs∧(rxE (textT S Ls Hs Ts ws)).Ts=Ts∧(rxE (textT S Ls Hs Ts ws)).ws=ws:=by
 obtain⟨h1,h2⟩:=nw_0 h;obtain⟨e1,e2,e3,e4,e5,e6,e7⟩:=text_rt h1 h2 hl;have hx:rxE (textT S Ls Hs Ts ws)={ rtE (textT S Ls Hs Ts ws) with Ts:=fiT (rtE (textT S Ls Hs Ts ws)).S (rtE (textT S Ls Hs Ts ws)).Ts }:=by rw[rxE,if_pos e1]
 rw[hx];exact⟨e1,e3,e4,e5,by show fiT _ _=_;rw[e3];exact e6,e7⟩
theorem walk (S:Int)(ao:AdQ)(n cap:Nat)(ao2:AdQ)(n2 cap2:Nat)(ao3:AdQ)(n3 cap3:Nat)(a4:AdQ)(n4 c4:Nat)(s:ByteArray)(Ls:LkQ)(Hs:HoQ)(Ts:TsQ)(ws:List Wi)(w:World)
 (hL:GS lnkE w (.slice ao n cap) Ls) (hH:GS hstE w (.slice ao2 n2 cap2) Hs) (hT:TS w (.slice ao3 n3 cap3) Ts) (hW:GS wisE w (.slice a4 n4 c4) ws) (hwd:HasWords w) (hnm:HasNum w):
 Calls prog 4 #[.agg #[.int i64 S,.slice ao n cap,.slice ao2 n2 cap2,.slice ao3 n3 cap3],.slice a4 n4 c4,.string s] w fun e w'=>e=.returned (.bool true)∧Below w.heap.size w w':=by
 obtain⟨w0,hw0⟩:∃W,W=w.alloc (.cells #[.int i64 S,.slice ao n cap,.slice ao2 n2 cap2,.slice ao3 n3 cap3] 28):=⟨_,rfl⟩;have hb0:Below w.heap.size w w0:=by rw[hw0];exact (bRQ _ _).alloc (nLQ _) _
 have hnb:NeBox w0 w.heap.size S (.slice ao n cap) (.slice ao2 n2 cap2) (.slice ao3 n3 cap3):=by rw[hw0];exact nebox_new w S (.slice ao n cap) (.slice ao2 n2 cap2) (.slice ao3 n3 cap3) 28
 have HB0:Hid (Below w.heap.size w w0):=hb0;have HW0:Hid (w.alloc (.cells #[.int i64 S,.slice ao n cap,.slice ao2 n2 cap2,.slice ao3 n3 cap3] 28)=w0):=hw0.symm;have HNB:Hid (∀W,Below w0.heap.size w0 W→NeBox W w.heap.size S (.slice ao n cap) (.slice ao2 n2 cap2) (.slice ao3 n3 cap3)):=fun W h=>hnb.later h
 have HG:Hid (∀W,Below w.heap.size w W→(GS lnkE W (.slice ao n cap) Ls∧GS hstE W (.slice ao2 n2 cap2) Hs∧TS W (.slice ao3 n3 cap3) Ts∧GS wisE W (.slice a4 n4 c4) ws)∧HasWords W∧HasNum W):=fun W h=>⟨⟨hL.later h,hH.later h,hT.later h,hW.later h⟩,hwd.later h,hnm.later h⟩
 clear hL hH hT hW hwd hnm hb0 hnb hw0;go_enter func4,ntmps4;go_upto_region 1 with fail;rw[HW0.out]
 go_wp2_with fail
 refine (tparse_any ⟨#[115,119,105,116,99,104,101,115,32,50,10,108,105,110,107,32,49,46,49,32,50,46,49,10,114,117,108,101,32,50,32,53,32,49,42,42,42,32,100,114,111,112,10]⟩ w0 (HG.out w0 HB0.out).2.1 (HG.out w0 HB0.out).2.2).mono ?_;rintro e w1 ⟨x1,x2,x3,x4,rfl,e1,e2,e3,e4,hb1⟩;rw[fact_n,fact_k,fact_s,show noV 0=.nilIface from rfl,show (((0:Nat):Int))=0 from rfl];obtain⟨b1,k1,d1,rfl,_⟩:=e1.form;obtain⟨b2,k2,d2,rfl,_⟩:=e2.form;obtain⟨b4,k4,d4,rfl,_⟩:=e4.form;obtain⟨g,o,d3,a5,c5,rfl,hc5⟩:=two_tabs e3 fact_t;obtain⟨w2,hw2⟩:∃W,W=w1.alloc (.cells #[.int i64 2,.slice b1 k1 d1,.slice b2 k2 d2,.slice (some ⟨g,o,none⟩) 2 d3] 28):=⟨_,rfl⟩;have hb2:Below w1.heap.size w1 w2:=by rw[hw2];exact (bRQ _ _).alloc (nLQ _) _
 have hn2:=nebox_new w1 2 (.slice b1 k1 d1) (.slice b2 k2 d2) (.slice (some ⟨g,o,none⟩) 2 d3) 28;rw[←hw2] at hn2;obtain⟨q0,q1,q2,q3⟩:=hn2;have hc6:=cell_later hb2 hc5;have HB1:Hid (Below w0.heap.size w0 w2):=hb1.trans (hb2.mono hb1.size);have HBW2:Hid (Below w.heap.size w w2):=HB0.out.trans (HB1.out.mono HB0.out.size);obtain⟨p0,p1,p2,p3⟩:=HNB.out w2 HB1.out;clear e1 e2 e3 e4 hb1 hb2 hc5;go_upto_region 2 with fail;rw[←hw2];clear hw2
 go_wp2_with fail
 refine (tprint_any S ao n cap ao2 n2 cap2 ao3 n3 cap3 a4 n4 c4 Ls Hs Ts ws w2 (HG.out w2 HBW2.out).1.1 (HG.out w2 HBW2.out).1.2.1 (HG.out w2 HBW2.out).1.2.2.1 (HG.out w2 HBW2.out).1.2.2.2 (HG.out w2 HBW2.out).2.1).mono ?_;rintro e w3 ⟨rfl,hb3⟩;have HB3:Hid (Below w0.heap.size w0 w3):=HB1.out.trans (hb3.mono HB1.out.size);have HBX:Hid (Below w.heap.size w w3):=HB0.out.trans (HB3.out.mono HB0.out.size);have HWX:Hid (HasWords w3∧HasNum w3):=(HG.out w3 HBX.out).2;clear hb3 q0 q1 q2 q3 hc6 p0 p1 p2 p3;obtain⟨P,hP⟩:∃P,P=ptS S Ls Hs Ts ws:=⟨_,rfl⟩;rw[←hP];by_cases hC:nwsN S Ls Hs Ts ws=0
 ·rw[hC,show noV 0=.nilIface from rfl];have hPt:P=textT S Ls Hs Ts ws:=by rw[hP,ptS,if_pos hC]
  by_cases hsz:P.size≤3000
  ·have hszi:(P.size:Int)≤3000:=by omega
   have HTX:=tx_back hC (by rw[←hPt];exact hsz);rw[←hPt] at HTX;have HT2:Hid (rtN P=0∧(rxE P).S=S∧(rxE P).Ls=Ls∧(rxE P).Hs=Hs∧(rxE P).Ts=Ts∧(rxE P).ws=ws):=HTX;clear HTX hsz hPt hP hC
   go_wp2_with fail
   refine (tparse_any P w3 HWX.out.1 HWX.out.2).mono ?_;rintro e w4 ⟨x1,x2,x3,x4,rfl,e1,e2,e3,e4,hb4⟩;rw[HT2.out.1,HT2.out.2.1,show noV 0=.nilIface from rfl];rw[HT2.out.2.2.1] at e1;rw[HT2.out.2.2.2.1] at e2;rw[HT2.out.2.2.2.2.1] at e3;rw[HT2.out.2.2.2.2.2] at e4;obtain⟨kq,hkq⟩:∃k:Int,k=(rtK P:Int):=⟨_,rfl⟩;rw[←hkq];obtain⟨f1,l1,h1,rfl,_⟩:=e1.form;obtain⟨f2,l2,h2,rfl,_⟩:=e2.form;obtain⟨f3,l3,h3,rfl,_⟩:=e3.form;obtain⟨f4,l4,h4,rfl,_⟩:=e4.form;obtain⟨w5,hw5⟩:∃W,W=w4.alloc (.cells #[.int i64 S,.slice f1 l1 h1,.slice f2 l2 h2,.slice f3 l3 h3] 28):=⟨_,rfl⟩;have hb5:Below w4.heap.size w4 w5:=by rw[hw5];exact (bRQ _ _).alloc (nLQ _) _
   have hn5:=nebox_new w4 S (.slice f1 l1 h1) (.slice f2 l2 h2) (.slice f3 l3 h3) 28;rw[←hw5] at hn5;have HE5:Hid (∀W,Below w5.heap.size w5 W→GS lnkE W (.slice f1 l1 h1) Ls∧GS hstE W (.slice f2 l2 h2) Hs∧TS W (.slice f3 l3 h3) Ts∧GS wisE W (.slice f4 l4 h4) ws):=fun W h=>⟨(e1.later hb5).later h,(e2.later hb5).later h,(e3.later hb5).later h,(e4.later hb5).later h⟩
   have HB5:Hid (Below w0.heap.size w0 w5):=HB3.out.trans ((hb4.trans (hb5.mono hb4.size)).mono HB3.out.size);have HBW5:Hid (Below w.heap.size w w5):=HB0.out.trans (HB5.out.mono HB0.out.size);obtain⟨p0,p1,p2,p3⟩:=HNB.out w5 HB5.out;obtain⟨q0,q1,q2,q3⟩:=hn5;clear e1 e2 e3 e4 hb4 hb5 hkq;go_upto_region 7 with fail;rw[←hw5];clear hw5
   go_wp2_with fail
   refine (smNet_any S f1 l1 h1 f2 l2 h2 f3 l3 h3 ao n cap ao2 n2 cap2 ao3 n3 cap3 Ls Hs Ts w5 (HE5.out w5 (bRQ _ _)).1 (HE5.out w5 (bRQ _ _)).2.1 (HE5.out w5 (bRQ _ _)).2.2.1 (HG.out w5 HBW5.out).1.1 (HG.out w5 HBW5.out).1.2.1 (HG.out w5 HBW5.out).1.2.2.1).mono ?_;rintro e w6 ⟨rfl,hb6⟩;have HB6:Hid (Below w5.heap.size w5 w6):=hb6;have HBW6:Hid (Below w.heap.size w w6):=HBW5.out.trans (hb6.mono HBW5.out.size);clear hb6 p0 p1 p2 p3 q0 q1 q2 q3
   go_wp2_with fail
   refine (wis_same f4 l4 h4 a4 n4 c4 ws ws w6 (HE5.out w6 HB6.out).2.2.2 (HG.out w6 HBW6.out).1.2.2.2).mono ?_;rintro e w7 ⟨rfl,hb7⟩;rw[wis_refl];clear HBX HWX;have HBX:Hid (Below w.heap.size w w7):=HBW6.out.trans (hb7.mono HBW6.out.size);have HWX:Hid (HasWords w7∧HasNum w7):=(HG.out w7 HBX.out).2;clear hb7
   go_wp2_with fail
   refine (tparse_any s w7 HWX.out.1 HWX.out.2).mono ?_;rintro e wy ⟨y1,y2,y3,y4,rfl,e1,e2,e3,e4,hby⟩;have HBY:Hid (Below w.heap.size w wy):=HBX.out.trans (hby.mono HBX.out.size);obtain⟨b1,k1,d1,rfl,_⟩:=e1.form;obtain⟨b2,k2,d2,rfl,_⟩:=e2.form;obtain⟨b3,k3,d3,rfl,_⟩:=e3.form;obtain⟨b4,k4,d4,rfl,_⟩:=e4.form;have HE:Hid (GS lnkE wy (.slice b1 k1 d1) (rxE s).Ls∧GS hstE wy (.slice b2 k2 d2) (rxE s).Hs∧TS wy (.slice b3 k3 d3) (rxE s).Ts∧GS wisE wy (.slice b4 k4 d4) (rxE s).ws):=⟨e1,e2,e3,e4⟩;obtain⟨Q,hQ⟩:∃Q,Q=(rxE s).S:=⟨_,rfl⟩;have HQ:Hid ((rxE s).S=Q):=hQ.symm;rw[←hQ];obtain⟨kk,hkk⟩:∃k:Int,k=(rtK s:Int):=⟨_,rfl⟩;rw[←hkk];clear e1 e2 e3 e4 hby hQ hkk;by_cases hr:rtN s=0
   ·rw[hr,show noV 0=.nilIface from rfl];have HR:=rx_back hr;have HRR:Hid (nwsN (rxE s).S (rxE s).Ls (rxE s).Hs (rxE s).Ts (rxE s).ws=0∧ptS (rxE s).S (rxE s).Ls (rxE s).Hs (rxE s).Ts (rxE s).ws=s):=HR;have hbz:Below wy.heap.size wy (wy.alloc (.cells #[.int i64 Q,.slice b1 k1 d1,.slice b2 k2 d2,.slice b3 k3 d3] 28)):=(bRQ _ _).alloc (nLQ _) _;have HBZ:Hid (Below wy.heap.size wy (wy.alloc (.cells #[.int i64 Q,.slice b1 k1 d1,.slice b2 k2 d2,.slice b3 k3 d3] 28))):=hbz;clear HR hbz hr
    go_wp2_with fail
    refine (tprint_any Q b1 k1 d1 b2 k2 d2 b3 k3 d3 b4 k4 d4 (rxE s).Ls (rxE s).Hs (rxE s).Ts (rxE s).ws _ (HE.out.1.later HBZ.out) (HE.out.2.1.later HBZ.out) (HE.out.2.2.1.later HBZ.out) (HE.out.2.2.2.later HBZ.out) ((HG.out wy HBY.out).2.1.later HBZ.out)).mono ?_;rintro e wz ⟨rfl,hbw⟩;rw[←HQ.out,HRR.out.1,HRR.out.2,show noV 0=.nilIface from rfl];have HBW:Hid (Below w.heap.size w wz):=HBY.out.trans ((HBZ.out.trans (hbw.mono HBZ.out.size)).mono HBY.out.size);clear hbw;go_wp2;go_ret;exact⟨rfl,HBW.out⟩
   have hno:noV (rtN s)=.iface 72 (.int i64 (rtN s)):=by unfold noV;rw[if_neg hr]
   obtain⟨rn,hrn⟩:∃r,r=rtN s:=⟨_,rfl⟩;rw[hno,←hrn];clear hno hr hrn;have hbz:Below wy.heap.size wy (wy.alloc (.cells #[.int i64 Q,.slice b1 k1 d1,.slice b2 k2 d2,.slice b3 k3 d3] 28)):=(bRQ _ _).alloc (nLQ _) _;have HBZ:Hid (Below w.heap.size w (wy.alloc (.cells #[.int i64 Q,.slice b1 k1 d1,.slice b2 k2 d2,.slice b3 k3 d3] 28))):=HBY.out.trans (hbz.mono HBY.out.size);clear hbz;go_wp2;go_ret;exact⟨rfl,HBZ.out⟩
  have hszi:¬(P.size:Int)≤3000:=by omega
  clear hsz hPt hP hC
  go_wp2_with fail
  refine (tparse_any s w3 HWX.out.1 HWX.out.2).mono ?_;rintro e wy ⟨y1,y2,y3,y4,rfl,e1,e2,e3,e4,hby⟩;have HBY:Hid (Below w.heap.size w wy):=HBX.out.trans (hby.mono HBX.out.size);obtain⟨b1,k1,d1,rfl,_⟩:=e1.form;obtain⟨b2,k2,d2,rfl,_⟩:=e2.form;obtain⟨b3,k3,d3,rfl,_⟩:=e3.form;obtain⟨b4,k4,d4,rfl,_⟩:=e4.form;have HE:Hid (GS lnkE wy (.slice b1 k1 d1) (rxE s).Ls∧GS hstE wy (.slice b2 k2 d2) (rxE s).Hs∧TS wy (.slice b3 k3 d3) (rxE s).Ts∧GS wisE wy (.slice b4 k4 d4) (rxE s).ws):=⟨e1,e2,e3,e4⟩;obtain⟨Q,hQ⟩:∃Q,Q=(rxE s).S:=⟨_,rfl⟩;have HQ:Hid ((rxE s).S=Q):=hQ.symm;rw[←hQ];obtain⟨kk,hkk⟩:∃k:Int,k=(rtK s:Int):=⟨_,rfl⟩;rw[←hkk];clear e1 e2 e3 e4 hby hQ hkk;by_cases hr:rtN s=0
  ·rw[hr,show noV 0=.nilIface from rfl];have HR:=rx_back hr;have HRR:Hid (nwsN (rxE s).S (rxE s).Ls (rxE s).Hs (rxE s).Ts (rxE s).ws=0∧ptS (rxE s).S (rxE s).Ls (rxE s).Hs (rxE s).Ts (rxE s).ws=s):=HR;have hbz:Below wy.heap.size wy (wy.alloc (.cells #[.int i64 Q,.slice b1 k1 d1,.slice b2 k2 d2,.slice b3 k3 d3] 28)):=(bRQ _ _).alloc (nLQ _) _;have HBZ:Hid (Below wy.heap.size wy (wy.alloc (.cells #[.int i64 Q,.slice b1 k1 d1,.slice b2 k2 d2,.slice b3 k3 d3] 28))):=hbz;clear HR hbz hr
   go_wp2_with fail
   refine (tprint_any Q b1 k1 d1 b2 k2 d2 b3 k3 d3 b4 k4 d4 (rxE s).Ls (rxE s).Hs (rxE s).Ts (rxE s).ws _ (HE.out.1.later HBZ.out) (HE.out.2.1.later HBZ.out) (HE.out.2.2.1.later HBZ.out) (HE.out.2.2.2.later HBZ.out) ((HG.out wy HBY.out).2.1.later HBZ.out)).mono ?_;rintro e wz ⟨rfl,hbw⟩;rw[←HQ.out,HRR.out.1,HRR.out.2,show noV 0=.nilIface from rfl];have HBW:Hid (Below w.heap.size w wz):=HBY.out.trans ((HBZ.out.trans (hbw.mono HBZ.out.size)).mono HBY.out.size);clear hbw;go_wp2;go_ret;exact⟨rfl,HBW.out⟩
  have hno:noV (rtN s)=.iface 72 (.int i64 (rtN s)):=by unfold noV;rw[if_neg hr]
  obtain⟨rn,hrn⟩:∃r,r=rtN s:=⟨_,rfl⟩;rw[hno,←hrn];clear hno hr hrn;have hbz:Below wy.heap.size wy (wy.alloc (.cells #[.int i64 Q,.slice b1 k1 d1,.slice b2 k2 d2,.slice b3 k3 d3] 28)):=(bRQ _ _).alloc (nLQ _) _;have HBZ:Hid (Below w.heap.size w (wy.alloc (.cells #[.int i64 Q,.slice b1 k1 d1,.slice b2 k2 d2,.slice b3 k3 d3] 28))):=HBY.out.trans (hbz.mono HBY.out.size);clear hbz;go_wp2;go_ret;exact⟨rfl,HBZ.out⟩
 have hnoC:noV (nwsN S Ls Hs Ts ws)=.iface 72 (.int i64 (nwsN S Ls Hs Ts ws)):=by unfold noV;rw[if_neg hC]
 obtain⟨C,hCC⟩:∃C,C=nwsN S Ls Hs Ts ws:=⟨_,rfl⟩;rw[hnoC,←hCC];clear hnoC hC hCC hP
 go_wp2_with fail
 refine (tparse_any s w3 HWX.out.1 HWX.out.2).mono ?_;rintro e wy ⟨y1,y2,y3,y4,rfl,e1,e2,e3,e4,hby⟩;have HBY:Hid (Below w.heap.size w wy):=HBX.out.trans (hby.mono HBX.out.size);obtain⟨b1,k1,d1,rfl,_⟩:=e1.form;obtain⟨b2,k2,d2,rfl,_⟩:=e2.form;obtain⟨b3,k3,d3,rfl,_⟩:=e3.form;obtain⟨b4,k4,d4,rfl,_⟩:=e4.form;have HE:Hid (GS lnkE wy (.slice b1 k1 d1) (rxE s).Ls∧GS hstE wy (.slice b2 k2 d2) (rxE s).Hs∧TS wy (.slice b3 k3 d3) (rxE s).Ts∧GS wisE wy (.slice b4 k4 d4) (rxE s).ws):=⟨e1,e2,e3,e4⟩;obtain⟨Q,hQ⟩:∃Q,Q=(rxE s).S:=⟨_,rfl⟩;have HQ:Hid ((rxE s).S=Q):=hQ.symm;rw[←hQ];obtain⟨kk,hkk⟩:∃k:Int,k=(rtK s:Int):=⟨_,rfl⟩;rw[←hkk];clear e1 e2 e3 e4 hby hQ hkk;by_cases hr:rtN s=0
 ·rw[hr,show noV 0=.nilIface from rfl];have HR:=rx_back hr;have HRR:Hid (nwsN (rxE s).S (rxE s).Ls (rxE s).Hs (rxE s).Ts (rxE s).ws=0∧ptS (rxE s).S (rxE s).Ls (rxE s).Hs (rxE s).Ts (rxE s).ws=s):=HR;have hbz:Below wy.heap.size wy (wy.alloc (.cells #[.int i64 Q,.slice b1 k1 d1,.slice b2 k2 d2,.slice b3 k3 d3] 28)):=(bRQ _ _).alloc (nLQ _) _;have HBZ:Hid (Below wy.heap.size wy (wy.alloc (.cells #[.int i64 Q,.slice b1 k1 d1,.slice b2 k2 d2,.slice b3 k3 d3] 28))):=hbz;clear HR hbz hr
  go_wp2_with fail
  refine (tprint_any Q b1 k1 d1 b2 k2 d2 b3 k3 d3 b4 k4 d4 (rxE s).Ls (rxE s).Hs (rxE s).Ts (rxE s).ws _ (HE.out.1.later HBZ.out) (HE.out.2.1.later HBZ.out) (HE.out.2.2.1.later HBZ.out) (HE.out.2.2.2.later HBZ.out) ((HG.out wy HBY.out).2.1.later HBZ.out)).mono ?_;rintro e wz ⟨rfl,hbw⟩;rw[←HQ.out,HRR.out.1,HRR.out.2,show noV 0=.nilIface from rfl];have HBW:Hid (Below w.heap.size w wz):=HBY.out.trans ((HBZ.out.trans (hbw.mono HBZ.out.size)).mono HBY.out.size);clear hbw;go_wp2;go_ret;exact⟨rfl,HBW.out⟩
 have hno:noV (rtN s)=.iface 72 (.int i64 (rtN s)):=by unfold noV;rw[if_neg hr]
 obtain⟨rn,hrn⟩:∃r,r=rtN s:=⟨_,rfl⟩;rw[hno,←hrn];clear hno hr hrn;have hbz:Below wy.heap.size wy (wy.alloc (.cells #[.int i64 Q,.slice b1 k1 d1,.slice b2 k2 d2,.slice b3 k3 d3] 28)):=(bRQ _ _).alloc (nLQ _) _;have HBZ:Hid (Below w.heap.size w (wy.alloc (.cells #[.int i64 Q,.slice b1 k1 d1,.slice b2 k2 d2,.slice b3 k3 d3] 28))):=HBY.out.trans (hbz.mono HBY.out.size);clear hbz;go_wp2;go_ret;exact⟨rfl,HBZ.out⟩
end textBack
section
def cellsOfNums (k:IntKind)(l:List Nat):Array Value:=(l.map fun (n:Nat)=>Value.int k (n:Int)).toArray
def db32:List Nat:=[0,1,28,2,29,14,24,3,30,22,20,15,25,17,4,8,31,27,13,23,21,19,16,7,26,12,18,6,11,5,10,9]
def db64:List Nat:=[0,1,56,2,57,49,28,3,61,58,42,50,38,29,17,4,62,47,59,36,45,43,51,22,53,39,33,30,24,18,12,5,63,55,48,27,60,41,37,16,46,35,44,21,52,32,23,11,54,26,40,15,34,20,31,10,25,14,19,9,13,8,7,6]
def pow10:List Nat:=(List.range 20).map fun (n:Nat)=>10 ^ n
def accepts:List Nat:=[128,191,160,191,128,159,144,191,128,143]++List.replicate 22 0
def lay (cs:Array Value):Obj→Obj
 | .cells _ t frozen=>.cells cs t frozen
 | o=>o
def layTables (h:Array Obj):Array Obj:=
 ((((h.modify 4 (lay (cellsOfNums .u8 db32))).modify 5 (lay (cellsOfNums .u8 db64))).modify 2 (lay (cellsOfNums .u64 pow10))).modify 9 (lay (cellsOfNums .u8 accepts))).modify 8 (lay (cellsOfNums .u8 Go.Pinned.utf8FirstZ))
end
namespace textBack
open Go.ChangeShapes Go.WideShapes Go.ChangeAt Go.RowKit
theorem own:ownKnob Tryz.prog.godebug=none:=by kernel_rfl
theorem laidOut:laidOutB prog=true:=by kernel_rfl
theorem gSyn : Tryz.prog.globalNamed "strconv.ErrSyntax" = some 6 := by kernel_rfl
theorem gRan : Tryz.prog.globalNamed "strconv.ErrRange" = some 7 := by kernel_rfl
theorem gWor : Tryz.prog.globalNamed "railpoint/wish.words" = some 0 := by kernel_rfl
theorem tSyn:(Tryz.prog.globals[6]?).map (·.type)=some 34:=by kernel_rfl
theorem tRan:(Tryz.prog.globals[7]?).map (·.type)=some 34:=by kernel_rfl
theorem tWor:(Tryz.prog.globals[0]?).map (·.type)=some 100:=by kernel_rfl
theorem err_cell {W:World}{n:String}{g:Nat}{cs:Array Value}{fuel:Nat}{nm:String}{d:DataW Unit}{p:List MemPlace}(hg:Tryz.prog.globalNamed n=some g)(hv:W.var? prog n=some cs)
 (h:DataW.trod (fun _=>()) prog W 0 (fun _=>true) false fuel 34 cs.toList=some (.iface nm d,p)):∃ev,W.cell? ⟨g,0,none⟩=some ev∧(ev=.nilIface∨∃te pe,ev=.iface te pe):=by
 obtain⟨_,u,v,e,_,_⟩:=iface_of_trod underlying34 h;obtain⟨l⟩:=cs;simp only at e;subst e;exact⟨.iface u v,by simpa using World.var?_cell hg hv 0,.inr ⟨u,v,rfl⟩⟩
theorem str_cell {W:World}{fuel:Nat}{c:Value}{l:List UInt8}{b:ByteArray}{x:DataW Unit×List MemPlace}(hb:b.data.toList=l)(hx:x.1=.lit (.string l))
 (h:DataW.trod (fun _=>()) prog W 0 (fun _=>true) false fuel 9 [c]=some x):c=.string b:=by
 obtain⟨s,e1,e2,_⟩:=DataW.trod_string underlying9 h;have e3:c=.string s:=by simpa using e1
 rw[e2] at hx;have e4:s.data.toList=l:=by simpa using hx
 rw[e3,wa_ext (e4.trans hb.symm)]
theorem words_cells {W : World}{cs : Array Value}{fuel : Nat}{p : List MemPlace}(hv : W.var? prog "railpoint/wish.words" = some cs)
 (h:DataW.trod (fun _=>()) prog W 0 (fun _=>true) false fuel 100 cs.toList=some (Rows.laid_railpoint_wish_words,p)):HasWords W:=by
 have hC:Tryz.prog.cellsOf 100=5:=by kernel_rfl
 have hS:Tryz.prog.cellsOf 9=1:=by kernel_rfl
 obtain⟨xs,m,_,hx,hl,hn,hi⟩:=DataW.trod_array (n:=5) (e:=9) (by kernel_rfl) h;obtain⟨l⟩:=cs;simp only at hl hi;rw[hC] at hl
 match l,hl with
 | [c0,c1,c2,c3,c4],_ =>
   match xs,hn with
   | [y0,y1,y2,y3,y4],_ =>
     have hx2:([y0.1,y1.1,y2.1,y3.1,y4.1]:List (DataW Unit))=[.lit (.string []),.lit (.string [114,101,97,99,104]),.lit (.string [97,112,97,114,116]),.lit (.string [119,97,121]),.lit (.string [108,111,111,112,115])]:=by
      have:=congrArg Prod.fst hx;simp only[Rows.laid_railpoint_wish_words] at this;have h3:=DataW.agg.inj this;exact h3.symm
     simp only[List.cons.injEq,and_true] at hx2;obtain⟨e0,e1,e2,e3,e4⟩:=hx2;have g0:=hi 0 (by decide);have g1:=hi 1 (by decide);have g2:=hi 2 (by decide);have g3:=hi 3 (by decide);have g4:=hi 4 (by decide);simp[hS] at g0 g1 g2 g3 g4;have k0:=str_cell (b:=⟨#[]⟩) rfl e0 g0;have k1:=str_cell (b:=reaS) rfl e1 g1;have k2:=str_cell (b:=apaS) rfl e2 g2;have k3:=str_cell (b:=wayS) rfl e3 g3;have k4:=str_cell (b:=looS) rfl e4 g4;subst k0;subst k1;subst k2;subst k3;subst k4;exact⟨by simpa using World.var?_cell gWor hv 0,by simpa using World.var?_cell gWor hv 1,by simpa using World.var?_cell gWor hv 2,by simpa using World.var?_cell gWor hv 3,by simpa using World.var?_cell gWor hv 4⟩
theorem vars_of_laid {W:World}(h:laidMetH prog Rows.textBackRow.laid W):HasWords W∧HasNum W:=by
 have h' : laidMet prog [("math/bits.deBruijn32tab", Rows.laid_math_bits_deBruijn32tab), ("math/bits.deBruijn64tab", Rows.laid_math_bits_deBruijn64tab), ("internal/strconv.uint64pow10", Rows.laid_internal_strconv_uint64pow10), ("unicode/utf8.acceptRanges", Rows.laid_unicode_utf8_acceptRanges), ("strconv.ErrRange", Rows.laid_strconv_ErrRange), ("strconv.ErrSyntax", Rows.laid_strconv_ErrSyntax), ("railpoint/wish.words", Rows.laid_railpoint_wish_words), ("unicode/utf8.first", Rows.laid_unicode_utf8_first)] W := h
 obtain⟨ps,hl,_,_⟩:=h';obtain⟨_,_,_,_,_,_,_,_,_,_,hl,_⟩:=hl;obtain⟨_,_,_,_,_,_,_,_,_,_,hl,_⟩:=hl;obtain⟨_,_,_,_,_,_,_,_,_,_,hl,_⟩:=hl;obtain⟨_,_,_,_,_,_,_,_,_,_,hl,_⟩:=hl;obtain⟨g1,t1,c1,f1,p1,q1,hg1,ht1,hv1,hd1,hl,_⟩:=hl;obtain⟨g2,t2,c2,f2,p2,q2,hg2,ht2,hv2,hd2,hl,_⟩:=hl;obtain⟨g3,t3,c3,f3,p3,q3,hg3,ht3,hv3,hd3,hl,_⟩:=hl;obtain rfl:=Option.some.inj (gRan.symm.trans hg1);obtain rfl:=Option.some.inj (gSyn.symm.trans hg2);obtain rfl:=Option.some.inj (gWor.symm.trans hg3);obtain rfl:=Option.some.inj (tRan.symm.trans ht1);obtain rfl:=Option.some.inj (tSyn.symm.trans ht2);obtain rfl:=Option.some.inj (tWor.symm.trans ht3);exact⟨words_cells hv3 hd3,err_cell gSyn hv2 hd2,err_cell gRan hv1 hd1⟩
def ranS:ByteArray:=⟨#[118,97,108,117,101,32,111,117,116,32,111,102,32,114,97,110,103,101]⟩
def synS:ByteArray:=⟨#[105,110,118,97,108,105,100,32,115,121,110,116,97,120]⟩
def layAll (b:Nat)(h:Array Obj):Array Obj:=
 ((((layTables h)).modify 0 (lay #[.string ⟨#[]⟩,.string reaS,.string apaS,.string wayS,.string looS])).modify 7 (lay #[.iface 226 (.pointer (some ⟨b,0,none⟩))])).modify 6 (lay #[.iface 226 (.pointer (some ⟨b+1,0,none⟩))])
def errBlocks:Array Obj:=#[.cells #[.string ranS] 228,.cells #[.string synS] 228]
def laidOn (b:Nat)(w:World):World:={ w with heap:=layAll b w.heap }
theorem laid_met (os:Os)(args:Array Value):laidMetH prog Rows.textBackRow.laid ((laidOn (World.holding prog default ⟨#[],#[],[]⟩).heap.size (World.holding prog os ⟨errBlocks,#[],[]⟩)).forCall (fun _ _=>0) ⟨#[],args,[]⟩).memory:=
 laidMetH_of_parts (laidMet_of_run' 8 (by kernel_rfl) (by kernel_rfl)) (by kernel_rfl)
theorem lifted (os:Os)(started:os.Started)(H:Type)(enc:TypeId×Value→H):
 ReturnsInHanded {} Tryz.checked os 4 .any (fun w args=>(Rows.textBackSpec.pre enc prog Tryz.f4 [] false w args∧laidMetH prog Rows.textBackRow.laid w)∧sizedMet enc prog Tryz.f4 (OpenSpec.ofChange Rows.textBackSpec) false w args)
  (Rows.textBackSpec.post enc prog Tryz.f4 false true false false):=by
 refine returnsInHanded_of_change_and (C:=Tryz.checked) (X:=fun w _=>laidMetH prog Rows.textBackRow.laid w) (fun _ _ _ hh h=>h.of_heap hh) own started (by kernel_rfl) func4
  (ChangeSpec.witness_at (enc:=enc) (C:=Tryz.checked) (os:=os) (X:=fun w _=>laidMetH prog Rows.textBackRow.laid w) false
   (laidOn (World.holding prog default ⟨#[],#[],[]⟩).heap.size (World.holding prog os ⟨errBlocks,#[],[]⟩))
   #[.agg #[.int i64 0,.slice none 0 0,.slice none 0 0,.slice none 0 0],.slice none 0 0,.string ByteArray.empty] 8 rfl (by kernel_rfl) (by kernel_rfl) (by kernel_rfl) (by kernel_rfl) (by kernel_rfl) (laid_met os _)) ?_
 intro W base args ds gs before hval0 hW _ _ hLaid _;have hval:∀(j:Nat) t v,Tryz.f4.params[j]?=some t→args[j]?=some v→Value.okWide prog W .any base t v:=hval0;have hW':=hW;obtain⟨p,q,hA0,hV0,rfl,hfz,hnd⟩:=hW;have hA:DataW.TrodAll enc prog W 0 (fun _=>true) true Tryz.f4.params.toList args.toList ds p:=hA0;have hV:DataW.TrodVars enc prog W (fun _=>true) [] gs q:=hV0;rw[params4] at hA hval;obtain⟨v0,vs0,d0,ds0,p0,q0,hargs,rfl,rfl,h0,r0⟩:=trodAll_cons hA;obtain⟨v1,vs1,d1,ds1,p1,q1,rfl,rfl,rfl,h1,r1⟩:=trodAll_cons r0;obtain⟨v2,vs2,d2,ds2,p2,q2,rfl,rfl,rfl,h2,r2⟩:=trodAll_cons r1;obtain⟨rfl,rfl,rfl⟩:=trodAll_nil r2;obtain rfl:args=#[v0,v1,v2]:=by cases args;simp_all
 obtain⟨hwd,hnm⟩:=vars_of_laid hLaid;obtain⟨rfl,rfl⟩:gs=[]∧q=[]:=by
  cases gs with
  | nil=>exact⟨rfl,hV⟩
  | cons g r=>exact absurd hV (by intro h;cases h)
 have k0:=h0;have lt0:∀x∈p0,x.block<W.heap.size:=by obtain⟨m,hm⟩:=k0;exact DataW.trod_lt m _ _ _ hm
 have k1:=h1;have lt1:∀x∈p1,x.block<W.heap.size:=by obtain⟨m,hm⟩:=k1;exact DataW.trod_lt m _ _ _ hm
 have k2:=h2;have lt2:∀x∈p2,x.block<W.heap.size:=by obtain⟨m,hm⟩:=k2;exact DataW.trod_lt m _ _ _ hm
 obtain⟨S,ao,n,cap,ao2,n2,cap2,ao3,n3,cap3,Ls,Hs,Ts,rfl,hL,hH,hT⟩:=net_of (hval 0 28 v0 rfl rfl) h0;obtain⟨l,hl⟩:=wiss_of (hval 1 29 v1 rfl rfl) h1;obtain⟨a4,n4,c4,rfl⟩:=okWide_slice underlying29 (hval 1 29 v1 rfl rfl);obtain⟨m,rfl⟩:=okWide_string underlying9 (hval 2 9 v2 rfl rfl);clear hA0 hval0;refine (walk S ao n cap ao2 n2 cap2 ao3 n3 cap3 a4 n4 c4 m Ls Hs Ts l W hL hH hT hl hwd hnm).mono fun e W' ⟨he,bel⟩=>?_
 subst he;exact⟨_,rfl,_,_,_,[],_,[],hW',trodAll_mk1 (shut_bool underlying4 _),(trodAll_cons_mk (Below.trod laidOut (by kernel_rfl) (of_decide_eq_true (by kernel_rfl)) k0 bel lt0) (trodAll_cons_mk (Below.trod laidOut (by kernel_rfl) (of_decide_eq_true (by kernel_rfl)) k1 bel lt1) (trodAll_cons_mk (Below.trod laidOut (by kernel_rfl) (of_decide_eq_true (by kernel_rfl)) k2 bel lt2) trodAll_mk0))),rfl,bel.frame _,fun h=>by cases h⟩
theorem over:Rows.TextBackSaid:=
 OpenClaim.holds_of_wide 4 Tryz.f4 rfl rfl rfl rfl rfl rfl rfl ⟨rfl,rfl,rfl,rfl,rfl⟩ rfl rfl rfl rfl rfl (by kernel_rfl) func4 (by kernel_rfl)
  (of_decide_eq_true (by kernel_rfl)) (by unfold Func.isWrapper;first | (rw[if_pos (by decide +kernel)];kernel_rfl) | (rw[if_neg (by decide +kernel)];exact⟨rfl,rfl⟩))
  (fun os started H enc _=>lifted os started H enc)
end textBack
end Go.Proofs.YtpbgocfinpbpgaaGreatDoor
