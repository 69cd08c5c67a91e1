/- Contracts and facts on the way to PlanLeast, joined into one text: TopoSettle, TopoCheck, AlikeMath, CubeCon, CubeHas, RuleCon, RuleTab, OwnRow, RuleOwn, TableApp, TableConcat, TableIdx, RuleTab2, TableDo, TableDo2, TableBey, TableOps, TableDiff. -/
import Derived.Test.YtiokpmlhmlcojaaGreatDoorPlanLeastP1
namespace Go.Proofs.YtiokpmlhmlcojaaGreatDoor
set_option linter.unusedSimpArgs false
set_option linter.unusedVariables false
set_option maxHeartbeats 16000000
set_option maxRecDepth 100000
open Go.Proofs.Tryz
open IntKind (i64)
section
open Go.RowKit
def SetQ (w w':World)(B C:Nat)(N:Int)(V:List (Int×Int))(Z:List ByteArray):Prop:=∃M' R',MAt spotKey veI w' B M'∧MAt strKey veI w' C R'∧(N=0→TK sq M' V∧TK (fun a b=>a==b) R' Z)∧But [B,C] w w'
theorem settle_ok (S:Int)(n:ByteArray)(x0 x1:Int)(B C:Nat)(hBC:B≠C)(M:HpQ)(R:List (ByteArray×Int))(U:List (Int×Int))(Z:List ByteArray)(w:World)(hM:MAt spotKey veI w B M)(hR:MAt strKey veI w C R)(hT:TK sq M U)(hZ:TK (fun a b=>a==b) R Z)(hU:U.length≤1000)(hZl:Z.length≤1000)
 (ha:nmB n=true) (hb:spB S (x0,x1)=true) (N:Int) (hN:N=ho1 S Z U (n,(x0,x1))):
 Calls prog 124 #[.int i64 S,.map (some B),.map (some C),.agg #[.string n,.int i64 x0,.int i64 x1]] w fun e w'=>e=.returned (noV N)∧SetQ w w' B C N (U++[(x0,x1)]) (Z++[n]):=by
 have hltB:=hM.lt;have hltC:=hR.lt;have HN:Hid (N=ho1 S Z U (n,(x0,x1))):=hN;have HB0:Hid (Below w.heap.size w (w.alloc (.cells #[Value.string n,.int i64 x0,.int i64 x1] 77))):=(bRQ _ _).alloc (nLQ _) _;have HC:=hst_new w n x0 x1 77;have HM0:Hid (MAt spotKey veI w B M):=hM;have HR0:Hid (MAt strKey veI w C R):=hR;have HT:Hid (TK sq M U):=hT;have HZ:Hid (TK (fun a b=>a==b) R Z):=hZ;have hneB:¬w.heap.size=B:=by omega
 have hneC:¬w.heap.size=C:=by omega
 clear hM hR hT hZ hN;go_enter func124,ntmps124
 go_wp2_with fail
 refine (name_any n _).mono ?_;rintro e w1 ⟨rfl,hb1⟩;rw[ha];have HB1:Hid (Below w.heap.size w w1):=HB0.out.trans (hb1.mono HB0.out.size);have HC1:=HC.later hb1;obtain⟨c0,c1,c2⟩:=hst_cells HC1;simp only[Nat.zero_add] at c0 c1 c2;clear hb1
 go_wp2_with fail
 refine (isSpot_any S x0 x1 _).mono ?_;rintro e w2 ⟨rfl,hb2⟩;rw[hb];have HB2:Hid (Below w.heap.size w w2):=HB1.out.trans (hb2.mono HB1.out.size);have d0:=cell_later hb2 c0;have d1:=cell_later hb2 c1;have d2:=cell_later hb2 c2;have HM2:Hid (MAt spotKey veI w2 B M):=(HM0.out.later HB2.out);have HR2:Hid (MAt strKey veI w2 C R):=(HR0.out.later HB2.out);clear hb2 HC1 HC c0 c1 c2 HB1 HB0;go_upto_region 5 with fail;obtain⟨cA,hcA⟩:∃cA:Int,cA=(ctM (fun a b=>a==b) n Z:Int):=⟨_,rfl⟩;have HcA:Hid (cA=(ctM (fun a b=>a==b) n Z:Int)):=hcA;have hcw:IntKind.i64.wrap (cA+1)=cA+1:=by
  have h1:=ct_le (q:=fun a b:ByteArray=>a==b) n Z;exact wrap_small (by omega) (by omega)
 clear hcA
 go_cut [] from 20 to 24 (fun w'=>∃R1,MAt strKey veI w' C R1∧TK (fun a b=>a==b) R1 (Z++[n])∧But [C] w2 w')
 case first =>
  obtain⟨w3,hup,hR3,hg3⟩:=run_update_M HR2.out 235 3 underlying235 n (cA+1);have hTK3:Hid (TK (fun a b=>a==b) (mput (fun a b=>a==b) n (cA+1) R) (Z++[n])):=by
   show TK _ _ _;rw[HcA.out];exact tk_put ba_iff HZ.out _
  have HR3:Hid (MAt strKey veI w3 C (mput (fun a b=>a==b) n (cA+1) R)):=hR3;have HBt:Hid (But [C] w2 w3):=But.of_grown hg3 (by simp);have hl2:(Instr.lookup 235 (.map (some C)) (.string n) false).run prog w2=.ok (.int i64 cA) w2:=by
   rw[HcA.out];exact run_lookup_TK HR2.out HZ.out 235 3 underlying235 (fun w=>by kernel_rfl) n
  have h3:(Instr.mapUpdate 235 (.map (some C)) (.string n) (.int i64 (cA+1))).run prog w2=.ok () w3:=hup;clear hup hR3 hg3;go_wp2
  go_meet
  case rel=>exact⟨_,HR3.out,hTK3.out,HBt.out⟩
 case rest =>
  obtain⟨R1,hR1,hZ1,hBt1⟩:=hcut;obtain⟨w5,hw5⟩:∃x,x=wc:=⟨_,rfl⟩;subst hw5;have hl2:w.heap.size<w2.heap.size:=bLQ _ _ d0;have hnC:w.heap.size ∉ [C]:=by simp[hneC]
  have e0:=(hBt1.cell (p:=⟨w.heap.size,0,none⟩) hl2 hnC).trans d0;have e1:=(hBt1.cell (p:=⟨w.heap.size,1,none⟩) hl2 hnC).trans d1;have e2:=(hBt1.cell (p:=⟨w.heap.size,2,none⟩) hl2 hnC).trans d2;have HM5:Hid (MAt spotKey veI w5 B M):=HM2.out.but hBt1 (by simp[hBC]);have HR5:Hid (MAt strKey veI w5 C R1):=hR1;have HZ5:Hid (TK (fun a b=>a==b) R1 (Z++[n])):=hZ1;have HBt5:Hid (But [B,C] w w5):=(But.of_below (HB2.out)).trans (hBt1.mono (by simp));clear hR1 hZ1 hBt1 d0 d1 d2 HM2 HR2 hcw HcA hnC hl2;obtain⟨cB,hcB⟩:∃cB:Int,cB=(ctM sq (x0,x1) U:Int):=⟨_,rfl⟩;have HcB:Hid (cB=(ctM sq (x0,x1) U:Int)):=hcB;have hcw:IntKind.i64.wrap (cB+1)=cB+1:=by
   have h1:=ct_le (q:=sq) (x0,x1) U;exact wrap_small (by omega) (by omega)
  clear hcB;go_upto_region 6 with fail
  go_cut [] from 25 to 31 (fun w'=>∃M2,MAt spotKey veI w' B M2∧TK sq M2 (U++[(x0,x1)])∧But [B] w5 w')
  case first =>
   have hMd:MAt spotKey veI w5.drew B M:=HM5.out;obtain⟨v0,st,w3,hE,hg3,hM3,hS3⟩:=run_entry_M hMd 233 3 underlying233 0 (fun w=>by kernel_rfl) (x0,x1);obtain⟨w4,hSt,hM4,hg4⟩:=hS3 w3 (cB+1) rfl;have hTK4:Hid (TK sq (mput sq (x0,x1) (cB+1) M) (U++[(x0,x1)])):=by
    show TK _ _ _;rw[HcB.out];exact tk_put sq_iff HT.out _
   have HM4:Hid (MAt spotKey veI w4 B (mput sq (x0,x1) (cB+1) M)):=hM4;have HBt:Hid (But [B] w5 w4):=((But.refl [B] w5).drew.trans (But.of_grown hg3 (by simp))).trans (But.of_grown hg4 (by simp));have hl2:(Instr.lookup 233 (.map (some B)) (.agg #[.int i64 x0,.int i64 x1]) false).run prog w5.drew=.ok (.int i64 cB) w5.drew:=by
    rw[HcB.out];exact run_lookup_TK hMd HT.out 233 3 underlying233 (fun w=>by kernel_rfl) (x0,x1)
   have hl3:(Instr.lookup 233 (.map (some B)) (.agg #[.int i64 x0,.int i64 x1]) false).run prog w3=.ok (.int i64 cB) w3:=by
    have h:=run_lookup_M hM3 233 3 underlying233 (.int i64 0) (fun w=>by kernel_rfl) (x0,x1) false;have e:mget spotKey.q (x0,x1) (mput spotKey.q (x0,x1) ((mget spotKey.q (x0,x1) M).getD 0) M)=some cB:=by
     rw[mget_put spotKey.qeq,if_pos ((spotKey.qeq _ _).2 rfl),HcB.out];exact congrArg some (HT.out (x0,x1))
    rw[e] at h;exact h
   have h1:(Instr.mapEntry 233 (.map (some B)) (.agg #[.int i64 x0,.int i64 x1])).run prog w5.drew=.ok (.tuple #[v0,.int i64 (st:Int)]) w3:=hE;have h3:(Instr.entryStore 233 (.map (some B)) (.int i64 (st:Int)) (.int i64 (cB+1))).run prog w3=.ok () w4:=hSt;clear hE hS3 hSt hM3 hM4 hg3 hg4 hMd
   go_region
   go_wp2_with fail
   go_meet
   case rel=>exact⟨_,HM4.out,hTK4.out,HBt.out⟩
  case rest =>
   obtain⟨M2,hM2,hT2,hBt2⟩:=hcut;have hnB:w.heap.size ∉ [B]:=by simp[hneB]
   have hl2:w.heap.size<w5.heap.size:=bLQ _ _ e0;have f0:=(hBt2.cell (p:=⟨w.heap.size,0,none⟩) hl2 hnB).trans e0;have f1:=(hBt2.cell (p:=⟨w.heap.size,1,none⟩) hl2 hnB).trans e1;have f2:=(hBt2.cell (p:=⟨w.heap.size,2,none⟩) hl2 hnB).trans e2;have hR6:MAt strKey veI wc C R1:=HR5.out.but hBt2 (by simp[Ne.symm hBC]);have HM6:Hid (MAt spotKey veI wc B M2):=hM2;have HR6:Hid (MAt strKey veI wc C R1):=hR6;have HT6:Hid (TK sq M2 (U++[(x0,x1)])):=hT2;have HBt6:Hid (But [B,C] w wc):=HBt5.out.trans (hBt2.mono (by simp));obtain⟨pA,hpA⟩:∃p:Int,p=(ctM (fun a b=>a==b) n (Z++[n]):Int):=⟨_,rfl⟩;obtain⟨pB,hpB⟩:∃p:Int,p=(ctM sq (x0,x1) (U++[(x0,x1)]):Int):=⟨_,rfl⟩;have hlA:(Instr.lookup 235 (.map (some C)) (.string n) false).run prog wc=.ok (.int i64 pA) wc:=by
    rw[hpA];exact run_lookup_TK hR6 HZ5.out 235 3 underlying235 (fun w=>by kernel_rfl) n
   have hlB:(Instr.lookup 233 (.map (some B)) (.agg #[.int i64 x0,.int i64 x1]) false).run prog wc=.ok (.int i64 pB) wc:=by
    rw[hpB];exact run_lookup_TK hM2 hT2 233 3 underlying233 (fun w=>by kernel_rfl) (x0,x1)
   have HL:Hid (N=if (decide ((1:Int)<pA) || decide ((1:Int)<pB))=true then 7 else 0):=by
    show _=_;have e1:(U.any fun u=>sq u (x0,x1))=(U.any fun u=>u==(x0,x1)):=by
     congr 1
    rw[HN.out,hpA,hpB,ct_host ba_iff,ct_host sq_iff,ho1,e1];simp only[ha,hb,if_true]
   clear hM2 hT2 hR6 hBt2 e0 e1 e2 hnB hl2 hcw HcB HM5 HR5 HBt5 hpA hpB ha hb;by_cases h1:1<pA
   ·have e7:N=7:=by rw[HL.out];simp[h1]
    subst e7;go_wp2;go_ret;exact⟨rfl,M2,R1,HM6.out,HR6.out,fun e=>absurd e (by decide),HBt6.out⟩
   by_cases h2:1<pB
   ·have e7:N=7:=by rw[HL.out];simp[h2]
    subst e7;go_wp2;go_ret;exact⟨rfl,M2,R1,HM6.out,HR6.out,fun e=>absurd e (by decide),HBt6.out⟩
   have e7:N=0:=by rw[HL.out];simp[h1,h2]
   subst e7;go_wp2;go_ret;exact⟨rfl,M2,R1,HM6.out,HR6.out,fun _=>⟨HT6.out,HZ5.out⟩,HBt6.out⟩
theorem settle_bad (S:Int)(n:ByteArray)(x0 x1:Int)(B C:Nat)(N:Int)(w:World)(h:(nmB n=false∧N=2)∨(nmB n=true∧spB S (x0,x1)=false∧N=1)):
 Calls prog 124 #[.int i64 S,.map (some B),.map (some C),.agg #[.string n,.int i64 x0,.int i64 x1]] w fun e w'=>e=.returned (.iface 68 (.int i64 N))∧Below w.heap.size w w':=by
 have HB0:Hid (Below w.heap.size w (w.alloc (.cells #[Value.string n,.int i64 x0,.int i64 x1] 77))):=(bRQ _ _).alloc (nLQ _) _;have HC:=hst_new w n x0 x1 77
 rcases h with ⟨ha,rfl⟩ | ⟨ha,hb,rfl⟩
 ·go_enter func124,ntmps124
  go_wp2_with fail
  refine (name_any n _).mono ?_;rintro e w1 ⟨rfl,hb1⟩;rw[ha];have HB1:Hid (Below w.heap.size w w1):=HB0.out.trans (hb1.mono HB0.out.size);clear hb1 HC;go_wp2;go_ret;exact⟨rfl,HB1.out⟩
 go_enter func124,ntmps124
 go_wp2_with fail
 refine (name_any n _).mono ?_;rintro e w1 ⟨rfl,hb1⟩;rw[ha];have HB1:Hid (Below w.heap.size w w1):=HB0.out.trans (hb1.mono HB0.out.size);obtain⟨c0,c1,c2⟩:=hst_cells (HC.later hb1);simp only[Nat.zero_add] at c0 c1 c2;clear hb1 HC
 go_wp2_with fail
 refine (isSpot_any S x0 x1 _).mono ?_;rintro e w2 ⟨rfl,hb2⟩;rw[hb];have HB2:Hid (Below w.heap.size w w2):=HB1.out.trans (hb2.mono HB1.out.size);clear hb2;go_wp2;go_ret;exact⟨rfl,HB2.out⟩
theorem settle_any (S:Int)(n:ByteArray)(x0 x1:Int)(B C:Nat)(hBC:B≠C)(M:HpQ)(R:List (ByteArray×Int))(U:List (Int×Int))(Z:List ByteArray)(w:World)(hM:MAt spotKey veI w B M)(hR:MAt strKey veI w C R)(hT:TK sq M U)(hZ:TK (fun a b=>a==b) R Z)(hU:U.length≤1000)(hZl:Z.length≤1000):
 Calls prog 124 #[.int i64 S,.map (some B),.map (some C),.agg #[.string n,.int i64 x0,.int i64 x1]] w fun e w'=>e=.returned (noV (ho1 S Z U (n,(x0,x1))))∧SetQ w w' B C (ho1 S Z U (n,(x0,x1))) (U++[(x0,x1)]) (Z++[n]):=by
 cases ha:nmB n
 ·have e1:ho1 S Z U (n,(x0,x1))=2:=by simp only[ho1,ha,Bool.false_eq_true,if_false]
  rw[e1];refine (settle_bad S n x0 x1 B C 2 w (.inl ⟨ha,rfl⟩)).mono ?_;rintro e w' ⟨rfl,hb⟩;exact⟨rfl,M,R,hM.later hb,hR.later hb,fun e=>absurd e (by decide),But.of_below hb⟩
 cases hb:spB S (x0,x1)
 ·have e1:ho1 S Z U (n,(x0,x1))=1:=by simp only[ho1,ha,hb,Bool.false_eq_true,if_false,if_true]
  rw[e1];refine (settle_bad S n x0 x1 B C 1 w (.inr ⟨ha,hb,rfl⟩)).mono ?_;rintro e w' ⟨rfl,hb⟩;exact⟨rfl,M,R,hM.later hb,hR.later hb,fun e=>absurd e (by decide),But.of_below hb⟩
 exact settle_ok S n x0 x1 B C hBC M R U Z w hM hR hT hZ hU hZl ha hb _ rfl
def TBox (W:World)(g:Nat)(S:Int)(v1 v2:Value):Prop:=W.cell? ⟨g,0,none⟩=some (.int i64 S)∧W.cell? ⟨g,1,none⟩=some v1∧W.cell? ⟨g,2,none⟩=some v2
theorem tbox_new (w:World)(S:Int)(v1 v2:Value)(t:TypeId):TBox (w.alloc (.cells #[.int i64 S,v1,v2] t)) w.heap.size S v1 v2:=by
 refine⟨?_,?_,?_⟩ <;> simp
theorem TBox.lt {W:World}{g:Nat}{S:Int}{v1 v2:Value}(h:TBox W g S v1 v2):g<W.heap.size:=bLQ _ _ h.1
theorem TBox.but {X:List Nat}{W W':World}{g:Nat}{S:Int}{v1 v2:Value}(h:TBox W g S v1 v2)(hb:But X W W')(hX:g ∉ X):TBox W' g S v1 v2:=
 ⟨(hb.cell (p:=⟨g,0,none⟩) h.lt hX).trans h.1,(hb.cell (p:=⟨g,1,none⟩) h.lt hX).trans h.2.1,(hb.cell (p:=⟨g,2,none⟩) h.lt hX).trans h.2.2⟩
theorem TBox.later {W W':World}{g:Nat}{S:Int}{v1 v2:Value}(h:TBox W g S v1 v2)(hb:Below W.heap.size W W'):TBox W' g S v1 v2:=h.but (X:=[]) (But.of_below hb) (by simp)
theorem tcheck_range (S:Int)(v1 v2:Value)(w:World)(h:¬(1≤S∧S≤6)):
 Calls prog 88 #[.agg #[.int i64 S,v1,v2]] w fun e w'=>e=.returned (.iface 68 (.int i64 1))∧Below w.heap.size w w':=by
 have HB0:Hid (Below w.heap.size w (w.alloc (.cells #[.int i64 S,v1,v2] 25))):=(bRQ _ _).alloc (nLQ _) _;by_cases h1:S<1
 ·clear h;go_enter func88,ntmps88;go_wp2;go_ret;exact⟨rfl,HB0.out⟩
 have h6:6<S:=by omega
 clear h;go_enter func88,ntmps88;go_wp2;go_ret;exact⟨rfl,HB0.out⟩
theorem check_full (S:Int)(ao:AdQ)(n cap:Nat)(ao2:AdQ)(n2 cap2:Nat)(w:World)(h1:1≤S)(h6:S≤6)(h:200<n∨8<n2):
 Calls prog 88 #[.agg #[.int i64 S,.slice ao n cap,.slice ao2 n2 cap2]] w fun e w'=>e=.returned (.iface 68 (.int i64 4))∧Below w.heap.size w w':=by
 have HB0:Hid (Below w.heap.size w (w.alloc (.cells #[.int i64 S,.slice ao n cap,.slice ao2 n2 cap2] 25))):=(bRQ _ _).alloc (nLQ _) _;have g1:¬S<1:=by omega
 have g6:¬6<S:=by omega
 by_cases hn:(200:Int)<(n:Int)
 ·clear h;go_enter func88,ntmps88;go_wp2;go_ret;exact⟨rfl,HB0.out⟩
 have hn2:(8:Int)<(n2:Int):=by omega
 clear h;go_enter func88,ntmps88;go_wp2;go_ret;exact⟨rfl,HB0.out⟩
theorem check_walk (S:Int)(ao:AdQ)(n cap:Nat)(ao2:AdQ)(n2 cap2:Nat)(Ls:LkQ)(Hs:HoQ)(w:World)
 (hL:GS lnkE w (.slice ao n cap) Ls) (hH:GS hstE w (.slice ao2 n2 cap2) Hs) (h1:1≤S) (h6:S≤6) (hn:n≤200) (hn2:n2≤8) (T:Int) (hT:T=tpN S Ls Hs):
 Calls prog 88 #[.agg #[.int i64 S,.slice ao n cap,.slice ao2 n2 cap2]] w fun e w'=>e=.returned (noV T)∧Below w.heap.size w w':=by
 obtain⟨_,_,_,e1,hLn,_,_,hLa⟩:=hL.form;cases e1;obtain⟨_,_,_,e2,hHn,_,_,hHa⟩:=hH.form;cases e2;have HLN:Hid (Ls.length=n):=hLn;have HHN:Hid (Hs.length=n2):=hHn;have HLA:Hid (0<n→∃g o,ao=some ⟨g,o,none⟩∧GAt lnkE w g o Ls∧cap≤maxLen):=hLa;have HHA:Hid (0<n2→∃g o,ao2=some ⟨g,o,none⟩∧GAt hstE w g o Hs∧cap2≤maxLen):=hHa;have HT:Hid (T=if lkN S Ls []=0 then hoN S Hs [] (spsL Ls) else lkN S Ls []):=by
  show T=_;rw[hT,tpN,if_pos (by simp[h1,h6]),if_pos (by simp[hLn,hHn,hn,hn2])]
 have g1:¬S<1:=by omega
 have g6:¬6<S:=by omega
 have gn:¬(200:Int)<(n:Int):=by omega
 have gn2:¬(8:Int)<(n2:Int):=by omega
 clear hL hH hLn hHn hLa hHa hT h1 h6;have hX:=tbox_new w S (.slice ao n cap) (.slice ao2 n2 cap2) 25;have hB0:Below w.heap.size w (w.alloc (.cells #[.int i64 S,.slice ao n cap,.slice ao2 n2 cap2] 25)):=(bRQ _ _).alloc (nLQ _) _;have HX:Hid (TBox (w.alloc (.cells #[.int i64 S,.slice ao n cap,.slice ao2 n2 cap2] 25)) w.heap.size S (.slice ao n cap) (.slice ao2 n2 cap2)):=hX;have HB0:Hid (Below w.heap.size w (w.alloc (.cells #[.int i64 S,.slice ao n cap,.slice ao2 n2 cap2] 25))):=hB0;have hsz0:(w.alloc (.cells #[.int i64 S,.slice ao n cap,.slice ao2 n2 cap2] 25)).heap.size=w.heap.size+1:=by simp
 clear hX hB0;go_enter func88,ntmps88;go_upto_region 5 with fail
 generalize hw0:w.alloc (.cells #[.int i64 S,.slice ao n cap,.slice ao2 n2 cap2] 25)=w0 at *
 have HW0:Hid (w.alloc (.cells #[.int i64 S,.slice ao n cap,.slice ao2 n2 cap2] 25)=w0):=hw0;have HSZ0:Hid (w0.heap.size=w.heap.size+1):=hsz0;clear hw0 hsz0;have hmk:=run_makeMap (P:=prog) 233 w0;have HM1:Hid (MAt spotKey veI (w0.alloc (.map #[] 0)) w0.heap.size []):=mat_new spotKey veI w0;have hbm:Below w0.heap.size w0 (w0.alloc (.map #[] 0)):=(bRQ _ _).alloc (nLQ _) _;have HX1:Hid (TBox (w0.alloc (.map #[] 0)) w.heap.size S (.slice ao n cap) (.slice ao2 n2 cap2)):=HX.out.later hbm;have HB1:Hid (Below w.heap.size w (w0.alloc (.map #[] 0))):=HB0.out.trans (hbm.mono HB0.out.size);clear hbm;obtain⟨d0,d1,d2⟩:=HX1.out;go_wp2;clear d0 d1 d2;obtain⟨w1,hw1⟩:∃x,w0.alloc (.map #[] 0)=x:=⟨_,rfl⟩;obtain⟨B,hBe⟩:∃x,w0.heap.size=x:=⟨_,rfl⟩;rw[hw1] at HX1 HB1;rw[hw1,hBe] at HM1 ⊢;have HBW:Hid (B=w.heap.size+1):=by
  show B=_;rw[←hBe,HSZ0.out]
 have HSZ1:Hid (w1.heap.size=w.heap.size+2):=by
  show _=_;rw[←hw1];have:=HSZ0.out;simp[this]
 clear hw1 hBe hmk HSZ0 HW0 HX HB0
 go_loopw [35] (fun i wr=>∃k:Nat,k≤n∧i=.int i64 k∧(∃M,MAt spotKey veI wr B M∧TK sq M (spsL (Ls.take k)))∧lkN S Ls []=lkN S (Ls.drop k) (spsL (Ls.take k))∧But [B] w1 wr)
  (fun i _=>n-(intOf i).toNat)
 case atStart=>exact⟨0,by omega,rfl,⟨[],HM1.out,by simpa[spsL] using tk_nil sq⟩,by simp[spsL],But.refl _ _⟩
 case round =>
  obtain⟨k,hk,rfl,⟨M,hM,hTK⟩,hlk,hBt⟩:=hrel;have hnB:w.heap.size ∉ [B]:=by simp[HBW.out]
  have hXr:=HX1.out.but hBt hnB;have hBw:Below w.heap.size w wr:=HB1.out.trans (hBt.below (by rw[HSZ1.out];omega) (by simp[HBW.out]));have HXr:Hid (TBox wr w.heap.size S (.slice ao n cap) (.slice ao2 n2 cap2)):=hXr;have HBw:Hid (Below w.heap.size w wr):=hBw;have HM:Hid (MAt spotKey veI wr B M):=hM;have HTK:Hid (TK sq M (spsL (Ls.take k))):=hTK;have HLK:Hid (lkN S Ls []=lkN S (Ls.drop k) (spsL (Ls.take k))):=hlk;have HBt:Hid (But [B] w1 wr):=hBt;obtain⟨b0,b1,b2⟩:=hXr;have hlw:w.heap.size<wr.heap.size:=bLQ _ _ b0;clear hM hTK hlk hBt HM1;by_cases hlt:k<n
  ·obtain⟨g,o,hao,hc,_⟩:=HLA.out (by omega);subst hao;obtain⟨x0,x1,x2,x3,hkl,hLk,q0,q1,q2,q3⟩:=lnk_at (hc.later hBw) HLN.out hlt;have HLk:Hid (Ls[k]=((x0,x1),(x2,x3))):=hLk;have hBA:Below wr.heap.size wr (wr.alloc (.cells #[.int i64 x0,.int i64 x1,.int i64 x2,.int i64 x3] 124)):=(bRQ _ _).alloc (nLQ _) _;have HBA:Hid (Below wr.heap.size wr (wr.alloc (.cells #[.int i64 x0,.int i64 x1,.int i64 x2,.int i64 x3] 124))):=hBA;have HUL:Hid ((spsL (Ls.take k)).length≤1000):=by
    show _≤1000;rw[sps_len,List.length_take];omega
   have HST:Hid (lkN S Ls []=if lk1 S (spsL (Ls.take k)) ((x0,x1),(x2,x3))=0 then lkN S (Ls.drop (k+1)) (spsL (Ls.take (k+1))) else lk1 S (spsL (Ls.take k)) ((x0,x1),(x2,x3))):=by
    show _=_;rw[HLK.out,List.drop_eq_getElem_cons hkl,lk_step,hLk,sps_take hkl,hLk]
   have HSP:Hid (spsL (Ls.take (k+1))=spsL (Ls.take k)++[(x0,x1),(x2,x3)]):=by
    show _=_;rw[sps_take hkl,hLk]
   clear hLk hBA hBw hc HLA
   go_wp2_with fail
   refine (lay_any S x0 x1 x2 x3 B M _ _ (HM.out.later HBA.out) HTK.out HUL.out).mono ?_;rintro e w3 ⟨rfl,hQ⟩;have hst:=HST.out
   generalize lk1 S (spsL (Ls.take k)) ((x0,x1),(x2,x3))=N at hQ hst ⊢
   have HST2:Hid (lkN S Ls []=if N=0 then lkN S (Ls.drop (k+1)) (spsL (Ls.take (k+1))) else N):=hst;obtain⟨M',hM',hTK',hBt'⟩:=hQ;have HM':Hid (MAt spotKey veI w3 B M'):=hM';have HTK':Hid (N=0→TK sq M' (spsL (Ls.take (k+1)))):=fun h=>by rw[HSP.out];exact hTK' h
   have HBt3:Hid (But [B] w1 w3):=(HBt.out.trans (But.of_below HBA.out)).trans hBt';have HBw3:Hid (Below w.heap.size w w3):=HB1.out.trans (HBt3.out.below (by rw[HSZ1.out];omega) (by simp[HBW.out]));clear hst HST hM' hTK' hBt' HSP HM HTK HLK HBt HBA HUL b0 b1 b2 q0 q1 q2 q3;by_cases hN:N=0
   ·subst hN;rw[no_ok rfl];have HTK2:Hid (TK sq M' (spsL (Ls.take (k+1)))):=HTK'.out rfl;have HLK2:Hid (lkN S Ls []=lkN S (Ls.drop (k+1)) (spsL (Ls.take (k+1)))):=by
     show _=_;rw[HST2.out,if_pos rfl]
    clear HTK' HST2;go_wp2;go_roundw
    case rel=>exact⟨k+1,by omega,by go_num,⟨M',HM'.out,HTK2.out⟩,HLK2.out,HBt3.out⟩
    case measure=>simp[intOf];omega
   rw[no_ne hN];have HTN:Hid (T=N):=by
    show _=_;have e:=HST2.out;rw[if_neg hN] at e;rw[HT.out,e,if_neg hN]
   have HNN:Hid (N≠0):=hN;clear hN HTK' HST2;go_wp2;go_ret;exact⟨by rw[HTN.out,no_ne HNN.out];rfl,HBw3.out⟩
  obtain rfl:k=n:=by omega
  have HLK0:Hid (lkN S Ls []=0):=by
   show _=_;rw[HLK.out,←HLN.out,List.drop_length];rfl
  have HTKL:Hid (TK sq M (spsL Ls)):=by
   show TK _ _ _;have h:=HTK.out;rw[←HLN.out,List.take_length] at h;exact h
  have HTL:Hid (T=hoN S Hs [] (spsL Ls)):=by
   show _=_;rw[HT.out,if_pos HLK0.out]
  have hwr:=HBt.out.size;rw[HSZ1.out] at hwr;obtain⟨w5,hw5⟩:∃x,x=wr:=⟨_,rfl⟩;subst hw5;have HWR:Hid (w.heap.size+2≤w5.heap.size):=hwr;clear HLK HTK HT HLK0 hBw hwr;go_upto_region 13 with fail;have hmk:=run_makeMap (P:=prog) 235 w5;have hbm:Below w5.heap.size w5 (w5.alloc (.map #[] 0)):=(bRQ _ _).alloc (nLQ _) _;have HM2:Hid (MAt spotKey veI (w5.alloc (.map #[] 0)) B M):=HM.out.later hbm;have HR2:Hid (MAt strKey veI (w5.alloc (.map #[] 0)) w5.heap.size []):=mat_new strKey veI w5;have hX2:TBox (w5.alloc (.map #[] 0)) w.heap.size S (.slice ao k cap) (.slice ao2 n2 cap2):=HXr.out.later hbm;have HX2:Hid (TBox (w5.alloc (.map #[] 0)) w.heap.size S (.slice ao k cap) (.slice ao2 n2 cap2)):=hX2;have HB2:Hid (Below w.heap.size w (w5.alloc (.map #[] 0))):=HBw.out.trans (hbm.mono HBw.out.size);obtain⟨d0,d1,d2⟩:=hX2;clear hbm b0 b1 b2 HXr HBw HM HBt HX1 HB1;go_wp2;obtain⟨w6,hw6⟩:∃x,w5.alloc (.map #[] 0)=x:=⟨_,rfl⟩;obtain⟨C,hCe⟩:∃x,w5.heap.size=x:=⟨_,rfl⟩;rw[hw6] at HM2 HX2 HB2 d0 d1 d2;rw[hw6,hCe] at HR2 ⊢;have HC2:Hid (w.heap.size+2≤C):=by
   show _≤_;rw[←hCe];exact HWR.out
  have HSZ6:Hid (w6.heap.size=C+1):=by
   show _=_;rw[←hw6,←hCe];simp
  clear hw6 hCe hmk HWR
  go_loopw [52] (fun i wr=>∃j:Nat,j≤n2∧i=.int i64 j∧(∃M R,MAt spotKey veI wr B M∧MAt strKey veI wr C R∧TK sq M (spsL Ls++(Hs.take j).map (·.2))∧TK (fun a b=>a==b) R ((Hs.take j).map (·.1)))∧hoN S Hs [] (spsL Ls)=hoN S (Hs.drop j) ((Hs.take j).map (·.1)) (spsL Ls++(Hs.take j).map (·.2))∧But [B,C] w6 wr)
   (fun i _=>n2-(intOf i).toNat)
  case atStart=>exact⟨0,by omega,rfl,⟨M,[],HM2.out,HR2.out,by simpa using HTKL.out,tk_nil _⟩,by simp,But.refl _ _⟩
  case round =>
   obtain⟨j,hj,rfl,⟨M3,R3,hM3,hR3,hTM3,hTR3⟩,hho,hBt⟩:=hrel;have hnX:w.heap.size ∉ [B,C]:=by
    have h1:=HBW.out;have h2:=HC2.out;simp only[List.mem_cons,List.not_mem_nil,or_false,not_or];omega
   have hBC:B≠C:=by
    have h1:=HBW.out;have h2:=HC2.out;omega
   have hXr:=HX2.out.but hBt hnX;have hge:∀x∈[B,C],w.heap.size≤x:=by
    have h1:=HBW.out;have h2:=HC2.out;intro x hx;simp only[List.mem_cons,List.not_mem_nil,or_false] at hx;omega
   have hsz6:w.heap.size≤w6.heap.size:=HB2.out.size;have HGE:Hid (∀x∈[B,C],w.heap.size≤x):=hge;have hBw:Below w.heap.size w wr:=HB2.out.trans (hBt.below hsz6 hge);have HBw:Hid (Below w.heap.size w wr):=hBw;have HM3:Hid (MAt spotKey veI wr B M3):=hM3;have HR3:Hid (MAt strKey veI wr C R3):=hR3;have HTM3:Hid (TK sq M3 (spsL Ls++(Hs.take j).map (·.2))):=hTM3;have HTR3:Hid (TK (fun a b=>a==b) R3 ((Hs.take j).map (·.1))):=hTR3;have HHO:Hid (hoN S Hs [] (spsL Ls)=hoN S (Hs.drop j) ((Hs.take j).map (·.1)) (spsL Ls++(Hs.take j).map (·.2))):=hho;have HBt:Hid (But [B,C] w6 wr):=hBt;have HBC:Hid (B≠C):=hBC;obtain⟨b0,b1,b2⟩:=hXr;have hlw:w.heap.size<wr.heap.size:=bLQ _ _ b0;clear hM3 hR3 hTM3 hTR3 hho hBt HM2 HR2 hnX hge hBC d0 d1 d2;by_cases hlt2:j<n2
   ·obtain⟨g,o,hao,hc,_⟩:=HHA.out (by omega);subst hao;obtain⟨y0,y1,y2,hjl,hHk,q0,q1,q2⟩:=hst_at (hc.later hBw) HHN.out hlt2;have HHk:Hid (Hs[j]=(y0,(y1,y2))):=hHk;have HBA:Hid (Below wr.heap.size wr (wr.alloc (.cells #[Value.string y0,.int i64 y1,.int i64 y2] 77))):=(bRQ _ _).alloc (nLQ _) _;have HUL:Hid ((spsL Ls++(Hs.take j).map (·.2)).length≤1000):=by
     show _≤1000;rw[List.length_append,sps_len,List.length_map,List.length_take,HLN.out];omega
    have HZL:Hid (((Hs.take j).map (·.1)).length≤1000):=by
     show _≤1000;rw[List.length_map,List.length_take];omega
    have HS2:Hid (spsL Ls++(Hs.take (j+1)).map (·.2)=(spsL Ls++(Hs.take j).map (·.2))++[(y1,y2)]):=by
     show _=_;rw[List.take_succ_eq_append_getElem hjl,hHk];simp
    have HS1:Hid ((Hs.take (j+1)).map (·.1)=(Hs.take j).map (·.1)++[y0]):=by
     show _=_;rw[List.take_succ_eq_append_getElem hjl,hHk];simp
    have HST:Hid (hoN S Hs [] (spsL Ls)=if ho1 S ((Hs.take j).map (·.1)) (spsL Ls++(Hs.take j).map (·.2)) (y0,(y1,y2))=0 then hoN S (Hs.drop (j+1)) ((Hs.take (j+1)).map (·.1)) (spsL Ls++(Hs.take (j+1)).map (·.2)) else ho1 S ((Hs.take j).map (·.1)) (spsL Ls++(Hs.take j).map (·.2)) (y0,(y1,y2))):=by
     show _=_;rw[HHO.out,List.drop_eq_getElem_cons hjl,ho_step,hHk,HS1.out,HS2.out]
    clear hHk hBw hc HHA HLA
    go_wp2_with fail
    refine (settle_any S y0 y1 y2 B C HBC.out M3 R3 _ _ _ (HM3.out.later HBA.out) (HR3.out.later HBA.out) HTM3.out HTR3.out HUL.out HZL.out).mono ?_;rintro e w3 ⟨rfl,hQ⟩;have hst:=HST.out
    generalize ho1 S ((Hs.take j).map (·.1)) (spsL Ls++(Hs.take j).map (·.2)) (y0,(y1,y2))=N at hQ hst ⊢
    have HST2:Hid (hoN S Hs [] (spsL Ls)=if N=0 then hoN S (Hs.drop (j+1)) ((Hs.take (j+1)).map (·.1)) (spsL Ls++(Hs.take (j+1)).map (·.2)) else N):=hst;obtain⟨M',R',hM',hR',hTK',hBt'⟩:=hQ;have HM':Hid (MAt spotKey veI w3 B M'):=hM';have HR':Hid (MAt strKey veI w3 C R'):=hR';have HTK':Hid (N=0→TK sq M' (spsL Ls++(Hs.take (j+1)).map (·.2))∧TK (fun a b=>a==b) R' ((Hs.take (j+1)).map (·.1))):=fun h=>by rw[HS1.out,HS2.out];exact hTK' h
    have HBt3:Hid (But [B,C] w6 w3):=(HBt.out.trans (But.of_below HBA.out)).trans hBt';have HBw3:Hid (Below w.heap.size w w3):=HB2.out.trans (HBt3.out.below HB2.out.size HGE.out);clear hst HST hM' hR' hTK' hBt' HS1 HS2 HM3 HR3 HTM3 HTR3 HHO HBt HBA HUL HZL b0 b1 b2 q0 q1 q2;by_cases hN:N=0
    ·subst hN;rw[no_ok rfl];have HTK2:Hid (TK sq M' (spsL Ls++(Hs.take (j+1)).map (·.2))∧TK (fun a b=>a==b) R' ((Hs.take (j+1)).map (·.1))):=HTK'.out rfl;have HHO2:Hid (hoN S Hs [] (spsL Ls)=hoN S (Hs.drop (j+1)) ((Hs.take (j+1)).map (·.1)) (spsL Ls++(Hs.take (j+1)).map (·.2))):=by
      show _=_;rw[HST2.out,if_pos rfl]
     clear HTK' HST2;go_wp2;go_roundw
     case rel=>exact⟨j+1,by omega,by go_num,⟨M',R',HM'.out,HR'.out,HTK2.out.1,HTK2.out.2⟩,HHO2.out,HBt3.out⟩
     case measure=>simp[intOf];omega
    rw[no_ne hN];have HTN:Hid (T=N):=by
     show _=_;rw[HTL.out,HST2.out,if_neg hN]
    have HNN:Hid (N≠0):=hN;clear hN HTK' HST2;go_wp2;go_ret;exact⟨by rw[HTN.out,no_ne HNN.out];rfl,HBw3.out⟩
   obtain rfl:j=n2:=by omega
   have HT0:Hid (T=0):=by
    show _=_;rw[HTL.out,HHO.out,←HHN.out,List.drop_length];rfl
   clear hBw HHO HTM3 HTR3;go_wp2;go_ret;exact⟨by rw[HT0.out,no_ok rfl];rfl,HBw.out⟩
theorem check_any (S:Int)(ao:AdQ)(n cap:Nat)(ao2:AdQ)(n2 cap2:Nat)(Ls:LkQ)(Hs:HoQ)(w:World)
 (hL:GS lnkE w (.slice ao n cap) Ls) (hH:GS hstE w (.slice ao2 n2 cap2) Hs):
 Calls prog 88 #[.agg #[.int i64 S,.slice ao n cap,.slice ao2 n2 cap2]] w fun e w'=>e=.returned (noV (tpN S Ls Hs))∧Below w.heap.size w w':=by
 have hLn:=hL.len;have hHn:=hH.len;by_cases h1:1≤S∧S≤6
 ·by_cases h2:n≤200∧n2≤8
  ·exact check_walk S ao n cap ao2 n2 cap2 Ls Hs w hL hH h1.1 h1.2 h2.1 h2.2 _ rfl
  have e:tpN S Ls Hs=4:=by
   rw[tpN,if_pos (by simp[h1]),if_neg (by rw[hLn,hHn];simpa using fun h=>Nat.lt_of_not_le fun h3=>h2 ⟨h,h3⟩)]
  rw[e];exact check_full S ao n cap ao2 n2 cap2 w h1.1 h1.2 (by omega)
 have e:tpN S Ls Hs=1:=by
  rw[tpN,if_neg (by simpa using fun h=>Int.lt_of_not_ge fun h3=>h1 ⟨h,h3⟩)]
 rw[e];exact tcheck_range S _ _ w h1
theorem hstB_iff (a b:ByteArray×(Int×Int)):hstB a b=true↔a=b:=by
 obtain⟨a0,a1,a2⟩:=a;obtain⟨b0,b1,b2⟩:=b;simp only[hstB,Bool.and_eq_true,beq_iff_eq,Prod.mk.injEq,ba_iff]
def tpB (S S':Int)(Ls Ls':LkQ)(Hs Hs':HoQ):Bool:=decide (S=S')&&(smG lnkB Ls Ls'&&smG hstB Hs Hs')
theorem tpB_iff {S S':Int}{Ls Ls':LkQ}{Hs Hs':HoQ}:tpB S S' Ls Ls' Hs Hs'=true↔S=S'∧Ls=Ls'∧Hs=Hs':=by
 simp only[tpB,Bool.and_eq_true,decide_eq_true_eq,smG_eq lnkB_iff,smG_eq hstB_iff]
def LC (w:World)(B:Nat)(S S':Int)(a1 a2 b1 b2:Value)(g o:Nat)(x0 x1 x2 x3:Int)(g' o':Nat)(y0 y1 y2 y3:Int)(w':World):Prop:=
 Below w.heap.size w w'∧TBox w' B S a1 a2∧TBox w' (B+1) S' b1 b2∧(w'.cell? ⟨g,o,none⟩=some (.int i64 x0)∧w'.cell? ⟨g,o+1,none⟩=some (.int i64 x1)∧w'.cell? ⟨g,o+2,none⟩=some (.int i64 x2)∧w'.cell? ⟨g,o+3,none⟩=some (.int i64 x3)) ∧
  w'.cell? ⟨g',o',none⟩=some (.int i64 y0)∧w'.cell? ⟨g',o'+1,none⟩=some (.int i64 y1)∧w'.cell? ⟨g',o'+2,none⟩=some (.int i64 y2)∧w'.cell? ⟨g',o'+3,none⟩=some (.int i64 y3)
theorem LC.later {w W W':World}{B:Nat}{S S':Int}{a1 a2 b1 b2:Value}{g o:Nat}{x0 x1 x2 x3:Int}{g' o':Nat}{y0 y1 y2 y3:Int}(hb:Below W.heap.size W W')(h:LC w B S S' a1 a2 b1 b2 g o x0 x1 x2 x3 g' o' y0 y1 y2 y3 W):LC w B S S' a1 a2 b1 b2 g o x0 x1 x2 x3 g' o' y0 y1 y2 y3 W':=by
 obtain⟨h0,t1,t2,⟨h1,h2,h3,h4⟩,k1,k2,k3,k4⟩:=h;exact⟨h0.trans (hb.mono h0.size),t1.later hb,t2.later hb,⟨cell_later hb h1,cell_later hb h2,cell_later hb h3,cell_later hb h4⟩,cell_later hb k1,cell_later hb k2,cell_later hb k3,cell_later hb k4⟩
def HC (w:World)(B:Nat)(S S':Int)(a1 a2 b1 b2:Value)(g o:Nat)(x0:ByteArray)(x1 x2:Int)(g' o':Nat)(y0:ByteArray)(y1 y2:Int)(w':World):Prop:=
 Below w.heap.size w w'∧TBox w' B S a1 a2∧TBox w' (B+1) S' b1 b2∧(w'.cell? ⟨g,o,none⟩=some (.string x0)∧w'.cell? ⟨g,o+1,none⟩=some (.int i64 x1)∧w'.cell? ⟨g,o+2,none⟩=some (.int i64 x2)) ∧
  w'.cell? ⟨g',o',none⟩=some (.string y0)∧w'.cell? ⟨g',o'+1,none⟩=some (.int i64 y1)∧w'.cell? ⟨g',o'+2,none⟩=some (.int i64 y2)
theorem HC.later {w W W':World}{B:Nat}{S S':Int}{a1 a2 b1 b2:Value}{g o:Nat}{x0:ByteArray}{x1 x2:Int}{g' o':Nat}{y0:ByteArray}{y1 y2:Int}(hb:Below W.heap.size W W')(h:HC w B S S' a1 a2 b1 b2 g o x0 x1 x2 g' o' y0 y1 y2 W):HC w B S S' a1 a2 b1 b2 g o x0 x1 x2 g' o' y0 y1 y2 W':=by
 obtain⟨h0,t1,t2,⟨h1,h2,h3⟩,k1,k2,k3⟩:=h;exact⟨h0.trans (hb.mono h0.size),t1.later hb,t2.later hb,⟨cell_later hb h1,cell_later hb h2,cell_later hb h3⟩,cell_later hb k1,cell_later hb k2,cell_later hb k3⟩
def TT (W:World)(B:Nat)(S S':Int)(a1 a2 b1 b2:Value):Prop:=TBox W B S a1 a2∧TBox W (B+1) S' b1 b2
theorem tt_new (w:World)(S S':Int)(a1 a2 b1 b2:Value)(t:TypeId):TT ((w.alloc (.cells #[.int i64 S,a1,a2] t)).alloc (.cells #[.int i64 S',b1,b2] t)) w.heap.size S S' a1 a2 b1 b2:=by
 refine⟨(tbox_new w S a1 a2 t).later ((bRQ _ _).alloc (nLQ _) _),?_⟩;have:=tbox_new (w.alloc (.cells #[.int i64 S,a1,a2] t)) S' b1 b2 t;simpa using this
theorem TT.later {W W':World}{B:Nat}{S S':Int}{a1 a2 b1 b2:Value}(h:TT W B S S' a1 a2 b1 b2)(hb:Below W.heap.size W W'):TT W' B S S' a1 a2 b1 b2:=⟨h.1.later hb,h.2.later hb⟩
theorem bcell {W w1:World}(hb:Below W.heap.size W w1):(∀b o,b<W.heap.size→w1.cell? ⟨b,o,none⟩=W.cell? ⟨b,o,none⟩)∧(∀b o,b<W.heap.size→w1.frozen? ⟨b,o,none⟩=W.frozen? ⟨b,o,none⟩):=
 ⟨fun b o h=>hb.cell (p:=⟨b,o,none⟩) h,fun b o h=>hb.frozen (p:=⟨b,o,none⟩) h⟩
theorem isHeader_yes (n:Int)(w:World)(h:hdrB n=true):
 Calls prog 143 #[.int i64 n] w fun e w'=>e=.returned (.bool true)∧w'=w:=by
 obtain⟨h1,h2⟩:=hdr_of h;clear h;go_enter func143,ntmps143;go_wp2;go_ret;exact⟨rfl,rfl⟩
theorem isHeader_no (n:Int)(w:World)(h:hdrB n=false):
 Calls prog 143 #[.int i64 n] w fun e w'=>e=.returned (.bool false)∧w'=w:=by
 rcases hdr_no h with h1 | h1
 ·clear h;go_enter func143,ntmps143;go_wp2;go_ret;exact⟨rfl,rfl⟩
 have h2:0≤n:=by omega
 have h3:decide (n<16)=false:=by simp;omega
 clear h;go_enter func143,ntmps143;go_wp2;go_ret;exact⟨rfl,rfl⟩
theorem check_range (m b:Int)(w:World)(h:rngB m b=false):
 Calls prog 144 #[.agg #[.int i64 m,.int i64 b]] w fun e w'=>e=.returned (.iface 68 (.int i64 1))∧Below w.heap.size w w':=by
 by_cases hm:hdrB m=true
 ·have hb:hdrB b=false:=by simpa[rngB,hm] using h
  clear h;go_enter func144,ntmps144
  go_wp2_with fail
  refine (isHeader_yes _ _ hm).mono ?_;rintro e w' ⟨rfl,rfl⟩
  go_wp2_with fail
  refine (isHeader_no _ _ hb).mono ?_;rintro e w' ⟨rfl,rfl⟩;go_wp2;go_ret;exact⟨rfl,(bRQ _ _).alloc (nLQ _) _⟩
 have hm':hdrB m=false:=by simpa using hm
 clear h hm;go_enter func144,ntmps144
 go_wp2_with fail
 refine (isHeader_no _ _ hm').mono ?_;rintro e w' ⟨rfl,rfl⟩;go_wp2;go_ret;exact⟨rfl,(bRQ _ _).alloc (nLQ _) _⟩
theorem check_shape (m b:Int)(w:World)(h:rngB m b=true)(h2:okB m b=false):
 Calls prog 144 #[.agg #[.int i64 m,.int i64 b]] w fun e w'=>e=.returned (.iface 68 (.int i64 3))∧Below w.heap.size w w':=by
 have hm:hdrB m=true:=by simp only[rngB,Bool.and_eq_true] at h;exact h.1
 have hb:hdrB b=true:=by simp only[rngB,Bool.and_eq_true] at h;exact h.2
 have hz:(bits .andNot .i64 b m==0)=false:=by simpa[okB,h] using h2
 clear h h2;go_enter func144,ntmps144
 go_wp2_with fail
 refine (isHeader_yes _ _ hm).mono ?_;rintro e w' ⟨rfl,rfl⟩
 go_wp2_with fail
 refine (isHeader_yes _ _ hb).mono ?_;rintro e w' ⟨rfl,rfl⟩;go_wp2;go_ret;exact⟨rfl,(bRQ _ _).alloc (nLQ _) _⟩
theorem check_ok (m b:Int)(w:World)(h:okB m b=true):
 Calls prog 144 #[.agg #[.int i64 m,.int i64 b]] w fun e w'=>e=.returned .nilIface∧Below w.heap.size w w':=by
 have hm:hdrB m=true:=hdr_mk (ok_of h).1;have hb:hdrB b=true:=hdr_mk (ok_of h).2;have hz:(bits .andNot .i64 b m==0)=true:=by simp only[okB,Bool.and_eq_true] at h;exact h.2
 clear h;go_enter func144,ntmps144
 go_wp2_with fail
 refine (isHeader_yes _ _ hm).mono ?_;rintro e w' ⟨rfl,rfl⟩
 go_wp2_with fail
 refine (isHeader_yes _ _ hb).mono ?_;rintro e w' ⟨rfl,rfl⟩;go_wp2;go_ret;exact⟨rfl,(bRQ _ _).alloc (nLQ _) _⟩
theorem isRight_any (m b:Int)(w:World):
 Calls prog 167 #[.agg #[.int i64 m,.int i64 b]] w fun e w'=>e=.returned (.bool (okB m b))∧Below w.heap.size w w':=by
 cases hr:rngB m b
 ·have ho:okB m b=false:=by simp[okB,hr]
  rw[ho];clear ho;go_enter func167,ntmps167
  go_wp2_with fail
  refine (check_range _ _ _ hr).mono ?_;rintro e w' ⟨rfl,hb⟩;go_wp2;go_ret;exact⟨rfl,((bRQ _ _).alloc (nLQ _) _).trans (hb.mono (by simp))⟩
 cases ho:okB m b
 ·go_enter func167,ntmps167
  go_wp2_with fail
  refine (check_shape _ _ _ hr ho).mono ?_;rintro e w' ⟨rfl,hb⟩;go_wp2;go_ret;exact⟨rfl,((bRQ _ _).alloc (nLQ _) _).trans (hb.mono (by simp))⟩
 go_enter func167,ntmps167
 go_wp2_with fail
 refine (check_ok _ _ _ ho).mono ?_;rintro e w' ⟨rfl,hb⟩;go_wp2;go_ret;exact⟨rfl,((bRQ _ _).alloc (nLQ _) _).trans (hb.mono (by simp))⟩
theorem isHeader_any (n:Int)(w:World):
 Calls prog 143 #[.int i64 n] w fun e w'=>e=.returned (.bool (hdrB n))∧w'=w:=by
 cases h:hdrB n
 ·exact isHeader_no n w h
 exact isHeader_yes n w h
theorem has_any (m b h:Int)(w:World):
 Calls prog 164 #[.agg #[.int i64 m,.int i64 b],.int i64 h] w fun e w'=>e=.returned (.bool (hasB m b h))∧Below w.heap.size w w':=by
 cases ho:okB m b
 ·have e:hasB m b h=false:=by simp[hasB,ho]
  rw[e];clear e;go_enter func164,ntmps164
  go_wp2_with fail
  refine (isRight_any _ _ _).mono ?_;rintro e w1 ⟨rfl,hb1⟩;go_wp2;go_ret;exact⟨rfl,((bRQ _ _).alloc (nLQ _) _).trans (hb1.mono (by simp))⟩
 cases hh:hdrB h
 ·have e:hasB m b h=false:=by simp[hasB,hh]
  rw[e];clear e;go_enter func164,ntmps164
  go_wp2_with fail
  refine (isRight_any _ _ _).mono ?_;rintro e w1 ⟨rfl,hb1⟩;rw[ho]
  go_wp2_with fail
  refine (isHeader_any _ _).mono ?_;rintro e w' ⟨rfl,rfl⟩;go_wp2;go_ret;exact⟨rfl,((bRQ _ _).alloc (nLQ _) _).trans (hb1.mono (by simp))⟩
 have e:hasB m b h=(bits .and .i64 h m==b):=by simp[hasB,hh,ho]
 rw[e];clear e;go_enter func164,ntmps164
 go_wp2_with fail
 refine (isRight_any _ _ _).mono ?_;rintro e w1 ⟨rfl,hb1⟩;rw[ho];obtain⟨hc1,hf1⟩:=bcell hb1
 go_wp2_with fail
 refine (isHeader_any _ _).mono ?_;rintro e w' ⟨rfl,rfl⟩;go_wp2;go_ret;exact⟨rfl,((bRQ _ _).alloc (nLQ _) _).trans (hb1.mono (by simp))⟩
theorem check_no (m b:Int)(w:World):
 Calls prog 144 #[.agg #[.int i64 m,.int i64 b]] w fun e w'=>e=.returned (noV (refN m b))∧Below w.heap.size w w':=by
 cases hr:rngB m b
 ·have e:noV (refN m b)=.iface 68 (.int i64 1):=by rw[refN_range hr];rfl
  rw[e];exact check_range m b w hr
 cases ho:okB m b
 ·have e:noV (refN m b)=.iface 68 (.int i64 3):=by rw[refN_shape ho hr];rfl
  rw[e];exact check_shape m b w hr ho
 have e:noV (refN m b)=.nilIface:=by rw[refN_ok ho];rfl
 rw[e];exact check_ok m b w ho
theorem ruCheck_prio (p m b o s v:Int)(w:World)(h:ruP p o=false):
 Calls prog 105 #[.agg #[.int i64 p,.int i64 m,.int i64 b,.int i64 o,.int i64 s,.int i64 v]] w fun e w'=>e=.returned (.iface 68 (.int i64 1))∧Below w.heap.size w w':=by
 have hc:p<0∨(0≤p∧99<p)∨((0≤p∧p≤99)∧o<0)∨((0≤p∧p≤99)∧(0≤o∧4<o)):=by
  simp[ruP] at h;omega
 clear h
 rcases hc with h1 | ⟨h1,h2⟩ | ⟨⟨h1,h2⟩,h3⟩ | ⟨⟨h1,h2⟩,h3,h4⟩
 ·have e1:decide (p<0)=true:=by simp;omega
  go_enter func105,ntmps105;go_wp2;go_ret;exact⟨rfl,(bRQ _ _).alloc (nLQ _) _⟩
 ·have e1:decide (p<0)=false:=by simp;omega
  have e2:decide (99<p)=true:=by simp;omega
  go_enter func105,ntmps105;go_wp2;go_ret;exact⟨rfl,(bRQ _ _).alloc (nLQ _) _⟩
 ·have e1:decide (p<0)=false:=by simp;omega
  have e2:decide (99<p)=false:=by simp;omega
  have e3:decide (o<0)=true:=by simp;omega
  go_enter func105,ntmps105;go_wp2;go_ret;exact⟨rfl,(bRQ _ _).alloc (nLQ _) _⟩
 have e1:decide (p<0)=false:=by simp;omega
 have e2:decide (99<p)=false:=by simp;omega
 have e3:decide (o<0)=false:=by simp;omega
 have e4:decide (4<o)=true:=by simp;omega
 go_enter func105,ntmps105;go_wp2;go_ret;exact⟨rfl,(bRQ _ _).alloc (nLQ _) _⟩
theorem ruP_of {p o:Int}(h:ruP p o=true):decide (p<0)=false∧decide (99<p)=false∧decide (o<0)=false∧decide (4<o)=false:=by
 simp only[ruP,Bool.and_eq_true,decide_eq_true_eq] at h;refine⟨?_,?_,?_,?_⟩ <;> simp <;> omega
theorem ruCheck_set (p m b o s v:Int)(w:World)(h:ruP p o=true)(h2:rngB s v=false):
 Calls prog 105 #[.agg #[.int i64 p,.int i64 m,.int i64 b,.int i64 o,.int i64 s,.int i64 v]] w fun e w'=>e=.returned (.iface 68 (.int i64 1))∧Below w.heap.size w w':=by
 obtain⟨e1,e2,e3,e4⟩:=ruP_of h;clear h;cases hs:hdrB s
 ·clear h2;go_enter func105,ntmps105
  go_wp2_with fail
  refine (isHeader_no _ _ hs).mono ?_;rintro e w' ⟨rfl,rfl⟩;go_wp2;go_ret;exact⟨rfl,(bRQ _ _).alloc (nLQ _) _⟩
 have hv:hdrB v=false:=by simpa[rngB,hs] using h2
 clear h2;go_enter func105,ntmps105
 go_wp2_with fail
 refine (isHeader_yes _ _ hs).mono ?_;rintro e w' ⟨rfl,rfl⟩
 go_wp2_with fail
 refine (isHeader_no _ _ hv).mono ?_;rintro e w' ⟨rfl,rfl⟩;go_wp2;go_ret;exact⟨rfl,(bRQ _ _).alloc (nLQ _) _⟩
theorem ruCheck_cube (p m b o s v:Int)(w:World)(h:ruP p o=true)(h2:rngB s v=true)(h3:okB m b=false):
 Calls prog 105 #[.agg #[.int i64 p,.int i64 m,.int i64 b,.int i64 o,.int i64 s,.int i64 v]] w fun e w'=>e=.returned (.iface 68 (.int i64 (refN m b)))∧Below w.heap.size w w':=by
 obtain⟨e1,e2,e3,e4⟩:=ruP_of h;have hs:hdrB s=true:=by simp only[rngB,Bool.and_eq_true] at h2;exact h2.1
 have hv:hdrB v=true:=by simp only[rngB,Bool.and_eq_true] at h2;exact h2.2
 have hn:refN m b≠0:=by have:=ok_refN m b;rw[h3] at this;simpa using this
 clear h h2 h3;go_enter func105,ntmps105
 go_wp2_with fail
 refine (isHeader_yes _ _ hs).mono ?_;rintro e w' ⟨rfl,rfl⟩
 go_wp2_with fail
 refine (isHeader_yes _ _ hv).mono ?_;rintro e w' ⟨rfl,rfl⟩
 go_wp2_with fail
 refine (check_no _ _ _).mono ?_;rintro e w1 ⟨rfl,hb1⟩;rw[no_ne hn];go_wp2;go_ret;exact⟨rfl,((bRQ _ _).alloc (nLQ _) _).trans (hb1.mono (by simp))⟩
theorem ruCheck_end (p m b o s v:Int)(w:World)(h:ruP p o=true)(h2:rngB s v=true)(h3:okB m b=true):
 Calls prog 105 #[.agg #[.int i64 p,.int i64 m,.int i64 b,.int i64 o,.int i64 s,.int i64 v]] w fun e w'=>e=.returned (if ruSet o s v then .nilIface else .iface 68 (.int i64 3))∧Below w.heap.size w w':=by
 obtain⟨e1,e2,e3,e4⟩:=ruP_of h;have hs:hdrB s=true:=by simp only[rngB,Bool.and_eq_true] at h2;exact h2.1
 have hv:hdrB v=true:=by simp only[rngB,Bool.and_eq_true] at h2;exact h2.2
 have hn:refN m b=0:=refN_ok h3;have hlt:w.heap.size<(w.alloc (.cells #[.int i64 p,.int i64 m,.int i64 b,.int i64 o,.int i64 s,.int i64 v] 88)).heap.size:=by simp
 clear h h2 h3;cases ha:(bits .andNot .i64 v s==0)
 ·have e:ruSet o s v=false:=by simp[ruSet,ha]
  rw[e];clear e;simp only[Bool.false_eq_true,if_false];have ha2:(bits .andNot .i64 v s != 0)=true:=by simpa using ha
  go_enter func105,ntmps105
  go_wp2_with fail
  refine (isHeader_yes _ _ hs).mono ?_;rintro e w' ⟨rfl,rfl⟩
  go_wp2_with fail
  refine (isHeader_yes _ _ hv).mono ?_;rintro e w' ⟨rfl,rfl⟩
  go_wp2_with fail
  refine (check_no _ _ _).mono ?_;rintro e w1 ⟨rfl,hb1⟩;rw[no_ok hn];obtain⟨hc1,hf1⟩:=bcell hb1;have hB:=((Below.refl w.heap.size w).alloc (nLQ _) (Obj.cells #[.int i64 p,.int i64 m,.int i64 b,.int i64 o,.int i64 s,.int i64 v] 88)).trans (hb1.mono (by simp));clear hb1;go_wp2;go_ret;exact⟨rfl,hB⟩
 cases ho:(o==0)
 ·have e:ruSet o s v=true:=by simp[ruSet,ha,ho]
  rw[e];clear e;simp only[if_true];have ha2:(bits .andNot .i64 v s != 0)=false:=by simpa using ha
  go_enter func105,ntmps105
  go_wp2_with fail
  refine (isHeader_yes _ _ hs).mono ?_;rintro e w' ⟨rfl,rfl⟩
  go_wp2_with fail
  refine (isHeader_yes _ _ hv).mono ?_;rintro e w' ⟨rfl,rfl⟩
  go_wp2_with fail
  refine (check_no _ _ _).mono ?_;rintro e w1 ⟨rfl,hb1⟩;rw[no_ok hn];obtain⟨hc1,hf1⟩:=bcell hb1;have hB:=((Below.refl w.heap.size w).alloc (nLQ _) (Obj.cells #[.int i64 p,.int i64 m,.int i64 b,.int i64 o,.int i64 s,.int i64 v] 88)).trans (hb1.mono (by simp));clear hb1;go_wp2;go_ret;exact⟨rfl,hB⟩
 cases hz:(s==0)
 ·have e:ruSet o s v=false:=by simp[ruSet,ha,ho,hz]
  rw[e];clear e;simp only[Bool.false_eq_true,if_false];have ha2:(bits .andNot .i64 v s != 0)=false:=by simpa using ha
  go_enter func105,ntmps105
  go_wp2_with fail
  refine (isHeader_yes _ _ hs).mono ?_;rintro e w' ⟨rfl,rfl⟩
  go_wp2_with fail
  refine (isHeader_yes _ _ hv).mono ?_;rintro e w' ⟨rfl,rfl⟩
  go_wp2_with fail
  refine (check_no _ _ _).mono ?_;rintro e w1 ⟨rfl,hb1⟩;rw[no_ok hn];obtain⟨hc1,hf1⟩:=bcell hb1;have hB:=((Below.refl w.heap.size w).alloc (nLQ _) (Obj.cells #[.int i64 p,.int i64 m,.int i64 b,.int i64 o,.int i64 s,.int i64 v] 88)).trans (hb1.mono (by simp));clear hb1;go_wp2;go_ret;exact⟨rfl,hB⟩
 have e:ruSet o s v=true:=by simp[ruSet,ha,ho,hz]
 rw[e];clear e;simp only[if_true];have ha2:(bits .andNot .i64 v s != 0)=false:=by simpa using ha
 go_enter func105,ntmps105
 go_wp2_with fail
 refine (isHeader_yes _ _ hs).mono ?_;rintro e w' ⟨rfl,rfl⟩
 go_wp2_with fail
 refine (isHeader_yes _ _ hv).mono ?_;rintro e w' ⟨rfl,rfl⟩
 go_wp2_with fail
 refine (check_no _ _ _).mono ?_;rintro e w1 ⟨rfl,hb1⟩;rw[no_ok hn];obtain⟨hc1,hf1⟩:=bcell hb1;have hB:=((Below.refl w.heap.size w).alloc (nLQ _) (Obj.cells #[.int i64 p,.int i64 m,.int i64 b,.int i64 o,.int i64 s,.int i64 v] 88)).trans (hb1.mono (by simp));clear hb1;go_wp2;go_ret;exact⟨rfl,hB⟩
theorem ruCheck_any (p m b o s v:Int)(w:World):
 Calls prog 105 #[.agg #[.int i64 p,.int i64 m,.int i64 b,.int i64 o,.int i64 s,.int i64 v]] w fun e w'=>e=.returned (noV (ruN p m b o s v))∧Below w.heap.size w w':=by
 cases h1:ruP p o
 ·have e:noV (ruN p m b o s v)=.iface 68 (.int i64 1):=by simp[ruN,ruIn,h1,noV]
  rw[e];exact ruCheck_prio p m b o s v w h1
 cases h2:rngB s v
 ·have e:noV (ruN p m b o s v)=.iface 68 (.int i64 1):=by simp[ruN,ruIn,h2,noV]
  rw[e];exact ruCheck_set p m b o s v w h1 h2
 cases h3:okB m b
 ·have hn:refN m b≠0:=by have:=ok_refN m b;rw[h3] at this;simpa using this
  have e:noV (ruN p m b o s v)=.iface 68 (.int i64 (refN m b)):=by simp[ruN,ruIn,h1,h2,h3,noV,hn]
  rw[e];exact ruCheck_cube p m b o s v w h1 h2 h3
 have e:noV (ruN p m b o s v)=(if ruSet o s v then .nilIface else .iface 68 (.int i64 3)):=by
  cases h4:ruSet o s v <;> simp[ruN,ruIn,h1,h2,h3,noV,h4]
 rw[e];exact ruCheck_end p m b o s v w h1 h2 h3
structure C6 (w:World)(g o:Nat)(r:Ru):Prop where
 c0:w.cell? ⟨g,o,none⟩=some (.int i64 r.p)
 c1:w.cell? ⟨g,o+1,none⟩=some (.int i64 r.m)
 c2:w.cell? ⟨g,o+2,none⟩=some (.int i64 r.b)
 c3:w.cell? ⟨g,o+3,none⟩=some (.int i64 r.o)
 c4:w.cell? ⟨g,o+4,none⟩=some (.int i64 r.s)
 c5:w.cell? ⟨g,o+5,none⟩=some (.int i64 r.v)
theorem C6.later {w w':World}{g o:Nat}{r:Ru}(h:C6 w g o r)(hb:Below w.heap.size w w'):C6 w' g o r:=
 ⟨cell_later hb h.c0,cell_later hb h.c1,cell_later hb h.c2,cell_later hb h.c3,cell_later hb h.c4,cell_later hb h.c5⟩
theorem C6.new (w:World)(p m b o s v:Int)(t:TypeId):C6 (w.alloc (.cells #[.int i64 p,.int i64 m,.int i64 b,.int i64 o,.int i64 s,.int i64 v] t)) w.heap.size 0 ⟨p,m,b,o,s,v⟩:=by
 refine⟨?_,?_,?_,?_,?_,?_⟩ <;> simp
def RAt (w:World)(g o:Nat)(L:List Ru):Prop:=∀i (h:i<L.length),C6 w g (o+i*6) L[i]
theorem RAt.later {w w':World}{g o:Nat}{L:List Ru}(h:RAt w g o L)(hb:Below w.heap.size w w'):RAt w' g o L:=fun i hi=>(h i hi).later hb
theorem RAt.take {w:World}{g o:Nat}{L:List Ru}(h:RAt w g o L)(k:Nat):RAt w g o (L.take k):=by
 intro i hi;rw[List.getElem_take];exact h i (by simp at hi;omega)
def SR (w:World)(v:Value)(L:List Ru):Prop:=
 (∃ao cap,v=.slice ao 0 cap∧L=[])∨∃g o cap,v=.slice (some ⟨g,o,none⟩) L.length cap∧L.length≤cap∧cap≤maxLen∧RAt w g o L
theorem SR.later {w w':World}{v:Value}{L:List Ru}(h:SR w v L)(hb:Below w.heap.size w w'):SR w' v L:=by
 rcases h with h | ⟨g,o,cap,h1,h2,h3,h4⟩
 ·exact .inl h
 exact .inr ⟨g,o,cap,h1,h2,h3,h4.later hb⟩
theorem RAt.at {w:World}{g o:Nat}{L:List Ru}(h:RAt w g o L){n k:Nat}(hn:L.length=n)(hk:k<n):
 ∃ (p m b q s v:Int) (hl:k<L.length),L[k]=⟨p,m,b,q,s,v⟩∧(w.cell? ⟨g,o+k*6,none⟩=some (.int i64 p)∧w.cell? ⟨g,o+k*6+1,none⟩=some (.int i64 m)∧w.cell? ⟨g,o+k*6+2,none⟩=some (.int i64 b) ∧
   w.cell? ⟨g,o+k*6+3,none⟩=some (.int i64 q)∧w.cell? ⟨g,o+k*6+4,none⟩=some (.int i64 s)∧w.cell? ⟨g,o+k*6+5,none⟩=some (.int i64 v)):=
 have hl:k<L.length:=by omega
 have c:=h k hl
 ⟨_,_,_,_,_,_,hl,rfl,c.c0,c.c1,c.c2,c.c3,c.c4,c.c5⟩
theorem key_ways (p m b o s v p' m' b' o' s' v':Int):
 ((p==p')=false∧keyB ⟨p,m,b,o,s,v⟩ ⟨p',m',b',o',s',v'⟩=false)∨((p==p')=true∧(m==m')=false∧keyB ⟨p,m,b,o,s,v⟩ ⟨p',m',b',o',s',v'⟩=false) ∨
 ((p==p')=true∧(m==m')=true∧(b==b')=false∧keyB ⟨p,m,b,o,s,v⟩ ⟨p',m',b',o',s',v'⟩=false)∨((p==p')=true∧(m==m')=true∧(b==b')=true∧keyB ⟨p,m,b,o,s,v⟩ ⟨p',m',b',o',s',v'⟩=true):=by
 rw[key_eq];by_cases h1:p=p' <;> by_cases h2:m=m' <;> by_cases h3:b=b' <;> simp[h1,h2,h3]
theorem clash_any (p m b o s v p' m' b' o' s' v':Int)(w:World):
 Calls prog 131 #[.agg #[.int i64 p,.int i64 m,.int i64 b,.int i64 o,.int i64 s,.int i64 v],.agg #[.int i64 p',.int i64 m',.int i64 b',.int i64 o',.int i64 s',.int i64 v']] w fun e w'=>e=.returned (.bool (keyB ⟨p,m,b,o,s,v⟩ ⟨p',m',b',o',s',v'⟩))∧Below w.heap.size w w':=by
 have HB:Hid (∀o1 o2,Below w.heap.size w ((w.alloc o1).alloc o2)):=fun o1 o2=>((bRQ _ _).alloc (nLQ _) o1).alloc (by simp) o2
 rcases key_ways p m b o s v p' m' b' o' s' v' with ⟨e1,e⟩ | ⟨e1,e2,e⟩ | ⟨e1,e2,e3,e⟩ | ⟨e1,e2,e3,e⟩
 all_goals
  rw[e];clear e;go_enter func131,ntmps131;go_wp2;go_ret;exact⟨rfl,HB.out _ _⟩
def Asks (w:World)(f:FuncId)(c:Value)(P:Ru→Bool):Prop:=
 ∀ (p m b o s v:Int) (W:World),Below w.heap.size w W →
   Calls prog f #[.agg #[.int i64 p,.int i64 m,.int i64 b,.int i64 o,.int i64 s,.int i64 v],c] W fun e w'=>e=.returned (.bool (P ⟨p,m,b,o,s,v⟩))∧Below W.heap.size W w'
theorem Asks.later {w w':World}{f:FuncId}{c:Value}{P:Ru→Bool}(h:Asks w f c P)(hb:Below w.heap.size w w'):Asks w' f c P:=
 fun p m b o s v W hW=>h p m b o s v W (hb.trans (hW.mono hb.size))
theorem table1_any (p m b o s v:Int)(r:Ru)(B:Nat)(w:World)(hc:C6 w B 0 r):
 Calls prog 130 #[.agg #[.int i64 p,.int i64 m,.int i64 b,.int i64 o,.int i64 s,.int i64 v],.pointer (some ⟨B,0,none⟩)] w fun e w'=>e=.returned (.bool (keyB ⟨p,m,b,o,s,v⟩ r))∧Below w.heap.size w w':=by
 obtain⟨p',m',b',o',s',v'⟩:=r;obtain⟨c0,c1,c2,c3,c4,c5⟩:=hc;simp only[Nat.zero_add] at c0 c1 c2 c3 c4 c5;have hlt:B<w.heap.size:=bLQ _ _ c0;go_enter func130,ntmps130
 go_wp2_with fail
 refine (clash_any _ _ _ _ _ _ _ _ _ _ _ _ _).mono ?_;rintro e w1 ⟨rfl,hb1⟩;go_wp2;go_ret;exact⟨rfl,((bRQ _ _).alloc (nLQ _) _).trans (hb1.mono (by simp))⟩
theorem table1_asks (r:Ru)(B:Nat)(w:World)(hc:C6 w B 0 r):Asks w 130 (.pointer (some ⟨B,0,none⟩)) (fun a=>keyB a r):=
 fun p m b o s v W hW=>table1_any p m b o s v r B W (hc.later hW)
theorem any_nextR {L:List Ru}{f:Ru→Bool}{k:Nat}(hk:k<L.length)(h:(L.take k).any f=false)(h2:f L[k]=false):(L.take (k+1)).any f=false:=by
 rw[List.take_succ_eq_append_getElem hk];simp only[List.any_append,h,List.any_cons,List.any_nil,h2,Bool.or_false]
theorem any_hitR {L:List Ru}{f:Ru→Bool}{k:Nat}(hk:k<L.length)(h2:f L[k]=true):L.any f=true:=List.any_eq_true.2 ⟨_,List.getElem_mem hk,h2⟩
def ixP (f:Ru→Bool)(L:List Ru):Int:=if L.any f then (L.findIdx f:Int) else -1
theorem ixP_hit {L:List Ru}{f:Ru→Bool}{k:Nat}(hk:k<L.length)(h:(L.take k).any f=false)(h2:f L[k]=true):ixP f L=k:=by
 rw[ixP,any_hitR hk h2,if_pos rfl]
 congr 1
 rw[List.findIdx_eq hk];refine⟨h2,fun j hj=>?_⟩;rw[List.any_eq_false] at h;have:=h L[j] (by rw[List.mem_take_iff_getElem];exact⟨j,by omega,rfl⟩);simpa using this
theorem ixP_no {L:List Ru}{f:Ru→Bool}(h:L.any f=false):ixP f L = -1:=by simp[ixP,h]
theorem ixP_any (L:List Ru)(f:Ru→Bool):decide (0≤ixP f L)=L.any f:=by
 unfold ixP;cases L.any f
 ·simp
 simp
theorem SR.form {w:World}{v:Value}{L:List Ru}(h:SR w v L):∃ao n cap,v=.slice ao n cap∧L.length=n∧n≤maxLen∧n≤cap∧(0<n→∃g o,ao=some ⟨g,o,none⟩∧RAt w g o L∧cap≤maxLen):=by
 rcases h with ⟨ao,cap,rfl,rfl⟩ | ⟨g,o,cap,rfl,h1,h2,h3⟩
 ·exact⟨ao,0,cap,rfl,rfl,Nat.zero_le _,Nat.zero_le _,fun h=>absurd h (by omega)⟩
 exact⟨_,_,cap,rfl,rfl,Nat.le_trans h1 h2,h1,fun _=>⟨g,o,rfl,h3,h2⟩⟩
theorem idxF (ao:AdQ)(n cap:Nat)(f:FuncId)(c:Value)(P:Ru→Bool)(L:List Ru)(w:World)(hn:L.length=n)(hn2:n≤maxLen)(ha:0<n→∃g o,ao=some ⟨g,o,none⟩∧RAt w g o L∧cap≤maxLen)(he:∀args w,(callFunc f args).run prog w=.ok (.enter f args) w)(hf:Asks w f c P):
 Calls prog 155 #[.slice ao n cap,.func (Fn.func f) #[] #[c]] w fun e w'=>e=.returned (.int i64 (ixP P L))∧Below w.heap.size w w':=by
 have HN:Hid (L.length=n):=hn;have HF:Hid (Asks w f c P):=hf;have HA:Hid (0<n→∃g o,ao=some ⟨g,o,none⟩∧RAt w g o L∧cap≤maxLen):=ha;unfold maxLen at hn2;clear hn hf ha;go_enter func155,ntmps155;go_wp2
 go_loopw [8] (fun i wr=>∃k:Nat,k≤n∧i=.int i64 k∧(L.take k).any P=false∧Below w.heap.size w wr)
  (fun i _=>n-(intOf i).toNat)
 case atStart=>exact⟨0,by omega,rfl,by simp,bRQ _ _⟩
 case round =>
  obtain⟨k,hk,rfl,hno,hB⟩:=hrel;have HB:Hid (Below w.heap.size w wr):=hB;have HNO:Hid ((L.take k).any P=false):=hno;clear hno;by_cases hlt:k<n
  ·obtain⟨g,o,hao,hc,_⟩:=HA.out (by omega);subst hao;obtain⟨p,m,b,q,s,v,hkl,hL,q0,q1,q2,q3,q4,q5⟩:=(hc.later hB).at HN.out hlt;have HL:Hid (L[k]=⟨p,m,b,q,s,v⟩):=hL;clear hL hB;cases ho:P ⟨p,m,b,q,s,v⟩
   ·go_wp2_with fail
    refine (HF.out p m b q s v _ HB.out).mono ?_;rintro e w1 ⟨rfl,hb1⟩;rw[ho];have HB1:=HB.out.trans (hb1.mono HB.out.size);clear hb1;go_wp2;go_roundw
    case rel=>exact⟨k+1,by omega,by go_num,any_nextR hkl HNO.out (by rw[HL.out];exact ho),HB1⟩
    case measure=>simp[intOf];omega
   go_wp2_with fail
   refine (HF.out p m b q s v _ HB.out).mono ?_;rintro e w1 ⟨rfl,hb1⟩;rw[ho];go_wp2;go_ret;exact⟨by rw[ixP_hit hkl HNO.out (by rw[HL.out];exact ho)];rfl,HB.out.trans (hb1.mono HB.out.size)⟩
  obtain rfl:k=n:=by omega
  go_wp2;go_ret;exact⟨by have:=HNO.out;rw[←HN.out,List.take_length] at this;rw[ixP_no this];rfl,HB.out⟩
theorem containsF (ao:AdQ)(n cap:Nat)(f:FuncId)(c:Value)(P:Ru→Bool)(L:List Ru)(w:World)(hn:L.length=n)(hn2:n≤maxLen)(ha:0<n→∃g o,ao=some ⟨g,o,none⟩∧RAt w g o L∧cap≤maxLen)(he:∀args w,(callFunc f args).run prog w=.ok (.enter f args) w)(hf:Asks w f c P):
 Calls prog 129 #[.slice ao n cap,.func (Fn.func f) #[] #[c]] w fun e w'=>e=.returned (.bool (L.any P))∧Below w.heap.size w w':=by
 rw[←ixP_any];obtain⟨x,hx⟩:∃x,x=ixP P L:=⟨_,rfl⟩;have HX:Hid (x=ixP P L):=hx;rw[←hx];clear hx;go_enter func129,ntmps129
 go_wp2_with fail
 refine (idxF ao n cap f c P L _ hn hn2 ha he hf).mono ?_;rintro e w1 ⟨rfl,hb1⟩;rw[←HX.out];go_wp2;go_ret;exact⟨rfl,hb1⟩
theorem containsR_any (g o cap n B:Nat)(r:Ru)(L:List Ru)(w:World)(hc:RAt w g o L)(hn:L.length=n)(hn2:n≤maxLen)(hcap:cap≤maxLen)(hr:C6 w B 0 r):
 Calls prog 129 #[.slice (some ⟨g,o,none⟩) n cap,.func (Fn.func 130) #[] #[.pointer (some ⟨B,0,none⟩)]] w fun e w'=>e=.returned (.bool (L.any (fun a=>keyB a r)))∧Below w.heap.size w w':=
 containsF _ n cap _ _ _ L w hn hn2 (fun _=>⟨g,o,rfl,hc,hcap⟩) (enters_of func130 (by kernel_rfl) rfl) (table1_asks r B w hr)
theorem own_below {w w':World}{B e size n:Nat}{v:Value}{xs:List Value}(h:w.ownsRow B e size v n xs)(hb:Below w.heap.size w w'):w'.ownsRow B e size v n xs:=by
 obtain⟨h1,h2 | ⟨g,cap,cur,hv,hB,hg,h3⟩⟩:=h
 ·exact⟨h1,.inl h2⟩
 have hlt:g<w.heap.size:=by
  rcases Nat.lt_or_ge g w.heap.size with h | h
  ·exact h
  rw[Array.getElem?_eq_none h] at hg;cases hg
 exact⟨h1,.inr ⟨g,cap,cur,hv,hB,(hb.block g hlt).trans hg,h3⟩⟩
theorem own_mono {w:World}{B B' e size n:Nat}{v:Value}{xs:List Value}(h:w.ownsRow B e size v n xs)(hB:B'≤B):w.ownsRow B' e size v n xs:=by
 obtain⟨h1,h2 | ⟨g,cap,cur,hv,hb,h3⟩⟩:=h
 ·exact⟨h1,.inl h2⟩
 exact⟨h1,.inr ⟨g,cap,cur,hv,Nat.le_trans hB hb,h3⟩⟩
theorem infoInt:(Tryz.prog.info? 3).map (fun i=>(i.zero,i.size,i.bytes))=some (some (.int i64 0),1,8):=by kernel_rfl
end
section
open Go.ChangeShapes Go.WideShapes Go.ChangeAt Go.RowKit
def cellsR (L:List Ru):List Value:=L.flatMap fun r=>[.int i64 r.p,.int i64 r.m,.int i64 r.b,.int i64 r.o,.int i64 r.s,.int i64 r.v]
theorem cellsR_len (L:List Ru):(cellsR L).length=L.length*6:=by
 induction L with
 | nil=>rfl
 | cons p r ih=>simp only[cellsR,List.flatMap_cons,List.length_append,List.length_cons,List.length_nil] at *;omega
theorem cellsR_app (L M:List Ru):cellsR (L++M)=cellsR L++cellsR M:=by simp[cellsR]
theorem cellsR_at (L:List Ru)(i:Nat)(h:i<L.length):(cellsR L)[i*6]?=some (.int i64 (L[i]).p)∧(cellsR L)[i*6+1]?=some (.int i64 (L[i]).m)∧(cellsR L)[i*6+2]?=some (.int i64 (L[i]).b) ∧
 (cellsR L)[i*6+3]?=some (.int i64 (L[i]).o)∧(cellsR L)[i*6+4]?=some (.int i64 (L[i]).s)∧(cellsR L)[i*6+5]?=some (.int i64 (L[i]).v):=by
 induction L generalizing i with
 | nil=>simp at h
 | cons p r ih =>
   cases i with
   | zero=>simp[cellsR]
   | succ i =>
     have:=ih i (by simpa using h);have e1:(i+1)*6=i*6+1+1+1+1+1+1:=by omega
     simpa[cellsR,e1] using this
theorem cellsR_one (L:List Ru):∀u∈cellsR L,u.oneCell'=true:=by
 intro u hu;simp only[cellsR,List.mem_flatMap] at hu;obtain⟨p,_,hp⟩:=hu;simp at hp
 rcases hp with rfl | rfl | rfl | rfl | rfl | rfl <;> rfl
theorem own_SR {w:World}{B e:Nat}{v:Value}{L:List Ru}(h:w.ownsRow B e 6 v L.length (cellsR L)):SR w v L:=by
 rcases h.2 with ⟨rfl,h0⟩ | ⟨g,cap,cur,rfl,_,_,h1,h2,_⟩
 ·exact .inl ⟨none,0,rfl,List.length_eq_zero_iff.1 h0⟩
 refine .inr ⟨g,0,cap,rfl,h1,h2,fun i hi=>?_⟩;obtain⟨a0,a1,a2,a3,a4,a5⟩:=cellsR_at L i hi;refine⟨?_,?_,?_,?_,?_,?_⟩
 ·have:=h.cellAt (i*6) (by omega);rw[a0] at this;simpa using this
 ·have:=h.cellAt (i*6+1) (by omega);rw[a1] at this;simpa using this
 ·have:=h.cellAt (i*6+2) (by omega);rw[a2] at this;simpa using this
 ·have:=h.cellAt (i*6+3) (by omega);rw[a3] at this;simpa using this
 ·have:=h.cellAt (i*6+4) (by omega);rw[a4] at this;simpa using this
 have:=h.cellAt (i*6+5) (by omega);rw[a5] at this;simpa using this
theorem infoRule:(Tryz.prog.info? 88).map (fun i=>(i.zero,i.size,i.bytes))=some (some (.agg #[.int i64 0,.int i64 0,.int i64 0,.int i64 0,.int i64 0,.int i64 0]),6,48):=by kernel_rfl
theorem sixCells:(Value.agg #[.int i64 0,.int i64 0,.int i64 0,.int i64 0,.int i64 0,.int i64 0]).cells.size=6:=by simp[Value.cells]
end
section
open Go.RowKit
theorem addr_add (g o j:Nat):(⟨g,o,none⟩:Addr).add j=⟨g,o+j,none⟩:=by
 simp only[Addr.add]
 first
  | rfl
  | (split
     ·next h0=>rw[h0];rfl
     rfl)
theorem RAt.cells {w:World}{g o:Nat}{M:List Ru}(h:RAt w g o M):∀j u,(cellsR M)[j]?=some u→w.cell? ((⟨g,o,none⟩:Addr).add j)=some u:=by
 intro j u hu;have hj:j<M.length*6:=by
  have:=(List.getElem?_eq_some_iff.1 hu).1;rw[cellsR_len] at this;exact this
 rw[addr_add];have hi:j / 6<M.length:=by omega
 obtain⟨c0,c1,c2,c3,c4,c5⟩:=h (j / 6) hi;obtain⟨a0,a1,a2,a3,a4,a5⟩:=cellsR_at M (j / 6) hi;have h6:j=j / 6*6∨j=j / 6*6+1∨j=j / 6*6+2∨j=j / 6*6+3∨j=j / 6*6+4∨j=j / 6*6+5:=by omega
 generalize j / 6=i at *
 rcases h6 with e | e | e | e | e | e
 ·subst e;rw[a0] at hu;cases hu;exact c0
 ·subst e;rw[a1] at hu;cases hu;rw[←Nat.add_assoc];exact c1
 ·subst e;rw[a2] at hu;cases hu;rw[←Nat.add_assoc];exact c2
 ·subst e;rw[a3] at hu;cases hu;rw[←Nat.add_assoc];exact c3
 ·subst e;rw[a4] at hu;cases hu;rw[←Nat.add_assoc];exact c4
 subst e;rw[a5] at hu;cases hu;rw[←Nat.add_assoc];exact c5
theorem run_append_own_none {w:World}(base:Nat)(t ty e:TypeId)(i:TypeInfo)(size cap2:Nat)(ht:Tryz.prog.underlying t=some (.slice e))(hi:Tryz.prog.info? e=some i)
 (v:Value) (n:Nat) (xs:List Value) (hown:w.ownsRow base e size v n xs):
 (Builtin.append_ #[t,t] ty #[v,.slice none 0 cap2]).run prog w=.ok v w:=by
 rcases hown.2 with ⟨rfl,rfl⟩ | ⟨g,cap,cur,rfl,_,_,hnc,_⟩
 ·simp[Builtin.append_,run_underlying ht,sizeOf,typeInfo,hi,Builtin.lenOf,Builtin.firstCells]
 simp[Builtin.append_,run_underlying ht,sizeOf,typeInfo,hi,Builtin.lenOf,Builtin.firstCells,hnc,storeCells]
theorem wpList_append_SR (w:World){ops:Array Oper}{rest:List Oper}{o:Oper}{a:Act}{Q:Exit→Act→World→Prop}(hgd:o.guard=none)(s x:Operand)(t:TypeId)
 (ho:o.op=.call { callee:=.builtin .append,args:=#[s,x],argTypes:=#[t,t] }) (ht:Tryz.prog.underlying t=some (.slice 88)) (base:Nat)
 (v:Value) (hs:a.eval s=v) (L:List Ru) (hown:w.ownsRow base 88 6 v L.length (cellsR L)) (u:Value) (hx:a.eval x=u) (M:List Ru) (hM:SR w u M)
 (h100:L.length+M.length≤1000) (hbase:base≤w.heap.size)
 (h:∀v' w',w'.ownsRow base 88 6 v' (L++M).length (cellsR (L++M))→w.grownBy w' v.ownBlock→wpList prog ops Q rest (a.put o.dst v') w'):wpList prog ops Q (o :: rest) a w:=by
 obtain⟨i0,hi,hz0,hz1,hz2⟩:=info_parts infoRule;have key:∀(ad:Addr) (m c:Nat) (news:List Value),a.eval x=.slice (some ad) m c→news.length=m*6→(∀j u,news[j]?=some u→w.cell? (ad.add j)=some u)→(∀u∈news,u.oneCell'=true)→m=M.length→news=cellsR M→wpList prog ops Q (o :: rest) a w:=by
  intro ad m c news e1 e2 e3 e4 e5 e6;refine wpList_append_own w hgd s x t ho base 88 i0 (.agg #[.int i64 0,.int i64 0,.int i64 0,.int i64 0,.int i64 0,.int i64 0]) 6 48 ht hi hz0 hz1 hz2 sixCells (by decide) v _ _ hs hown ad m c news e1 e2 e3 e4 (by unfold maxLen;omega) (by omega) hbase ?_;intro v' w' h1 h2 _;refine h v' w' ?_ h2;rw[List.length_append,cellsR_app,←e5,←e6];exact h1
 rcases hM with ⟨ao,cap,rfl,rfl⟩ | ⟨g,q,cap,rfl,h1,h2,h3⟩
 ·cases ao with
  | none =>
    refine wpList_plain hgd fun K hK=>?_
    have hrun:=run_append_own_none (w:=w) base t o.type 88 i0 6 cap ht hi v _ _ hown;unfold Oper.wp;simp[execOp,ho,resolve,invoke,builtin,hs,hx,hrun,Result.andThen];exact hK _ _ (h v w (by rw[List.append_nil];exact hown) ⟨rfl,rfl,rfl,nLQ _,fun _ _ _=>rfl⟩)
  | some ad=>exact key ad 0 cap [] hx rfl (by intro j u hu;simp at hu) (by intro u hu;cases hu) rfl rfl
 exact key ⟨g,q,none⟩ M.length cap (cellsR M) hx (cellsR_len M) h3.cells (cellsR_one M) rfl rfl
theorem own_cut {w:World}{base e g n cap i:Nat}{xs:List Value}(h:w.ownsRow base e 6 (.slice (some ⟨g,0,none⟩) n cap) n xs)(hi:i≤n):w.ownsRow base e 6 (.slice (some ⟨g,0,none⟩) i cap) i (xs.take (i*6)):=by
 rcases h.2 with ⟨h',_⟩ | ⟨g',cap',cur,h',hb,hg,hnc,hcm,hcs,htake⟩
 ·simp at h'
 simp only[Value.slice.injEq,Option.some.injEq,Addr.mk.injEq,and_true,true_and] at h';obtain⟨rfl,rfl⟩:=h';refine⟨by rw[List.length_take,h.1];omega,.inr ⟨g,cap,cur,rfl,hb,hg,by omega,hcm,hcs,?_⟩⟩;rw[←htake,List.take_take,Nat.min_eq_left (by omega)]
theorem own_behind {base e g cap i:Nat}:∀(vs:List Value) (o:Nat) (w:World) (xs:List Value),w.ownsRow base e 6 (.slice (some ⟨g,0,none⟩) i cap) i xs→i*6≤o →
 (w.setCells g o vs).ownsRow base e 6 (.slice (some ⟨g,0,none⟩) i cap) i xs∧w.grownBy (w.setCells g o vs) (some g)
 | [],o,w,xs,h,_=>⟨h,rfl,rfl,rfl,nLQ _,fun _ _ _=>rfl⟩
 | v :: vs,o,w,xs,h,ho=>by
   have h1:=h.stored o v;have e1:xs.set o v=xs:=List.set_eq_of_length_le (by rw[h.1];exact ho);rw[e1] at h1;have h2:=own_behind vs (o+1) _ xs h1.1 (by omega);refine⟨h2.1,?_⟩;exact⟨h2.2.os.trans h1.2.os,h2.2.tape.trans h1.2.tape,h2.2.output.trans h1.2.output,Nat.le_trans h1.2.size h2.2.size,fun k hk hne=>(h2.2.block k (Nat.lt_of_lt_of_le hk h1.2.size) hne).trans (h1.2.block k hk hne)⟩
theorem grow_nil (n:Nat)(w:World)(hn:n≤1000):
 Calls prog 142 #[.slice none 0 0,.int i64 n] w fun e w'=>∃v,e=.returned v∧w'.ownsRow w.heap.size 88 6 v 0 []∧Below w.heap.size w w':=by
 have h1:¬((n:Int)<0):=by omega
 by_cases h0:n=0
 ·subst h0;go_enter func142,ntmps142;go_wp2;go_ret;exact⟨_,rfl,World.ownsRow_nil _ _ _ _,bRQ _ _⟩
 obtain⟨i0,hi,hz0,hz1,hz2⟩:=info_parts infoRule;have h3:wrap64 ((n:Int)-0)=(n:Int):=by unfold wrap64;omega
 have h4:(n:Int) > 0:=by omega
 have hrz:∀ty,(Builtin.append_ #[93,3] ty #[.slice none 0 0,.int i64 n]).run prog w =
  .ok (.slice (some ⟨w.heap.size,0,none⟩) n (grownCap w n 0 88)) (w.drew.alloc (.cells (Builtin.zeroCells (Value.agg #[.int i64 0,.int i64 0,.int i64 0,.int i64 0,.int i64 0,.int i64 0]).cells n++Builtin.zeroCells (Value.agg #[.int i64 0,.int i64 0,.int i64 0,.int i64 0,.int i64 0,.int i64 0]).cells (grownCap w n 0 88-n)) 88)):=fun ty =>
  Lib.run_append_nil_zeros w 93 3 ty 88 i0 _ .i64 .i64 underlying93 underlying3 hi hz0 n (by omega) (by rw[hz1];decide) (by omega) (by rw[hz2];omega)
 have hGn:n≤grownCap w n 0 88:=grownCap_ge w _ _ _;have hGm:grownCap w n 0 88≤maxLen:=grownCap_le_maxLen w n 0 88 (by unfold maxLen;omega)
 generalize grownCap w n 0 88=G at *
 have HM:Hid (G≤maxLen):=hGm;have hG63:G≤9223372036854775807:=by unfold maxLen at hGm;omega
 have HO:Hid ((w.drew.alloc (.cells (Builtin.zeroCells (Value.agg #[.int i64 0,.int i64 0,.int i64 0,.int i64 0,.int i64 0,.int i64 0]).cells n++Builtin.zeroCells (Value.agg #[.int i64 0,.int i64 0,.int i64 0,.int i64 0,.int i64 0,.int i64 0]).cells (G-n)) 88)).ownsRow w.heap.size 88 6 (.slice (some ⟨w.heap.size,0,none⟩) 0 G) 0 []):=
  World.ownsRow_made w.drew _ G (nLQ _) HM.out (by
   simp only[Array.size_append,size_zeroCells,sixCells,←Nat.add_mul]
   congr 1
   omega)
 clear hGm;go_enter func142,ntmps142
 go_wp2_with (at_builtin;refine Lib.wpList_append_run _ rfl _ _ _ _ rfl _ _ rfl rfl _ _ (hrz _) ?_)
 all_goals (go_ret;exact⟨_,rfl,HO.out,((bRQ _ _).drew).alloc (nLQ _) _⟩)
def PAt (w:World)(g o:Nat)(Ls:TsQ):Prop:=∀i (h:i<Ls.length),∃ao n cap,w.cell? ⟨g,o+i,none⟩=some (.slice ao n cap)∧SR w (.slice ao n cap) Ls[i]
theorem PAt.later {w w':World}{g o:Nat}{Ls:TsQ}(h:PAt w g o Ls)(hb:Below w.heap.size w w'):PAt w' g o Ls:=fun i hi=>by
 obtain⟨ao,n,cap,h1,h2⟩:=h i hi;exact⟨ao,n,cap,cell_later hb h1,h2.later hb⟩
theorem SR.len {w:World}{ao:AdQ}{n cap:Nat}{L:List Ru}(h:SR w (.slice ao n cap) L):L.length=n:=by
 rcases h with ⟨_,_,e,rfl⟩ | ⟨_,_,_,e,_⟩
 ·simp at e;simp[e]
 simp at e;exact e.2.1.symm
theorem flat_next {Ls:TsQ}{k:Nat}(hk:k<Ls.length):(Ls.take (k+1)).flatten=(Ls.take k).flatten++Ls[k]:=by
 rw[List.take_succ_eq_append_getElem hk];simp only[List.flatten_append,List.flatten_cons,List.flatten_nil,List.append_nil]
theorem flat_le {Ls:TsQ}(k:Nat):(Ls.take k).flatten.length≤Ls.flatten.length:=by
 have:Ls.flatten=(Ls.take k).flatten++(Ls.drop k).flatten:=by rw[←List.flatten_append,List.take_append_drop]
 rw[this,List.length_append];omega
theorem concat_any (g o m cap:Nat)(Ls:TsQ)(w:World)(hm:Ls.length=m)(hm2:m≤1000)(hc:PAt w g o Ls)(hs:Ls.flatten.length≤1000):
 Calls prog 104 #[.slice (some ⟨g,o,none⟩) m cap] w fun e w'=>∃v,e=.returned v∧w'.ownsRow w.heap.size 88 6 v Ls.flatten.length (cellsR Ls.flatten)∧Below w.heap.size w w':=by
 have HM:Hid (Ls.length=m):=hm;have HC:Hid (PAt w g o Ls):=hc;have HS:Hid (Ls.flatten.length≤1000):=hs;obtain⟨N,hN⟩:∃N,N=Ls.flatten.length:=⟨_,rfl⟩;have HN:Hid (N=Ls.flatten.length):=hN;have hN2:N≤1000:=by omega
 clear hm hc hs hN;go_enter func104,ntmps104
 go_upto_block 0 with fail
 go_cut [3] from 3 (fun z w'=>z=.int i64 (N:Int)∧w'=w)
 case first =>
  go_wp2
  go_loopw [3,11] (fun z i wr=>∃k:Nat,k≤m∧i=.int i64 k∧z=.int i64 ((Ls.take k).flatten.length:Int)∧wr=w) (fun _ i _=>m-(intOf i).toNat)
  case atStart=>exact⟨0,by omega,rfl,rfl,rfl⟩
  case round =>
   obtain⟨k,hk,rfl,rfl,rfl⟩:=hrel;by_cases hlt:k<m
   ·have hkl:k<Ls.length:=by rw[HM.out];exact hlt
    obtain⟨ao,n,cap2,q0,hsr⟩:=HC.out k hkl;have HT:Hid ((Ls.take (k+1)).flatten.length=(Ls.take k).flatten.length+n):=by
     show _=_;rw[flat_next hkl,List.length_append,hsr.len]
    have hb1:(Ls.take k).flatten.length+n≤1000:=by
     have h1:=flat_le (Ls:=Ls) (k+1);have h2:=HS.out;have h3:=HT.out;omega
    generalize (Ls.take k).flatten.length=z at *
    clear hsr;go_wp2;go_roundw
    case rel=>exact⟨k+1,by omega,by go_num,by rw[HT.out];go_num,by simp⟩
    case measure=>simp[intOf];omega
   obtain rfl:k=m:=by omega
   go_wp2_with fail
   go_meet
   case rel=>exact⟨by rw[←HM.out,List.take_length,HN.out],rfl⟩
 case rest =>
  obtain⟨rfl,rfl⟩:=hcut
  go_wp2_with fail
  refine (grow_nil N _ hN2).mono ?_;rintro e w1 ⟨v,rfl,hown,hB⟩;have HO:Hid (w1.ownsRow wc.heap.size 88 6 v 0 []):=hown;have HB:Hid (Below wc.heap.size wc w1):=hB;clear hown hB;go_wp2
  go_loopw [6,27] (fun u i wr=>∃k:Nat,k≤m∧i=.int i64 k∧wr.ownsRow wc.heap.size 88 6 u (Ls.take k).flatten.length (cellsR (Ls.take k).flatten)∧Below wc.heap.size wc wr) (fun _ i _=>m-(intOf i).toNat)
  case atStart=>exact⟨0,by omega,rfl,HO.out,HB.out⟩
  case round =>
   obtain⟨k,hk,rfl,hown,hB⟩:=hrel;have HOW:Hid (wr.ownsRow wc.heap.size 88 6 u6 (Ls.take k).flatten.length (cellsR (Ls.take k).flatten)):=hown;have HBW:Hid (Below wc.heap.size wc wr):=hB;clear hown;by_cases hlt:k<m
   ·have hkl:k<Ls.length:=by rw[HM.out];exact hlt
    obtain⟨ao,n,cap2,q0,hsr⟩:=(HC.out.later hB) k hkl;have HSR:Hid (SR wr (.slice ao n cap2) Ls[k]):=hsr;have HL1:Hid ((Ls.take k).flatten.length+Ls[k].length≤1000):=by
     have h1:=flat_le (Ls:=Ls) (k+1);rw[flat_next hkl,List.length_append] at h1;have h2:=HS.out;show _≤_;omega
    clear hsr hB
    go_wp2_with (at_builtin;refine wpList_append_SR _ rfl _ _ 93 rfl underlying93 wc.heap.size _ rfl _ HOW.out _ rfl _ HSR.out HL1.out HBW.out.size ?_)
    intro v' w3 hown3 hgrow;have HO5:Hid (w3.ownsRow wc.heap.size 88 6 v' (Ls.take (k+1)).flatten.length (cellsR (Ls.take (k+1)).flatten)):=by
     show w3.ownsRow _ _ _ _ _ _;rw[flat_next hkl,show ((Ls.take k).flatten++Ls[k]).length=(List.take k (List.map List.length Ls)).sum+Ls[k].length by simp];exact hown3
    have HB5:Hid (Below wc.heap.size wc w3):=HBW.out.grown hgrow HBW.out.size (fun g hg=>(HOW.out.lt g hg).1);clear hown3 hgrow q0;go_wp2;go_roundw
    case rel=>exact⟨k+1,by omega,by go_num,HO5.out,HB5.out⟩
    case measure=>simp[intOf];omega
   obtain rfl:k=m:=by omega
   go_wp2;go_ret;refine⟨_,rfl,?_,HBW.out⟩;have:=HOW.out;rw[←HM.out,List.take_length] at this;exact this
theorem eq_ways (p m b o s v p' m' b' o' s' v':Int):
 ((p==p')=false∧eqR ⟨p,m,b,o,s,v⟩ ⟨p',m',b',o',s',v'⟩=false) ∨
 ((p==p')=true∧(m==m')=false∧eqR ⟨p,m,b,o,s,v⟩ ⟨p',m',b',o',s',v'⟩=false) ∨
 ((p==p')=true∧(m==m')=true∧(b==b')=false∧eqR ⟨p,m,b,o,s,v⟩ ⟨p',m',b',o',s',v'⟩=false) ∨
 ((p==p')=true∧(m==m')=true∧(b==b')=true∧(o==o')=false∧eqR ⟨p,m,b,o,s,v⟩ ⟨p',m',b',o',s',v'⟩=false) ∨
 ((p==p')=true∧(m==m')=true∧(b==b')=true∧(o==o')=true∧(s==s')=false∧eqR ⟨p,m,b,o,s,v⟩ ⟨p',m',b',o',s',v'⟩=false) ∨
 ((p==p')=true∧(m==m')=true∧(b==b')=true∧(o==o')=true∧(s==s')=true∧(v==v')=false∧eqR ⟨p,m,b,o,s,v⟩ ⟨p',m',b',o',s',v'⟩=false) ∨
 ((p==p')=true∧(m==m')=true∧(b==b')=true∧(o==o')=true∧(s==s')=true∧(v==v')=true∧eqR ⟨p,m,b,o,s,v⟩ ⟨p',m',b',o',s',v'⟩=true):=by
 unfold eqR;by_cases h1:p=p'
 ·by_cases h2:m=m'
  ·by_cases h3:b=b'
   ·by_cases h4:o=o'
    ·by_cases h5:s=s'
     ·by_cases h6:v=v'
      ·simp[h1,h2,h3,h4,h5,h6]
      simp[h1,h2,h3,h4,h5,h6]
     simp[h1,h2,h3,h4,h5]
    simp[h1,h2,h3,h4]
   simp[h1,h2,h3]
  simp[h1,h2]
 simp[h1]
theorem run_eqlR (p m b o s v p' m' b' o' s' v':Int)(w:World):(binOp .eql 88 (.agg #[.int i64 p,.int i64 m,.int i64 b,.int i64 o,.int i64 s,.int i64 v]) (.agg #[.int i64 p',.int i64 m',.int i64 b',.int i64 o',.int i64 s',.int i64 v'])).run prog w=.ok (.bool (eqR ⟨p,m,b,o,s,v⟩ ⟨p',m',b',o',s',v'⟩)) w:=by
 rcases eq_ways p m b o s v p' m' b' o' s' v' with ⟨e1,e⟩ | ⟨e1,e2,e⟩ | ⟨e1,e2,e3,e⟩ | ⟨e1,e2,e3,e4,e⟩ | ⟨e1,e2,e3,e4,e5,e⟩ | ⟨e1,e2,e3,e4,e5,e6,e⟩ | ⟨e1,e2,e3,e4,e5,e6,e⟩
 all_goals
  rw[e];go_simp
def CI (w:World)(B:Nat)(p m b q s v:Int)(g o:Nat)(p' m' b' q' s' v':Int)(w':World):Prop:=
 Below w.heap.size w w'∧(w'.cell? ⟨B,0,none⟩=some (.int i64 p)∧w'.cell? ⟨B,1,none⟩=some (.int i64 m)∧w'.cell? ⟨B,2,none⟩=some (.int i64 b) ∧
  w'.cell? ⟨B,3,none⟩=some (.int i64 q)∧w'.cell? ⟨B,4,none⟩=some (.int i64 s)∧w'.cell? ⟨B,5,none⟩=some (.int i64 v)) ∧
 w'.cell? ⟨g,o,none⟩=some (.int i64 p')∧w'.cell? ⟨g,o+1,none⟩=some (.int i64 m')∧w'.cell? ⟨g,o+2,none⟩=some (.int i64 b') ∧
  w'.cell? ⟨g,o+3,none⟩=some (.int i64 q')∧w'.cell? ⟨g,o+4,none⟩=some (.int i64 s')∧w'.cell? ⟨g,o+5,none⟩=some (.int i64 v')
theorem CI.later {w W W':World}{B:Nat}{p m b q s v:Int}{g o:Nat}{p' m' b' q' s' v':Int}(hb:Below W.heap.size W W')(h:CI w B p m b q s v g o p' m' b' q' s' v' W):CI w B p m b q s v g o p' m' b' q' s' v' W':=by
 obtain⟨h0,⟨h1,h2,h3,h4,h5,h6⟩,k1,k2,k3,k4,k5,k6⟩:=h;exact⟨h0.trans (hb.mono h0.size),⟨cell_later hb h1,cell_later hb h2,cell_later hb h3,cell_later hb h4,cell_later hb h5,cell_later hb h6⟩,cell_later hb k1,cell_later hb k2,cell_later hb k3,cell_later hb k4,cell_later hb k5,cell_later hb k6⟩
theorem index_any (ao:AdQ)(n cap:Nat)(p m b o s v:Int)(L:List Ru)(w:World)(hn:L.length=n)(hn2:n≤maxLen)(ha:0<n→∃g o,ao=some ⟨g,o,none⟩∧RAt w g o L∧cap≤maxLen):
 Calls prog 146 #[.slice ao n cap,.agg #[.int i64 p,.int i64 m,.int i64 b,.int i64 o,.int i64 s,.int i64 v]] w fun e w'=>e=.returned (.int i64 (ixP (fun a=>eqR ⟨p,m,b,o,s,v⟩ a) L))∧Below w.heap.size w w':=by
 have HN:Hid (L.length=n):=hn;have HA:Hid (0<n→∃g o,ao=some ⟨g,o,none⟩∧RAt w g o L∧cap≤maxLen):=ha;have HC0:=C6.new w p m b o s v 88;have HB0:Hid (Below w.heap.size w (w.alloc (.cells #[.int i64 p,.int i64 m,.int i64 b,.int i64 o,.int i64 s,.int i64 v] 88))):=(bRQ _ _).alloc (nLQ _) _;unfold maxLen at hn2;clear hn ha;go_enter func146,ntmps146;go_wp2
 go_loopw [8] (fun i wr=>∃k:Nat,k≤n∧i=.int i64 k∧(L.take k).any (fun a=>eqR ⟨p,m,b,o,s,v⟩ a)=false∧Below w.heap.size w wr∧C6 wr w.heap.size 0 ⟨p,m,b,o,s,v⟩)
  (fun i _=>n-(intOf i).toNat)
 case atStart=>exact⟨0,by omega,rfl,by simp,HB0.out,HC0⟩
 case round =>
  obtain⟨k,hk,rfl,hno,hB,hC⟩:=hrel;have HB:Hid (Below w.heap.size w wr):=hB;have HC:Hid (C6 wr w.heap.size 0 ⟨p,m,b,o,s,v⟩):=hC;have HNO:Hid ((L.take k).any (fun a=>eqR ⟨p,m,b,o,s,v⟩ a)=false):=hno;clear hno HC0 HB0;by_cases hlt:k<n
  ·obtain⟨g,og,hao,hc,_⟩:=HA.out (by omega);subst hao;obtain⟨p',m',b',o',s',v',hkl,hL,q0,q1,q2,q3,q4,q5⟩:=(hc.later hB).at HN.out hlt;have HL:Hid (L[k]=⟨p',m',b',o',s',v'⟩):=hL;obtain⟨r0,r1,r2,r3,r4,r5⟩:=hC;simp only[Nat.zero_add] at r0 r1 r2 r3 r4 r5;have HCE:Hid (CI wr w.heap.size p m b o s v g (og+k*6) p' m' b' o' s' v' wr):=⟨bRQ _ _,⟨r0,r1,r2,r3,r4,r5⟩,q0,q1,q2,q3,q4,q5⟩;clear hL hB HA q0 q1 q2 q3 q4 q5 r0 r1 r2 r3 r4 r5;go_upto_region 4 with fail;have kb0:(0:Int)≤(k:Int):=by omega
   have kb1:(k:Int)<(n:Int):=by omega
   go_cut [16] from 9 to 18 (fun c w'=>c=.bool (eqR ⟨p,m,b,o,s,v⟩ ⟨p',m',b',o',s',v'⟩)∧Below wr.heap.size wr w')
   case first =>
    as_aux_lemma =>
     refine wp_region_quiet (C:=CI wr w.heap.size p m b o s v g (og+k*6) p' m' b' o' s' v') (by kernel_rfl) (by kernel_rfl) (CI.later (W:=wr) (Below.drew (bRQ _ _)) HCE.out) ?_;simp only[List.toList_toArray];go_big_quiet_want;refine qv (.agg #[.int i64 p,.int i64 m,.int i64 b,.int i64 o,.int i64 s,.int i64 v]) ?_ ?_
     ·rintro w' ⟨z0,⟨z1,z2,z3,z4,z5,z6⟩,y1,y2,y3,y4,y5,y6⟩;go_simp
     simp only[Act.put,AP];go_big_quiet_on;go_big_quiet_want;refine qv (.slice (some ⟨g,og,none⟩) n cap) ?_ ?_
     ·rintro w' ⟨z0,⟨z1,z2,z3,z4,z5,z6⟩,y1,y2,y3,y4,y5,y6⟩;go_simp
     simp only[Act.put,AP];go_big_quiet_on;go_big_quiet_want;refine qv (.int i64 (k:Int)) ?_ ?_
     ·rintro w' ⟨z0,⟨z1,z2,z3,z4,z5,z6⟩,y1,y2,y3,y4,y5,y6⟩;go_simp
     simp only[Act.put,AP];go_big_quiet_on;go_big_quiet_want;refine qv (.pointer (some ⟨g,og+k*6,none⟩)) ?_ ?_
     ·rintro w' ⟨z0,⟨z1,z2,z3,z4,z5,z6⟩,y1,y2,y3,y4,y5,y6⟩;go_simp
     simp only[Act.put,AP];go_big_quiet_on;go_big_quiet_want;refine qv (.agg #[.int i64 p',.int i64 m',.int i64 b',.int i64 o',.int i64 s',.int i64 v']) ?_ ?_
     ·rintro w' ⟨z0,⟨z1,z2,z3,z4,z5,z6⟩,y1,y2,y3,y4,y5,y6⟩;go_simp
     simp only[Act.put,AP];go_big_quiet_on;go_big_quiet_want;refine quiet_val (v:=.bool (eqR ⟨p,m,b,o,s,v⟩ ⟨p',m',b',o',s',v'⟩)) (fun w' hC=>exec_bin rfl (by go_simp) (run_eqlR p m b o s v p' m' b' o' s' v' w')) ?_;simp only[Act.put,AP];go_big_quiet_on;refine wpQuiet_nil ?_;intro w' hC
     go_wp2_with fail
     go_meet
     case rel=>exact⟨rfl,hC.1⟩
   case rest =>
    obtain⟨rfl,hB2⟩:=hcut;have HB2:Hid (Below w.heap.size w wc):=HB.out.trans (hB2.mono HB.out.size);have HC2:Hid (C6 wc w.heap.size 0 ⟨p,m,b,o,s,v⟩):=HC.out.later hB2;clear hB2;cases ho:eqR ⟨p,m,b,o,s,v⟩ ⟨p',m',b',o',s',v'⟩
    ·go_wp2;go_roundw
     case rel=>exact⟨k+1,by omega,by go_num,any_nextR hkl HNO.out (by rw[HL.out];exact ho),HB2.out,HC2.out⟩
     case measure=>simp[intOf];omega
    go_wp2;go_ret;exact⟨by rw[ixP_hit hkl HNO.out (by rw[HL.out];exact ho)];rfl,HB2.out⟩
  obtain rfl:k=n:=by omega
  go_wp2;go_ret;exact⟨by have:=HNO.out;rw[←HN.out,List.take_length] at this;rw[ixP_no this];rfl,HB.out⟩
theorem tb_long {L:List Ru}(h:12<L.length):tbN L=4:=by simp[tbN,h]
theorem tb_at {L:List Ru}(h:L.length≤12){k:Nat}(hk:k<L.length){x:Int}(h1:tbTo L (k+1)=x)(h2:x≠0):tbN L=x:=by
 subst h1;rw[tbN,if_neg (by omega)];exact to_le h2 hk
theorem to_bad {L:List Ru}{k:Nat}{r:Ru}(hk:k<L.length)(hr:L[k]=r)(h:tbTo L k=0)(h2:r.n≠0):tbTo L (k+1)=r.n:=by
 rw[tbTo,if_pos h,getD_at hk,hr,if_neg h2]
theorem to_clash {L:List Ru}{k:Nat}{r:Ru}(hk:k<L.length)(hr:L[k]=r)(h:tbTo L k=0)(h2:r.n=0)(h3:(L.take k).any (fun a=>keyB a r)=true):tbTo L (k+1)=7:=by
 rw[tbTo,if_pos h,getD_at hk,hr,if_pos h2,h3];rfl
theorem to_next {L:List Ru}{k:Nat}{r:Ru}(hk:k<L.length)(hr:L[k]=r)(h:tbTo L k=0)(h2:r.n=0)(h3:(L.take k).any (fun a=>keyB a r)=false):tbTo L (k+1)=0:=by
 rw[tbTo,if_pos h,getD_at hk,hr,if_pos h2,h3];rfl
theorem table_some (g o cap n:Nat)(L:List Ru)(w:World)(hc:RAt w g o L)(hn:L.length=n)(hl:n≤12)(hcap:n≤cap)(hcap2:cap≤maxLen):
 Calls prog 90 #[.slice (some ⟨g,o,none⟩) n cap] w fun e w'=>e=.returned (noV (tbN L))∧Below w.heap.size w w':=by
 have HN:Hid (L.length=n):=hn;unfold maxLen at hcap2;clear hn;go_enter func90,ntmps90;go_wp2
 go_loopw [12] (fun i wr=>∃k:Nat,k≤n∧i=.int i64 k∧tbTo L k=0∧Below w.heap.size w wr) (fun i _=>n-(intOf i).toNat)
 case atStart=>exact⟨0,by omega,rfl,rfl,bRQ _ _⟩
 case round =>
  obtain⟨k,hk,rfl,hno,hB⟩:=hrel;have HB:Hid (Below w.heap.size w wr):=hB;have HNO:Hid (tbTo L k=0):=hno;clear hno;by_cases hlt:k<n
  ·obtain⟨p,m,b,q,s,v,hkl,hL,q0,q1,q2,q3,q4,q5⟩:=(hc.later hB).at HN.out hlt;have HL:Hid (L[k]=⟨p,m,b,q,s,v⟩):=hL;have HC6:=C6.new wr p m b q s v 88;have HRT:=((hc.later hB).later ((bRQ _ _).alloc (nLQ _) (Obj.cells #[.int i64 p,.int i64 m,.int i64 b,.int i64 q,.int i64 s,.int i64 v] 88))).take k;have HTL:Hid ((L.take k).length=k):=by show (L.take k).length=k;simp;omega
   have hk2:k≤cap:=by omega
   clear hL hB;by_cases ho:ruN p m b q s v=0
   ·go_wp2_with fail
    refine (ruCheck_any _ _ _ _ _ _ _).mono ?_;rintro e w1 ⟨rfl,hb1⟩;rw[no_ok ho];have HB1:=HB.out.trans (((bRQ _ _).alloc (nLQ _) _).trans (hb1.mono (by simp)) |>.mono HB.out.size);have HC7:=HC6.later hb1;have HR7:=HRT.later hb1;clear hb1 HC6 HRT;cases ho2:(L.take k).any (fun a=>keyB a ⟨p,m,b,q,s,v⟩)
    ·go_wp2_with fail
     refine (containsR_any _ _ _ k _ ⟨p,m,b,q,s,v⟩ (L.take k) _ HR7 HTL.out (by unfold maxLen;omega) (by unfold maxLen;omega) HC7).mono ?_;rintro e w2 ⟨rfl,hb2⟩;rw[ho2];have HB2:=HB1.trans (hb2.mono HB1.size);clear hb2;go_wp2;go_roundw
     case rel=>exact⟨k+1,by omega,by go_num,to_next hkl HL.out HNO.out ho ho2,HB2⟩
     case measure=>simp[intOf];omega
    go_wp2_with fail
    refine (containsR_any _ _ _ k _ ⟨p,m,b,q,s,v⟩ (L.take k) _ HR7 HTL.out (by unfold maxLen;omega) (by unfold maxLen;omega) HC7).mono ?_;rintro e w2 ⟨rfl,hb2⟩;rw[ho2];have HB2:=HB1.trans (hb2.mono HB1.size);clear hb2;go_wp2;go_ret;refine⟨?_,HB2⟩;rw[tb_at (by rw[HN.out];exact hl) hkl (to_clash hkl HL.out HNO.out ho ho2) (by decide)];rfl
   go_wp2_with fail
   refine (ruCheck_any _ _ _ _ _ _ _).mono ?_;rintro e w1 ⟨rfl,hb1⟩;rw[no_ne ho];have HB1:=HB.out.trans (((bRQ _ _).alloc (nLQ _) _).trans (hb1.mono (by simp)) |>.mono HB.out.size);clear hb1;go_wp2;go_ret;refine⟨?_,HB1⟩;rw[tb_at (by rw[HN.out];exact hl) hkl (to_bad hkl HL.out HNO.out ho) ho,no_ne (show Ru.n ⟨p,m,b,q,s,v⟩≠0 from ho)];rfl
  obtain rfl:k=n:=by omega
  go_wp2;go_ret;refine⟨?_,HB.out⟩;have e1:tbN L=0:=by
   rw[tbN,if_neg (by rw[HN.out];omega),HN.out];exact HNO.out
  rw[e1];rfl
theorem table_long (ao:AdQ)(cap n:Nat)(w:World)(hl:12<n):
 Calls prog 90 #[.slice ao n cap] w fun e w'=>e=.returned (.iface 68 (.int i64 4))∧Below w.heap.size w w':=by
 go_enter func90,ntmps90;go_wp2;go_ret;exact⟨rfl,bRQ _ _⟩
theorem table_nil (ao:AdQ)(cap:Nat)(w:World):
 Calls prog 90 #[.slice ao 0 cap] w fun e w'=>e=.returned .nilIface∧Below w.heap.size w w':=by
 go_enter func90,ntmps90;go_wp2
 go_loopw [12] (fun i wr=>i=.int i64 0∧wr=w) (fun i _=>0)
 case atStart=>exact⟨rfl,rfl⟩
 case round =>
  obtain⟨rfl,rfl⟩:=hrel;go_wp2;go_ret;exact⟨rfl,bRQ _ _⟩
theorem table_any (v:Value)(L:List Ru)(w:World)(h:SR w v L):
 Calls prog 90 #[v] w fun e w'=>e=.returned (noV (tbN L))∧Below w.heap.size w w':=by
 rcases h with ⟨ao,cap,rfl,rfl⟩ | ⟨g,o,cap,rfl,h1,h2,hc⟩
 ·exact table_nil ao cap w
 by_cases h12:12<L.length
 ·rw[tb_long h12];exact table_long _ _ _ _ h12
 exact table_some _ _ _ _ L w hc rfl (by omega) h1 h2
theorem with1_any (p m b o s v:Int)(r:Ru)(B:Nat)(w:World)(hc:C6 w B 0 r):
 Calls prog 145 #[.agg #[.int i64 p,.int i64 m,.int i64 b,.int i64 o,.int i64 s,.int i64 v],.pointer (some ⟨B,0,none⟩)] w fun e w'=>e=.returned (.bool (keyB ⟨p,m,b,o,s,v⟩ r))∧Below w.heap.size w w':=by
 obtain⟨p',m',b',o',s',v'⟩:=r;obtain⟨c0,c1,c2,c3,c4,c5⟩:=hc;simp only[Nat.zero_add] at c0 c1 c2 c3 c4 c5;have hlt:B<w.heap.size:=bLQ _ _ c0;go_enter func145,ntmps145
 go_wp2_with fail
 refine (clash_any _ _ _ _ _ _ _ _ _ _ _ _ _).mono ?_;rintro e w1 ⟨rfl,hb1⟩;go_wp2;go_ret;exact⟨rfl,((bRQ _ _).alloc (nLQ _) _).trans (hb1.mono (by simp))⟩
theorem with1_asks (r:Ru)(B:Nat)(w:World)(hc:C6 w B 0 r):Asks w 145 (.pointer (some ⟨B,0,none⟩)) (fun a=>keyB a r):=
 fun p m b o s v W hW=>with1_any p m b o s v r B W (hc.later hW)
def NR (w:World)(B:Nat)(v:Value)(L:List Ru):Prop:=w.ownsRow B 88 6 v L.length (cellsR L)
theorem NR.sr {w:World}{B:Nat}{v:Value}{L:List Ru}(h:NR w B v L):SR w v L:=own_SR h
theorem NR.nil (w:World)(B:Nat):NR w B (.slice none 0 0) []:=World.ownsRow_nil w B _ 6
theorem NR.mono {w:World}{B B':Nat}{v:Value}{L:List Ru}(h:NR w B v L)(hB:B'≤B):NR w B' v L:=by
 obtain⟨h1,h2 | ⟨g,cap,cur,hv,hb,h3⟩⟩:=h
 ·exact⟨h1,.inl h2⟩
 exact⟨h1,.inr ⟨g,cap,cur,hv,Nat.le_trans hB hb,h3⟩⟩
theorem NR.of {w:World}{B:Nat}{v:Value}{L M:List Ru}(h:w.ownsRow B 88 6 v L.length (cellsR L))(e:L=M):NR w B v M:=by subst e;exact h
theorem sr_one (w:World)(p m b o s v:Int)(t:TypeId):SR (w.alloc (.cells #[.int i64 p,.int i64 m,.int i64 b,.int i64 o,.int i64 s,.int i64 v] t)) (.slice (some ⟨w.heap.size,0,none⟩) 1 1) [⟨p,m,b,o,s,v⟩]:=by
 refine .inr ⟨w.heap.size,0,1,rfl,nLQ _,by unfold maxLen;omega,fun i hi=>?_⟩;obtain rfl:i=0:=by simp at hi;omega
 have h:=C6.new w p m b o s v t;simp only[Nat.zero_mul,Nat.add_zero,List.getElem_cons_zero];exact h
theorem pat2 {W:World}{a1 a2:AdQ}{n1 c1 n2 c2:Nat}{L1 L2:List Ru}(t:TypeId)(h1:SR W (.slice a1 n1 c1) L1)(h2:SR W (.slice a2 n2 c2) L2):
 PAt (W.alloc (.cells #[.slice a1 n1 c1,.slice a2 n2 c2] t)) W.heap.size 0 [L1,L2]:=by
 have hb:Below W.heap.size W (W.alloc (.cells #[.slice a1 n1 c1,.slice a2 n2 c2] t)):=(bRQ _ _).alloc (nLQ _) _;intro i hi
 match i,hi with
 | 0,_=>exact⟨a1,n1,c1,by simp,h1.later hb⟩
 | 1,_=>exact⟨a2,n2,c2,by simp,h2.later hb⟩
theorem RAt.drop {w:World}{g o:Nat}{L:List Ru}(h:RAt w g o L)(k:Nat):RAt w g (o+k*6) (L.drop k):=by
 intro i hi;have hi2:k+i<L.length:=by simp at hi;omega
 have:=h (k+i) hi2;rw[List.getElem_drop];have e:o+(k+i)*6=o+k*6+i*6:=by omega
 rw[←e];exact this
theorem ch_hit {L:List Ru}{r:Ru}(h:hitB L r=true):chN L true r=7:=by simp[chN,h]
theorem ch_full {L:List Ru}{r:Ru}(h:hitB L r=false)(h2:12≤L.length):chN L true r=4:=by simp[chN,h,h2]
theorem ch_add {L:List Ru}{r:Ru}(h:hitB L r=false)(h2:¬12≤L.length):chN L true r=0:=by simp[chN,h,h2]
theorem chL_ne {L:List Ru}{a:Bool}{r:Ru}(h:chN L a r≠0):chL L a r=[]:=by simp[chL,h]
theorem chL_add {L:List Ru}{r:Ru}(h:chN L true r=0):chL L true r=L++[r]:=by simp[chL,h]
theorem ch_none {L:List Ru}{r:Ru}(h:inB L r=false):chN L false r=5:=by simp[chN,h]
theorem ch_take {L:List Ru}{r:Ru}(h:inB L r=true):chN L false r=0:=by simp[chN,h]
theorem chL_take {L:List Ru}{r:Ru}(h:chN L false r=0):chL L false r=L.take (ixN L r)++L.drop (ixN L r+1):=by simp[chL,h]
theorem with_any (ao:AdQ)(n cap:Nat)(p m b o s v:Int)(L:List Ru)(w:World)(hs:SR w (.slice ao n cap) L):
 Calls prog 106 #[.slice ao n cap,.agg #[.int i64 p,.int i64 m,.int i64 b,.int i64 o,.int i64 s,.int i64 v]] w fun e w'=>∃u,e=.returned (.tuple #[u,noV (chN L true ⟨p,m,b,o,s,v⟩)])∧NR w' w.heap.size u (chL L true ⟨p,m,b,o,s,v⟩)∧Below w.heap.size w w':=by
 obtain⟨ao',n',cap',e,hn,hn2,hn3,ha⟩:=hs.form;cases e;have HN:Hid (L.length=n):=hn;have HC0:=C6.new w p m b o s v 88;have hB0:Below w.heap.size w (w.alloc (.cells #[.int i64 p,.int i64 m,.int i64 b,.int i64 o,.int i64 s,.int i64 v] 88)):=(bRQ _ _).alloc (nLQ _) _;have HS0:Hid (SR (w.alloc (.cells #[.int i64 p,.int i64 m,.int i64 b,.int i64 o,.int i64 s,.int i64 v] 88)) (.slice ao n cap) L):=hs.later hB0;have HA:Hid (0<n→∃g o,ao=some ⟨g,o,none⟩∧RAt w g o L∧cap≤maxLen):=ha;have HB0:Hid (Below w.heap.size w (w.alloc (.cells #[.int i64 p,.int i64 m,.int i64 b,.int i64 o,.int i64 s,.int i64 v] 88))):=hB0;have HM:Hid (n≤maxLen):=hn2;have hn63:n≤9223372036854775807:=by unfold maxLen at hn2;omega
 clear hn ha hs hn2 hB0;cases hh:hitB L ⟨p,m,b,o,s,v⟩
 ·have HH:Hid (L.any (fun a=>keyB a ⟨p,m,b,o,s,v⟩)=false):=hh;by_cases h12:12≤n
  ·rw[ch_full hh (by rw[HN.out];exact h12),chL_ne (by rw[ch_full hh (by rw[HN.out];exact h12)];decide)];clear hh;go_enter func106,ntmps106
   go_wp2_with fail
   refine (containsF ao n cap _ _ _ L _ HN.out HM.out (fun h=>by obtain⟨g,o,e1,e2,e3⟩:=HA.out h;exact⟨g,o,e1,e2.later HB0.out,e3⟩) (enters_of func145 (by kernel_rfl) rfl) (with1_asks ⟨p,m,b,o,s,v⟩ _ _ HC0)).mono ?_;rintro e w1 ⟨rfl,hb1⟩;rw[HH.out];have HB1:Hid (Below w.heap.size w w1):=HB0.out.trans (hb1.mono HB0.out.size);clear hb1;go_wp2;refine bodyPost_ret (v:=.tuple #[.slice none 0 0,.iface 68 (.int i64 4)]) (by simp[results,results106,go_sem]) rfl ⟨_,rfl,NR.nil _ _,HB1.out⟩
  rw[ch_add hh (by rw[HN.out];exact h12),chL_add (ch_add hh (by rw[HN.out];exact h12))];clear hh;go_enter func106,ntmps106
  go_wp2_with fail
  refine (containsF ao n cap _ _ _ L _ HN.out HM.out (fun h=>by obtain⟨g,o,e1,e2,e3⟩:=HA.out h;exact⟨g,o,e1,e2.later HB0.out,e3⟩) (enters_of func145 (by kernel_rfl) rfl) (with1_asks ⟨p,m,b,o,s,v⟩ _ _ HC0)).mono ?_;rintro e w1 ⟨rfl,hb1⟩;rw[HH.out];have HB1:Hid (Below w.heap.size w w1):=HB0.out.trans (hb1.mono HB0.out.size);have HS1:Hid (SR w1 (.slice ao n cap) L):=HS0.out.later hb1;obtain⟨c0,c1,c2,c3,c4,c5⟩:=HC0.later hb1;simp only[Nat.zero_add] at c0 c1 c2 c3 c4 c5;have hlt:w.heap.size<w1.heap.size:=bLQ _ _ c0;clear hb1
  go_wp2_with fail
  have hB2:Below w1.heap.size w1 (w1.alloc (.cells #[.int i64 p,.int i64 m,.int i64 b,.int i64 o,.int i64 s,.int i64 v] 88)):=(bRQ _ _).alloc (nLQ _) _;have hp:=pat2 93 (HS1.out.later hB2) (sr_one w1 p m b o s v 88);have hB3:=hB2.trans (((bRQ _ _).alloc (nLQ _) (.cells #[.slice ao n cap,.slice (some ⟨w1.heap.size,0,none⟩) 1 1] 93)).mono hB2.size);simp only[World.size_alloc] at hp;refine (concat_any _ 0 2 2 [L,[⟨p,m,b,o,s,v⟩]] _ rfl (by omega) hp (by simp[HN.out];omega)).mono ?_;rintro e w2 ⟨u,rfl,hown,hb2⟩;have HB2:Hid (Below w.heap.size w w2):=HB1.out.trans ((hB3.trans (hb2.mono hB3.size)).mono HB1.out.size);have HO:Hid (NR w2 w.heap.size u (L++[⟨p,m,b,o,s,v⟩])):=(NR.of hown (by simp)).mono (by have:=HB1.out.size;simp;omega);clear hb2 hown hp hB2 hB3;go_wp2;refine bodyPost_ret (v:=.tuple #[u,.nilIface]) (by simp[results,results106,go_sem]) rfl ⟨_,rfl,HO.out,HB2.out⟩
 have HH:Hid (L.any (fun a=>keyB a ⟨p,m,b,o,s,v⟩)=true):=hh;rw[ch_hit hh,chL_ne (by rw[ch_hit hh];decide)];clear hh;go_enter func106,ntmps106
 go_wp2_with fail
 refine (containsF ao n cap _ _ _ L _ HN.out HM.out (fun h=>by obtain⟨g,o,e1,e2,e3⟩:=HA.out h;exact⟨g,o,e1,e2.later HB0.out,e3⟩) (enters_of func145 (by kernel_rfl) rfl) (with1_asks ⟨p,m,b,o,s,v⟩ _ _ HC0)).mono ?_;rintro e w1 ⟨rfl,hb1⟩;rw[HH.out];have HB1:Hid (Below w.heap.size w w1):=HB0.out.trans (hb1.mono HB0.out.size);clear hb1;go_wp2;refine bodyPost_ret (v:=.tuple #[.slice none 0 0,.iface 68 (.int i64 7)]) (by simp[results,results106,go_sem]) rfl ⟨_,rfl,NR.nil _ _,HB1.out⟩
theorem keepQ {w1 W W':World}(hb:Below W.heap.size W W')(h:Below w1.heap.size w1 W):Below w1.heap.size w1 W':=h.trans (hb.mono h.size)
theorem ix_no {L:List Ru}{r:Ru}(h:inB L r=false):ixP (fun a=>eqR r a) L = -1:=ixP_no h
theorem ix_yes {L:List Ru}{r:Ru}(h:inB L r=true):ixP (fun a=>eqR r a) L=(ixN L r:Int):=by
 unfold ixP;rw[if_pos (show L.any (fun a=>eqR r a)=true from h)];rfl
theorem ix_lt {L:List Ru}{r:Ru}(h:inB L r=true):ixN L r<L.length:=by
 unfold ixN;rw[List.findIdx_lt_length];simpa[inB] using h
theorem without_any (ao:AdQ)(n cap:Nat)(p m b o s v:Int)(L:List Ru)(w:World)(hs:SR w (.slice ao n cap) L)(h1000:n≤1000):
 Calls prog 107 #[.slice ao n cap,.agg #[.int i64 p,.int i64 m,.int i64 b,.int i64 o,.int i64 s,.int i64 v]] w fun e w'=>∃u,e=.returned (.tuple #[u,noV (chN L false ⟨p,m,b,o,s,v⟩)])∧NR w' w.heap.size u (chL L false ⟨p,m,b,o,s,v⟩)∧Below w.heap.size w w':=by
 obtain⟨ao',n',cap',e,hn,hn2,hn3,ha⟩:=hs.form;cases e;have HN:Hid (L.length=n):=hn;have hB0:Below w.heap.size w (w.alloc (.cells #[.int i64 p,.int i64 m,.int i64 b,.int i64 o,.int i64 s,.int i64 v] 88)):=(bRQ _ _).alloc (nLQ _) _;have HA:Hid (0<n→∃g o,ao=some ⟨g,o,none⟩∧RAt w g o L∧cap≤maxLen):=ha;have HB0:Hid (Below w.heap.size w (w.alloc (.cells #[.int i64 p,.int i64 m,.int i64 b,.int i64 o,.int i64 s,.int i64 v] 88))):=hB0;have HM:Hid (n≤maxLen):=hn2;clear hn ha hs hn2 hB0;cases hh:inB L ⟨p,m,b,o,s,v⟩
 ·rw[ch_none hh,chL_ne (by rw[ch_none hh];decide)];have HH:Hid (ixP (fun a=>eqR ⟨p,m,b,o,s,v⟩ a) L = -1):=ix_no hh;clear hh;go_enter func107,ntmps107
  go_wp2_with fail
  refine (index_any ao n cap p m b o s v L _ HN.out HM.out (fun h=>by obtain⟨g,o,e1,e2,e3⟩:=HA.out h;exact⟨g,o,e1,e2.later HB0.out,e3⟩)).mono ?_;rintro e w1 ⟨rfl,hb1⟩;rw[HH.out];have HB1:Hid (Below w.heap.size w w1):=HB0.out.trans (hb1.mono HB0.out.size);clear hb1;go_wp2;refine bodyPost_ret (v:=.tuple #[.slice none 0 0,.iface 68 (.int i64 5)]) (by simp[results,results107,go_sem]) rfl ⟨_,rfl,NR.nil _ _,HB1.out⟩
 rw[ch_take hh,chL_take (ch_take hh)];have HH:Hid (ixP (fun a=>eqR ⟨p,m,b,o,s,v⟩ a) L=(ixN L ⟨p,m,b,o,s,v⟩:Int)):=ix_yes hh;have hi:ixN L ⟨p,m,b,o,s,v⟩<n:=by
  have:=ix_lt hh;rw[HN.out] at this;exact this
 obtain⟨g,og,hao,hRA,hcm⟩:=HA.out (by omega);subst hao
 generalize ixN L ⟨p,m,b,o,s,v⟩=i at *
 have HRA:Hid (RAt w g og L):=hRA;have HCM:Hid (cap≤maxLen):=hcm;have hc63:(cap:Int)≤9223372036854775807:=by unfold maxLen at hcm;omega
 clear hh hRA hcm HA;go_enter func107,ntmps107
 go_wp2_with fail
 refine (index_any _ n cap p m b o s v L _ HN.out HM.out (fun h=>⟨g,og,rfl,HRA.out.later HB0.out,HCM.out⟩)).mono ?_;rintro e w1 ⟨rfl,hb1⟩;rw[HH.out];have HB1:Hid (Below w.heap.size w w1):=HB0.out.trans (hb1.mono HB0.out.size);have HR1:Hid (RAt w1 g og L):=(HRA.out.later HB0.out).later hb1;clear hb1;have i0:¬((i:Int)<0):=by omega
 have i01:(0:Int)≤(i:Int):=by omega
 have i1:(i:Int)≤(cap:Int):=by omega
 have i2:((i+1:Nat):Int)≤(n:Int):=by omega
 have i21:(0:Int)≤((i+1:Nat):Int):=by omega
 have i3:IntKind.i64.wrap ((i:Int)+1)=((i+1:Nat):Int):=by rw[IntKind.wrap_i64];omega
 have HT1:Hid (SR w1 (.slice (some ⟨g,og,none⟩) i cap) (L.take i)):=by
  have e1:(L.take i).length=i:=by rw[List.length_take,HN.out];omega
  exact .inr ⟨g,og,cap,by rw[e1],by rw[e1];omega,HCM.out,HR1.out.take i⟩
 have HLEN:Hid ([L.take i,L.drop (i+1)].flatten.length≤1000):=by
  show _≤1000;simp only[List.flatten_cons,List.flatten_nil,List.append_nil,List.length_append,List.length_take,List.length_drop,HN.out];omega
 by_cases hcj:cap=i+1
 ·have HT2:Hid (SR w1 (.slice (some ⟨g,og,none⟩) 0 0) (L.drop (i+1))):=.inl ⟨_,_,rfl,List.drop_eq_nil_of_le (by rw[HN.out];omega)⟩
  generalize hj:i+1=j at i2 i21 i3 hcj
  subst hcj;go_wp2
  go_region_held3 (fun w'=>Below w1.heap.size w1 w') (first | assumption | exact Below.drew (bRQ _ _) | exact keepQ (by assumption) (by assumption) | exact keepQ (Below.drew (bRQ _ _)) (by assumption) | exact keepQ (Below.alloc (bRQ _ _) (nLQ _) _) (by assumption))
   (first | (go_at_call 104;refine (concat_any _ 0 2 2 [L.take i,L.drop (i+1)] _ rfl (by omega) ((pat2 _ HT1.out HT2.out).later (Below.drew (bRQ _ _))) HLEN.out).mono ?_;rintro e w' ⟨u,rfl,hown,hb⟩))
  have HO:Hid (NR w' w.heap.size u (L.take i++L.drop (i+1))):=(NR.of hown (by simp)).mono (by have:=HB1.out.size;simp;omega);have HB2:Hid (Below w.heap.size w w'):=HB1.out.trans ((‹Below w1.heap.size w1 w'›).mono HB1.out.size);clear hown;go_wp2;refine bodyPost_ret (v:=.tuple #[u,.nilIface]) (by simp[results,results107,go_sem]) rfl ⟨_,rfl,HO.out,HB2.out⟩
 have HT2:Hid (SR w1 (.slice (some ⟨g,og+(i+1)*6,none⟩) (n-(i+1)) (cap-(i+1))) (L.drop (i+1))):=by
  have e1:(L.drop (i+1)).length=n-(i+1):=by rw[List.length_drop,HN.out]
  exact .inr ⟨g,og+(i+1)*6,cap-(i+1),by rw[e1],by rw[e1];omega,Nat.le_trans (Nat.sub_le _ _) HCM.out,HR1.out.drop (i+1)⟩
 generalize hj:i+1=j at i2 i21 i3 hcj HT2 HLEN
 go_wp2
 go_region_held3 (fun w'=>Below w1.heap.size w1 w') (first | assumption | exact Below.drew (bRQ _ _) | exact keepQ (by assumption) (by assumption) | exact keepQ (Below.drew (bRQ _ _)) (by assumption) | exact keepQ (Below.alloc (bRQ _ _) (nLQ _) _) (by assumption))
  (first | (go_at_call 104;refine (concat_any _ 0 2 2 [L.take i,L.drop j] _ rfl (by omega) ((pat2 _ HT1.out HT2.out).later (Below.drew (bRQ _ _))) HLEN.out).mono ?_;rintro e w' ⟨u,rfl,hown,hb⟩))
 have HO:Hid (NR w' w.heap.size u (L.take i++L.drop (i+1))):=(NR.of hown (by rw[hj];simp)).mono (by have:=HB1.out.size;simp;omega);have HB2:Hid (Below w.heap.size w w'):=HB1.out.trans ((‹Below w1.heap.size w1 w'›).mono HB1.out.size);clear hown;go_wp2;refine bodyPost_ret (v:=.tuple #[u,.nilIface]) (by simp[results,results107,go_sem]) rfl ⟨_,rfl,HO.out,HB2.out⟩
theorem do_tb {L:List Ru}{a:Bool}{r:Ru}(h:tbN L≠0):doN L a r=tbN L∧doL L a r=[]:=by
 have e:doN L a r=tbN L:=by simp[doN,h]
 exact⟨e,by rw[doL,e,if_neg h]⟩
theorem do_ru {L:List Ru}{a:Bool}{r:Ru}(h:tbN L=0)(h2:r.n≠0):doN L a r=r.n∧doL L a r=[]:=by
 have e:doN L a r=r.n:=by simp[doN,h,h2]
 exact⟨e,by rw[doL,e,if_neg h2]⟩
theorem do_ch {L:List Ru}{a:Bool}{r:Ru}(h:tbN L=0)(h2:r.n=0):doN L a r=chN L a r∧doL L a r=chL L a r:=by
 have e:doN L a r=chN L a r:=by simp[doN,h,h2]
 refine⟨e,?_⟩;by_cases h3:chN L a r=0
 ·rw[doL,e,if_pos h3]
 rw[doL,e,if_neg h3,chL_ne h3]
theorem do_own (ao:AdQ)(n cap:Nat)(a:Bool)(p m b o s v:Int)(L:List Ru)(w:World)(hs:SR w (.slice ao n cap) L):
 Calls prog 68 #[.slice ao n cap,.bool a,.agg #[.int i64 p,.int i64 m,.int i64 b,.int i64 o,.int i64 s,.int i64 v]] w fun e w'=>∃u,e=.returned (.tuple #[u,noV (doN L a ⟨p,m,b,o,s,v⟩)])∧NR w' w.heap.size u (doL L a ⟨p,m,b,o,s,v⟩)∧Below w.heap.size w w':=by
 have hB0:Below w.heap.size w (w.alloc (.cells #[.int i64 p,.int i64 m,.int i64 b,.int i64 o,.int i64 s,.int i64 v] 88)):=(bRQ _ _).alloc (nLQ _) _;have HC0:=C6.new w p m b o s v 88;have HS0:Hid (SR (w.alloc (.cells #[.int i64 p,.int i64 m,.int i64 b,.int i64 o,.int i64 s,.int i64 v] 88)) (.slice ao n cap) L):=hs.later hB0;have HB0:Hid (Below w.heap.size w (w.alloc (.cells #[.int i64 p,.int i64 m,.int i64 b,.int i64 o,.int i64 s,.int i64 v] 88))):=hB0;have HLN:Hid (L.length=n):=hs.len;clear hs hB0;by_cases h1:tbN L=0
 ·have HT:Hid (tbN L=0):=h1;by_cases h2:(⟨p,m,b,o,s,v⟩:Ru).n=0
  ·have HR:Hid (ruN p m b o s v=0):=h2;have HN1:Hid (n≤1000):=by
    have:=(tb_iff.1 h1).1;have:=HLN.out;show n≤1000;omega
   rw[(do_ch h1 h2).1,(do_ch h1 h2).2];clear h1 h2;cases a
   ·go_enter func68,ntmps68
    go_wp2_with fail
    refine (table_any _ L _ HS0.out).mono ?_;rintro e w1 ⟨rfl,hb1⟩;rw[no_ok HT.out];have HB1:Hid (Below w.heap.size w w1):=HB0.out.trans (hb1.mono HB0.out.size);have HS1:Hid (SR w1 (.slice ao n cap) L):=HS0.out.later hb1;have HC1:Hid (C6 w1 w.heap.size 0 ⟨p,m,b,o,s,v⟩):=HC0.later hb1;obtain⟨c0,c1,c2,c3,c4,c5⟩:=HC0.later hb1;simp only[Nat.zero_add] at c0 c1 c2 c3 c4 c5;have hlt:w.heap.size<w1.heap.size:=bLQ _ _ c0;clear hb1
    go_wp2_with fail
    refine (ruCheck_any _ _ _ _ _ _ _).mono ?_;rintro e w2 ⟨rfl,hb2⟩;rw[no_ok HR.out];have HB2:Hid (Below w.heap.size w w2):=HB1.out.trans (hb2.mono HB1.out.size);have HS2:Hid (SR w2 (.slice ao n cap) L):=HS1.out.later hb2;obtain⟨d0,d1,d2,d3,d4,d5⟩:=HC1.out.later hb2;simp only[Nat.zero_add] at d0 d1 d2 d3 d4 d5;have hlt2:w.heap.size<w2.heap.size:=bLQ _ _ d0;clear hb2 c0 c1 c2 c3 c4 c5
    go_wp2_with fail
    refine (without_any ao n cap p m b o s v L _ HS2.out HN1.out).mono ?_;rintro e w3 ⟨u,rfl,hsr,hb3⟩;have HB3:Hid (Below w.heap.size w w3):=HB2.out.trans (hb3.mono HB2.out.size);have HO:Hid (NR w3 w.heap.size u (chL L false ⟨p,m,b,o,s,v⟩)):=hsr.mono HB2.out.size;clear hb3 hsr d0 d1 d2 d3 d4 d5
    generalize hE:noV (chN L false ⟨p,m,b,o,s,v⟩)=E
    have HE:Hid (noV (chN L false ⟨p,m,b,o,s,v⟩)=E):=hE;clear hE;go_wp2;refine bodyPost_ret (v:=.tuple #[u,E]) (by simp[results,results68,go_sem]) rfl ⟨_,by rw[HE.out],HO.out,HB3.out⟩
   go_enter func68,ntmps68
   go_wp2_with fail
   refine (table_any _ L _ HS0.out).mono ?_;rintro e w1 ⟨rfl,hb1⟩;rw[no_ok HT.out];have HB1:Hid (Below w.heap.size w w1):=HB0.out.trans (hb1.mono HB0.out.size);have HS1:Hid (SR w1 (.slice ao n cap) L):=HS0.out.later hb1;have HC1:Hid (C6 w1 w.heap.size 0 ⟨p,m,b,o,s,v⟩):=HC0.later hb1;obtain⟨c0,c1,c2,c3,c4,c5⟩:=HC0.later hb1;simp only[Nat.zero_add] at c0 c1 c2 c3 c4 c5;have hlt:w.heap.size<w1.heap.size:=bLQ _ _ c0;clear hb1
   go_wp2_with fail
   refine (ruCheck_any _ _ _ _ _ _ _).mono ?_;rintro e w2 ⟨rfl,hb2⟩;rw[no_ok HR.out];have HB2:Hid (Below w.heap.size w w2):=HB1.out.trans (hb2.mono HB1.out.size);have HS2:Hid (SR w2 (.slice ao n cap) L):=HS1.out.later hb2;obtain⟨d0,d1,d2,d3,d4,d5⟩:=HC1.out.later hb2;simp only[Nat.zero_add] at d0 d1 d2 d3 d4 d5;have hlt2:w.heap.size<w2.heap.size:=bLQ _ _ d0;clear hb2 c0 c1 c2 c3 c4 c5
   go_wp2_with fail
   refine (with_any ao n cap p m b o s v L _ HS2.out).mono ?_;rintro e w3 ⟨u,rfl,hsr,hb3⟩;have HB3:Hid (Below w.heap.size w w3):=HB2.out.trans (hb3.mono HB2.out.size);have HO:Hid (NR w3 w.heap.size u (chL L true ⟨p,m,b,o,s,v⟩)):=hsr.mono HB2.out.size;clear hb3 hsr d0 d1 d2 d3 d4 d5
   generalize hE:noV (chN L true ⟨p,m,b,o,s,v⟩)=E
   have HE:Hid (noV (chN L true ⟨p,m,b,o,s,v⟩)=E):=hE;clear hE;go_wp2;refine bodyPost_ret (v:=.tuple #[u,E]) (by simp[results,results68,go_sem]) rfl ⟨_,by rw[HE.out],HO.out,HB3.out⟩
  have HR:Hid (ruN p m b o s v≠0):=h2;rw[(do_ru h1 h2).1,(do_ru h1 h2).2];have HRV:Hid (noV (Ru.n ⟨p,m,b,o,s,v⟩)=.iface 68 (.int i64 (ruN p m b o s v))):=no_ne h2;clear h1 h2;go_enter func68,ntmps68
  go_wp2_with fail
  refine (table_any _ L _ HS0.out).mono ?_;rintro e w1 ⟨rfl,hb1⟩;rw[no_ok HT.out];have HB1:Hid (Below w.heap.size w w1):=HB0.out.trans (hb1.mono HB0.out.size);obtain⟨c0,c1,c2,c3,c4,c5⟩:=HC0.later hb1;simp only[Nat.zero_add] at c0 c1 c2 c3 c4 c5;have hlt:w.heap.size<w1.heap.size:=bLQ _ _ c0;clear hb1
  go_wp2_with fail
  refine (ruCheck_any _ _ _ _ _ _ _).mono ?_;rintro e w2 ⟨rfl,hb2⟩;rw[no_ne HR.out];have HB2:Hid (Below w.heap.size w w2):=HB1.out.trans (hb2.mono HB1.out.size);clear hb2 c0 c1 c2 c3 c4 c5;go_wp2;refine bodyPost_ret (v:=.tuple #[.slice none 0 0,.iface 68 (.int i64 (ruN p m b o s v))]) (by simp[results,results68,go_sem]) rfl ⟨_,by rw[HRV.out],NR.nil _ _,HB2.out⟩
 have HT:Hid (tbN L≠0):=h1;rw[(do_tb h1).1,(do_tb h1).2,no_ne h1];clear h1;go_enter func68,ntmps68
 go_wp2_with fail
 refine (table_any _ L _ HS0.out).mono ?_;rintro e w1 ⟨rfl,hb1⟩;rw[no_ne HT.out];have HB1:Hid (Below w.heap.size w w1):=HB0.out.trans (hb1.mono HB0.out.size);clear hb1;go_wp2;refine bodyPost_ret (v:=.tuple #[.slice none 0 0,.iface 68 (.int i64 (tbN L))]) (by simp[results,results68,go_sem]) rfl ⟨_,rfl,NR.nil _ _,HB1.out⟩
theorem contains_any (ao:AdQ)(n cap:Nat)(p m b o s v:Int)(L:List Ru)(w:World)(hs:SR w (.slice ao n cap) L):
 Calls prog 150 #[.slice ao n cap,.agg #[.int i64 p,.int i64 m,.int i64 b,.int i64 o,.int i64 s,.int i64 v]] w fun e w'=>e=.returned (.bool (inB L ⟨p,m,b,o,s,v⟩))∧Below w.heap.size w w':=by
 obtain⟨ao',n',cap',e,hn,hn2,hn3,ha⟩:=hs.form;cases e;have HN:Hid (L.length=n):=hn;have hB0:Below w.heap.size w (w.alloc (.cells #[.int i64 p,.int i64 m,.int i64 b,.int i64 o,.int i64 s,.int i64 v] 88)):=(bRQ _ _).alloc (nLQ _) _;have HA:Hid (0<n→∃g o,ao=some ⟨g,o,none⟩∧RAt w g o L∧cap≤maxLen):=ha;have HB0:Hid (Below w.heap.size w (w.alloc (.cells #[.int i64 p,.int i64 m,.int i64 b,.int i64 o,.int i64 s,.int i64 v] 88))):=hB0;have HM:Hid (n≤maxLen):=hn2;have HX:Hid (inB L ⟨p,m,b,o,s,v⟩=decide (0≤ixP (fun a=>eqR ⟨p,m,b,o,s,v⟩ a) L)):=(ixP_any L (fun a=>eqR ⟨p,m,b,o,s,v⟩ a)).symm;rw[HX.out];clear hn ha hs hn2 hB0 HX;obtain⟨x,hx⟩:∃x,x=ixP (fun a=>eqR ⟨p,m,b,o,s,v⟩ a) L:=⟨_,rfl⟩;rw[←hx];have HX:Hid (x=ixP (fun a=>eqR ⟨p,m,b,o,s,v⟩ a) L):=hx;clear hx;go_enter func150,ntmps150
 go_wp2_with fail
 refine (index_any ao n cap p m b o s v L _ HN.out HM.out (fun h=>by obtain⟨g,o,e1,e2,e3⟩:=HA.out h;exact⟨g,o,e1,e2.later HB0.out,e3⟩)).mono ?_;rintro e w1 ⟨rfl,hb1⟩;rw[←HX.out];have HB1:Hid (Below w.heap.size w w1):=HB0.out.trans (hb1.mono HB0.out.size);clear hb1;go_wp2;go_ret;exact⟨rfl,HB1.out⟩
theorem beyond1_any (p m b o s v:Int)(ao:AdQ)(n cap:Nat)(L:List Ru)(B:Nat)(w:World)(hc:w.cell? ⟨B,0,none⟩=some (.slice ao n cap))(hs:SR w (.slice ao n cap) L):
 Calls prog 149 #[.agg #[.int i64 p,.int i64 m,.int i64 b,.int i64 o,.int i64 s,.int i64 v],.pointer (some ⟨B,0,none⟩)] w fun e w'=>e=.returned (.bool (inB L ⟨p,m,b,o,s,v⟩))∧Below w.heap.size w w':=by
 have hlt:B<w.heap.size:=bLQ _ _ hc;have hB0:Below w.heap.size w (w.alloc (.cells #[.int i64 p,.int i64 m,.int i64 b,.int i64 o,.int i64 s,.int i64 v] 88)):=(bRQ _ _).alloc (nLQ _) _;have HS0:Hid (SR (w.alloc (.cells #[.int i64 p,.int i64 m,.int i64 b,.int i64 o,.int i64 s,.int i64 v] 88)) (.slice ao n cap) L):=hs.later hB0;clear hs hB0;go_enter func149,ntmps149
 go_wp2_with fail
 refine (contains_any ao n cap p m b o s v L _ HS0.out).mono ?_;rintro e w1 ⟨rfl,hb1⟩;go_wp2;go_ret;exact⟨rfl,((bRQ _ _).alloc (nLQ _) _).trans (hb1.mono (by simp))⟩
theorem beyond1_asks (ao:AdQ)(n cap:Nat)(L:List Ru)(B:Nat)(w:World)(hc:w.cell? ⟨B,0,none⟩=some (.slice ao n cap))(hs:SR w (.slice ao n cap) L):Asks w 149 (.pointer (some ⟨B,0,none⟩)) (fun a=>inB L a):=
 fun p m b o s v W hW=>beyond1_any p m b o s v ao n cap L B W (cell_later hW hc) (hs.later hW)
structure KI (f:Ru→Bool)(L:List Ru)(j i:Nat)(X:List Ru):Prop where
 len:X.length=L.length
 lt:i<j
 low:X.take i=(L.take j).filter (fun a => !f a)
 high:X.drop j=L.drop j
theorem KI.start {f:Ru→Bool}{L:List Ru}{k:Nat}(hk:k<L.length)(h:(L.take k).any f=false)(h2:f L[k]=true):KI f L (k+1) k L:=by
 refine⟨rfl,by omega,?_,rfl⟩;rw[List.take_succ_eq_append_getElem hk,List.filter_append];have e1:(L.take k).filter (fun a => !f a)=L.take k:=by
  rw[List.filter_eq_self];intro a ha;rw[List.any_eq_false] at h;simpa using h a ha
 rw[e1];simp[h2]
theorem KI.skip {f:Ru→Bool}{L X:List Ru}{j i:Nat}(h:KI f L j i X)(hj:j<L.length)(h2:f L[j]=true):KI f L (j+1) i X:=by
 refine⟨h.len,by have:=h.lt;omega,?_,?_⟩
 ·rw[List.take_succ_eq_append_getElem hj,List.filter_append,←h.low];simp[h2]
 have:=congrArg (List.drop 1) h.high;simpa[List.drop_drop,Nat.add_comm] using this
theorem KI.at {f:Ru→Bool}{L X:List Ru}{j i:Nat}(h:KI f L j i X)(hj:j<L.length):X[j]'(by rw[h.len];exact hj)=L[j]:=by
 have e1:=congrArg (fun l=>l[0]?) h.high;simp only[List.getElem?_drop,Nat.add_zero] at e1;rw[List.getElem?_eq_getElem (by rw[h.len];exact hj),List.getElem?_eq_getElem hj] at e1;exact Option.some.inj e1
theorem KI.keep {f:Ru→Bool}{L X:List Ru}{j i:Nat}(h:KI f L j i X)(hj:j<L.length)(h2:f L[j]=false):KI f L (j+1) (i+1) (X.set i L[j]):=by
 have hlt:=h.lt;have hl:=h.len;refine⟨by rw[List.length_set];exact h.len,by omega,?_,?_⟩
 ·rw[List.take_succ_eq_append_getElem hj,List.filter_append,←h.low];have hi:i<(X.set i L[j]).length:=by rw[List.length_set];omega
  rw[List.take_succ_eq_append_getElem hi,List.take_set_of_le (nLQ _)];simp[h2]
 rw[List.drop_set_of_lt (by omega)];have:=congrArg (List.drop 1) h.high;simpa[List.drop_drop,Nat.add_comm] using this
theorem KI.done {f:Ru→Bool}{L X:List Ru}{i:Nat}(h:KI f L L.length i X):X.take i=L.filter (fun a => !f a):=by
 have:=h.low;rw[List.take_length] at this;exact this
theorem cellsR_set (X:List Ru)(i:Nat)(p m b o s v:Int)(hi:i<X.length):cellsR (X.set i ⟨p,m,b,o,s,v⟩)=((((((cellsR X).set (i*6) (.int i64 p)).set (i*6+1) (.int i64 m)).set (i*6+2) (.int i64 b)).set (i*6+3) (.int i64 o)).set (i*6+4) (.int i64 s)).set (i*6+5) (.int i64 v):=by
 induction X generalizing i with
 | nil=>simp at hi
 | cons x X ih =>
   cases i with
   | zero=>simp[cellsR]
   | succ i =>
     have:=ih i (by simpa using hi);have e1:(i+1)*6=i*6+1+1+1+1+1+1:=by omega
     simp only[cellsR,List.flatMap_cons,List.set_cons_succ] at this ⊢;rw[this];simp[e1]
theorem own_set {w:World}{base e g n cap i:Nat}{X:List Ru}(h:w.ownsRow base e 6 (.slice (some ⟨g,0,none⟩) n cap) n (cellsR X))(hi:i<X.length)(p m b o s v:Int):
 ((((((w.setCell ⟨g,i*6,none⟩ (.int i64 p)).setCell ⟨g,i*6+1,none⟩ (.int i64 m)).setCell ⟨g,i*6+2,none⟩ (.int i64 b)).setCell ⟨g,i*6+3,none⟩ (.int i64 o)).setCell ⟨g,i*6+4,none⟩ (.int i64 s)).setCell ⟨g,i*6+5,none⟩ (.int i64 v)).ownsRow base e 6 (.slice (some ⟨g,0,none⟩) n cap) n (cellsR (X.set i ⟨p,m,b,o,s,v⟩)):=by
 rw[cellsR_set X i p m b o s v hi];exact ((((((h.stored _ _).1.stored _ _).1.stored _ _).1.stored _ _).1.stored _ _).1.stored _ _).1
theorem below_six {B:Nat}{a w:World}{g i:Nat}(h:Below B a w)(hg:B≤g)(p m b o s v:Value):
 Below B a ((((((w.setCell ⟨g,i*6,none⟩ p).setCell ⟨g,i*6+1,none⟩ m).setCell ⟨g,i*6+2,none⟩ b).setCell ⟨g,i*6+3,none⟩ o).setCell ⟨g,i*6+4,none⟩ s).setCell ⟨g,i*6+5,none⟩ v):=
 (((((h.setCell hg _).setCell hg _).setCell hg _).setCell hg _).setCell hg _).setCell hg _
theorem own_at {w:World}{base e g n cap i:Nat}{X:List Ru}(h:w.ownsRow base e 6 (.slice (some ⟨g,0,none⟩) n cap) n (cellsR X))(hn:X.length=n)(hi:i<n):
 C6 w g (i*6) (X[i]'(by omega))∧(∀c,w.frozen? ⟨g,c,none⟩=false):=by
 subst hn;obtain⟨a0,a1,a2,a3,a4,a5⟩:=cellsR_at X i hi;refine⟨⟨?_,?_,?_,?_,?_,?_⟩,fun c=>h.frozenAt c⟩
 ·rw[h.cellAt _ (by omega)];exact a0
 ·rw[h.cellAt _ (by omega)];exact a1
 ·rw[h.cellAt _ (by omega)];exact a2
 ·rw[h.cellAt _ (by omega)];exact a3
 ·rw[h.cellAt _ (by omega)];exact a4
 rw[h.cellAt _ (by omega)];exact a5
theorem run_clear_of (w w':World)(t e ty:TypeId)(ht:Tryz.prog.underlying t=some (.slice e))(b o n c:Nat)(hn:0<n)(z:Value)(hv:∀w,(zeroValue e).run prog w=.ok z w)(Z:List Value)
 (hZ:(Builtin.zeroCells z.cells n).toList=Z) (hst:(storeCells ⟨b,o,none⟩ Z 0).run prog w=.ok () w'):(Builtin.clear_ #[t] ty #[.slice (some ⟨b,o,none⟩) n c]).run prog w=.ok (.tuple #[]) w':=by
 obtain⟨m,rfl⟩:∃m,n=m+1:=⟨n-1,by omega⟩;simp[Builtin.clear_,run_underlying ht,hv,hZ,hst]
theorem cellsR_take (X:List Ru)(i:Nat):(cellsR X).take (i*6)=cellsR (X.take i):=by
 induction X generalizing i with
 | nil=>simp[cellsR]
 | cons x X ih =>
   cases i with
   | zero=>simp[cellsR]
   | succ i =>
     have:=ih i;have e1:(i+1)*6=i*6+1+1+1+1+1+1:=by omega
     simp only[cellsR] at this;simp[cellsR,e1,this]
theorem run_clear6 (w:World)(t ty:TypeId)(ht:Tryz.prog.underlying t=some (.slice 88))(b o n c:Nat)(hn:0<n)
 (hc:∀j,j<n*6→(w.cell? ⟨b,o+j,none⟩).isSome=true) (hf:∀j,w.frozen? ⟨b,j,none⟩=false):
 (Builtin.clear_ #[t] ty #[.slice (some ⟨b,o,none⟩) n c]).run prog w=.ok (.tuple #[]) (w.setCells b o (Builtin.zeroCells (Value.agg #[.int i64 0,.int i64 0,.int i64 0,.int i64 0,.int i64 0,.int i64 0]).cells n).toList):=by
 obtain⟨i0,hi,hz0,hz1,hz2⟩:=info_parts infoRule;have hv:∀w,(zeroValue 88).run prog w=.ok (.agg #[.int i64 0,.int i64 0,.int i64 0,.int i64 0,.int i64 0,.int i64 0]) w:=fun w=>by simp[zeroValue,typeInfo,hi,hz0]
 have hl:(Builtin.zeroCells (Value.agg #[.int i64 0,.int i64 0,.int i64 0,.int i64 0,.int i64 0,.int i64 0]).cells n).toList.length=n*6:=by rw[Array.length_toList,size_zeroCells,sixCells]
 have h1:∀u∈(Builtin.zeroCells (Value.agg #[.int i64 0,.int i64 0,.int i64 0,.int i64 0,.int i64 0,.int i64 0]).cells n).toList,u.oneCell'=true:=by
  intro u hu;simp only[Builtin.zeroCells,Array.toList_map,List.mem_map] at hu;obtain⟨i,_,rfl⟩:=hu;rw[sixCells];have h6:i % 6<6:=Nat.mod_lt _ (by omega)
  generalize i % 6=j at h6
  rcases (by omega:j=0∨j=1∨j=2∨j=3∨j=4∨j=5) with rfl | rfl | rfl | rfl | rfl | rfl <;> rfl
 have hst:=run_storeCells_cells (P:=prog) b o (Builtin.zeroCells (Value.agg #[.int i64 0,.int i64 0,.int i64 0,.int i64 0,.int i64 0,.int i64 0]).cells n).toList 0 w (by rw[hl];simpa using hc) (fun j _=>hf _) h1;simp only[Nat.add_zero] at hst;exact run_clear_of w _ t _ ty ht b o n c hn _ hv _ rfl hst
theorem delete_some (g n cap:Nat)(f:FuncId)(c:Value)(P:Ru→Bool)(L:List Ru)(w0 w:World)(hn:L.length=n)(hB:Below w0.heap.size w0 w)(ho:w.ownsRow w0.heap.size 88 6 (.slice (some ⟨g,0,none⟩) n cap) n (cellsR L))
 (he:∀args w,(callFunc f args).run prog w=.ok (.enter f args) w) (hf:Asks w0 f c P) (h1000:n≤1000):
 Calls prog 148 #[.slice (some ⟨g,0,none⟩) n cap,.func (Fn.func f) #[] #[c]] w fun e w'=>∃u,e=.returned u∧w'.ownsRow w0.heap.size 88 6 u (L.filter (fun a => !P a)).length (cellsR (L.filter (fun a => !P a)))∧Below w0.heap.size w0 w':=by
 have HN:Hid (L.length=n):=hn;have HB:Hid (Below w0.heap.size w0 w):=hB;have HO:Hid (w.ownsRow w0.heap.size 88 6 (.slice (some ⟨g,0,none⟩) n cap) n (cellsR L)):=ho;have HF:Hid (Asks w0 f c P):=hf;have hgb:w0.heap.size≤g∧n≤cap∧cap≤maxLen:=by
  rcases ho.2 with ⟨h',_⟩ | ⟨g',cap',cur,h',hb,_,h1,h2,_⟩
  ·simp at h'
  simp only[Value.slice.injEq,Option.some.injEq,Addr.mk.injEq,and_true,true_and] at h';obtain⟨rfl,rfl⟩:=h';exact⟨hb,h1,h2⟩
 obtain⟨hg0,hncap,hcm⟩:=hgb;have HCM:Hid (cap≤maxLen):=hcm;have hsr:SR w (.slice (some ⟨g,0,none⟩) n cap) L:=own_SR (by subst hn;exact ho);have HSR:Hid (SR w (.slice (some ⟨g,0,none⟩) n cap) L):=hsr;have hc63:(cap:Int)≤9223372036854775807:=by unfold maxLen at hcm;omega
 clear hn hB ho hf hsr hcm;have HNM:Hid (n≤maxLen∧(0<n→∃g' o',some (⟨g,0,none⟩:Addr)=some ⟨g',o',none⟩∧RAt w g' o' L∧cap≤maxLen)):=by
  obtain⟨ao',n',cap',e,hn,hn2,hn3,ha⟩:=HSR.out.form;cases e;exact⟨hn2,ha⟩
 cases hany:L.any P
 ·have HX:Hid (ixP P L = -1):=ixP_no hany;have HFL:Hid (L.filter (fun a => !P a)=L):=by
   show L.filter (fun a => !P a)=L;rw[List.filter_eq_self];intro a ha;rw[List.any_eq_false] at hany;simpa using hany a ha
  clear hany;go_enter func148,ntmps148
  go_wp2_with fail
  refine (idxF _ n cap f c P L _ HN.out HNM.out.1 HNM.out.2 he (HF.out.later HB.out)).mono ?_;rintro e w1 ⟨rfl,hb1⟩;rw[HX.out];have HO1:Hid (w1.ownsRow w0.heap.size 88 6 (.slice (some ⟨g,0,none⟩) n cap) n (cellsR L)):=own_below HO.out hb1;have HB1:Hid (Below w0.heap.size w0 w1):=HB.out.trans (hb1.mono HB.out.size);clear hb1;go_wp2;go_ret;refine⟨_,rfl,?_,HB1.out⟩;rw[HFL.out,HN.out];exact HO1.out
 obtain⟨k,hk,hno,hyes⟩:∃k,∃hk:k<L.length,(L.take k).any P=false∧P L[k]=true:=by
  have h1:L.findIdx P<L.length:=List.findIdx_lt_length.2 (by simpa using hany);refine⟨L.findIdx P,h1,?_,List.findIdx_getElem (w:=h1)⟩;rw[List.any_eq_false];intro a ha;rw[List.mem_take_iff_getElem] at ha;obtain⟨i,hi,rfl⟩:=ha;have:=List.not_of_lt_findIdx (p:=P) (xs:=L) (i:=i) (by omega);simpa using this
 have HX:Hid (ixP P L=(k:Int)):=ixP_hit hk hno hyes;have HK:Hid (KI P L (k+1) k L):=KI.start hk hno hyes;have hkn:k<n:=by rw[HN.out] at hk;exact hk
 have kne:((k:Int) == -1)=false:=beq_eq_false_iff_ne.2 (by omega);clear hany hno hyes hk;go_enter func148,ntmps148
 go_wp2_with fail
 refine (idxF _ n cap f c P L _ HN.out HNM.out.1 HNM.out.2 he (HF.out.later HB.out)).mono ?_;rintro e w1 ⟨rfl,hb1⟩;rw[HX.out];have HO1:Hid (w1.ownsRow w0.heap.size 88 6 (.slice (some ⟨g,0,none⟩) n cap) n (cellsR L)):=own_below HO.out hb1;have HB1:Hid (Below w0.heap.size w0 w1):=HB.out.trans (hb1.mono HB.out.size);clear hb1 HO HNM HSR;go_wp2
 go_loopw [5,6] (fun a b wr=>∃i j:Nat,∃X,a=.int i64 i∧b=.int i64 j∧j≤n∧KI P L j i X∧wr.ownsRow w0.heap.size 88 6 (.slice (some ⟨g,0,none⟩) n cap) n (cellsR X)∧Below w0.heap.size w0 wr) (fun _ b _=>n-(intOf b).toNat)
 case atStart=>exact⟨k,k+1,L,rfl,by go_num,by omega,HK.out,HO1.out,HB1.out⟩
 case round =>
  obtain⟨i,j,X,rfl,rfl,hj,hK,hown,hBr⟩:=hrel;have HKR:Hid (KI P L j i X):=hK;have HOR:Hid (wr.ownsRow w0.heap.size 88 6 (.slice (some ⟨g,0,none⟩) n cap) n (cellsR X)):=hown;have HBR:Hid (Below w0.heap.size w0 wr):=hBr;have hij:i<j:=hK.lt;have HXL:Hid (X.length=n):=by have:=hK.len;rw[HN.out] at this;exact this
  clear HO1 HB1 HK HX;by_cases hlt:j<n
  ·have hjl:j<L.length:=by rw[HN.out];exact hlt
   obtain⟨hCj,hfz⟩:=own_at hown HXL.out hlt;rw[hK.at hjl] at hCj;have HKK:Hid (P L[j]=false→KI P L (j+1) (i+1) (X.set i L[j])):=fun h=>hK.keep hjl h
   have HKS:Hid (P L[j]=true→KI P L (j+1) i X):=fun h=>hK.skip hjl h
   rcases hLj:L[j] with ⟨p,m,b,o,s,v⟩
   rw[hLj] at hCj HKK HKS;obtain⟨q0,q1,q2,q3,q4,q5⟩:=hCj;have HC6:=C6.new wr p m b o s v 88;have hBA:Below wr.heap.size wr (wr.alloc (.cells #[.int i64 p,.int i64 m,.int i64 b,.int i64 o,.int i64 s,.int i64 v] 88)):=(bRQ _ _).alloc (nLQ _) _;have HBA:Hid (Below w0.heap.size w0 (wr.alloc (.cells #[.int i64 p,.int i64 m,.int i64 b,.int i64 o,.int i64 s,.int i64 v] 88))):=hBr.trans (hBA.mono hBr.size);have HOA:Hid ((wr.alloc (.cells #[.int i64 p,.int i64 m,.int i64 b,.int i64 o,.int i64 s,.int i64 v] 88)).ownsRow w0.heap.size 88 6 (.slice (some ⟨g,0,none⟩) n cap) n (cellsR X)):=own_below hown hBA;clear hown hBr hK hLj hfz hBA;cases hP:P ⟨p,m,b,o,s,v⟩
   ·go_wp2_with fail
    refine (HF.out p m b o s v _ HBA.out).mono ?_;rintro e w2 ⟨rfl,hb2⟩;rw[hP];have hO2:=own_below HOA.out hb2;have HO2:Hid (w2.ownsRow w0.heap.size 88 6 (.slice (some ⟨g,0,none⟩) n cap) n (cellsR X)):=hO2;have HB2:Hid (Below w0.heap.size w0 w2):=HBA.out.trans (hb2.mono HBA.out.size);obtain⟨d0,d1,d2,d3,d4,d5⟩:=HC6.later hb2;simp only[Nat.zero_add] at d0 d1 d2 d3 d4 d5;obtain⟨hCi,hfz⟩:=own_at hO2 HXL.out (show i<n by omega)
    generalize X[i]'(by have:=HXL.out;omega)=r at hCi
    obtain⟨rp,rm,rb,ro,rs,rv⟩:=r;obtain⟨i0,i1,i2,i3,i4,i5⟩:=hCi;have f0:=hfz (i*6);have f1:=hfz (i*6+1);have f2:=hfz (i*6+2);have f3:=hfz (i*6+3);have f4:=hfz (i*6+4);have f5:=hfz (i*6+5);have hgl:g<w2.heap.size:=bLQ _ _ i0;have hwl:wr.heap.size<w2.heap.size:=bLQ _ _ d0;have b0:(0:Int)≤(i:Int):=by omega
    have b1:(i:Int)<(n:Int):=by omega
    clear hb2 hO2 q0 q1 q2 q3 q4 q5 hfz;go_wp2;exact⟨⟨i+1,j+1,_,by go_num,by go_num,by omega,HKK.out hP,own_set HO2.out (by rw[HXL.out];omega) p m b o s v,below_six HB2.out hg0 _ _ _ _ _ _⟩,by simp[intOf];omega⟩
   go_wp2_with fail
   refine (HF.out p m b o s v _ HBA.out).mono ?_;rintro e w2 ⟨rfl,hb2⟩;rw[hP];have HO2:Hid (w2.ownsRow w0.heap.size 88 6 (.slice (some ⟨g,0,none⟩) n cap) n (cellsR X)):=own_below HOA.out hb2;have HB2:Hid (Below w0.heap.size w0 w2):=HBA.out.trans (hb2.mono HBA.out.size);clear hb2 q0 q1 q2 q3 q4 q5;go_wp2;go_roundw
   case rel=>exact⟨i,j+1,X,rfl,by go_num,by omega,HKS.out hP,HO2.out,HB2.out⟩
   case measure=>simp[intOf];omega
  obtain rfl:j=n:=by omega
  have b0:(0:Int)≤(i:Int):=by omega
  have b1:(i:Int)≤(j:Int):=by omega
  have b2:(i:Int)≤(cap:Int):=by omega
  have b3:¬cap=i:=by omega
  have HZ:Hid (∀ty,(Builtin.clear_ #[93] ty #[.slice (some ⟨g,i*6,none⟩) (j-i) (cap-i)]).run prog wr=.ok (.tuple #[]) (wr.setCells g (i*6) (Builtin.zeroCells (Value.agg #[.int i64 0,.int i64 0,.int i64 0,.int i64 0,.int i64 0,.int i64 0]).cells (j-i)).toList)):=fun ty =>
   run_clear6 wr _ ty underlying93 g (i*6) (j-i) (cap-i) (by omega) (fun t ht=>by
    rw[hown.cellAt _ (by omega)];have h1:i*6+t<(cellsR X).length:=by rw[cellsR_len,HXL.out];omega
    rw[List.getElem?_eq_getElem h1];rfl) (fun t=>hown.frozenAt t)
  have hcl:=HZ.out
  generalize (Builtin.zeroCells (Value.agg #[.int i64 0,.int i64 0,.int i64 0,.int i64 0,.int i64 0,.int i64 0]).cells (j-i)).toList=Z at hcl
  have hoc:=own_behind Z (i*6) wr _ (own_cut hown (show i≤j by omega)) (nLQ _);have HE:Hid (X.take i=L.filter (fun a => !P a)):=by
   have:=hK;rw[←HN.out] at this;exact this.done
  have HOE:Hid ((wr.setCells g (i*6) Z).ownsRow w0.heap.size 88 6 (.slice (some ⟨g,0,none⟩) i cap) (L.filter (fun a => !P a)).length (cellsR (L.filter (fun a => !P a)))):=by
   have h1:=hoc.1;rw[cellsR_take,HE.out] at h1;have e1:(L.filter (fun a => !P a)).length=i:=by
    rw[←HE.out,List.length_take,HXL.out];omega
   show World.ownsRow _ _ _ _ _ _ _;rw[e1];exact h1
  have HBE:Hid (Below w0.heap.size w0 (wr.setCells g (i*6) Z)):=hBr.grown hoc.2 hBr.size (fun k hk=>by cases hk;exact hg0);clear hown hBr hK hoc HZ;go_wp2;go_ret;exact⟨_,rfl,HOE.out,HBE.out⟩
theorem delete_nil (f:FuncId)(c:Value)(P:Ru→Bool)(w:World)(he:∀args w,(callFunc f args).run prog w=.ok (.enter f args) w)(hf:Asks w f c P):
 Calls prog 148 #[.slice none 0 0,.func (Fn.func f) #[] #[c]] w fun e w'=>e=.returned (.slice none 0 0)∧Below w.heap.size w w':=by
 have HX:Hid (ixP P [] = -1):=rfl;have HF:Hid (Asks w f c P):=hf;clear hf;go_enter func148,ntmps148
 go_wp2_with fail
 refine (idxF none 0 0 f c P [] _ rfl (Nat.zero_le _) (fun h=>absurd h (by omega)) he HF.out).mono ?_;rintro e w1 ⟨rfl,hb1⟩;rw[HX.out];go_wp2;go_ret;exact⟨rfl,hb1⟩
theorem delete_any (v:Value)(f:FuncId)(c:Value)(P:Ru→Bool)(L:List Ru)(w0 w:World)(hB:Below w0.heap.size w0 w)(ho:w.ownsRow w0.heap.size 88 6 v L.length (cellsR L))
 (he:∀args w,(callFunc f args).run prog w=.ok (.enter f args) w) (hf:Asks w0 f c P) (h1000:L.length≤1000):
 Calls prog 148 #[v,.func (Fn.func f) #[] #[c]] w fun e w'=>∃u,e=.returned u∧w'.ownsRow w0.heap.size 88 6 u (L.filter (fun a => !P a)).length (cellsR (L.filter (fun a => !P a)))∧Below w0.heap.size w0 w':=by
 rcases ho.2 with ⟨rfl,h0⟩ | ⟨g,cap,cur,rfl,_⟩
 ·obtain rfl:L=[]:=List.length_eq_zero_iff.1 h0;refine (delete_nil f c P w he (hf.later hB)).mono ?_;rintro e w' ⟨rfl,hb⟩;exact⟨_,rfl,World.ownsRow_nil _ _ _ _,hB.trans (hb.mono hB.size)⟩
 refine (delete_some g L.length cap f c P L w0 w rfl hB ho he hf h1000).mono ?_;rintro e w' ⟨u,rfl,h1,h2⟩;exact⟨u,rfl,h1,h2⟩
theorem own_apart {w:World}{b1 e1 s1 n1 b2 e2 s2 n2:Nat}{v1 v2:Value}{x1 x2:List Value}(h1:w.ownsRow b1 e1 s1 v1 n1 x1)(h2:w.ownsRow b2 e2 s2 v2 n2 x2)(he:e1≠e2):v1.ownBlock=none∨v1.ownBlock≠v2.ownBlock:=by
 rcases h1.2 with ⟨rfl,_⟩ | ⟨g,cap,cur,rfl,_,hg,_⟩
 ·exact .inl rfl
 refine .inr ?_
 rcases h2.2 with ⟨rfl,_⟩ | ⟨g2,cap2,cur2,rfl,_,hg2,_⟩
 ·exact fun h=>by cases h
 intro h;simp only[Value.ownBlock,Option.some.injEq] at h;subst h;rw[hg] at hg2;simp only[Option.some.injEq,Obj.cells.injEq] at hg2;exact he hg2.2.1
theorem pat1 {W:World}{a1:AdQ}{n1 c1:Nat}{L1:List Ru}(t:TypeId)(h1:SR W (.slice a1 n1 c1) L1):
 PAt (W.alloc (.cells #[.slice a1 n1 c1] t)) W.heap.size 0 [L1]:=by
 have hb:Below W.heap.size W (W.alloc (.cells #[.slice a1 n1 c1] t)):=(bRQ _ _).alloc (nLQ _) _;intro i hi
 match i,hi with
 | 0,_=>exact⟨a1,n1,c1,by simp,h1.later hb⟩
theorem beyond_any (ao:AdQ)(n cap:Nat)(ao2:AdQ)(n2 cap2:Nat)(L M:List Ru)(w:World)(hs:SR w (.slice ao n cap) L)(ht:SR w (.slice ao2 n2 cap2) M)(h1000:L.length≤1000):
 Calls prog 122 #[.slice ao n cap,.slice ao2 n2 cap2] w fun e w'=>∃ao3 n3 cap3,e=.returned (.slice ao3 n3 cap3)∧n3=(bey L M).length∧w'.ownsRow w.heap.size 88 6 (.slice ao3 n3 cap3) (bey L M).length (cellsR (bey L M))∧Below w.heap.size w w':=by
 have hB0:Below w.heap.size w (w.alloc (.cells #[.slice ao2 n2 cap2] 93)):=(bRQ _ _).alloc (nLQ _) _;have HAS:Hid (Asks (w.alloc (.cells #[.slice ao2 n2 cap2] 93)) 149 (.pointer (some ⟨w.heap.size,0,none⟩)) (fun a=>inB M a)):=
  beyond1_asks ao2 n2 cap2 M w.heap.size _ (by simp) (ht.later hB0)
 have hp:=pat1 93 (hs.later hB0);have hB1:Below (w.alloc (.cells #[.slice ao2 n2 cap2] 93)).heap.size (w.alloc (.cells #[.slice ao2 n2 cap2] 93)) ((w.alloc (.cells #[.slice ao2 n2 cap2] 93)).alloc (.cells #[.slice ao n cap] 93)):=(bRQ _ _).alloc (nLQ _) _;have HP:Hid (PAt ((w.alloc (.cells #[.slice ao2 n2 cap2] 93)).alloc (.cells #[.slice ao n cap] 93)) (w.heap.size+1) 0 [L]):=by
  show PAt _ _ _ _;simpa using hp
 have HB0:Hid (Below w.heap.size w (w.alloc (.cells #[.slice ao2 n2 cap2] 93))):=hB0;have HB1:Hid (Below (w.alloc (.cells #[.slice ao2 n2 cap2] 93)).heap.size (w.alloc (.cells #[.slice ao2 n2 cap2] 93)) ((w.alloc (.cells #[.slice ao2 n2 cap2] 93)).alloc (.cells #[.slice ao n cap] 93))):=hB1;have HL:Hid (L.length≤1000):=h1000;have HL2:Hid ([L].flatten.length≤1000):=by show _≤1000;simpa using h1000
 clear hs ht hB0 hp hB1 h1000;go_enter func122,ntmps122
 go_wp2_with fail
 refine (concat_any _ 0 1 1 [L] _ rfl (by omega) HP.out HL2.out).mono ?_;rintro e w1 ⟨u,rfl,hown,hb1⟩;have HB2:Hid (Below (w.alloc (.cells #[.slice ao2 n2 cap2] 93)).heap.size (w.alloc (.cells #[.slice ao2 n2 cap2] 93)) w1):=HB1.out.trans (hb1.mono HB1.out.size);have HO:Hid (w1.ownsRow (w.alloc (.cells #[.slice ao2 n2 cap2] 93)).heap.size 88 6 u L.length (cellsR L)):=by
  show World.ownsRow _ _ _ _ _ _ _;have h1:=own_mono hown HB1.out.size;have e1:[L].flatten=L:=by simp
  rw[e1] at h1;exact h1
 clear hown hb1
 go_wp2_with fail
 refine (delete_any u _ _ (fun a=>inB M a) L _ _ HB2.out HO.out (enters_of func149 (by kernel_rfl) rfl) HAS.out HL.out).mono ?_;rintro e w2 ⟨u2,rfl,hsr,hb2⟩;obtain⟨ao3,n3,cap3,rfl,hn3,_⟩:=(own_SR hsr).form;have HSR:Hid (w2.ownsRow w.heap.size 88 6 (.slice ao3 n3 cap3) (bey L M).length (cellsR (bey L M))):=own_mono hsr HB0.out.size;have HN3:Hid (n3=(bey L M).length):=hn3.symm;have HB3:Hid (Below w.heap.size w w2):=HB0.out.trans (hb2.mono HB0.out.size);clear hsr hb2 hn3;go_wp2;go_ret;exact⟨_,_,_,rfl,HN3.out,HSR.out,HB3.out⟩
structure C8 (w:World)(g o:Nat)(x:Op8):Prop where
 c0:w.cell? ⟨g,o,none⟩=some (.int i64 x.w)
 c1:w.cell? ⟨g,o+1,none⟩=some (.bool x.a)
 c2:w.cell? ⟨g,o+2,none⟩=some (.int i64 x.r.p)
 c3:w.cell? ⟨g,o+3,none⟩=some (.int i64 x.r.m)
 c4:w.cell? ⟨g,o+4,none⟩=some (.int i64 x.r.b)
 c5:w.cell? ⟨g,o+5,none⟩=some (.int i64 x.r.o)
 c6:w.cell? ⟨g,o+6,none⟩=some (.int i64 x.r.s)
 c7:w.cell? ⟨g,o+7,none⟩=some (.int i64 x.r.v)
theorem C8.new (w:World)(y:Int)(a:Bool)(p m b o s v:Int)(t:TypeId):C8 (w.alloc (.cells #[.int i64 y,Value.bool a,.int i64 p,.int i64 m,.int i64 b,.int i64 o,.int i64 s,.int i64 v] t)) w.heap.size 0 ⟨y,a,⟨p,m,b,o,s,v⟩⟩:=by
 refine⟨?_,?_,?_,?_,?_,?_,?_,?_⟩ <;> simp
def cellsO (L:List Op8):List Value:=L.flatMap fun x=>[.int i64 x.w,.bool x.a,.int i64 x.r.p,.int i64 x.r.m,.int i64 x.r.b,.int i64 x.r.o,.int i64 x.r.s,.int i64 x.r.v]
theorem cellsO_app (L M:List Op8):cellsO (L++M)=cellsO L++cellsO M:=by simp[cellsO]
theorem infoOp:(Tryz.prog.info? 90).map (fun i=>(i.zero,i.size,i.bytes))=some (some (.agg #[.int i64 0,.bool false,.int i64 0,.int i64 0,.int i64 0,.int i64 0,.int i64 0,.int i64 0]),8,64):=by kernel_rfl
theorem eightCells:(Value.agg #[.int i64 0,.bool false,.int i64 0,.int i64 0,.int i64 0,.int i64 0,.int i64 0,.int i64 0]).cells.size=8:=by simp[Value.cells]
theorem wpList_append_op (w:World){ops:Array Oper}{rest:List Oper}{o:Oper}{a:Act}{Q:Exit→Act→World→Prop}(hgd:o.guard=none)(s x:Operand)(t:TypeId)
 (ho:o.op=.call { callee:=.builtin .append,args:=#[s,x],argTypes:=#[t,t] }) (ht:Tryz.prog.underlying t=some (.slice 90)) (base:Nat)
 (v:Value) (hs:a.eval s=v) (L:List Op8) (hown:w.ownsRow base 90 8 v L.length (cellsO L)) (B:Nat) (hx:a.eval x=.slice (some ⟨B,0,none⟩) 1 1) (y:Op8) (hM:C8 w B 0 y)
 (h100:L.length≤1000) (hbase:base≤w.heap.size)
 (h:∀v' w',w'.ownsRow base 90 8 v' (L++[y]).length (cellsO (L++[y]))→w.grownBy w' v.ownBlock→wpList prog ops Q rest (a.put o.dst v') w'):wpList prog ops Q (o :: rest) a w:=by
 obtain⟨i0,hi,hz0,hz1,hz2⟩:=info_parts infoOp;refine wpList_append_own w hgd s x t ho base 90 i0 (.agg #[.int i64 0,.bool false,.int i64 0,.int i64 0,.int i64 0,.int i64 0,.int i64 0,.int i64 0]) 8 64 ht hi hz0 hz1 hz2 eightCells (by decide) v _ _ hs hown ⟨B,0,none⟩ 1 1 (cellsO [y]) hx rfl ?_ ?_ (by unfold maxLen;omega) (by omega) hbase ?_
 ·intro j u hj;rw[addr_add,Nat.zero_add];obtain⟨c0,c1,c2,c3,c4,c5,c6,c7⟩:=hM
  match j,hj with
  | 0,hj=>simp[cellsO] at hj;subst hj;exact c0
  | 1,hj=>simp[cellsO] at hj;subst hj;exact c1
  | 2,hj=>simp[cellsO] at hj;subst hj;exact c2
  | 3,hj=>simp[cellsO] at hj;subst hj;exact c3
  | 4,hj=>simp[cellsO] at hj;subst hj;exact c4
  | 5,hj=>simp[cellsO] at hj;subst hj;exact c5
  | 6,hj=>simp[cellsO] at hj;subst hj;exact c6
  | 7,hj=>simp[cellsO] at hj;subst hj;exact c7
 ·intro u hu;simp[cellsO] at hu
  rcases hu with rfl | rfl | rfl | rfl | rfl | rfl | rfl | rfl <;> rfl
 intro v' w' h1 h2 _;refine h v' w' ?_ h2;rw[List.length_append,cellsO_app];exact h1
theorem tw_ne {A B:List Ru}(h:tbN A≠0):twN A B=tbN A:=by simp[twN,h]
theorem tw_ok {A B:List Ru}(h:tbN A=0):twN A B=tbN B:=by simp[twN,h]
theorem tw_two {A B:List Ru}(h:twN A B=0):tbN A=0∧tbN B=0:=by
 by_cases h1:tbN A=0
 ·rw[tw_ok h1] at h;exact⟨h1,h⟩
 rw[tw_ne h1] at h;exact absurd h h1
theorem check_any2 (v1 v2:Value)(L M:List Ru)(w:World)(hs:SR w v1 L)(ht:SR w v2 M):
 Calls prog 121 #[v1,v2] w fun e w'=>e=.returned (noV (twN L M))∧Below w.heap.size w w':=by
 have HS:Hid (SR w v1 L):=hs;have HT:Hid (SR w v2 M):=ht;clear hs ht;by_cases h1:tbN L=0
 ·rw[tw_ok h1];have H1:Hid (tbN L=0):=h1;clear h1
  generalize hE:noV (tbN M)=E
  have HE:Hid (noV (tbN M)=E):=hE;clear hE;go_enter func121,ntmps121
  go_wp2_with fail
  refine (table_any _ L _ HS.out).mono ?_;rintro e w1 ⟨rfl,hb1⟩;rw[no_ok H1.out];have HT1:Hid (SR w1 v2 M):=HT.out.later hb1;have HB1:Hid (Below w.heap.size w w1):=hb1;clear hb1
  go_wp2_with fail
  refine (table_any _ M _ HT1.out).mono ?_;rintro e w2 ⟨rfl,hb2⟩;rw[HE.out];have HB2:Hid (Below w.heap.size w w2):=HB1.out.trans (hb2.mono HB1.out.size);clear hb2;go_wp2;go_ret;exact⟨rfl,HB2.out⟩
 rw[tw_ne h1,no_ne h1];have H1:Hid (tbN L≠0):=h1;clear h1;go_enter func121,ntmps121
 go_wp2_with fail
 refine (table_any _ L _ HS.out).mono ?_;rintro e w1 ⟨rfl,hb1⟩;rw[no_ne H1.out];go_wp2;go_ret;exact⟨rfl,hb1⟩
end
end Go.Proofs.YtiokpmlhmlcojaaGreatDoor
