/- Contracts and facts on the way to AgentOnce, joined into one text: TopoLay, SlByte, TopoName, TopoSettle, TopoCheck, AlikeMath, Quiet, CubeCon, RuleCon, RuleTab, RuleOf, OwnRow, RuleOwn, TableApp. -/
import Derived.Test.YtcbapfgohocghaaDoorAgentOnceP1
namespace Go.Proofs.YtcbapfgohocghaaDoor
set_option linter.unusedSimpArgs false
set_option linter.unusedVariables false
set_option maxHeartbeats 16000000
set_option maxRecDepth 100000
open Go.Proofs.Tryd
open IntKind (i64)
section
open Go.RowKit
def LayQ (w w':World)(B:Nat)(N:Int)(V:List (Int×Int)):Prop:=∃M',MAt spotKey veI w' B M'∧(N=0→TK sq M' V)∧But [B] w w'
theorem lay_ok (S x0 x1 x2 x3:Int)(B:Nat)(M:HpQ)(U:List (Int×Int))(w:World)(hM:MAt spotKey veI w B M)(hT:TK sq M U)(hU:U.length≤1000)(ha:spB S (x0,x1)=true)(hb:spB S (x2,x3)=true)(N:Int)(hN:N=lk1 S U ((x0,x1),(x2,x3))):
 Calls prog 64 #[.int i64 S,.map (some B),.agg #[.int i64 x0,.int i64 x1,.int i64 x2,.int i64 x3]] w fun e w'=>e=.returned (noV N)∧LayQ w w' B N (U++[(x0,x1),(x2,x3)]):=by
 have hlt:=hM.lt;have HN:Hid (N=lk1 S U ((x0,x1),(x2,x3))):=hN;have hB0:Below w.heap.size w (w.alloc (.cells #[.int i64 x0,.int i64 x1,.int i64 x2,.int i64 x3] 117)):=(bRQ _ _).alloc (nLQ _) _;have HB0:Hid (Below w.heap.size w (w.alloc (.cells #[.int i64 x0,.int i64 x1,.int i64 x2,.int i64 x3] 117))):=hB0;have HC:=lnk_new w x0 x1 x2 x3 117;have HM0:Hid (MAt spotKey veI w B M):=hM;have HT:Hid (TK sq M U):=hT;have hne:¬w.heap.size=B:=by omega
 clear hM hT hN hB0;go_enter func64,ntmps64
 go_wp2_with fail
 refine (isSpot_any S x0 x1 _).mono ?_;rintro e w1 ⟨rfl,hb1⟩;rw[ha];have HB1:Hid (Below w.heap.size w w1):=HB0.out.trans (hb1.mono HB0.out.size);have HC1:=HC.later hb1;obtain⟨c0,c1,c2,c3⟩:=lnk_cells HC1;simp only[Nat.zero_add] at c0 c1 c2 c3;clear hb1
 go_wp2_with fail
 refine (isSpot_any S x2 x3 _).mono ?_;rintro e w2 ⟨rfl,hb2⟩;rw[hb];have HB2:Hid (Below w.heap.size w w2):=HB1.out.trans (hb2.mono HB1.out.size);have HC2:Hid (VAt w2 w.heap.size 0 (lnkE.c ((x0,x1),(x2,x3)))):=HC1.later hb2;have d0:=cell_later hb2 c0;have d1:=cell_later hb2 c1;have d2:=cell_later hb2 c2;have d3:=cell_later hb2 c3;have HM2:Hid (MAt spotKey veI w2 B M):=(HM0.out.later HB2.out);clear hb2 HC1 HC c0 c1 c2 c3 HB1 HB0;go_upto_region 3 with fail;obtain⟨cA,hcA⟩:∃cA:Int,cA=(ctM sq (x0,x1) U:Int):=⟨_,rfl⟩;have HcA:Hid (cA=(ctM sq (x0,x1) U:Int)):=hcA;have hcw:IntKind.i64.wrap (cA+1)=cA+1:=by
  have h1:=ct_le (q:=sq) (x0,x1) U;exact wrap_small (by omega) (by omega)
 clear hcA
 go_cut [] from 20 to 26 (fun w'=>∃M1,MAt spotKey veI w' B M1∧TK sq M1 (U++[(x0,x1)])∧But [B] w2 w')
 case first =>
  have hMd:MAt spotKey veI w2.drew B M:=HM2.out;obtain⟨v0,st,w3,hE,hg3,hM3,hS3⟩:=run_entry_M hMd 133 3 underlying133 0 (fun w=>by kernel_rfl) (x0,x1);obtain⟨w4,hSt,hM4,hg4⟩:=hS3 w3 (cA+1) rfl;have hTK4:Hid (TK sq (mput sq (x0,x1) (cA+1) M) (U++[(x0,x1)])):=by
   show TK _ _ _;rw[HcA.out];exact tk_put sq_iff HT.out _
  have HM4:Hid (MAt spotKey veI w4 B (mput sq (x0,x1) (cA+1) M)):=hM4;have HBt:Hid (But [B] w2 w4):=((But.refl [B] w2).drew.trans (But.of_grown hg3 (by simp))).trans (But.of_grown hg4 (by simp));have hl2:(Instr.lookup 133 (.map (some B)) (.agg #[.int i64 x0,.int i64 x1]) false).run prog w2.drew=.ok (.int i64 cA) w2.drew:=by
   rw[HcA.out];exact run_lookup_TK hMd HT.out 133 3 underlying133 (fun w=>by kernel_rfl) (x0,x1)
  have hl3:(Instr.lookup 133 (.map (some B)) (.agg #[.int i64 x0,.int i64 x1]) false).run prog w3=.ok (.int i64 cA) w3:=by
   have h:=run_lookup_M hM3 133 3 underlying133 (.int i64 0) (fun w=>by kernel_rfl) (x0,x1) false;have e:mget spotKey.q (x0,x1) (mput spotKey.q (x0,x1) ((mget spotKey.q (x0,x1) M).getD 0) M)=some cA:=by
    rw[mget_put spotKey.qeq,if_pos ((spotKey.qeq _ _).2 rfl),HcA.out];exact congrArg some (HT.out (x0,x1))
   rw[e] at h;exact h
  have h1:(Instr.mapEntry 133 (.map (some B)) (.agg #[.int i64 x0,.int i64 x1])).run prog w2.drew=.ok (.tuple #[v0,.int i64 (st:Int)]) w3:=hE;have h3:(Instr.entryStore 133 (.map (some B)) (.int i64 (st:Int)) (.int i64 (cA+1))).run prog w3=.ok () w4:=hSt;clear hE hS3 hSt hM3 hM4 hg3 hg4 hMd
  go_region
  go_wp2_with fail
  go_meet
  case rel=>exact⟨_,HM4.out,hTK4.out,HBt.out⟩
 case rest =>
  obtain⟨M1,hM1,hT1,hBt1⟩:=hcut;obtain⟨w5,hw5⟩:∃x,x=wc:=⟨_,rfl⟩;subst hw5;have hnB:w.heap.size ∉ [B]:=by simp[hne]
  have hl2:w.heap.size<w2.heap.size:=bLQ _ _ d0;have e0:=(hBt1.cell (p:=⟨w.heap.size,0,none⟩) hl2 hnB).trans d0;have e1:=(hBt1.cell (p:=⟨w.heap.size,1,none⟩) hl2 hnB).trans d1;have e2:=(hBt1.cell (p:=⟨w.heap.size,2,none⟩) hl2 hnB).trans d2;have e3:=(hBt1.cell (p:=⟨w.heap.size,3,none⟩) hl2 hnB).trans d3;have HM5:Hid (MAt spotKey veI w5 B M1):=hM1;have HT5:Hid (TK sq M1 (U++[(x0,x1)])):=hT1;have HBt5:Hid (But [B] w w5):=(But.of_below (HB2.out)).trans hBt1;clear hM1 hT1 hBt1 d0 d1 d2 d3 HM2 HC2 hcw HcA hnB hl2;obtain⟨cB,hcB⟩:∃cB:Int,cB=(ctM sq (x2,x3) (U++[(x0,x1)]):Int):=⟨_,rfl⟩;have HcB:Hid (cB=(ctM sq (x2,x3) (U++[(x0,x1)]):Int)):=hcB;have hcw:IntKind.i64.wrap (cB+1)=cB+1:=by
   have h1:=ct_le (q:=sq) (x2,x3) (U++[(x0,x1)]);simp only[List.length_append,List.length_singleton] at h1;exact wrap_small (by omega) (by omega)
  clear hcB;go_upto_region 4 with fail
  go_cut [] from 27 to 33 (fun w'=>∃M2,MAt spotKey veI w' B M2∧TK sq M2 (U++[(x0,x1)]++[(x2,x3)])∧But [B] w5 w')
  case first =>
   have hMd:MAt spotKey veI w5.drew B M1:=HM5.out;obtain⟨v0,st,w3,hE,hg3,hM3,hS3⟩:=run_entry_M hMd 133 3 underlying133 0 (fun w=>by kernel_rfl) (x2,x3);obtain⟨w4,hSt,hM4,hg4⟩:=hS3 w3 (cB+1) rfl;have hTK4:Hid (TK sq (mput sq (x2,x3) (cB+1) M1) (U++[(x0,x1)]++[(x2,x3)])):=by
    show TK _ _ _;rw[HcB.out];exact tk_put sq_iff HT5.out _
   have HM4:Hid (MAt spotKey veI w4 B (mput sq (x2,x3) (cB+1) M1)):=hM4;have HBt:Hid (But [B] w5 w4):=((But.refl [B] w5).drew.trans (But.of_grown hg3 (by simp))).trans (But.of_grown hg4 (by simp));have hl2:(Instr.lookup 133 (.map (some B)) (.agg #[.int i64 x2,.int i64 x3]) false).run prog w5.drew=.ok (.int i64 cB) w5.drew:=by
    rw[HcB.out];exact run_lookup_TK hMd HT5.out 133 3 underlying133 (fun w=>by kernel_rfl) (x2,x3)
   have hl3:(Instr.lookup 133 (.map (some B)) (.agg #[.int i64 x2,.int i64 x3]) false).run prog w3=.ok (.int i64 cB) w3:=by
    have h:=run_lookup_M hM3 133 3 underlying133 (.int i64 0) (fun w=>by kernel_rfl) (x2,x3) false;have e:mget spotKey.q (x2,x3) (mput spotKey.q (x2,x3) ((mget spotKey.q (x2,x3) M1).getD 0) M1)=some cB:=by
     rw[mget_put spotKey.qeq,if_pos ((spotKey.qeq _ _).2 rfl),HcB.out];exact congrArg some (HT5.out (x2,x3))
    rw[e] at h;exact h
   have h1:(Instr.mapEntry 133 (.map (some B)) (.agg #[.int i64 x2,.int i64 x3])).run prog w5.drew=.ok (.tuple #[v0,.int i64 (st:Int)]) w3:=hE;have h3:(Instr.entryStore 133 (.map (some B)) (.int i64 (st:Int)) (.int i64 (cB+1))).run prog w3=.ok () w4:=hSt;clear hE hS3 hSt hM3 hM4 hg3 hg4 hMd
   go_region
   go_wp2_with fail
   go_meet
   case rel=>exact⟨_,HM4.out,hTK4.out,HBt.out⟩
  case rest =>
   obtain⟨M2,hM2,hT2,hBt2⟩:=hcut;have hnB:w.heap.size ∉ [B]:=by simp[hne]
   have hl2:w.heap.size<w5.heap.size:=bLQ _ _ e0;have f0:=(hBt2.cell (p:=⟨w.heap.size,0,none⟩) hl2 hnB).trans e0;have f1:=(hBt2.cell (p:=⟨w.heap.size,1,none⟩) hl2 hnB).trans e1;have f2:=(hBt2.cell (p:=⟨w.heap.size,2,none⟩) hl2 hnB).trans e2;have f3:=(hBt2.cell (p:=⟨w.heap.size,3,none⟩) hl2 hnB).trans e3;have HM6:Hid (MAt spotKey veI wc B M2):=hM2;have HT6:Hid (TK sq M2 (U++[(x0,x1),(x2,x3)])):=by
    show TK _ _ _;simpa using hT2
   have HBt6:Hid (But [B] w wc):=HBt5.out.trans hBt2;obtain⟨pA,hpA⟩:∃p:Int,p=(ctM sq (x0,x1) (U++[(x0,x1)]++[(x2,x3)]):Int):=⟨_,rfl⟩;obtain⟨pB,hpB⟩:∃p:Int,p=(ctM sq (x2,x3) (U++[(x0,x1)]++[(x2,x3)]):Int):=⟨_,rfl⟩;have hlA:(Instr.lookup 133 (.map (some B)) (.agg #[.int i64 x0,.int i64 x1]) false).run prog wc=.ok (.int i64 pA) wc:=by
    rw[hpA];exact run_lookup_TK hM2 hT2 133 3 underlying133 (fun w=>by kernel_rfl) (x0,x1)
   have hlB:(Instr.lookup 133 (.map (some B)) (.agg #[.int i64 x2,.int i64 x3]) false).run prog wc=.ok (.int i64 pB) wc:=by
    rw[hpB];exact run_lookup_TK hM2 hT2 133 3 underlying133 (fun w=>by kernel_rfl) (x2,x3)
   have HL:Hid (N=if (decide ((1:Int)<pA) || decide ((1:Int)<pB))=true then 7 else 0):=by
    show _=_;rw[HN.out,hpA,hpB,ct_link,lk1];simp only[ha,hb,Bool.and_self,if_true]
   clear hM2 hT2 hBt2 e0 e1 e2 e3 hnB hl2 hcw HcB HM5 HT5 HBt5 hpA hpB ha hb;by_cases h1:1<pA
   ·have e7:N=7:=by rw[HL.out];simp[h1]
    subst e7;go_wp2;go_ret;exact⟨rfl,M2,HM6.out,fun e=>absurd e (by decide),HBt6.out⟩
   by_cases h2:1<pB
   ·have e7:N=7:=by rw[HL.out];simp[h2]
    subst e7;go_wp2;go_ret;exact⟨rfl,M2,HM6.out,fun e=>absurd e (by decide),HBt6.out⟩
   have e7:N=0:=by rw[HL.out];simp[h1,h2]
   subst e7;go_wp2;go_ret;exact⟨rfl,M2,HM6.out,fun _=>HT6.out,HBt6.out⟩
theorem lay_bad (S x0 x1 x2 x3:Int)(B:Nat)(w:World)(h:(spB S (x0,x1)&&spB S (x2,x3))=false):
 Calls prog 64 #[.int i64 S,.map (some B),.agg #[.int i64 x0,.int i64 x1,.int i64 x2,.int i64 x3]] w fun e w'=>e=.returned (.iface 73 (.int i64 1))∧Below w.heap.size w w':=by
 have HB0:Hid (Below w.heap.size w (w.alloc (.cells #[.int i64 x0,.int i64 x1,.int i64 x2,.int i64 x3] 117))):=(bRQ _ _).alloc (nLQ _) _;have HC:=lnk_new w x0 x1 x2 x3 117;cases ha:spB S (x0,x1)
 ·clear h;go_enter func64,ntmps64
  go_wp2_with fail
  refine (isSpot_any S x0 x1 _).mono ?_;rintro e w1 ⟨rfl,hb1⟩;rw[ha];have HB1:Hid (Below w.heap.size w w1):=HB0.out.trans (hb1.mono HB0.out.size);clear hb1 HC;go_wp2;go_ret;exact⟨rfl,HB1.out⟩
 have hb:spB S (x2,x3)=false:=by rw[ha,Bool.true_and] at h;exact h
 clear h;go_enter func64,ntmps64
 go_wp2_with fail
 refine (isSpot_any S x0 x1 _).mono ?_;rintro e w1 ⟨rfl,hb1⟩;rw[ha];have HB1:Hid (Below w.heap.size w w1):=HB0.out.trans (hb1.mono HB0.out.size);obtain⟨c0,c1,c2,c3⟩:=lnk_cells (HC.later hb1);simp only[Nat.zero_add] at c0 c1 c2 c3;clear hb1 HC
 go_wp2_with fail
 refine (isSpot_any S x2 x3 _).mono ?_;rintro e w2 ⟨rfl,hb2⟩;rw[hb];have HB2:Hid (Below w.heap.size w w2):=HB1.out.trans (hb2.mono HB1.out.size);clear hb2;go_wp2;go_ret;exact⟨rfl,HB2.out⟩
theorem lay_any (S x0 x1 x2 x3:Int)(B:Nat)(M:HpQ)(U:List (Int×Int))(w:World)(hM:MAt spotKey veI w B M)(hT:TK sq M U)(hU:U.length≤1000):
 Calls prog 64 #[.int i64 S,.map (some B),.agg #[.int i64 x0,.int i64 x1,.int i64 x2,.int i64 x3]] w fun e w'=>e=.returned (noV (lk1 S U ((x0,x1),(x2,x3))))∧LayQ w w' B (lk1 S U ((x0,x1),(x2,x3))) (U++[(x0,x1),(x2,x3)]):=by
 cases h:(spB S (x0,x1)&&spB S (x2,x3))
 ·refine (lay_bad S x0 x1 x2 x3 B w h).mono ?_;rintro e w' ⟨rfl,hb⟩;have e1:lk1 S U ((x0,x1),(x2,x3))=1:=by simp only[lk1,h,Bool.false_eq_true,if_false]
  rw[e1];exact⟨rfl,M,hM.later hb,fun e=>absurd e (by decide),But.of_below hb⟩
 simp only[Bool.and_eq_true] at h;exact lay_ok S x0 x1 x2 x3 B M U w hM hT hU h.1 h.2 _ rfl
def byE:Enc (UInt8) where
 c:=fun x=>[.int .u8 (x.toNat:Int)]
 n:=1
 len:=fun _=>rfl
 pos:=by decide
 one:=by
  intro x u hu;simp at hu;subst hu;rfl
theorem by_at {w:World}{g o:Nat}{L:List (UInt8)}(h:GAt byE w g o L){n k:Nat}(hn:L.length=n)(hk:k<n):∃(x:UInt8) (hl:k<L.length),L[k]=x∧w.cell? ⟨g,o+k,none⟩=some (.int .u8 (x.toNat:Int)):=by
 have hl:k<L.length:=by omega
 have:=h k hl 0 _ rfl;refine⟨_,hl,rfl,?_⟩;have e:o+k*byE.n+0=o+k:=by show o+k*1+0=o+k;omega
 rw[e] at this;exact this
def byAsks (w:World)(f:FuncId)(P:UInt8→Bool):Prop:=
 ∀(x:UInt8) (W:World),Below w.heap.size w W→Calls prog f #[.int .u8 (x.toNat:Int)] W fun e w'=>e=.returned (.bool (P x))∧Below W.heap.size W w'
theorem byAsks.later {w w':World}{f:FuncId}{P:UInt8→Bool}(h:byAsks w f P)(hb:Below w.heap.size w w'):byAsks w' f P:=
 fun x W hW=>h x W (hb.trans (hW.mono hb.size))
theorem by_idxF (ao:AdQ)(n cap:Nat)(f:FuncId)(P:UInt8→Bool)(L:List (UInt8))(w:World)(hn:L.length=n)(hn2:n≤maxLen)(ha:0<n→∃g o,ao=some ⟨g,o,none⟩∧GAt byE w g o L∧cap≤maxLen)(he:∀args w,(callFunc f args).run prog w=.ok (.enter f args) w)(hf:byAsks w f P):
 Calls prog 84 #[.slice ao n cap,.func (Fn.func f) #[] #[]] w fun e w'=>e=.returned (.int i64 (ixG P L))∧Below w.heap.size w w':=by
 have HN:Hid (L.length=n):=hn;have HF:Hid (byAsks w f P):=hf;have HA:Hid (0<n→∃g o,ao=some ⟨g,o,none⟩∧GAt byE w g o L∧cap≤maxLen):=ha;unfold maxLen at hn2;clear hn hf ha;go_enter func84,ntmps84;go_wp2
 go_loopw [8] (fun i wr=>∃k:Nat,k≤n∧i=.int i64 k∧(L.take k).any P=false∧Below w.heap.size w wr)
  (fun i _=>n-(intOf i).toNat)
 case atStart=>exact⟨0,by omega,rfl,by simp,bRQ _ _⟩
 case round =>
  obtain⟨k,hk,rfl,hno,hB⟩:=hrel;have HB:Hid (Below w.heap.size w wr):=hB;have HNO:Hid ((L.take k).any P=false):=hno;clear hno;by_cases hlt:k<n
  ·obtain⟨g,o,hao,hc,_⟩:=HA.out (by omega);subst hao;obtain⟨x,hkl,hL,q0⟩:=by_at (hc.later hB) HN.out hlt;have HL:Hid (L[k]=x):=hL;clear hL hB;cases ho:P x
   ·go_wp2_with fail
    refine (HF.out x _ HB.out).mono ?_;rintro e w1 ⟨rfl,hb1⟩;rw[ho];have HB1:=HB.out.trans (hb1.mono HB.out.size);clear hb1;go_wp2;go_roundw
    case rel=>exact⟨k+1,by omega,by go_num,any_nextG hkl HNO.out (by rw[HL.out];exact ho),HB1⟩
    case measure=>simp[intOf];omega
   go_wp2_with fail
   refine (HF.out x _ HB.out).mono ?_;rintro e w1 ⟨rfl,hb1⟩;rw[ho];go_wp2;go_ret;exact⟨by rw[ixG_hit hkl HNO.out (by rw[HL.out];exact ho)];rfl,HB.out.trans (hb1.mono HB.out.size)⟩
  obtain rfl:k=n:=by omega
  go_wp2;go_ret;exact⟨by have:=HNO.out;rw[←HN.out,List.take_length] at this;rw[ixG_no this];rfl,HB.out⟩
theorem by_hasF (ao:AdQ)(n cap:Nat)(f:FuncId)(P:UInt8→Bool)(L:List (UInt8))(w:World)(hn:L.length=n)(hn2:n≤maxLen)(ha:0<n→∃g o,ao=some ⟨g,o,none⟩∧GAt byE w g o L∧cap≤maxLen)(he:∀args w,(callFunc f args).run prog w=.ok (.enter f args) w)(hf:byAsks w f P):
 Calls prog 82 #[.slice ao n cap,.func (Fn.func f) #[] #[]] w fun e w'=>e=.returned (.bool (L.any P))∧Below w.heap.size w w':=by
 rw[←ixG_any];obtain⟨x,hx⟩:∃x,x=ixG P L:=⟨_,rfl⟩;have HX:Hid (x=ixG P L):=hx;rw[←hx];clear hx;go_enter func82,ntmps82
 go_wp2_with fail
 refine (by_idxF ao n cap f P L _ hn hn2 ha he hf).mono ?_;rintro e w1 ⟨rfl,hb1⟩;rw[←HX.out];go_wp2;go_ret;exact⟨rfl,hb1⟩
def noL (b:UInt8):Bool:=decide ((b.toNat:Int)<97) || decide ((122:Int)<(b.toNat:Int))
theorem isName1_any (b:UInt8)(w:World):Calls prog 83 #[.int .u8 (b.toNat:Int)] w fun e w'=>e=.returned (.bool (noL b))∧Below w.heap.size w w':=by
 have hn:noL b=(decide ((b.toNat:Int)<97) || decide ((122:Int)<(b.toNat:Int))):=rfl
 generalize (b.toNat:Int)=x at *
 rw[hn];clear hn;by_cases h:x<97
 ·have e:(decide (x<97) || decide (122<x))=true:=by simp[h]
  rw[e];go_enter func83,ntmps83;go_wp2;go_ret;exact⟨rfl,bRQ _ _⟩
 have e:(decide (x<97) || decide (122<x))=decide (122<x):=by simp[h]
 rw[e];go_enter func83,ntmps83;go_wp2;go_ret;exact⟨rfl,bRQ _ _⟩
theorem isName1_asks (w:World):byAsks w 83 noL:=fun x W _=>isName1_any x W
theorem bytes_conv (s:ByteArray)(w:World):∃cap w1,(convert 9 141 (.string s)).run prog w=.ok (.slice (some ⟨w.heap.size,0,none⟩) s.size cap) w1∧Below w.heap.size w w1∧GAt byE w1 w.heap.size 0 s.data.toList∧(s.size≤maxLen→cap≤maxLen):=by
 refine⟨_,_,run_bytes_of_string w _ _ 5 s underlying9 underlying141 underlying5,?_,?_,fun h=>grownCap_le_maxLen w _ _ _ h⟩
 ·exact (Below.drew (bRQ _ _)).alloc (nLQ _) _
 intro i hi j u hu;have hj:j=0:=by
  have:=(List.getElem?_eq_some_iff.1 hu).1;have e:(byE.c s.data.toList[i]).length=1:=rfl;omega
 subst hj;have hu2:u=.int .u8 (s.data.toList[i].toNat:Int):=by
  have:some (Value.int .u8 (s.data.toList[i].toNat:Int))=some u:=hu;exact (Option.some.inj this).symm
 subst hu2;have hi2:i<s.data.size:=by simpa using hi
 have e:0+i*byE.n+0=i:=by show 0+i*1+0=i;omega
 rw[e];simp only[World.cell?,World.alloc,World.drew];simp[bytesRow];rw[Array.getElem?_append_left (by simpa using hi2),Array.getElem?_map,Array.getElem?_eq_getElem hi2];rfl
theorem nm_eq {s:ByteArray}(h1:1≤s.size)(h6:s.size≤6):nmB s = !(s.data.toList.any noL):=by
 have e:nmB s=(s.data.toList.all fun c=>decide (97≤c.toNat)&&decide (c.toNat≤122)):=by simp[nmB,h1,h6]
 rw[e,List.not_any_eq_all_not]
 congr 1
 funext c
 rw[Bool.eq_iff_iff];simp[noL];omega
theorem name_ok (s:ByteArray)(w:World)(h1:1≤s.size)(h6:s.size≤6):
 Calls prog 77 #[.string s] w fun e w'=>e=.returned (.bool (nmB s))∧Below w.heap.size w w':=by
 have hs1:¬((s.size:Int)<1):=by omega
 have hs6:¬((6:Int)<(s.size:Int)):=by omega
 obtain⟨cap,w1,hcv,hb1,hG,hcap⟩:=bytes_conv s w;have HCAP:Hid (s.size≤maxLen→cap≤maxLen):=hcap;have HB1:Hid (Below w.heap.size w w1):=hb1;have HG:Hid (GAt byE w1 w.heap.size 0 s.data.toList):=hG;have HE:Hid (nmB s = !(s.data.toList.any noL)):=nm_eq h1 h6;rw[HE.out];obtain⟨r,hr⟩:∃r,r=s.data.toList.any noL:=⟨_,rfl⟩;have HR:Hid (r=s.data.toList.any noL):=hr;rw[←hr];clear hr hb1 hG HE hcap;obtain⟨n,hn⟩:∃n,n=s.size:=⟨_,rfl⟩;have HN:Hid (n=s.size):=hn;rw[←hn] at hcv hs1 hs6 h1 h6;clear hn;have hsz:s.size=n:=HN.out.symm;go_enter func77,ntmps77
 go_wp2_with fail
 refine (by_hasF _ n cap _ noL s.data.toList _ (by rw[HN.out];simp) (by unfold maxLen;omega) (fun _=>⟨_,_,rfl,HG.out,HCAP.out (by rw[←HN.out];unfold maxLen;omega)⟩) (enters_of func83 (by kernel_rfl) rfl) (isName1_asks _)).mono ?_;rintro e w2 ⟨rfl,hb2⟩;rw[←HR.out];have HB2:Hid (Below w.heap.size w w2):=HB1.out.trans (hb2.mono HB1.out.size);clear hb2;go_wp2;go_ret;exact⟨rfl,HB2.out⟩
theorem name_bad (s:ByteArray)(w:World)(h:s.size<1∨6<s.size):
 Calls prog 77 #[.string s] w fun e w'=>e=.returned (.bool false)∧Below w.heap.size w w':=by
 obtain⟨n,hn⟩:∃n,n=s.size:=⟨_,rfl⟩;have hsz:s.size=n:=hn.symm;rw[hsz] at h;clear hn;by_cases h1:(n:Int)<1
 ·go_enter func77,ntmps77;go_wp2;go_ret;exact⟨rfl,bRQ _ _⟩
 have h6:(6:Int)<(n:Int):=by omega
 clear h;go_enter func77,ntmps77;go_wp2;go_ret;exact⟨rfl,bRQ _ _⟩
theorem name_any (s:ByteArray)(w:World):
 Calls prog 77 #[.string s] w fun e w'=>e=.returned (.bool (nmB s))∧Below w.heap.size w w':=by
 by_cases h:1≤s.size∧s.size≤6
 ·exact name_ok s w h.1 h.2
 have e:nmB s=false:=by
  unfold nmB;by_cases h1:1≤s.size
  ·have:¬s.size≤6:=fun h2=>h ⟨h1,h2⟩
   simp[this]
  simp[h1]
 rw[e];exact name_bad s w (by omega)
def SetQ (w w':World)(B C:Nat)(N:Int)(V:List (Int×Int))(Z:List ByteArray):Prop:=∃M' R',MAt spotKey veI w' B M'∧MAt strKey veI w' C R'∧(N=0→TK sq M' V∧TK (fun a b=>a==b) R' Z)∧But [B,C] w w'
theorem settle_ok (S:Int)(n:ByteArray)(x0 x1:Int)(B C:Nat)(hBC:B≠C)(M:HpQ)(R:List (ByteArray×Int))(U:List (Int×Int))(Z:List ByteArray)(w:World)(hM:MAt spotKey veI w B M)(hR:MAt strKey veI w C R)(hT:TK sq M U)(hZ:TK (fun a b=>a==b) R Z)(hU:U.length≤1000)(hZl:Z.length≤1000)
 (ha:nmB n=true) (hb:spB S (x0,x1)=true) (N:Int) (hN:N=ho1 S Z U (n,(x0,x1))):
 Calls prog 65 #[.int i64 S,.map (some B),.map (some C),.agg #[.string n,.int i64 x0,.int i64 x1]] w fun e w'=>e=.returned (noV N)∧SetQ w w' B C N (U++[(x0,x1)]) (Z++[n]):=by
 have hltB:=hM.lt;have hltC:=hR.lt;have HN:Hid (N=ho1 S Z U (n,(x0,x1))):=hN;have HB0:Hid (Below w.heap.size w (w.alloc (.cells #[Value.string n,.int i64 x0,.int i64 x1] 119))):=(bRQ _ _).alloc (nLQ _) _;have HC:=hst_new w n x0 x1 119;have HM0:Hid (MAt spotKey veI w B M):=hM;have HR0:Hid (MAt strKey veI w C R):=hR;have HT:Hid (TK sq M U):=hT;have HZ:Hid (TK (fun a b=>a==b) R Z):=hZ;have hneB:¬w.heap.size=B:=by omega
 have hneC:¬w.heap.size=C:=by omega
 clear hM hR hT hZ hN;go_enter func65,ntmps65
 go_wp2_with fail
 refine (name_any n _).mono ?_;rintro e w1 ⟨rfl,hb1⟩;rw[ha];have HB1:Hid (Below w.heap.size w w1):=HB0.out.trans (hb1.mono HB0.out.size);have HC1:=HC.later hb1;obtain⟨c0,c1,c2⟩:=hst_cells HC1;simp only[Nat.zero_add] at c0 c1 c2;clear hb1
 go_wp2_with fail
 refine (isSpot_any S x0 x1 _).mono ?_;rintro e w2 ⟨rfl,hb2⟩;rw[hb];have HB2:Hid (Below w.heap.size w w2):=HB1.out.trans (hb2.mono HB1.out.size);have d0:=cell_later hb2 c0;have d1:=cell_later hb2 c1;have d2:=cell_later hb2 c2;have HM2:Hid (MAt spotKey veI w2 B M):=(HM0.out.later HB2.out);have HR2:Hid (MAt strKey veI w2 C R):=(HR0.out.later HB2.out);clear hb2 HC1 HC c0 c1 c2 HB1 HB0;go_upto_region 5 with fail;obtain⟨cA,hcA⟩:∃cA:Int,cA=(ctM (fun a b=>a==b) n Z:Int):=⟨_,rfl⟩;have HcA:Hid (cA=(ctM (fun a b=>a==b) n Z:Int)):=hcA;have hcw:IntKind.i64.wrap (cA+1)=cA+1:=by
  have h1:=ct_le (q:=fun a b:ByteArray=>a==b) n Z;exact wrap_small (by omega) (by omega)
 clear hcA
 go_cut [] from 20 to 24 (fun w'=>∃R1,MAt strKey veI w' C R1∧TK (fun a b=>a==b) R1 (Z++[n])∧But [C] w2 w')
 case first =>
  obtain⟨w3,hup,hR3,hg3⟩:=run_update_M HR2.out 135 3 underlying135 n (cA+1);have hTK3:Hid (TK (fun a b=>a==b) (mput (fun a b=>a==b) n (cA+1) R) (Z++[n])):=by
   show TK _ _ _;rw[HcA.out];exact tk_put ba_iff HZ.out _
  have HR3:Hid (MAt strKey veI w3 C (mput (fun a b=>a==b) n (cA+1) R)):=hR3;have HBt:Hid (But [C] w2 w3):=But.of_grown hg3 (by simp);have hl2:(Instr.lookup 135 (.map (some C)) (.string n) false).run prog w2=.ok (.int i64 cA) w2:=by
   rw[HcA.out];exact run_lookup_TK HR2.out HZ.out 135 3 underlying135 (fun w=>by kernel_rfl) n
  have h3:(Instr.mapUpdate 135 (.map (some C)) (.string n) (.int i64 (cA+1))).run prog w2=.ok () w3:=hup;clear hup hR3 hg3;go_wp2
  go_meet
  case rel=>exact⟨_,HR3.out,hTK3.out,HBt.out⟩
 case rest =>
  obtain⟨R1,hR1,hZ1,hBt1⟩:=hcut;obtain⟨w5,hw5⟩:∃x,x=wc:=⟨_,rfl⟩;subst hw5;have hl2:w.heap.size<w2.heap.size:=bLQ _ _ d0;have hnC:w.heap.size ∉ [C]:=by simp[hneC]
  have e0:=(hBt1.cell (p:=⟨w.heap.size,0,none⟩) hl2 hnC).trans d0;have e1:=(hBt1.cell (p:=⟨w.heap.size,1,none⟩) hl2 hnC).trans d1;have e2:=(hBt1.cell (p:=⟨w.heap.size,2,none⟩) hl2 hnC).trans d2;have HM5:Hid (MAt spotKey veI w5 B M):=HM2.out.but hBt1 (by simp[hBC]);have HR5:Hid (MAt strKey veI w5 C R1):=hR1;have HZ5:Hid (TK (fun a b=>a==b) R1 (Z++[n])):=hZ1;have HBt5:Hid (But [B,C] w w5):=(But.of_below (HB2.out)).trans (hBt1.mono (by simp));clear hR1 hZ1 hBt1 d0 d1 d2 HM2 HR2 hcw HcA hnC hl2;obtain⟨cB,hcB⟩:∃cB:Int,cB=(ctM sq (x0,x1) U:Int):=⟨_,rfl⟩;have HcB:Hid (cB=(ctM sq (x0,x1) U:Int)):=hcB;have hcw:IntKind.i64.wrap (cB+1)=cB+1:=by
   have h1:=ct_le (q:=sq) (x0,x1) U;exact wrap_small (by omega) (by omega)
  clear hcB;go_upto_region 6 with fail
  go_cut [] from 25 to 31 (fun w'=>∃M2,MAt spotKey veI w' B M2∧TK sq M2 (U++[(x0,x1)])∧But [B] w5 w')
  case first =>
   have hMd:MAt spotKey veI w5.drew B M:=HM5.out;obtain⟨v0,st,w3,hE,hg3,hM3,hS3⟩:=run_entry_M hMd 133 3 underlying133 0 (fun w=>by kernel_rfl) (x0,x1);obtain⟨w4,hSt,hM4,hg4⟩:=hS3 w3 (cB+1) rfl;have hTK4:Hid (TK sq (mput sq (x0,x1) (cB+1) M) (U++[(x0,x1)])):=by
    show TK _ _ _;rw[HcB.out];exact tk_put sq_iff HT.out _
   have HM4:Hid (MAt spotKey veI w4 B (mput sq (x0,x1) (cB+1) M)):=hM4;have HBt:Hid (But [B] w5 w4):=((But.refl [B] w5).drew.trans (But.of_grown hg3 (by simp))).trans (But.of_grown hg4 (by simp));have hl2:(Instr.lookup 133 (.map (some B)) (.agg #[.int i64 x0,.int i64 x1]) false).run prog w5.drew=.ok (.int i64 cB) w5.drew:=by
    rw[HcB.out];exact run_lookup_TK hMd HT.out 133 3 underlying133 (fun w=>by kernel_rfl) (x0,x1)
   have hl3:(Instr.lookup 133 (.map (some B)) (.agg #[.int i64 x0,.int i64 x1]) false).run prog w3=.ok (.int i64 cB) w3:=by
    have h:=run_lookup_M hM3 133 3 underlying133 (.int i64 0) (fun w=>by kernel_rfl) (x0,x1) false;have e:mget spotKey.q (x0,x1) (mput spotKey.q (x0,x1) ((mget spotKey.q (x0,x1) M).getD 0) M)=some cB:=by
     rw[mget_put spotKey.qeq,if_pos ((spotKey.qeq _ _).2 rfl),HcB.out];exact congrArg some (HT.out (x0,x1))
    rw[e] at h;exact h
   have h1:(Instr.mapEntry 133 (.map (some B)) (.agg #[.int i64 x0,.int i64 x1])).run prog w5.drew=.ok (.tuple #[v0,.int i64 (st:Int)]) w3:=hE;have h3:(Instr.entryStore 133 (.map (some B)) (.int i64 (st:Int)) (.int i64 (cB+1))).run prog w3=.ok () w4:=hSt;clear hE hS3 hSt hM3 hM4 hg3 hg4 hMd
   go_region
   go_wp2_with fail
   go_meet
   case rel=>exact⟨_,HM4.out,hTK4.out,HBt.out⟩
  case rest =>
   obtain⟨M2,hM2,hT2,hBt2⟩:=hcut;have hnB:w.heap.size ∉ [B]:=by simp[hneB]
   have hl2:w.heap.size<w5.heap.size:=bLQ _ _ e0;have f0:=(hBt2.cell (p:=⟨w.heap.size,0,none⟩) hl2 hnB).trans e0;have f1:=(hBt2.cell (p:=⟨w.heap.size,1,none⟩) hl2 hnB).trans e1;have f2:=(hBt2.cell (p:=⟨w.heap.size,2,none⟩) hl2 hnB).trans e2;have hR6:MAt strKey veI wc C R1:=HR5.out.but hBt2 (by simp[Ne.symm hBC]);have HM6:Hid (MAt spotKey veI wc B M2):=hM2;have HR6:Hid (MAt strKey veI wc C R1):=hR6;have HT6:Hid (TK sq M2 (U++[(x0,x1)])):=hT2;have HBt6:Hid (But [B,C] w wc):=HBt5.out.trans (hBt2.mono (by simp));obtain⟨pA,hpA⟩:∃p:Int,p=(ctM (fun a b=>a==b) n (Z++[n]):Int):=⟨_,rfl⟩;obtain⟨pB,hpB⟩:∃p:Int,p=(ctM sq (x0,x1) (U++[(x0,x1)]):Int):=⟨_,rfl⟩;have hlA:(Instr.lookup 135 (.map (some C)) (.string n) false).run prog wc=.ok (.int i64 pA) wc:=by
    rw[hpA];exact run_lookup_TK hR6 HZ5.out 135 3 underlying135 (fun w=>by kernel_rfl) n
   have hlB:(Instr.lookup 133 (.map (some B)) (.agg #[.int i64 x0,.int i64 x1]) false).run prog wc=.ok (.int i64 pB) wc:=by
    rw[hpB];exact run_lookup_TK hM2 hT2 133 3 underlying133 (fun w=>by kernel_rfl) (x0,x1)
   have HL:Hid (N=if (decide ((1:Int)<pA) || decide ((1:Int)<pB))=true then 7 else 0):=by
    show _=_;have e1:(U.any fun u=>sq u (x0,x1))=(U.any fun u=>u==(x0,x1)):=by
     congr 1
    rw[HN.out,hpA,hpB,ct_host ba_iff,ct_host sq_iff,ho1,e1];simp only[ha,hb,if_true]
   clear hM2 hT2 hR6 hBt2 e0 e1 e2 hnB hl2 hcw HcB HM5 HR5 HBt5 hpA hpB ha hb;by_cases h1:1<pA
   ·have e7:N=7:=by rw[HL.out];simp[h1]
    subst e7;go_wp2;go_ret;exact⟨rfl,M2,R1,HM6.out,HR6.out,fun e=>absurd e (by decide),HBt6.out⟩
   by_cases h2:1<pB
   ·have e7:N=7:=by rw[HL.out];simp[h2]
    subst e7;go_wp2;go_ret;exact⟨rfl,M2,R1,HM6.out,HR6.out,fun e=>absurd e (by decide),HBt6.out⟩
   have e7:N=0:=by rw[HL.out];simp[h1,h2]
   subst e7;go_wp2;go_ret;exact⟨rfl,M2,R1,HM6.out,HR6.out,fun _=>⟨HT6.out,HZ5.out⟩,HBt6.out⟩
theorem settle_bad (S:Int)(n:ByteArray)(x0 x1:Int)(B C:Nat)(N:Int)(w:World)(h:(nmB n=false∧N=2)∨(nmB n=true∧spB S (x0,x1)=false∧N=1)):
 Calls prog 65 #[.int i64 S,.map (some B),.map (some C),.agg #[.string n,.int i64 x0,.int i64 x1]] w fun e w'=>e=.returned (.iface 73 (.int i64 N))∧Below w.heap.size w w':=by
 have HB0:Hid (Below w.heap.size w (w.alloc (.cells #[Value.string n,.int i64 x0,.int i64 x1] 119))):=(bRQ _ _).alloc (nLQ _) _;have HC:=hst_new w n x0 x1 119
 rcases h with ⟨ha,rfl⟩ | ⟨ha,hb,rfl⟩
 ·go_enter func65,ntmps65
  go_wp2_with fail
  refine (name_any n _).mono ?_;rintro e w1 ⟨rfl,hb1⟩;rw[ha];have HB1:Hid (Below w.heap.size w w1):=HB0.out.trans (hb1.mono HB0.out.size);clear hb1 HC;go_wp2;go_ret;exact⟨rfl,HB1.out⟩
 go_enter func65,ntmps65
 go_wp2_with fail
 refine (name_any n _).mono ?_;rintro e w1 ⟨rfl,hb1⟩;rw[ha];have HB1:Hid (Below w.heap.size w w1):=HB0.out.trans (hb1.mono HB0.out.size);obtain⟨c0,c1,c2⟩:=hst_cells (HC.later hb1);simp only[Nat.zero_add] at c0 c1 c2;clear hb1 HC
 go_wp2_with fail
 refine (isSpot_any S x0 x1 _).mono ?_;rintro e w2 ⟨rfl,hb2⟩;rw[hb];have HB2:Hid (Below w.heap.size w w2):=HB1.out.trans (hb2.mono HB1.out.size);clear hb2;go_wp2;go_ret;exact⟨rfl,HB2.out⟩
theorem settle_any (S:Int)(n:ByteArray)(x0 x1:Int)(B C:Nat)(hBC:B≠C)(M:HpQ)(R:List (ByteArray×Int))(U:List (Int×Int))(Z:List ByteArray)(w:World)(hM:MAt spotKey veI w B M)(hR:MAt strKey veI w C R)(hT:TK sq M U)(hZ:TK (fun a b=>a==b) R Z)(hU:U.length≤1000)(hZl:Z.length≤1000):
 Calls prog 65 #[.int i64 S,.map (some B),.map (some C),.agg #[.string n,.int i64 x0,.int i64 x1]] w fun e w'=>e=.returned (noV (ho1 S Z U (n,(x0,x1))))∧SetQ w w' B C (ho1 S Z U (n,(x0,x1))) (U++[(x0,x1)]) (Z++[n]):=by
 cases ha:nmB n
 ·have e1:ho1 S Z U (n,(x0,x1))=2:=by simp only[ho1,ha,Bool.false_eq_true,if_false]
  rw[e1];refine (settle_bad S n x0 x1 B C 2 w (.inl ⟨ha,rfl⟩)).mono ?_;rintro e w' ⟨rfl,hb⟩;exact⟨rfl,M,R,hM.later hb,hR.later hb,fun e=>absurd e (by decide),But.of_below hb⟩
 cases hb:spB S (x0,x1)
 ·have e1:ho1 S Z U (n,(x0,x1))=1:=by simp only[ho1,ha,hb,Bool.false_eq_true,if_false,if_true]
  rw[e1];refine (settle_bad S n x0 x1 B C 1 w (.inr ⟨ha,hb,rfl⟩)).mono ?_;rintro e w' ⟨rfl,hb⟩;exact⟨rfl,M,R,hM.later hb,hR.later hb,fun e=>absurd e (by decide),But.of_below hb⟩
 exact settle_ok S n x0 x1 B C hBC M R U Z w hM hR hT hZ hU hZl ha hb _ rfl
def TBox (W:World)(g:Nat)(S:Int)(v1 v2:Value):Prop:=W.cell? ⟨g,0,none⟩=some (.int i64 S)∧W.cell? ⟨g,1,none⟩=some v1∧W.cell? ⟨g,2,none⟩=some v2
theorem tbox_new (w:World)(S:Int)(v1 v2:Value)(t:TypeId):TBox (w.alloc (.cells #[.int i64 S,v1,v2] t)) w.heap.size S v1 v2:=by
 refine⟨?_,?_,?_⟩ <;> simp
theorem TBox.lt {W:World}{g:Nat}{S:Int}{v1 v2:Value}(h:TBox W g S v1 v2):g<W.heap.size:=bLQ _ _ h.1
theorem TBox.but {X:List Nat}{W W':World}{g:Nat}{S:Int}{v1 v2:Value}(h:TBox W g S v1 v2)(hb:But X W W')(hX:g ∉ X):TBox W' g S v1 v2:=
 ⟨(hb.cell (p:=⟨g,0,none⟩) h.lt hX).trans h.1,(hb.cell (p:=⟨g,1,none⟩) h.lt hX).trans h.2.1,(hb.cell (p:=⟨g,2,none⟩) h.lt hX).trans h.2.2⟩
theorem TBox.later {W W':World}{g:Nat}{S:Int}{v1 v2:Value}(h:TBox W g S v1 v2)(hb:Below W.heap.size W W'):TBox W' g S v1 v2:=h.but (X:=[]) (But.of_below hb) (by simp)
theorem tcheck_range (S:Int)(v1 v2:Value)(w:World)(h:¬(1≤S∧S≤6)):
 Calls prog 51 #[.agg #[.int i64 S,v1,v2]] w fun e w'=>e=.returned (.iface 73 (.int i64 1))∧Below w.heap.size w w':=by
 have HB0:Hid (Below w.heap.size w (w.alloc (.cells #[.int i64 S,v1,v2] 34))):=(bRQ _ _).alloc (nLQ _) _;by_cases h1:S<1
 ·clear h;go_enter func51,ntmps51;go_wp2;go_ret;exact⟨rfl,HB0.out⟩
 have h6:6<S:=by omega
 clear h;go_enter func51,ntmps51;go_wp2;go_ret;exact⟨rfl,HB0.out⟩
theorem check_full (S:Int)(ao:AdQ)(n cap:Nat)(ao2:AdQ)(n2 cap2:Nat)(w:World)(h1:1≤S)(h6:S≤6)(h:200<n∨8<n2):
 Calls prog 51 #[.agg #[.int i64 S,.slice ao n cap,.slice ao2 n2 cap2]] w fun e w'=>e=.returned (.iface 73 (.int i64 4))∧Below w.heap.size w w':=by
 have HB0:Hid (Below w.heap.size w (w.alloc (.cells #[.int i64 S,.slice ao n cap,.slice ao2 n2 cap2] 34))):=(bRQ _ _).alloc (nLQ _) _;have g1:¬S<1:=by omega
 have g6:¬6<S:=by omega
 by_cases hn:(200:Int)<(n:Int)
 ·clear h;go_enter func51,ntmps51;go_wp2;go_ret;exact⟨rfl,HB0.out⟩
 have hn2:(8:Int)<(n2:Int):=by omega
 clear h;go_enter func51,ntmps51;go_wp2;go_ret;exact⟨rfl,HB0.out⟩
theorem check_walk (S:Int)(ao:AdQ)(n cap:Nat)(ao2:AdQ)(n2 cap2:Nat)(Ls:LkQ)(Hs:HoQ)(w:World)
 (hL:GS lnkE w (.slice ao n cap) Ls) (hH:GS hstE w (.slice ao2 n2 cap2) Hs) (h1:1≤S) (h6:S≤6) (hn:n≤200) (hn2:n2≤8) (T:Int) (hT:T=tpN S Ls Hs):
 Calls prog 51 #[.agg #[.int i64 S,.slice ao n cap,.slice ao2 n2 cap2]] w fun e w'=>e=.returned (noV T)∧Below w.heap.size w w':=by
 obtain⟨_,_,_,e1,hLn,_,_,hLa⟩:=hL.form;cases e1;obtain⟨_,_,_,e2,hHn,_,_,hHa⟩:=hH.form;cases e2;have HLN:Hid (Ls.length=n):=hLn;have HHN:Hid (Hs.length=n2):=hHn;have HLA:Hid (0<n→∃g o,ao=some ⟨g,o,none⟩∧GAt lnkE w g o Ls∧cap≤maxLen):=hLa;have HHA:Hid (0<n2→∃g o,ao2=some ⟨g,o,none⟩∧GAt hstE w g o Hs∧cap2≤maxLen):=hHa;have HT:Hid (T=if lkN S Ls []=0 then hoN S Hs [] (spsL Ls) else lkN S Ls []):=by
  show T=_;rw[hT,tpN,if_pos (by simp[h1,h6]),if_pos (by simp[hLn,hHn,hn,hn2])]
 have g1:¬S<1:=by omega
 have g6:¬6<S:=by omega
 have gn:¬(200:Int)<(n:Int):=by omega
 have gn2:¬(8:Int)<(n2:Int):=by omega
 clear hL hH hLn hHn hLa hHa hT h1 h6;have hX:=tbox_new w S (.slice ao n cap) (.slice ao2 n2 cap2) 34;have hB0:Below w.heap.size w (w.alloc (.cells #[.int i64 S,.slice ao n cap,.slice ao2 n2 cap2] 34)):=(bRQ _ _).alloc (nLQ _) _;have HX:Hid (TBox (w.alloc (.cells #[.int i64 S,.slice ao n cap,.slice ao2 n2 cap2] 34)) w.heap.size S (.slice ao n cap) (.slice ao2 n2 cap2)):=hX;have HB0:Hid (Below w.heap.size w (w.alloc (.cells #[.int i64 S,.slice ao n cap,.slice ao2 n2 cap2] 34))):=hB0;have hsz0:(w.alloc (.cells #[.int i64 S,.slice ao n cap,.slice ao2 n2 cap2] 34)).heap.size=w.heap.size+1:=by simp
 clear hX hB0;go_enter func51,ntmps51;go_upto_region 5 with fail
 generalize hw0:w.alloc (.cells #[.int i64 S,.slice ao n cap,.slice ao2 n2 cap2] 34)=w0 at *
 have HW0:Hid (w.alloc (.cells #[.int i64 S,.slice ao n cap,.slice ao2 n2 cap2] 34)=w0):=hw0;have HSZ0:Hid (w0.heap.size=w.heap.size+1):=hsz0;clear hw0 hsz0;have hmk:=run_makeMap (P:=prog) 133 w0;have HM1:Hid (MAt spotKey veI (w0.alloc (.map #[] 0)) w0.heap.size []):=mat_new spotKey veI w0;have hbm:Below w0.heap.size w0 (w0.alloc (.map #[] 0)):=(bRQ _ _).alloc (nLQ _) _;have HX1:Hid (TBox (w0.alloc (.map #[] 0)) w.heap.size S (.slice ao n cap) (.slice ao2 n2 cap2)):=HX.out.later hbm;have HB1:Hid (Below w.heap.size w (w0.alloc (.map #[] 0))):=HB0.out.trans (hbm.mono HB0.out.size);clear hbm;obtain⟨d0,d1,d2⟩:=HX1.out;go_wp2;clear d0 d1 d2;obtain⟨w1,hw1⟩:∃x,w0.alloc (.map #[] 0)=x:=⟨_,rfl⟩;obtain⟨B,hBe⟩:∃x,w0.heap.size=x:=⟨_,rfl⟩;rw[hw1] at HX1 HB1;rw[hw1,hBe] at HM1 ⊢;have HBW:Hid (B=w.heap.size+1):=by
  show B=_;rw[←hBe,HSZ0.out]
 have HSZ1:Hid (w1.heap.size=w.heap.size+2):=by
  show _=_;rw[←hw1];have:=HSZ0.out;simp[this]
 clear hw1 hBe hmk HSZ0 HW0 HX HB0
 go_loopw [35] (fun i wr=>∃k:Nat,k≤n∧i=.int i64 k∧(∃M,MAt spotKey veI wr B M∧TK sq M (spsL (Ls.take k)))∧lkN S Ls []=lkN S (Ls.drop k) (spsL (Ls.take k))∧But [B] w1 wr)
  (fun i _=>n-(intOf i).toNat)
 case atStart=>exact⟨0,by omega,rfl,⟨[],HM1.out,by simpa[spsL] using tk_nil sq⟩,by simp[spsL],But.refl _ _⟩
 case round =>
  obtain⟨k,hk,rfl,⟨M,hM,hTK⟩,hlk,hBt⟩:=hrel;have hnB:w.heap.size ∉ [B]:=by simp[HBW.out]
  have hXr:=HX1.out.but hBt hnB;have hBw:Below w.heap.size w wr:=HB1.out.trans (hBt.below (by rw[HSZ1.out];omega) (by simp[HBW.out]));have HXr:Hid (TBox wr w.heap.size S (.slice ao n cap) (.slice ao2 n2 cap2)):=hXr;have HBw:Hid (Below w.heap.size w wr):=hBw;have HM:Hid (MAt spotKey veI wr B M):=hM;have HTK:Hid (TK sq M (spsL (Ls.take k))):=hTK;have HLK:Hid (lkN S Ls []=lkN S (Ls.drop k) (spsL (Ls.take k))):=hlk;have HBt:Hid (But [B] w1 wr):=hBt;obtain⟨b0,b1,b2⟩:=hXr;have hlw:w.heap.size<wr.heap.size:=bLQ _ _ b0;clear hM hTK hlk hBt HM1;by_cases hlt:k<n
  ·obtain⟨g,o,hao,hc,_⟩:=HLA.out (by omega);subst hao;obtain⟨x0,x1,x2,x3,hkl,hLk,q0,q1,q2,q3⟩:=lnk_at (hc.later hBw) HLN.out hlt;have HLk:Hid (Ls[k]=((x0,x1),(x2,x3))):=hLk;have hBA:Below wr.heap.size wr (wr.alloc (.cells #[.int i64 x0,.int i64 x1,.int i64 x2,.int i64 x3] 117)):=(bRQ _ _).alloc (nLQ _) _;have HBA:Hid (Below wr.heap.size wr (wr.alloc (.cells #[.int i64 x0,.int i64 x1,.int i64 x2,.int i64 x3] 117))):=hBA;have HUL:Hid ((spsL (Ls.take k)).length≤1000):=by
    show _≤1000;rw[sps_len,List.length_take];omega
   have HST:Hid (lkN S Ls []=if lk1 S (spsL (Ls.take k)) ((x0,x1),(x2,x3))=0 then lkN S (Ls.drop (k+1)) (spsL (Ls.take (k+1))) else lk1 S (spsL (Ls.take k)) ((x0,x1),(x2,x3))):=by
    show _=_;rw[HLK.out,List.drop_eq_getElem_cons hkl,lk_step,hLk,sps_take hkl,hLk]
   have HSP:Hid (spsL (Ls.take (k+1))=spsL (Ls.take k)++[(x0,x1),(x2,x3)]):=by
    show _=_;rw[sps_take hkl,hLk]
   clear hLk hBA hBw hc HLA
   go_wp2_with fail
   refine (lay_any S x0 x1 x2 x3 B M _ _ (HM.out.later HBA.out) HTK.out HUL.out).mono ?_;rintro e w3 ⟨rfl,hQ⟩;have hst:=HST.out
   generalize lk1 S (spsL (Ls.take k)) ((x0,x1),(x2,x3))=N at hQ hst ⊢
   have HST2:Hid (lkN S Ls []=if N=0 then lkN S (Ls.drop (k+1)) (spsL (Ls.take (k+1))) else N):=hst;obtain⟨M',hM',hTK',hBt'⟩:=hQ;have HM':Hid (MAt spotKey veI w3 B M'):=hM';have HTK':Hid (N=0→TK sq M' (spsL (Ls.take (k+1)))):=fun h=>by rw[HSP.out];exact hTK' h
   have HBt3:Hid (But [B] w1 w3):=(HBt.out.trans (But.of_below HBA.out)).trans hBt';have HBw3:Hid (Below w.heap.size w w3):=HB1.out.trans (HBt3.out.below (by rw[HSZ1.out];omega) (by simp[HBW.out]));clear hst HST hM' hTK' hBt' HSP HM HTK HLK HBt HBA HUL b0 b1 b2 q0 q1 q2 q3;by_cases hN:N=0
   ·subst hN;rw[no_ok rfl];have HTK2:Hid (TK sq M' (spsL (Ls.take (k+1)))):=HTK'.out rfl;have HLK2:Hid (lkN S Ls []=lkN S (Ls.drop (k+1)) (spsL (Ls.take (k+1)))):=by
     show _=_;rw[HST2.out,if_pos rfl]
    clear HTK' HST2;go_wp2;go_roundw
    case rel=>exact⟨k+1,by omega,by go_num,⟨M',HM'.out,HTK2.out⟩,HLK2.out,HBt3.out⟩
    case measure=>simp[intOf];omega
   rw[no_ne hN];have HTN:Hid (T=N):=by
    show _=_;have e:=HST2.out;rw[if_neg hN] at e;rw[HT.out,e,if_neg hN]
   have HNN:Hid (N≠0):=hN;clear hN HTK' HST2;go_wp2;go_ret;exact⟨by rw[HTN.out,no_ne HNN.out];rfl,HBw3.out⟩
  obtain rfl:k=n:=by omega
  have HLK0:Hid (lkN S Ls []=0):=by
   show _=_;rw[HLK.out,←HLN.out,List.drop_length];rfl
  have HTKL:Hid (TK sq M (spsL Ls)):=by
   show TK _ _ _;have h:=HTK.out;rw[←HLN.out,List.take_length] at h;exact h
  have HTL:Hid (T=hoN S Hs [] (spsL Ls)):=by
   show _=_;rw[HT.out,if_pos HLK0.out]
  have hwr:=HBt.out.size;rw[HSZ1.out] at hwr;obtain⟨w5,hw5⟩:∃x,x=wr:=⟨_,rfl⟩;subst hw5;have HWR:Hid (w.heap.size+2≤w5.heap.size):=hwr;clear HLK HTK HT HLK0 hBw hwr;go_upto_region 13 with fail;have hmk:=run_makeMap (P:=prog) 135 w5;have hbm:Below w5.heap.size w5 (w5.alloc (.map #[] 0)):=(bRQ _ _).alloc (nLQ _) _;have HM2:Hid (MAt spotKey veI (w5.alloc (.map #[] 0)) B M):=HM.out.later hbm;have HR2:Hid (MAt strKey veI (w5.alloc (.map #[] 0)) w5.heap.size []):=mat_new strKey veI w5;have hX2:TBox (w5.alloc (.map #[] 0)) w.heap.size S (.slice ao k cap) (.slice ao2 n2 cap2):=HXr.out.later hbm;have HX2:Hid (TBox (w5.alloc (.map #[] 0)) w.heap.size S (.slice ao k cap) (.slice ao2 n2 cap2)):=hX2;have HB2:Hid (Below w.heap.size w (w5.alloc (.map #[] 0))):=HBw.out.trans (hbm.mono HBw.out.size);obtain⟨d0,d1,d2⟩:=hX2;clear hbm b0 b1 b2 HXr HBw HM HBt HX1 HB1;go_wp2;obtain⟨w6,hw6⟩:∃x,w5.alloc (.map #[] 0)=x:=⟨_,rfl⟩;obtain⟨C,hCe⟩:∃x,w5.heap.size=x:=⟨_,rfl⟩;rw[hw6] at HM2 HX2 HB2 d0 d1 d2;rw[hw6,hCe] at HR2 ⊢;have HC2:Hid (w.heap.size+2≤C):=by
   show _≤_;rw[←hCe];exact HWR.out
  have HSZ6:Hid (w6.heap.size=C+1):=by
   show _=_;rw[←hw6,←hCe];simp
  clear hw6 hCe hmk HWR
  go_loopw [52] (fun i wr=>∃j:Nat,j≤n2∧i=.int i64 j∧(∃M R,MAt spotKey veI wr B M∧MAt strKey veI wr C R∧TK sq M (spsL Ls++(Hs.take j).map (·.2))∧TK (fun a b=>a==b) R ((Hs.take j).map (·.1)))∧hoN S Hs [] (spsL Ls)=hoN S (Hs.drop j) ((Hs.take j).map (·.1)) (spsL Ls++(Hs.take j).map (·.2))∧But [B,C] w6 wr)
   (fun i _=>n2-(intOf i).toNat)
  case atStart=>exact⟨0,by omega,rfl,⟨M,[],HM2.out,HR2.out,by simpa using HTKL.out,tk_nil _⟩,by simp,But.refl _ _⟩
  case round =>
   obtain⟨j,hj,rfl,⟨M3,R3,hM3,hR3,hTM3,hTR3⟩,hho,hBt⟩:=hrel;have hnX:w.heap.size ∉ [B,C]:=by
    have h1:=HBW.out;have h2:=HC2.out;simp only[List.mem_cons,List.not_mem_nil,or_false,not_or];omega
   have hBC:B≠C:=by
    have h1:=HBW.out;have h2:=HC2.out;omega
   have hXr:=HX2.out.but hBt hnX;have hge:∀x∈[B,C],w.heap.size≤x:=by
    have h1:=HBW.out;have h2:=HC2.out;intro x hx;simp only[List.mem_cons,List.not_mem_nil,or_false] at hx;omega
   have hsz6:w.heap.size≤w6.heap.size:=HB2.out.size;have HGE:Hid (∀x∈[B,C],w.heap.size≤x):=hge;have hBw:Below w.heap.size w wr:=HB2.out.trans (hBt.below hsz6 hge);have HBw:Hid (Below w.heap.size w wr):=hBw;have HM3:Hid (MAt spotKey veI wr B M3):=hM3;have HR3:Hid (MAt strKey veI wr C R3):=hR3;have HTM3:Hid (TK sq M3 (spsL Ls++(Hs.take j).map (·.2))):=hTM3;have HTR3:Hid (TK (fun a b=>a==b) R3 ((Hs.take j).map (·.1))):=hTR3;have HHO:Hid (hoN S Hs [] (spsL Ls)=hoN S (Hs.drop j) ((Hs.take j).map (·.1)) (spsL Ls++(Hs.take j).map (·.2))):=hho;have HBt:Hid (But [B,C] w6 wr):=hBt;have HBC:Hid (B≠C):=hBC;obtain⟨b0,b1,b2⟩:=hXr;have hlw:w.heap.size<wr.heap.size:=bLQ _ _ b0;clear hM3 hR3 hTM3 hTR3 hho hBt HM2 HR2 hnX hge hBC d0 d1 d2;by_cases hlt2:j<n2
   ·obtain⟨g,o,hao,hc,_⟩:=HHA.out (by omega);subst hao;obtain⟨y0,y1,y2,hjl,hHk,q0,q1,q2⟩:=hst_at (hc.later hBw) HHN.out hlt2;have HHk:Hid (Hs[j]=(y0,(y1,y2))):=hHk;have HBA:Hid (Below wr.heap.size wr (wr.alloc (.cells #[Value.string y0,.int i64 y1,.int i64 y2] 119))):=(bRQ _ _).alloc (nLQ _) _;have HUL:Hid ((spsL Ls++(Hs.take j).map (·.2)).length≤1000):=by
     show _≤1000;rw[List.length_append,sps_len,List.length_map,List.length_take,HLN.out];omega
    have HZL:Hid (((Hs.take j).map (·.1)).length≤1000):=by
     show _≤1000;rw[List.length_map,List.length_take];omega
    have HS2:Hid (spsL Ls++(Hs.take (j+1)).map (·.2)=(spsL Ls++(Hs.take j).map (·.2))++[(y1,y2)]):=by
     show _=_;rw[List.take_succ_eq_append_getElem hjl,hHk];simp
    have HS1:Hid ((Hs.take (j+1)).map (·.1)=(Hs.take j).map (·.1)++[y0]):=by
     show _=_;rw[List.take_succ_eq_append_getElem hjl,hHk];simp
    have HST:Hid (hoN S Hs [] (spsL Ls)=if ho1 S ((Hs.take j).map (·.1)) (spsL Ls++(Hs.take j).map (·.2)) (y0,(y1,y2))=0 then hoN S (Hs.drop (j+1)) ((Hs.take (j+1)).map (·.1)) (spsL Ls++(Hs.take (j+1)).map (·.2)) else ho1 S ((Hs.take j).map (·.1)) (spsL Ls++(Hs.take j).map (·.2)) (y0,(y1,y2))):=by
     show _=_;rw[HHO.out,List.drop_eq_getElem_cons hjl,ho_step,hHk,HS1.out,HS2.out]
    clear hHk hBw hc HHA HLA
    go_wp2_with fail
    refine (settle_any S y0 y1 y2 B C HBC.out M3 R3 _ _ _ (HM3.out.later HBA.out) (HR3.out.later HBA.out) HTM3.out HTR3.out HUL.out HZL.out).mono ?_;rintro e w3 ⟨rfl,hQ⟩;have hst:=HST.out
    generalize ho1 S ((Hs.take j).map (·.1)) (spsL Ls++(Hs.take j).map (·.2)) (y0,(y1,y2))=N at hQ hst ⊢
    have HST2:Hid (hoN S Hs [] (spsL Ls)=if N=0 then hoN S (Hs.drop (j+1)) ((Hs.take (j+1)).map (·.1)) (spsL Ls++(Hs.take (j+1)).map (·.2)) else N):=hst;obtain⟨M',R',hM',hR',hTK',hBt'⟩:=hQ;have HM':Hid (MAt spotKey veI w3 B M'):=hM';have HR':Hid (MAt strKey veI w3 C R'):=hR';have HTK':Hid (N=0→TK sq M' (spsL Ls++(Hs.take (j+1)).map (·.2))∧TK (fun a b=>a==b) R' ((Hs.take (j+1)).map (·.1))):=fun h=>by rw[HS1.out,HS2.out];exact hTK' h
    have HBt3:Hid (But [B,C] w6 w3):=(HBt.out.trans (But.of_below HBA.out)).trans hBt';have HBw3:Hid (Below w.heap.size w w3):=HB2.out.trans (HBt3.out.below HB2.out.size HGE.out);clear hst HST hM' hR' hTK' hBt' HS1 HS2 HM3 HR3 HTM3 HTR3 HHO HBt HBA HUL HZL b0 b1 b2 q0 q1 q2;by_cases hN:N=0
    ·subst hN;rw[no_ok rfl];have HTK2:Hid (TK sq M' (spsL Ls++(Hs.take (j+1)).map (·.2))∧TK (fun a b=>a==b) R' ((Hs.take (j+1)).map (·.1))):=HTK'.out rfl;have HHO2:Hid (hoN S Hs [] (spsL Ls)=hoN S (Hs.drop (j+1)) ((Hs.take (j+1)).map (·.1)) (spsL Ls++(Hs.take (j+1)).map (·.2))):=by
      show _=_;rw[HST2.out,if_pos rfl]
     clear HTK' HST2;go_wp2;go_roundw
     case rel=>exact⟨j+1,by omega,by go_num,⟨M',R',HM'.out,HR'.out,HTK2.out.1,HTK2.out.2⟩,HHO2.out,HBt3.out⟩
     case measure=>simp[intOf];omega
    rw[no_ne hN];have HTN:Hid (T=N):=by
     show _=_;rw[HTL.out,HST2.out,if_neg hN]
    have HNN:Hid (N≠0):=hN;clear hN HTK' HST2;go_wp2;go_ret;exact⟨by rw[HTN.out,no_ne HNN.out];rfl,HBw3.out⟩
   obtain rfl:j=n2:=by omega
   have HT0:Hid (T=0):=by
    show _=_;rw[HTL.out,HHO.out,←HHN.out,List.drop_length];rfl
   clear hBw HHO HTM3 HTR3;go_wp2;go_ret;exact⟨by rw[HT0.out,no_ok rfl];rfl,HBw.out⟩
theorem check_any (S:Int)(ao:AdQ)(n cap:Nat)(ao2:AdQ)(n2 cap2:Nat)(Ls:LkQ)(Hs:HoQ)(w:World)
 (hL:GS lnkE w (.slice ao n cap) Ls) (hH:GS hstE w (.slice ao2 n2 cap2) Hs):
 Calls prog 51 #[.agg #[.int i64 S,.slice ao n cap,.slice ao2 n2 cap2]] w fun e w'=>e=.returned (noV (tpN S Ls Hs))∧Below w.heap.size w w':=by
 have hLn:=hL.len;have hHn:=hH.len;by_cases h1:1≤S∧S≤6
 ·by_cases h2:n≤200∧n2≤8
  ·exact check_walk S ao n cap ao2 n2 cap2 Ls Hs w hL hH h1.1 h1.2 h2.1 h2.2 _ rfl
  have e:tpN S Ls Hs=4:=by
   rw[tpN,if_pos (by simp[h1]),if_neg (by rw[hLn,hHn];simpa using fun h=>Nat.lt_of_not_le fun h3=>h2 ⟨h,h3⟩)]
  rw[e];exact check_full S ao n cap ao2 n2 cap2 w h1.1 h1.2 (by omega)
 have e:tpN S Ls Hs=1:=by
  rw[tpN,if_neg (by simpa using fun h=>Int.lt_of_not_ge fun h3=>h1 ⟨h,h3⟩)]
 rw[e];exact tcheck_range S _ _ w h1
def HC (w:World)(B:Nat)(S S':Int)(a1 a2 b1 b2:Value)(g o:Nat)(x0:ByteArray)(x1 x2:Int)(g' o':Nat)(y0:ByteArray)(y1 y2:Int)(w':World):Prop:=
 Below w.heap.size w w'∧TBox w' B S a1 a2∧TBox w' (B+1) S' b1 b2∧(w'.cell? ⟨g,o,none⟩=some (.string x0)∧w'.cell? ⟨g,o+1,none⟩=some (.int i64 x1)∧w'.cell? ⟨g,o+2,none⟩=some (.int i64 x2)) ∧
  w'.cell? ⟨g',o',none⟩=some (.string y0)∧w'.cell? ⟨g',o'+1,none⟩=some (.int i64 y1)∧w'.cell? ⟨g',o'+2,none⟩=some (.int i64 y2)
theorem HC.later {w W W':World}{B:Nat}{S S':Int}{a1 a2 b1 b2:Value}{g o:Nat}{x0:ByteArray}{x1 x2:Int}{g' o':Nat}{y0:ByteArray}{y1 y2:Int}(hb:Below W.heap.size W W')(h:HC w B S S' a1 a2 b1 b2 g o x0 x1 x2 g' o' y0 y1 y2 W):HC w B S S' a1 a2 b1 b2 g o x0 x1 x2 g' o' y0 y1 y2 W':=by
 obtain⟨h0,t1,t2,⟨h1,h2,h3⟩,k1,k2,k3⟩:=h;exact⟨h0.trans (hb.mono h0.size),t1.later hb,t2.later hb,⟨cell_later hb h1,cell_later hb h2,cell_later hb h3⟩,cell_later hb k1,cell_later hb k2,cell_later hb k3⟩
theorem quiet_val {P:Program}{o:Oper}{a:Act}{C:World→Prop}{K:Act→Prop}{v:Value}
 (hy:∀w,C w→(execOp a.eval o).run P w=.ok (.value v) w) (h:K (a.put o.dst v)):o.quiet P a C K:=
 ⟨v,fun w hC=>by unfold Oper.quietAt;rw[hy w hC];exact⟨rfl,rfl⟩,h⟩
theorem qv {P:Program}{o:Oper}{a:Act}{C:World→Prop}{K:Act→Prop}(v:Value)(hy:∀w,C w→(execOp a.eval o).run P w=.ok (.value v) w)(h:K (a.put o.dst v)):o.quiet P a C K:=quiet_val hy h
theorem quiet_call {P:Program}{o:Oper}{a:Act}{C:World→Prop}{K:Act→Prop}{v:Value}{f:FuncId}{args:Array Value}
 (he:∀w,(execOp a.eval o).run P w=.ok (.enter f args) w) (hc:∀w,C w→Calls P f args w fun e w''=>e=.returned v∧C w'') (h:K (a.put o.dst v)):o.quiet P a C K:=
 ⟨v,fun w hC=>by unfold Oper.quietAt;rw[he w];exact⟨rfl,hc w hC⟩,h⟩
theorem exec_bin {P:Program}{o:Oper}{a:Act}{w:World}{op:BinOp}{t t2:TypeId}{x y:Operand}{v:Value}(ho:o.op=.binOp op t x y t2)(hg:(eqGuard op t x y (a.eval x) (a.eval y)).run P w=.ok () w)
 (h:(binOp op t (a.eval x) (a.eval y)).run P w=.ok v w):(execOp a.eval o).run P w=.ok (.value v) w:=by
 simp[execOp,ho,hg,h,Result.andThen]
theorem run_eql_of {P:Program}{w:World}{t:TypeId}{x y:Array Value}{b:Bool}(h:(Op.equal t (.agg x) (.agg y)).run P w=.ok b w):(binOp .eql t (.agg x) (.agg y)).run P w=.ok (.bool b) w:=by
 simp[binOp,h]
theorem bcell {W w1:World}(hb:Below W.heap.size W w1):(∀b o,b<W.heap.size→w1.cell? ⟨b,o,none⟩=W.cell? ⟨b,o,none⟩)∧(∀b o,b<W.heap.size→w1.frozen? ⟨b,o,none⟩=W.frozen? ⟨b,o,none⟩):=
 ⟨fun b o h=>hb.cell (p:=⟨b,o,none⟩) h,fun b o h=>hb.frozen (p:=⟨b,o,none⟩) h⟩
theorem isHeader_yes (n:Int)(w:World)(h:hdrB n=true):
 Calls prog 61 #[.int i64 n] w fun e w'=>e=.returned (.bool true)∧w'=w:=by
 obtain⟨h1,h2⟩:=hdr_of h;clear h;go_enter func61,ntmps61;go_wp2;go_ret;exact⟨rfl,rfl⟩
theorem isHeader_no (n:Int)(w:World)(h:hdrB n=false):
 Calls prog 61 #[.int i64 n] w fun e w'=>e=.returned (.bool false)∧w'=w:=by
 rcases hdr_no h with h1 | h1
 ·clear h;go_enter func61,ntmps61;go_wp2;go_ret;exact⟨rfl,rfl⟩
 have h2:0≤n:=by omega
 have h3:decide (n<16)=false:=by simp;omega
 clear h;go_enter func61,ntmps61;go_wp2;go_ret;exact⟨rfl,rfl⟩
theorem check_range (m b:Int)(w:World)(h:rngB m b=false):
 Calls prog 62 #[.agg #[.int i64 m,.int i64 b]] w fun e w'=>e=.returned (.iface 73 (.int i64 1))∧Below w.heap.size w w':=by
 by_cases hm:hdrB m=true
 ·have hb:hdrB b=false:=by simpa[rngB,hm] using h
  clear h;go_enter func62,ntmps62
  go_wp2_with fail
  refine (isHeader_yes _ _ hm).mono ?_;rintro e w' ⟨rfl,rfl⟩
  go_wp2_with fail
  refine (isHeader_no _ _ hb).mono ?_;rintro e w' ⟨rfl,rfl⟩;go_wp2;go_ret;exact⟨rfl,(bRQ _ _).alloc (nLQ _) _⟩
 have hm':hdrB m=false:=by simpa using hm
 clear h hm;go_enter func62,ntmps62
 go_wp2_with fail
 refine (isHeader_no _ _ hm').mono ?_;rintro e w' ⟨rfl,rfl⟩;go_wp2;go_ret;exact⟨rfl,(bRQ _ _).alloc (nLQ _) _⟩
theorem check_shape (m b:Int)(w:World)(h:rngB m b=true)(h2:okB m b=false):
 Calls prog 62 #[.agg #[.int i64 m,.int i64 b]] w fun e w'=>e=.returned (.iface 73 (.int i64 3))∧Below w.heap.size w w':=by
 have hm:hdrB m=true:=by simp only[rngB,Bool.and_eq_true] at h;exact h.1
 have hb:hdrB b=true:=by simp only[rngB,Bool.and_eq_true] at h;exact h.2
 have hz:(bits .andNot .i64 b m==0)=false:=by simpa[okB,h] using h2
 clear h h2;go_enter func62,ntmps62
 go_wp2_with fail
 refine (isHeader_yes _ _ hm).mono ?_;rintro e w' ⟨rfl,rfl⟩
 go_wp2_with fail
 refine (isHeader_yes _ _ hb).mono ?_;rintro e w' ⟨rfl,rfl⟩;go_wp2;go_ret;exact⟨rfl,(bRQ _ _).alloc (nLQ _) _⟩
theorem check_ok (m b:Int)(w:World)(h:okB m b=true):
 Calls prog 62 #[.agg #[.int i64 m,.int i64 b]] w fun e w'=>e=.returned .nilIface∧Below w.heap.size w w':=by
 have hm:hdrB m=true:=hdr_mk (ok_of h).1;have hb:hdrB b=true:=hdr_mk (ok_of h).2;have hz:(bits .andNot .i64 b m==0)=true:=by simp only[okB,Bool.and_eq_true] at h;exact h.2
 clear h;go_enter func62,ntmps62
 go_wp2_with fail
 refine (isHeader_yes _ _ hm).mono ?_;rintro e w' ⟨rfl,rfl⟩
 go_wp2_with fail
 refine (isHeader_yes _ _ hb).mono ?_;rintro e w' ⟨rfl,rfl⟩;go_wp2;go_ret;exact⟨rfl,(bRQ _ _).alloc (nLQ _) _⟩
theorem check_no (m b:Int)(w:World):
 Calls prog 62 #[.agg #[.int i64 m,.int i64 b]] w fun e w'=>e=.returned (noV (refN m b))∧Below w.heap.size w w':=by
 cases hr:rngB m b
 ·have e:noV (refN m b)=.iface 73 (.int i64 1):=by rw[refN_range hr];rfl
  rw[e];exact check_range m b w hr
 cases ho:okB m b
 ·have e:noV (refN m b)=.iface 73 (.int i64 3):=by rw[refN_shape ho hr];rfl
  rw[e];exact check_shape m b w hr ho
 have e:noV (refN m b)=.nilIface:=by rw[refN_ok ho];rfl
 rw[e];exact check_ok m b w ho
theorem ruCheck_prio (p m b o s v:Int)(w:World)(h:ruP p o=false):
 Calls prog 46 #[.agg #[.int i64 p,.int i64 m,.int i64 b,.int i64 o,.int i64 s,.int i64 v]] w fun e w'=>e=.returned (.iface 73 (.int i64 1))∧Below w.heap.size w w':=by
 have hc:p<0∨(0≤p∧99<p)∨((0≤p∧p≤99)∧o<0)∨((0≤p∧p≤99)∧(0≤o∧4<o)):=by
  simp[ruP] at h;omega
 clear h
 rcases hc with h1 | ⟨h1,h2⟩ | ⟨⟨h1,h2⟩,h3⟩ | ⟨⟨h1,h2⟩,h3,h4⟩
 ·have e1:decide (p<0)=true:=by simp;omega
  go_enter func46,ntmps46;go_wp2;go_ret;exact⟨rfl,(bRQ _ _).alloc (nLQ _) _⟩
 ·have e1:decide (p<0)=false:=by simp;omega
  have e2:decide (99<p)=true:=by simp;omega
  go_enter func46,ntmps46;go_wp2;go_ret;exact⟨rfl,(bRQ _ _).alloc (nLQ _) _⟩
 ·have e1:decide (p<0)=false:=by simp;omega
  have e2:decide (99<p)=false:=by simp;omega
  have e3:decide (o<0)=true:=by simp;omega
  go_enter func46,ntmps46;go_wp2;go_ret;exact⟨rfl,(bRQ _ _).alloc (nLQ _) _⟩
 have e1:decide (p<0)=false:=by simp;omega
 have e2:decide (99<p)=false:=by simp;omega
 have e3:decide (o<0)=false:=by simp;omega
 have e4:decide (4<o)=true:=by simp;omega
 go_enter func46,ntmps46;go_wp2;go_ret;exact⟨rfl,(bRQ _ _).alloc (nLQ _) _⟩
theorem ruP_of {p o:Int}(h:ruP p o=true):decide (p<0)=false∧decide (99<p)=false∧decide (o<0)=false∧decide (4<o)=false:=by
 simp only[ruP,Bool.and_eq_true,decide_eq_true_eq] at h;refine⟨?_,?_,?_,?_⟩ <;> simp <;> omega
theorem ruCheck_set (p m b o s v:Int)(w:World)(h:ruP p o=true)(h2:rngB s v=false):
 Calls prog 46 #[.agg #[.int i64 p,.int i64 m,.int i64 b,.int i64 o,.int i64 s,.int i64 v]] w fun e w'=>e=.returned (.iface 73 (.int i64 1))∧Below w.heap.size w w':=by
 obtain⟨e1,e2,e3,e4⟩:=ruP_of h;clear h;cases hs:hdrB s
 ·clear h2;go_enter func46,ntmps46
  go_wp2_with fail
  refine (isHeader_no _ _ hs).mono ?_;rintro e w' ⟨rfl,rfl⟩;go_wp2;go_ret;exact⟨rfl,(bRQ _ _).alloc (nLQ _) _⟩
 have hv:hdrB v=false:=by simpa[rngB,hs] using h2
 clear h2;go_enter func46,ntmps46
 go_wp2_with fail
 refine (isHeader_yes _ _ hs).mono ?_;rintro e w' ⟨rfl,rfl⟩
 go_wp2_with fail
 refine (isHeader_no _ _ hv).mono ?_;rintro e w' ⟨rfl,rfl⟩;go_wp2;go_ret;exact⟨rfl,(bRQ _ _).alloc (nLQ _) _⟩
theorem ruCheck_cube (p m b o s v:Int)(w:World)(h:ruP p o=true)(h2:rngB s v=true)(h3:okB m b=false):
 Calls prog 46 #[.agg #[.int i64 p,.int i64 m,.int i64 b,.int i64 o,.int i64 s,.int i64 v]] w fun e w'=>e=.returned (.iface 73 (.int i64 (refN m b)))∧Below w.heap.size w w':=by
 obtain⟨e1,e2,e3,e4⟩:=ruP_of h;have hs:hdrB s=true:=by simp only[rngB,Bool.and_eq_true] at h2;exact h2.1
 have hv:hdrB v=true:=by simp only[rngB,Bool.and_eq_true] at h2;exact h2.2
 have hn:refN m b≠0:=by have:=ok_refN m b;rw[h3] at this;simpa using this
 clear h h2 h3;go_enter func46,ntmps46
 go_wp2_with fail
 refine (isHeader_yes _ _ hs).mono ?_;rintro e w' ⟨rfl,rfl⟩
 go_wp2_with fail
 refine (isHeader_yes _ _ hv).mono ?_;rintro e w' ⟨rfl,rfl⟩
 go_wp2_with fail
 refine (check_no _ _ _).mono ?_;rintro e w1 ⟨rfl,hb1⟩;rw[no_ne hn];go_wp2;go_ret;exact⟨rfl,((bRQ _ _).alloc (nLQ _) _).trans (hb1.mono (by simp))⟩
theorem ruCheck_end (p m b o s v:Int)(w:World)(h:ruP p o=true)(h2:rngB s v=true)(h3:okB m b=true):
 Calls prog 46 #[.agg #[.int i64 p,.int i64 m,.int i64 b,.int i64 o,.int i64 s,.int i64 v]] w fun e w'=>e=.returned (if ruSet o s v then .nilIface else .iface 73 (.int i64 3))∧Below w.heap.size w w':=by
 obtain⟨e1,e2,e3,e4⟩:=ruP_of h;have hs:hdrB s=true:=by simp only[rngB,Bool.and_eq_true] at h2;exact h2.1
 have hv:hdrB v=true:=by simp only[rngB,Bool.and_eq_true] at h2;exact h2.2
 have hn:refN m b=0:=refN_ok h3;have hlt:w.heap.size<(w.alloc (.cells #[.int i64 p,.int i64 m,.int i64 b,.int i64 o,.int i64 s,.int i64 v] 41)).heap.size:=by simp
 clear h h2 h3;cases ha:(bits .andNot .i64 v s==0)
 ·have e:ruSet o s v=false:=by simp[ruSet,ha]
  rw[e];clear e;simp only[Bool.false_eq_true,if_false];have ha2:(bits .andNot .i64 v s != 0)=true:=by simpa using ha
  go_enter func46,ntmps46
  go_wp2_with fail
  refine (isHeader_yes _ _ hs).mono ?_;rintro e w' ⟨rfl,rfl⟩
  go_wp2_with fail
  refine (isHeader_yes _ _ hv).mono ?_;rintro e w' ⟨rfl,rfl⟩
  go_wp2_with fail
  refine (check_no _ _ _).mono ?_;rintro e w1 ⟨rfl,hb1⟩;rw[no_ok hn];obtain⟨hc1,hf1⟩:=bcell hb1;have hB:=((Below.refl w.heap.size w).alloc (nLQ _) (Obj.cells #[.int i64 p,.int i64 m,.int i64 b,.int i64 o,.int i64 s,.int i64 v] 41)).trans (hb1.mono (by simp));clear hb1;go_wp2;go_ret;exact⟨rfl,hB⟩
 cases ho:(o==0)
 ·have e:ruSet o s v=true:=by simp[ruSet,ha,ho]
  rw[e];clear e;simp only[if_true];have ha2:(bits .andNot .i64 v s != 0)=false:=by simpa using ha
  go_enter func46,ntmps46
  go_wp2_with fail
  refine (isHeader_yes _ _ hs).mono ?_;rintro e w' ⟨rfl,rfl⟩
  go_wp2_with fail
  refine (isHeader_yes _ _ hv).mono ?_;rintro e w' ⟨rfl,rfl⟩
  go_wp2_with fail
  refine (check_no _ _ _).mono ?_;rintro e w1 ⟨rfl,hb1⟩;rw[no_ok hn];obtain⟨hc1,hf1⟩:=bcell hb1;have hB:=((Below.refl w.heap.size w).alloc (nLQ _) (Obj.cells #[.int i64 p,.int i64 m,.int i64 b,.int i64 o,.int i64 s,.int i64 v] 41)).trans (hb1.mono (by simp));clear hb1;go_wp2;go_ret;exact⟨rfl,hB⟩
 cases hz:(s==0)
 ·have e:ruSet o s v=false:=by simp[ruSet,ha,ho,hz]
  rw[e];clear e;simp only[Bool.false_eq_true,if_false];have ha2:(bits .andNot .i64 v s != 0)=false:=by simpa using ha
  go_enter func46,ntmps46
  go_wp2_with fail
  refine (isHeader_yes _ _ hs).mono ?_;rintro e w' ⟨rfl,rfl⟩
  go_wp2_with fail
  refine (isHeader_yes _ _ hv).mono ?_;rintro e w' ⟨rfl,rfl⟩
  go_wp2_with fail
  refine (check_no _ _ _).mono ?_;rintro e w1 ⟨rfl,hb1⟩;rw[no_ok hn];obtain⟨hc1,hf1⟩:=bcell hb1;have hB:=((Below.refl w.heap.size w).alloc (nLQ _) (Obj.cells #[.int i64 p,.int i64 m,.int i64 b,.int i64 o,.int i64 s,.int i64 v] 41)).trans (hb1.mono (by simp));clear hb1;go_wp2;go_ret;exact⟨rfl,hB⟩
 have e:ruSet o s v=true:=by simp[ruSet,ha,ho,hz]
 rw[e];clear e;simp only[if_true];have ha2:(bits .andNot .i64 v s != 0)=false:=by simpa using ha
 go_enter func46,ntmps46
 go_wp2_with fail
 refine (isHeader_yes _ _ hs).mono ?_;rintro e w' ⟨rfl,rfl⟩
 go_wp2_with fail
 refine (isHeader_yes _ _ hv).mono ?_;rintro e w' ⟨rfl,rfl⟩
 go_wp2_with fail
 refine (check_no _ _ _).mono ?_;rintro e w1 ⟨rfl,hb1⟩;rw[no_ok hn];obtain⟨hc1,hf1⟩:=bcell hb1;have hB:=((Below.refl w.heap.size w).alloc (nLQ _) (Obj.cells #[.int i64 p,.int i64 m,.int i64 b,.int i64 o,.int i64 s,.int i64 v] 41)).trans (hb1.mono (by simp));clear hb1;go_wp2;go_ret;exact⟨rfl,hB⟩
theorem ruCheck_any (p m b o s v:Int)(w:World):
 Calls prog 46 #[.agg #[.int i64 p,.int i64 m,.int i64 b,.int i64 o,.int i64 s,.int i64 v]] w fun e w'=>e=.returned (noV (ruN p m b o s v))∧Below w.heap.size w w':=by
 cases h1:ruP p o
 ·have e:noV (ruN p m b o s v)=.iface 73 (.int i64 1):=by simp[ruN,ruIn,h1,noV]
  rw[e];exact ruCheck_prio p m b o s v w h1
 cases h2:rngB s v
 ·have e:noV (ruN p m b o s v)=.iface 73 (.int i64 1):=by simp[ruN,ruIn,h2,noV]
  rw[e];exact ruCheck_set p m b o s v w h1 h2
 cases h3:okB m b
 ·have hn:refN m b≠0:=by have:=ok_refN m b;rw[h3] at this;simpa using this
  have e:noV (ruN p m b o s v)=.iface 73 (.int i64 (refN m b)):=by simp[ruN,ruIn,h1,h2,h3,noV,hn]
  rw[e];exact ruCheck_cube p m b o s v w h1 h2 h3
 have e:noV (ruN p m b o s v)=(if ruSet o s v then .nilIface else .iface 73 (.int i64 3)):=by
  cases h4:ruSet o s v <;> simp[ruN,ruIn,h1,h2,h3,noV,h4]
 rw[e];exact ruCheck_end p m b o s v w h1 h2 h3
structure C6 (w:World)(g o:Nat)(r:Ru):Prop where
 c0:w.cell? ⟨g,o,none⟩=some (.int i64 r.p)
 c1:w.cell? ⟨g,o+1,none⟩=some (.int i64 r.m)
 c2:w.cell? ⟨g,o+2,none⟩=some (.int i64 r.b)
 c3:w.cell? ⟨g,o+3,none⟩=some (.int i64 r.o)
 c4:w.cell? ⟨g,o+4,none⟩=some (.int i64 r.s)
 c5:w.cell? ⟨g,o+5,none⟩=some (.int i64 r.v)
theorem C6.later {w w':World}{g o:Nat}{r:Ru}(h:C6 w g o r)(hb:Below w.heap.size w w'):C6 w' g o r:=
 ⟨cell_later hb h.c0,cell_later hb h.c1,cell_later hb h.c2,cell_later hb h.c3,cell_later hb h.c4,cell_later hb h.c5⟩
theorem C6.new (w:World)(p m b o s v:Int)(t:TypeId):C6 (w.alloc (.cells #[.int i64 p,.int i64 m,.int i64 b,.int i64 o,.int i64 s,.int i64 v] t)) w.heap.size 0 ⟨p,m,b,o,s,v⟩:=by
 refine⟨?_,?_,?_,?_,?_,?_⟩ <;> simp
def RAt (w:World)(g o:Nat)(L:List Ru):Prop:=∀i (h:i<L.length),C6 w g (o+i*6) L[i]
theorem RAt.later {w w':World}{g o:Nat}{L:List Ru}(h:RAt w g o L)(hb:Below w.heap.size w w'):RAt w' g o L:=fun i hi=>(h i hi).later hb
theorem RAt.take {w:World}{g o:Nat}{L:List Ru}(h:RAt w g o L)(k:Nat):RAt w g o (L.take k):=by
 intro i hi;rw[List.getElem_take];exact h i (by simp at hi;omega)
def SR (w:World)(v:Value)(L:List Ru):Prop:=
 (∃ao cap,v=.slice ao 0 cap∧L=[])∨∃g o cap,v=.slice (some ⟨g,o,none⟩) L.length cap∧L.length≤cap∧cap≤maxLen∧RAt w g o L
theorem SR.later {w w':World}{v:Value}{L:List Ru}(h:SR w v L)(hb:Below w.heap.size w w'):SR w' v L:=by
 rcases h with h | ⟨g,o,cap,h1,h2,h3,h4⟩
 ·exact .inl h
 exact .inr ⟨g,o,cap,h1,h2,h3,h4.later hb⟩
theorem RAt.at {w:World}{g o:Nat}{L:List Ru}(h:RAt w g o L){n k:Nat}(hn:L.length=n)(hk:k<n):
 ∃ (p m b q s v:Int) (hl:k<L.length),L[k]=⟨p,m,b,q,s,v⟩∧(w.cell? ⟨g,o+k*6,none⟩=some (.int i64 p)∧w.cell? ⟨g,o+k*6+1,none⟩=some (.int i64 m)∧w.cell? ⟨g,o+k*6+2,none⟩=some (.int i64 b) ∧
   w.cell? ⟨g,o+k*6+3,none⟩=some (.int i64 q)∧w.cell? ⟨g,o+k*6+4,none⟩=some (.int i64 s)∧w.cell? ⟨g,o+k*6+5,none⟩=some (.int i64 v)):=
 have hl:k<L.length:=by omega
 have c:=h k hl
 ⟨_,_,_,_,_,_,hl,rfl,c.c0,c.c1,c.c2,c.c3,c.c4,c.c5⟩
theorem key_ways (p m b o s v p' m' b' o' s' v':Int):
 ((p==p')=false∧keyB ⟨p,m,b,o,s,v⟩ ⟨p',m',b',o',s',v'⟩=false)∨((p==p')=true∧(m==m')=false∧keyB ⟨p,m,b,o,s,v⟩ ⟨p',m',b',o',s',v'⟩=false) ∨
 ((p==p')=true∧(m==m')=true∧(b==b')=false∧keyB ⟨p,m,b,o,s,v⟩ ⟨p',m',b',o',s',v'⟩=false)∨((p==p')=true∧(m==m')=true∧(b==b')=true∧keyB ⟨p,m,b,o,s,v⟩ ⟨p',m',b',o',s',v'⟩=true):=by
 rw[key_eq];by_cases h1:p=p' <;> by_cases h2:m=m' <;> by_cases h3:b=b' <;> simp[h1,h2,h3]
theorem clash_any (p m b o s v p' m' b' o' s' v':Int)(w:World):
 Calls prog 49 #[.agg #[.int i64 p,.int i64 m,.int i64 b,.int i64 o,.int i64 s,.int i64 v],.agg #[.int i64 p',.int i64 m',.int i64 b',.int i64 o',.int i64 s',.int i64 v']] w fun e w'=>e=.returned (.bool (keyB ⟨p,m,b,o,s,v⟩ ⟨p',m',b',o',s',v'⟩))∧Below w.heap.size w w':=by
 have HB:Hid (∀o1 o2,Below w.heap.size w ((w.alloc o1).alloc o2)):=fun o1 o2=>((bRQ _ _).alloc (nLQ _) o1).alloc (by simp) o2
 rcases key_ways p m b o s v p' m' b' o' s' v' with ⟨e1,e⟩ | ⟨e1,e2,e⟩ | ⟨e1,e2,e3,e⟩ | ⟨e1,e2,e3,e⟩
 all_goals
  rw[e];clear e;go_enter func49,ntmps49;go_wp2;go_ret;exact⟨rfl,HB.out _ _⟩
def Asks (w:World)(f:FuncId)(c:Value)(P:Ru→Bool):Prop:=
 ∀ (p m b o s v:Int) (W:World),Below w.heap.size w W →
   Calls prog f #[.agg #[.int i64 p,.int i64 m,.int i64 b,.int i64 o,.int i64 s,.int i64 v],c] W fun e w'=>e=.returned (.bool (P ⟨p,m,b,o,s,v⟩))∧Below W.heap.size W w'
theorem Asks.later {w w':World}{f:FuncId}{c:Value}{P:Ru→Bool}(h:Asks w f c P)(hb:Below w.heap.size w w'):Asks w' f c P:=
 fun p m b o s v W hW=>h p m b o s v W (hb.trans (hW.mono hb.size))
theorem table1_any (p m b o s v:Int)(r:Ru)(B:Nat)(w:World)(hc:C6 w B 0 r):
 Calls prog 48 #[.agg #[.int i64 p,.int i64 m,.int i64 b,.int i64 o,.int i64 s,.int i64 v],.pointer (some ⟨B,0,none⟩)] w fun e w'=>e=.returned (.bool (keyB ⟨p,m,b,o,s,v⟩ r))∧Below w.heap.size w w':=by
 obtain⟨p',m',b',o',s',v'⟩:=r;obtain⟨c0,c1,c2,c3,c4,c5⟩:=hc;simp only[Nat.zero_add] at c0 c1 c2 c3 c4 c5;have hlt:B<w.heap.size:=bLQ _ _ c0;go_enter func48,ntmps48
 go_wp2_with fail
 refine (clash_any _ _ _ _ _ _ _ _ _ _ _ _ _).mono ?_;rintro e w1 ⟨rfl,hb1⟩;go_wp2;go_ret;exact⟨rfl,((bRQ _ _).alloc (nLQ _) _).trans (hb1.mono (by simp))⟩
theorem table1_asks (r:Ru)(B:Nat)(w:World)(hc:C6 w B 0 r):Asks w 48 (.pointer (some ⟨B,0,none⟩)) (fun a=>keyB a r):=
 fun p m b o s v W hW=>table1_any p m b o s v r B W (hc.later hW)
theorem any_nextR {L:List Ru}{f:Ru→Bool}{k:Nat}(hk:k<L.length)(h:(L.take k).any f=false)(h2:f L[k]=false):(L.take (k+1)).any f=false:=by
 rw[List.take_succ_eq_append_getElem hk];simp only[List.any_append,h,List.any_cons,List.any_nil,h2,Bool.or_false]
theorem any_hitR {L:List Ru}{f:Ru→Bool}{k:Nat}(hk:k<L.length)(h2:f L[k]=true):L.any f=true:=List.any_eq_true.2 ⟨_,List.getElem_mem hk,h2⟩
def ixP (f:Ru→Bool)(L:List Ru):Int:=if L.any f then (L.findIdx f:Int) else -1
theorem ixP_hit {L:List Ru}{f:Ru→Bool}{k:Nat}(hk:k<L.length)(h:(L.take k).any f=false)(h2:f L[k]=true):ixP f L=k:=by
 rw[ixP,any_hitR hk h2,if_pos rfl]
 congr 1
 rw[List.findIdx_eq hk];refine⟨h2,fun j hj=>?_⟩;rw[List.any_eq_false] at h;have:=h L[j] (by rw[List.mem_take_iff_getElem];exact⟨j,by omega,rfl⟩);simpa using this
theorem ixP_no {L:List Ru}{f:Ru→Bool}(h:L.any f=false):ixP f L = -1:=by simp[ixP,h]
theorem ixP_any (L:List Ru)(f:Ru→Bool):decide (0≤ixP f L)=L.any f:=by
 unfold ixP;cases L.any f
 ·simp
 simp
theorem SR.form {w:World}{v:Value}{L:List Ru}(h:SR w v L):∃ao n cap,v=.slice ao n cap∧L.length=n∧n≤maxLen∧n≤cap∧(0<n→∃g o,ao=some ⟨g,o,none⟩∧RAt w g o L∧cap≤maxLen):=by
 rcases h with ⟨ao,cap,rfl,rfl⟩ | ⟨g,o,cap,rfl,h1,h2,h3⟩
 ·exact⟨ao,0,cap,rfl,rfl,Nat.zero_le _,Nat.zero_le _,fun h=>absurd h (by omega)⟩
 exact⟨_,_,cap,rfl,rfl,Nat.le_trans h1 h2,h1,fun _=>⟨g,o,rfl,h3,h2⟩⟩
theorem idxF (ao:AdQ)(n cap:Nat)(f:FuncId)(c:Value)(P:Ru→Bool)(L:List Ru)(w:World)(hn:L.length=n)(hn2:n≤maxLen)(ha:0<n→∃g o,ao=some ⟨g,o,none⟩∧RAt w g o L∧cap≤maxLen)(he:∀args w,(callFunc f args).run prog w=.ok (.enter f args) w)(hf:Asks w f c P):
 Calls prog 63 #[.slice ao n cap,.func (Fn.func f) #[] #[c]] w fun e w'=>e=.returned (.int i64 (ixP P L))∧Below w.heap.size w w':=by
 have HN:Hid (L.length=n):=hn;have HF:Hid (Asks w f c P):=hf;have HA:Hid (0<n→∃g o,ao=some ⟨g,o,none⟩∧RAt w g o L∧cap≤maxLen):=ha;unfold maxLen at hn2;clear hn hf ha;go_enter func63,ntmps63;go_wp2
 go_loopw [8] (fun i wr=>∃k:Nat,k≤n∧i=.int i64 k∧(L.take k).any P=false∧Below w.heap.size w wr)
  (fun i _=>n-(intOf i).toNat)
 case atStart=>exact⟨0,by omega,rfl,by simp,bRQ _ _⟩
 case round =>
  obtain⟨k,hk,rfl,hno,hB⟩:=hrel;have HB:Hid (Below w.heap.size w wr):=hB;have HNO:Hid ((L.take k).any P=false):=hno;clear hno;by_cases hlt:k<n
  ·obtain⟨g,o,hao,hc,_⟩:=HA.out (by omega);subst hao;obtain⟨p,m,b,q,s,v,hkl,hL,q0,q1,q2,q3,q4,q5⟩:=(hc.later hB).at HN.out hlt;have HL:Hid (L[k]=⟨p,m,b,q,s,v⟩):=hL;clear hL hB;cases ho:P ⟨p,m,b,q,s,v⟩
   ·go_wp2_with fail
    refine (HF.out p m b q s v _ HB.out).mono ?_;rintro e w1 ⟨rfl,hb1⟩;rw[ho];have HB1:=HB.out.trans (hb1.mono HB.out.size);clear hb1;go_wp2;go_roundw
    case rel=>exact⟨k+1,by omega,by go_num,any_nextR hkl HNO.out (by rw[HL.out];exact ho),HB1⟩
    case measure=>simp[intOf];omega
   go_wp2_with fail
   refine (HF.out p m b q s v _ HB.out).mono ?_;rintro e w1 ⟨rfl,hb1⟩;rw[ho];go_wp2;go_ret;exact⟨by rw[ixP_hit hkl HNO.out (by rw[HL.out];exact ho)];rfl,HB.out.trans (hb1.mono HB.out.size)⟩
  obtain rfl:k=n:=by omega
  go_wp2;go_ret;exact⟨by have:=HNO.out;rw[←HN.out,List.take_length] at this;rw[ixP_no this];rfl,HB.out⟩
theorem containsF (ao:AdQ)(n cap:Nat)(f:FuncId)(c:Value)(P:Ru→Bool)(L:List Ru)(w:World)(hn:L.length=n)(hn2:n≤maxLen)(ha:0<n→∃g o,ao=some ⟨g,o,none⟩∧RAt w g o L∧cap≤maxLen)(he:∀args w,(callFunc f args).run prog w=.ok (.enter f args) w)(hf:Asks w f c P):
 Calls prog 47 #[.slice ao n cap,.func (Fn.func f) #[] #[c]] w fun e w'=>e=.returned (.bool (L.any P))∧Below w.heap.size w w':=by
 rw[←ixP_any];obtain⟨x,hx⟩:∃x,x=ixP P L:=⟨_,rfl⟩;have HX:Hid (x=ixP P L):=hx;rw[←hx];clear hx;go_enter func47,ntmps47
 go_wp2_with fail
 refine (idxF ao n cap f c P L _ hn hn2 ha he hf).mono ?_;rintro e w1 ⟨rfl,hb1⟩;rw[←HX.out];go_wp2;go_ret;exact⟨rfl,hb1⟩
theorem containsR_any (g o cap n B:Nat)(r:Ru)(L:List Ru)(w:World)(hc:RAt w g o L)(hn:L.length=n)(hn2:n≤maxLen)(hcap:cap≤maxLen)(hr:C6 w B 0 r):
 Calls prog 47 #[.slice (some ⟨g,o,none⟩) n cap,.func (Fn.func 48) #[] #[.pointer (some ⟨B,0,none⟩)]] w fun e w'=>e=.returned (.bool (L.any (fun a=>keyB a r)))∧Below w.heap.size w w':=
 containsF _ n cap _ _ _ L w hn hn2 (fun _=>⟨g,o,rfl,hc,hcap⟩) (enters_of func48 (by kernel_rfl) rfl) (table1_asks r B w hr)
end
section
open Go.ChangeShapes Go.WideShapes Go.ChangeAt Go.RowKit Go.Joins
theorem array6 {α:Type}{cs:Array α}(h:cs.size=6):∃c0 c1 c2 c3 c4 c5,cs=#[c0,c1,c2,c3,c4,c5]:=by
 obtain⟨l⟩:=cs
 match l,h with
 | [c0,c1,c2,c3,c4,c5],_=>exact⟨c0,c1,c2,c3,c4,c5,rfl⟩
theorem rule_cells {H:Type}{enc:TypeId×Value→H}{W:World}{n:Nat}{cs:List Value}{x:DataW H×List MemPlace}
 (h:DataW.trod enc prog W 0 (fun _=>true) true n 41 cs=some x):∃p m b o s v:Int,cs=[.int i64 p,.int i64 m,.int i64 b,.int i64 o,.int i64 s,.int i64 v]:=by
 obtain⟨xs,k,_,_,hl,hlen,hf⟩:=DataW.trod_struct underlying41 h;have hC:Tryd.prog.cellsOf 41=6:=by kernel_rfl
 have hI:Tryd.prog.cellsOf 3=1:=by kernel_rfl
 have hK:Tryd.prog.cellsOf 39=2:=by kernel_rfl
 rw[hC] at hl;obtain⟨c0,c1,c2,c3,c4,c5,e⟩:=array6 (cs:=cs.toArray) (by simpa using hl);have e':cs=[c0,c1,c2,c3,c4,c5]:=by simpa using congrArg Array.toList e
 subst e'
 match xs,hlen with
 | [y0,y1,y2,y3,y4],_ =>
   have g0:=hf 0 _ rfl;have g1:=hf 1 _ rfl;have g2:=hf 2 _ rfl;have g3:=hf 3 _ rfl;have g4:=hf 4 _ rfl;simp[hI,hK] at g0 g1 g2 g3 g4;obtain⟨p,e0,_,_⟩:=DataW.trod_int underlying3 g0;obtain⟨z0,z1,k1,_,_,f0,f1⟩:=trod_struct2 underlying39 g1;simp[hI] at f0 f1;obtain⟨m,e1,_,_⟩:=DataW.trod_int underlying3 f0;obtain⟨b,e2,_,_⟩:=DataW.trod_int underlying3 f1;obtain⟨o,e3,_,_⟩:=DataW.trod_int underlying3 g2;obtain⟨s,e4,_,_⟩:=DataW.trod_int underlying3 g3;obtain⟨v,e5,_,_⟩:=DataW.trod_int underlying3 g4;simp at e0 e1 e2 e3 e4 e5;subst e0 e1 e2 e3 e4 e5;exact⟨p,m,b,o,s,v,rfl⟩
end
section
open Go.RowKit
theorem own_below {w w':World}{B e size n:Nat}{v:Value}{xs:List Value}(h:w.ownsRow B e size v n xs)(hb:Below w.heap.size w w'):w'.ownsRow B e size v n xs:=by
 obtain⟨h1,h2 | ⟨g,cap,cur,hv,hB,hg,h3⟩⟩:=h
 ·exact⟨h1,.inl h2⟩
 have hlt:g<w.heap.size:=by
  rcases Nat.lt_or_ge g w.heap.size with h | h
  ·exact h
  rw[Array.getElem?_eq_none h] at hg;cases hg
 exact⟨h1,.inr ⟨g,cap,cur,hv,hB,(hb.block g hlt).trans hg,h3⟩⟩
theorem own_mono {w:World}{B B' e size n:Nat}{v:Value}{xs:List Value}(h:w.ownsRow B e size v n xs)(hB:B'≤B):w.ownsRow B' e size v n xs:=by
 obtain⟨h1,h2 | ⟨g,cap,cur,hv,hb,h3⟩⟩:=h
 ·exact⟨h1,.inl h2⟩
 exact⟨h1,.inr ⟨g,cap,cur,hv,Nat.le_trans hB hb,h3⟩⟩
theorem infoInt:(Tryd.prog.info? 3).map (fun i=>(i.zero,i.size,i.bytes))=some (some (.int i64 0),1,8):=by kernel_rfl
end
section
open Go.ChangeShapes Go.WideShapes Go.ChangeAt Go.RowKit
def cellsR (L:List Ru):List Value:=L.flatMap fun r=>[.int i64 r.p,.int i64 r.m,.int i64 r.b,.int i64 r.o,.int i64 r.s,.int i64 r.v]
theorem cellsR_len (L:List Ru):(cellsR L).length=L.length*6:=by
 induction L with
 | nil=>rfl
 | cons p r ih=>simp only[cellsR,List.flatMap_cons,List.length_append,List.length_cons,List.length_nil] at *;omega
theorem cellsR_app (L M:List Ru):cellsR (L++M)=cellsR L++cellsR M:=by simp[cellsR]
theorem cellsR_at (L:List Ru)(i:Nat)(h:i<L.length):(cellsR L)[i*6]?=some (.int i64 (L[i]).p)∧(cellsR L)[i*6+1]?=some (.int i64 (L[i]).m)∧(cellsR L)[i*6+2]?=some (.int i64 (L[i]).b) ∧
 (cellsR L)[i*6+3]?=some (.int i64 (L[i]).o)∧(cellsR L)[i*6+4]?=some (.int i64 (L[i]).s)∧(cellsR L)[i*6+5]?=some (.int i64 (L[i]).v):=by
 induction L generalizing i with
 | nil=>simp at h
 | cons p r ih =>
   cases i with
   | zero=>simp[cellsR]
   | succ i =>
     have:=ih i (by simpa using h);have e1:(i+1)*6=i*6+1+1+1+1+1+1:=by omega
     simpa[cellsR,e1] using this
theorem cellsR_one (L:List Ru):∀u∈cellsR L,u.oneCell'=true:=by
 intro u hu;simp only[cellsR,List.mem_flatMap] at hu;obtain⟨p,_,hp⟩:=hu;simp at hp
 rcases hp with rfl | rfl | rfl | rfl | rfl | rfl <;> rfl
theorem own_SR {w:World}{B e:Nat}{v:Value}{L:List Ru}(h:w.ownsRow B e 6 v L.length (cellsR L)):SR w v L:=by
 rcases h.2 with ⟨rfl,h0⟩ | ⟨g,cap,cur,rfl,_,_,h1,h2,_⟩
 ·exact .inl ⟨none,0,rfl,List.length_eq_zero_iff.1 h0⟩
 refine .inr ⟨g,0,cap,rfl,h1,h2,fun i hi=>?_⟩;obtain⟨a0,a1,a2,a3,a4,a5⟩:=cellsR_at L i hi;refine⟨?_,?_,?_,?_,?_,?_⟩
 ·have:=h.cellAt (i*6) (by omega);rw[a0] at this;simpa using this
 ·have:=h.cellAt (i*6+1) (by omega);rw[a1] at this;simpa using this
 ·have:=h.cellAt (i*6+2) (by omega);rw[a2] at this;simpa using this
 ·have:=h.cellAt (i*6+3) (by omega);rw[a3] at this;simpa using this
 ·have:=h.cellAt (i*6+4) (by omega);rw[a4] at this;simpa using this
 have:=h.cellAt (i*6+5) (by omega);rw[a5] at this;simpa using this
theorem infoRule:(Tryd.prog.info? 41).map (fun i=>(i.zero,i.size,i.bytes))=some (some (.agg #[.int i64 0,.int i64 0,.int i64 0,.int i64 0,.int i64 0,.int i64 0]),6,48):=by kernel_rfl
theorem sixCells:(Value.agg #[.int i64 0,.int i64 0,.int i64 0,.int i64 0,.int i64 0,.int i64 0]).cells.size=6:=by simp[Value.cells]
theorem rules_of {H:Type}{enc:TypeId×Value→H}{W:World}{base:Nat}{v:Value}{d:DataW H}{p:List MemPlace}
 (hv:Value.okWide prog W .any base 23 v) (h:DataW.Trod enc prog W 0 (fun _=>true) true 23 v d p):∃L,SR W v L:=by
 obtain⟨a0,len0,cap0,rfl⟩:=okWide_slice underlying23 hv;obtain⟨fuel,hf⟩:=h;have hf2:DataW.trod enc prog W 0 (fun _=>true) true fuel 23 [.slice a0 len0 cap0]=some (d,p):=hf
 rcases Go.Deep.open_slice underlying23 hf2 with ⟨hc,hx⟩ | ⟨a,len,cap,m,k,D,Pl,hc,_,hl,hm,hmm,hx,hall⟩
 ·simp only[List.cons.injEq,and_true,Value.slice.injEq] at hc;obtain⟨rfl,rfl,rfl⟩:=hc;exact⟨[],.inl ⟨none,0,rfl,rfl⟩⟩
 simp only[List.cons.injEq,and_true,Value.slice.injEq] at hc;obtain⟨rfl,rfl,rfl⟩:=hc;simp only[if_true] at hmm;subst hmm;have hC:Tryd.prog.cellsOf 41=6:=by kernel_rfl
 rcases Nat.eq_zero_or_pos len0 with h0 | h0
 ·subst h0;exact⟨[],.inl ⟨_,_,rfl,rfl⟩⟩
 have each:∀i,i<m→∃r:Ru,∀j,j<6→W.cell? (a.add (i*6+j))=(cellsR [r])[j]?:=by
  intro i hi;obtain⟨cs,h1,h2⟩:=hall i hi;rw[hC] at h1;obtain⟨_,hlen,hcell⟩:=World.cells?_some h1;obtain⟨q,n,b,o,s,x,rfl⟩:=rule_cells h2;refine⟨⟨q,n,b,o,s,x⟩,fun j hj=>?_⟩;have:=hcell j (by omega);rw[Go.Deep.add_add] at this;rw[this]
  rcases (by omega:j=0∨j=1∨j=2∨j=3∨j=4∨j=5) with rfl | rfl | rfl | rfl | rfl | rfl <;> simp[cellsR]
 have iR:Inhabited Ru:=⟨zeR⟩;obtain⟨R,hR⟩:=Go.Deep.choose_lt each;obtain⟨sb,so,spot⟩:=a;have hspot:spot=none:=by
  have:=hR 0 (by omega) 0 (by omega);have h2:W.cell? ((⟨sb,so,spot⟩:Addr).add (0*6+0))=some (.int i64 (R 0).p):=by rw[this];simp[cellsR]
  simpa[Addr.add] using World.cell?_spot h2
 subst hspot;have hadd:∀j,(⟨sb,so,none⟩:Addr).add j=⟨sb,so+j,none⟩:=by
  intro j;simp only[Addr.add]
  first
   | rfl
   | (split
      ·next h0=>rw[h0];rfl
      rfl)
 refine⟨(List.range len0).map R,.inr ⟨sb,so,_,by simp,by simpa using hl,hm,fun i hi=>?_⟩⟩;have hi2:i<len0:=by simpa using hi
 have hc:=hR i (by omega);simp only[hadd] at hc;have e:((List.range len0).map R)[i]=R i:=by simp
 rw[e];refine⟨?_,?_,?_,?_,?_,?_⟩
 ·have:=hc 0 (by omega);simpa[cellsR] using this
 ·have:=hc 1 (by omega);simpa[cellsR,Nat.add_assoc] using this
 ·have:=hc 2 (by omega);simpa[cellsR,Nat.add_assoc] using this
 ·have:=hc 3 (by omega);simpa[cellsR,Nat.add_assoc] using this
 ·have:=hc 4 (by omega);simpa[cellsR,Nat.add_assoc] using this
 have:=hc 5 (by omega);simpa[cellsR,Nat.add_assoc] using this
end
section
open Go.RowKit
theorem addr_add (g o j:Nat):(⟨g,o,none⟩:Addr).add j=⟨g,o+j,none⟩:=by
 simp only[Addr.add]
 first
  | rfl
  | (split
     ·next h0=>rw[h0];rfl
     rfl)
theorem RAt.cells {w:World}{g o:Nat}{M:List Ru}(h:RAt w g o M):∀j u,(cellsR M)[j]?=some u→w.cell? ((⟨g,o,none⟩:Addr).add j)=some u:=by
 intro j u hu;have hj:j<M.length*6:=by
  have:=(List.getElem?_eq_some_iff.1 hu).1;rw[cellsR_len] at this;exact this
 rw[addr_add];have hi:j / 6<M.length:=by omega
 obtain⟨c0,c1,c2,c3,c4,c5⟩:=h (j / 6) hi;obtain⟨a0,a1,a2,a3,a4,a5⟩:=cellsR_at M (j / 6) hi;have h6:j=j / 6*6∨j=j / 6*6+1∨j=j / 6*6+2∨j=j / 6*6+3∨j=j / 6*6+4∨j=j / 6*6+5:=by omega
 generalize j / 6=i at *
 rcases h6 with e | e | e | e | e | e
 ·subst e;rw[a0] at hu;cases hu;exact c0
 ·subst e;rw[a1] at hu;cases hu;rw[←Nat.add_assoc];exact c1
 ·subst e;rw[a2] at hu;cases hu;rw[←Nat.add_assoc];exact c2
 ·subst e;rw[a3] at hu;cases hu;rw[←Nat.add_assoc];exact c3
 ·subst e;rw[a4] at hu;cases hu;rw[←Nat.add_assoc];exact c4
 subst e;rw[a5] at hu;cases hu;rw[←Nat.add_assoc];exact c5
theorem run_append_own_none {w:World}(base:Nat)(t ty e:TypeId)(i:TypeInfo)(size cap2:Nat)(ht:Tryd.prog.underlying t=some (.slice e))(hi:Tryd.prog.info? e=some i)
 (v:Value) (n:Nat) (xs:List Value) (hown:w.ownsRow base e size v n xs):
 (Builtin.append_ #[t,t] ty #[v,.slice none 0 cap2]).run prog w=.ok v w:=by
 rcases hown.2 with ⟨rfl,rfl⟩ | ⟨g,cap,cur,rfl,_,_,hnc,_⟩
 ·simp[Builtin.append_,run_underlying ht,sizeOf,typeInfo,hi,Builtin.lenOf,Builtin.firstCells]
 simp[Builtin.append_,run_underlying ht,sizeOf,typeInfo,hi,Builtin.lenOf,Builtin.firstCells,hnc,storeCells]
theorem wpList_append_SR (w:World){ops:Array Oper}{rest:List Oper}{o:Oper}{a:Act}{Q:Exit→Act→World→Prop}(hgd:o.guard=none)(s x:Operand)(t:TypeId)
 (ho:o.op=.call { callee:=.builtin .append,args:=#[s,x],argTypes:=#[t,t] }) (ht:Tryd.prog.underlying t=some (.slice 41)) (base:Nat)
 (v:Value) (hs:a.eval s=v) (L:List Ru) (hown:w.ownsRow base 41 6 v L.length (cellsR L)) (u:Value) (hx:a.eval x=u) (M:List Ru) (hM:SR w u M)
 (h100:L.length+M.length≤1000) (hbase:base≤w.heap.size)
 (h:∀v' w',w'.ownsRow base 41 6 v' (L++M).length (cellsR (L++M))→w.grownBy w' v.ownBlock→wpList prog ops Q rest (a.put o.dst v') w'):wpList prog ops Q (o :: rest) a w:=by
 obtain⟨i0,hi,hz0,hz1,hz2⟩:=info_parts infoRule;have key:∀(ad:Addr) (m c:Nat) (news:List Value),a.eval x=.slice (some ad) m c→news.length=m*6→(∀j u,news[j]?=some u→w.cell? (ad.add j)=some u)→(∀u∈news,u.oneCell'=true)→m=M.length→news=cellsR M→wpList prog ops Q (o :: rest) a w:=by
  intro ad m c news e1 e2 e3 e4 e5 e6;refine wpList_append_own w hgd s x t ho base 41 i0 (.agg #[.int i64 0,.int i64 0,.int i64 0,.int i64 0,.int i64 0,.int i64 0]) 6 48 ht hi hz0 hz1 hz2 sixCells (by decide) v _ _ hs hown ad m c news e1 e2 e3 e4 (by unfold maxLen;omega) (by omega) hbase ?_;intro v' w' h1 h2 _;refine h v' w' ?_ h2;rw[List.length_append,cellsR_app,←e5,←e6];exact h1
 rcases hM with ⟨ao,cap,rfl,rfl⟩ | ⟨g,q,cap,rfl,h1,h2,h3⟩
 ·cases ao with
  | none =>
    refine wpList_plain hgd fun K hK=>?_
    have hrun:=run_append_own_none (w:=w) base t o.type 41 i0 6 cap ht hi v _ _ hown;unfold Oper.wp;simp[execOp,ho,resolve,invoke,builtin,hs,hx,hrun,Result.andThen];exact hK _ _ (h v w (by rw[List.append_nil];exact hown) ⟨rfl,rfl,rfl,nLQ _,fun _ _ _=>rfl⟩)
  | some ad=>exact key ad 0 cap [] hx rfl (by intro j u hu;simp at hu) (by intro u hu;cases hu) rfl rfl
 exact key ⟨g,q,none⟩ M.length cap (cellsR M) hx (cellsR_len M) h3.cells (cellsR_one M) rfl rfl
end
end Go.Proofs.YtcbapfgohocghaaDoor
