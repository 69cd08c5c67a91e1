/- Contracts and facts on the way to MixTells, joined into one text: TopoCheck, CubeCon, CubeHas, RuleCon, RuleTab, RuleTab2, NetCheck, RuleOrder, Quiet, RuleLook, RuleApply, StHop. -/
import Derived.Test.YtglnnoglbieaeaaGreatDoorMixTellsP2
namespace Go.Proofs.YtglnnoglbieaeaaGreatDoor
set_option linter.unusedSimpArgs false
set_option linter.unusedVariables false
set_option maxHeartbeats 16000000
set_option maxRecDepth 100000
section
open Go.RowKit
def TBox (W:World)(g:Nat)(S:Int)(v1 v2:Value):Prop:=W.cell? ⟨g,0,none⟩=some (.int .i64 S)∧W.cell? ⟨g,1,none⟩=some v1∧W.cell? ⟨g,2,none⟩=some v2
theorem tbox_new (w:World)(S:Int)(v1 v2:Value)(t:TypeId):TBox (w.alloc (Obj.cells #[.int .i64 S,v1,v2] t)) w.heap.size S v1 v2:=by
 refine⟨?_,?_,?_⟩ <;> simp
theorem TBox.lt {W:World}{g:Nat}{S:Int}{v1 v2:Value}(h:TBox W g S v1 v2):g<W.heap.size:=World.block_lt_of_cell? _ _ h.1
theorem TBox.but {X:List Nat}{W W':World}{g:Nat}{S:Int}{v1 v2:Value}(h:TBox W g S v1 v2)(hb:But X W W')(hX:g ∉ X):TBox W' g S v1 v2:=
 ⟨(hb.cell (p:=⟨g,0,none⟩) h.lt hX).trans h.1,(hb.cell (p:=⟨g,1,none⟩) h.lt hX).trans h.2.1,(hb.cell (p:=⟨g,2,none⟩) h.lt hX).trans h.2.2⟩
theorem TBox.later {W W':World}{g:Nat}{S:Int}{v1 v2:Value}(h:TBox W g S v1 v2)(hb:Below W.heap.size W W'):TBox W' g S v1 v2:=h.but (X:=[]) (But.of_below hb) (by simp)
theorem tcheck_range (S:Int)(v1 v2:Value)(w:World)(h:¬(1≤S∧S≤6)):
 Calls Tryz.prog 48 #[.agg #[.int .i64 S,v1,v2]] w fun e w'=>e=.returned (.iface 85 (.int .i64 1))∧Below w.heap.size w w':=by
 have HB0:Hid (Below w.heap.size w (w.alloc (Obj.cells #[.int .i64 S,v1,v2] 25))):=(Below.refl _ _).alloc (Nat.le_refl _) _;by_cases h1:S<1
 ·clear h;go_enter Tryz.func48,Tryz.ntmps48;go_wp2;go_ret;exact⟨rfl,HB0.out⟩
 have h6:6<S:=by omega
 clear h;go_enter Tryz.func48,Tryz.ntmps48;go_wp2;go_ret;exact⟨rfl,HB0.out⟩
theorem check_full (S:Int)(ao:Option Addr)(n cap:Nat)(ao2:Option Addr)(n2 cap2:Nat)(w:World)(h1:1≤S)(h6:S≤6)(h:200<n∨8<n2):
 Calls Tryz.prog 48 #[.agg #[.int .i64 S,.slice ao n cap,.slice ao2 n2 cap2]] w fun e w'=>e=.returned (.iface 85 (.int .i64 4))∧Below w.heap.size w w':=by
 have HB0:Hid (Below w.heap.size w (w.alloc (Obj.cells #[.int .i64 S,.slice ao n cap,.slice ao2 n2 cap2] 25))):=(Below.refl _ _).alloc (Nat.le_refl _) _;have g1:¬S<1:=by omega
 have g6:¬6<S:=by omega
 by_cases hn:(200:Int)<(n:Int)
 ·clear h;go_enter Tryz.func48,Tryz.ntmps48;go_wp2;go_ret;exact⟨rfl,HB0.out⟩
 have hn2:(8:Int)<(n2:Int):=by omega
 clear h;go_enter Tryz.func48,Tryz.ntmps48;go_wp2;go_ret;exact⟨rfl,HB0.out⟩
theorem check_walk (S:Int)(ao:Option Addr)(n cap:Nat)(ao2:Option Addr)(n2 cap2:Nat)(Ls:List ((Int×Int)×(Int×Int)))(Hs:List (ByteArray×(Int×Int)))(w:World)
 (hL:GS lnkE w (.slice ao n cap) Ls) (hH:GS hstE w (.slice ao2 n2 cap2) Hs) (h1:1≤S) (h6:S≤6) (hn:n≤200) (hn2:n2≤8) (T:Int) (hT:T=tpN S Ls Hs):
 Calls Tryz.prog 48 #[.agg #[.int .i64 S,.slice ao n cap,.slice ao2 n2 cap2]] w fun e w'=>e=.returned (noV T)∧Below w.heap.size w w':=by
 obtain⟨_,_,_,e1,hLn,_,_,hLa⟩:=hL.form;cases e1;obtain⟨_,_,_,e2,hHn,_,_,hHa⟩:=hH.form;cases e2;have HLN:Hid (Ls.length=n):=hLn;have HHN:Hid (Hs.length=n2):=hHn;have HLA:Hid (0<n→∃g o,ao=some ⟨g,o,none⟩∧GAt lnkE w g o Ls∧cap≤maxLen):=hLa;have HHA:Hid (0<n2→∃g o,ao2=some ⟨g,o,none⟩∧GAt hstE w g o Hs∧cap2≤maxLen):=hHa;have HT:Hid (T=if lkN S Ls []=0 then hoN S Hs [] (spsL Ls) else lkN S Ls []):=by
  show T=_;rw[hT,tpN,if_pos (by simp[h1,h6]),if_pos (by simp[hLn,hHn,hn,hn2])]
 have g1:¬S<1:=by omega
 have g6:¬6<S:=by omega
 have gn:¬(200:Int)<(n:Int):=by omega
 have gn2:¬(8:Int)<(n2:Int):=by omega
 clear hL hH hLn hHn hLa hHa hT h1 h6;have hX:=tbox_new w S (.slice ao n cap) (.slice ao2 n2 cap2) 25;have hB0:Below w.heap.size w (w.alloc (Obj.cells #[.int .i64 S,.slice ao n cap,.slice ao2 n2 cap2] 25)):=(Below.refl _ _).alloc (Nat.le_refl _) _;have HX:Hid (TBox (w.alloc (Obj.cells #[.int .i64 S,.slice ao n cap,.slice ao2 n2 cap2] 25)) w.heap.size S (.slice ao n cap) (.slice ao2 n2 cap2)):=hX;have HB0:Hid (Below w.heap.size w (w.alloc (Obj.cells #[.int .i64 S,.slice ao n cap,.slice ao2 n2 cap2] 25))):=hB0;have hsz0:(w.alloc (Obj.cells #[.int .i64 S,.slice ao n cap,.slice ao2 n2 cap2] 25)).heap.size=w.heap.size+1:=by simp
 clear hX hB0;go_enter Tryz.func48,Tryz.ntmps48;go_upto_region 5 with fail
 generalize hw0:w.alloc (Obj.cells #[.int .i64 S,.slice ao n cap,.slice ao2 n2 cap2] 25)=w0 at *
 have HW0:Hid (w.alloc (Obj.cells #[.int .i64 S,.slice ao n cap,.slice ao2 n2 cap2] 25)=w0):=hw0;have HSZ0:Hid (w0.heap.size=w.heap.size+1):=hsz0;clear hw0 hsz0;have hmk:=run_makeMap (P:=Tryz.prog) 157 w0;have HM1:Hid (MAt spotKey veI (w0.alloc (.map #[] 0)) w0.heap.size []):=mat_new spotKey veI w0;have hbm:Below w0.heap.size w0 (w0.alloc (.map #[] 0)):=(Below.refl _ _).alloc (Nat.le_refl _) _;have HX1:Hid (TBox (w0.alloc (.map #[] 0)) w.heap.size S (.slice ao n cap) (.slice ao2 n2 cap2)):=HX.out.later hbm;have HB1:Hid (Below w.heap.size w (w0.alloc (.map #[] 0))):=HB0.out.trans (hbm.mono HB0.out.size);clear hbm;obtain⟨d0,d1,d2⟩:=HX1.out;go_wp2;clear d0 d1 d2;obtain⟨w1,hw1⟩:∃x,w0.alloc (.map #[] 0)=x:=⟨_,rfl⟩;obtain⟨B,hBe⟩:∃x,w0.heap.size=x:=⟨_,rfl⟩;rw[hw1] at HX1 HB1;rw[hw1,hBe] at HM1 ⊢;have HBW:Hid (B=w.heap.size+1):=by
  show B=_;rw[←hBe,HSZ0.out]
 have HSZ1:Hid (w1.heap.size=w.heap.size+2):=by
  show _=_;rw[←hw1];have:=HSZ0.out;simp[this]
 clear hw1 hBe hmk HSZ0 HW0 HX HB0
 go_loopw [35] (fun i wr=>∃k:Nat,k≤n∧i=.int .i64 k∧(∃M,MAt spotKey veI wr B M∧TK sq M (spsL (Ls.take k)))∧lkN S Ls []=lkN S (Ls.drop k) (spsL (Ls.take k))∧But [B] w1 wr)
  (fun i _=>n-(intOf i).toNat)
 case atStart=>exact⟨0,by omega,rfl,⟨[],HM1.out,by simpa[spsL] using tk_nil sq⟩,by simp[spsL],But.refl _ _⟩
 case round =>
  obtain⟨k,hk,rfl,⟨M,hM,hTK⟩,hlk,hBt⟩:=hrel;have hnB:w.heap.size ∉ [B]:=by simp[HBW.out]
  have hXr:=HX1.out.but hBt hnB;have hBw:Below w.heap.size w wr:=HB1.out.trans (hBt.below (by rw[HSZ1.out];omega) (by simp[HBW.out]));have HXr:Hid (TBox wr w.heap.size S (.slice ao n cap) (.slice ao2 n2 cap2)):=hXr;have HBw:Hid (Below w.heap.size w wr):=hBw;have HM:Hid (MAt spotKey veI wr B M):=hM;have HTK:Hid (TK sq M (spsL (Ls.take k))):=hTK;have HLK:Hid (lkN S Ls []=lkN S (Ls.drop k) (spsL (Ls.take k))):=hlk;have HBt:Hid (But [B] w1 wr):=hBt;obtain⟨b0,b1,b2⟩:=hXr;have hlw:w.heap.size<wr.heap.size:=World.block_lt_of_cell? _ _ b0;clear hM hTK hlk hBt HM1;by_cases hlt:k<n
  ·obtain⟨g,o,hao,hc,_⟩:=HLA.out (by omega);subst hao;obtain⟨x0,x1,x2,x3,hkl,hLk,q0,q1,q2,q3⟩:=lnk_at (hc.later hBw) HLN.out hlt;have HLk:Hid (Ls[k]=((x0,x1),(x2,x3))):=hLk;have hBA:Below wr.heap.size wr (wr.alloc (Obj.cells #[.int .i64 x0,.int .i64 x1,.int .i64 x2,.int .i64 x3] 105)):=(Below.refl _ _).alloc (Nat.le_refl _) _;have HBA:Hid (Below wr.heap.size wr (wr.alloc (Obj.cells #[.int .i64 x0,.int .i64 x1,.int .i64 x2,.int .i64 x3] 105))):=hBA;have HUL:Hid ((spsL (Ls.take k)).length≤1000):=by
    show _≤1000;rw[sps_len,List.length_take];omega
   have HST:Hid (lkN S Ls []=if lk1 S (spsL (Ls.take k)) ((x0,x1),(x2,x3))=0 then lkN S (Ls.drop (k+1)) (spsL (Ls.take (k+1))) else lk1 S (spsL (Ls.take k)) ((x0,x1),(x2,x3))):=by
    show _=_;rw[HLK.out,List.drop_eq_getElem_cons hkl,lk_step,hLk,sps_take hkl,hLk]
   have HSP:Hid (spsL (Ls.take (k+1))=spsL (Ls.take k)++[(x0,x1),(x2,x3)]):=by
    show _=_;rw[sps_take hkl,hLk]
   clear hLk hBA hBw hc HLA
   go_wp2_with fail
   refine (lay_any S x0 x1 x2 x3 B M _ _ (HM.out.later HBA.out) HTK.out HUL.out).mono ?_;rintro e w3 ⟨rfl,hQ⟩;have hst:=HST.out
   generalize lk1 S (spsL (Ls.take k)) ((x0,x1),(x2,x3))=N at hQ hst ⊢
   have HST2:Hid (lkN S Ls []=if N=0 then lkN S (Ls.drop (k+1)) (spsL (Ls.take (k+1))) else N):=hst;obtain⟨M',hM',hTK',hBt'⟩:=hQ;have HM':Hid (MAt spotKey veI w3 B M'):=hM';have HTK':Hid (N=0→TK sq M' (spsL (Ls.take (k+1)))):=fun h=>by rw[HSP.out];exact hTK' h
   have HBt3:Hid (But [B] w1 w3):=(HBt.out.trans (But.of_below HBA.out)).trans hBt';have HBw3:Hid (Below w.heap.size w w3):=HB1.out.trans (HBt3.out.below (by rw[HSZ1.out];omega) (by simp[HBW.out]));clear hst HST hM' hTK' hBt' HSP HM HTK HLK HBt HBA HUL b0 b1 b2 q0 q1 q2 q3;by_cases hN:N=0
   ·subst hN;rw[no_ok rfl];have HTK2:Hid (TK sq M' (spsL (Ls.take (k+1)))):=HTK'.out rfl;have HLK2:Hid (lkN S Ls []=lkN S (Ls.drop (k+1)) (spsL (Ls.take (k+1)))):=by
     show _=_;rw[HST2.out,if_pos rfl]
    clear HTK' HST2;go_wp2;go_roundw
    case rel=>exact⟨k+1,by omega,by go_num,⟨M',HM'.out,HTK2.out⟩,HLK2.out,HBt3.out⟩
    case measure=>simp[intOf];omega
   rw[no_ne hN];have HTN:Hid (T=N):=by
    show _=_;have e:=HST2.out;rw[if_neg hN] at e;rw[HT.out,e,if_neg hN]
   have HNN:Hid (N≠0):=hN;clear hN HTK' HST2;go_wp2;go_ret;exact⟨by rw[HTN.out,no_ne HNN.out];rfl,HBw3.out⟩
  obtain rfl:k=n:=by omega
  have HLK0:Hid (lkN S Ls []=0):=by
   show _=_;rw[HLK.out,←HLN.out,List.drop_length];rfl
  have HTKL:Hid (TK sq M (spsL Ls)):=by
   show TK _ _ _;have h:=HTK.out;rw[←HLN.out,List.take_length] at h;exact h
  have HTL:Hid (T=hoN S Hs [] (spsL Ls)):=by
   show _=_;rw[HT.out,if_pos HLK0.out]
  have hwr:=HBt.out.size;rw[HSZ1.out] at hwr;obtain⟨w5,hw5⟩:∃x,x=wr:=⟨_,rfl⟩;subst hw5;have HWR:Hid (w.heap.size+2≤w5.heap.size):=hwr;clear HLK HTK HT HLK0 hBw hwr;go_upto_region 13 with fail;have hmk:=run_makeMap (P:=Tryz.prog) 159 w5;have hbm:Below w5.heap.size w5 (w5.alloc (.map #[] 0)):=(Below.refl _ _).alloc (Nat.le_refl _) _;have HM2:Hid (MAt spotKey veI (w5.alloc (.map #[] 0)) B M):=HM.out.later hbm;have HR2:Hid (MAt strKey veI (w5.alloc (.map #[] 0)) w5.heap.size []):=mat_new strKey veI w5;have hX2:TBox (w5.alloc (.map #[] 0)) w.heap.size S (.slice ao k cap) (.slice ao2 n2 cap2):=HXr.out.later hbm;have HX2:Hid (TBox (w5.alloc (.map #[] 0)) w.heap.size S (.slice ao k cap) (.slice ao2 n2 cap2)):=hX2;have HB2:Hid (Below w.heap.size w (w5.alloc (.map #[] 0))):=HBw.out.trans (hbm.mono HBw.out.size);obtain⟨d0,d1,d2⟩:=hX2;clear hbm b0 b1 b2 HXr HBw HM HBt HX1 HB1;go_wp2;obtain⟨w6,hw6⟩:∃x,w5.alloc (.map #[] 0)=x:=⟨_,rfl⟩;obtain⟨C,hCe⟩:∃x,w5.heap.size=x:=⟨_,rfl⟩;rw[hw6] at HM2 HX2 HB2 d0 d1 d2;rw[hw6,hCe] at HR2 ⊢;have HC2:Hid (w.heap.size+2≤C):=by
   show _≤_;rw[←hCe];exact HWR.out
  have HSZ6:Hid (w6.heap.size=C+1):=by
   show _=_;rw[←hw6,←hCe];simp
  clear hw6 hCe hmk HWR
  go_loopw [52] (fun i wr=>∃j:Nat,j≤n2∧i=.int .i64 j∧(∃M R,MAt spotKey veI wr B M∧MAt strKey veI wr C R∧TK sq M (spsL Ls++(Hs.take j).map (·.2))∧TK (fun a b=>a==b) R ((Hs.take j).map (·.1)))∧hoN S Hs [] (spsL Ls)=hoN S (Hs.drop j) ((Hs.take j).map (·.1)) (spsL Ls++(Hs.take j).map (·.2))∧But [B,C] w6 wr)
   (fun i _=>n2-(intOf i).toNat)
  case atStart=>exact⟨0,by omega,rfl,⟨M,[],HM2.out,HR2.out,by simpa using HTKL.out,tk_nil _⟩,by simp,But.refl _ _⟩
  case round =>
   obtain⟨j,hj,rfl,⟨M3,R3,hM3,hR3,hTM3,hTR3⟩,hho,hBt⟩:=hrel;have hnX:w.heap.size ∉ [B,C]:=by
    have h1:=HBW.out;have h2:=HC2.out;simp only[List.mem_cons,List.not_mem_nil,or_false,not_or];omega
   have hBC:B≠C:=by
    have h1:=HBW.out;have h2:=HC2.out;omega
   have hXr:=HX2.out.but hBt hnX;have hge:∀x∈[B,C],w.heap.size≤x:=by
    have h1:=HBW.out;have h2:=HC2.out;intro x hx;simp only[List.mem_cons,List.not_mem_nil,or_false] at hx;omega
   have hsz6:w.heap.size≤w6.heap.size:=HB2.out.size;have HGE:Hid (∀x∈[B,C],w.heap.size≤x):=hge;have hBw:Below w.heap.size w wr:=HB2.out.trans (hBt.below hsz6 hge);have HBw:Hid (Below w.heap.size w wr):=hBw;have HM3:Hid (MAt spotKey veI wr B M3):=hM3;have HR3:Hid (MAt strKey veI wr C R3):=hR3;have HTM3:Hid (TK sq M3 (spsL Ls++(Hs.take j).map (·.2))):=hTM3;have HTR3:Hid (TK (fun a b=>a==b) R3 ((Hs.take j).map (·.1))):=hTR3;have HHO:Hid (hoN S Hs [] (spsL Ls)=hoN S (Hs.drop j) ((Hs.take j).map (·.1)) (spsL Ls++(Hs.take j).map (·.2))):=hho;have HBt:Hid (But [B,C] w6 wr):=hBt;have HBC:Hid (B≠C):=hBC;obtain⟨b0,b1,b2⟩:=hXr;have hlw:w.heap.size<wr.heap.size:=World.block_lt_of_cell? _ _ b0;clear hM3 hR3 hTM3 hTR3 hho hBt HM2 HR2 hnX hge hBC d0 d1 d2;by_cases hlt2:j<n2
   ·obtain⟨g,o,hao,hc,_⟩:=HHA.out (by omega);subst hao;obtain⟨y0,y1,y2,hjl,hHk,q0,q1,q2⟩:=hst_at (hc.later hBw) HHN.out hlt2;have HHk:Hid (Hs[j]=(y0,(y1,y2))):=hHk;have HBA:Hid (Below wr.heap.size wr (wr.alloc (Obj.cells #[Value.string y0,.int .i64 y1,.int .i64 y2] 41))):=(Below.refl _ _).alloc (Nat.le_refl _) _;have HUL:Hid ((spsL Ls++(Hs.take j).map (·.2)).length≤1000):=by
     show _≤1000;rw[List.length_append,sps_len,List.length_map,List.length_take,HLN.out];omega
    have HZL:Hid (((Hs.take j).map (·.1)).length≤1000):=by
     show _≤1000;rw[List.length_map,List.length_take];omega
    have HS2:Hid (spsL Ls++(Hs.take (j+1)).map (·.2)=(spsL Ls++(Hs.take j).map (·.2))++[(y1,y2)]):=by
     show _=_;rw[List.take_succ_eq_append_getElem hjl,hHk];simp
    have HS1:Hid ((Hs.take (j+1)).map (·.1)=(Hs.take j).map (·.1)++[y0]):=by
     show _=_;rw[List.take_succ_eq_append_getElem hjl,hHk];simp
    have HST:Hid (hoN S Hs [] (spsL Ls)=if ho1 S ((Hs.take j).map (·.1)) (spsL Ls++(Hs.take j).map (·.2)) (y0,(y1,y2))=0 then hoN S (Hs.drop (j+1)) ((Hs.take (j+1)).map (·.1)) (spsL Ls++(Hs.take (j+1)).map (·.2)) else ho1 S ((Hs.take j).map (·.1)) (spsL Ls++(Hs.take j).map (·.2)) (y0,(y1,y2))):=by
     show _=_;rw[HHO.out,List.drop_eq_getElem_cons hjl,ho_step,hHk,HS1.out,HS2.out]
    clear hHk hBw hc HHA HLA
    go_wp2_with fail
    refine (settle_any S y0 y1 y2 B C HBC.out M3 R3 _ _ _ (HM3.out.later HBA.out) (HR3.out.later HBA.out) HTM3.out HTR3.out HUL.out HZL.out).mono ?_;rintro e w3 ⟨rfl,hQ⟩;have hst:=HST.out
    generalize ho1 S ((Hs.take j).map (·.1)) (spsL Ls++(Hs.take j).map (·.2)) (y0,(y1,y2))=N at hQ hst ⊢
    have HST2:Hid (hoN S Hs [] (spsL Ls)=if N=0 then hoN S (Hs.drop (j+1)) ((Hs.take (j+1)).map (·.1)) (spsL Ls++(Hs.take (j+1)).map (·.2)) else N):=hst;obtain⟨M',R',hM',hR',hTK',hBt'⟩:=hQ;have HM':Hid (MAt spotKey veI w3 B M'):=hM';have HR':Hid (MAt strKey veI w3 C R'):=hR';have HTK':Hid (N=0→TK sq M' (spsL Ls++(Hs.take (j+1)).map (·.2))∧TK (fun a b=>a==b) R' ((Hs.take (j+1)).map (·.1))):=fun h=>by rw[HS1.out,HS2.out];exact hTK' h
    have HBt3:Hid (But [B,C] w6 w3):=(HBt.out.trans (But.of_below HBA.out)).trans hBt';have HBw3:Hid (Below w.heap.size w w3):=HB2.out.trans (HBt3.out.below HB2.out.size HGE.out);clear hst HST hM' hR' hTK' hBt' HS1 HS2 HM3 HR3 HTM3 HTR3 HHO HBt HBA HUL HZL b0 b1 b2 q0 q1 q2;by_cases hN:N=0
    ·subst hN;rw[no_ok rfl];have HTK2:Hid (TK sq M' (spsL Ls++(Hs.take (j+1)).map (·.2))∧TK (fun a b=>a==b) R' ((Hs.take (j+1)).map (·.1))):=HTK'.out rfl;have HHO2:Hid (hoN S Hs [] (spsL Ls)=hoN S (Hs.drop (j+1)) ((Hs.take (j+1)).map (·.1)) (spsL Ls++(Hs.take (j+1)).map (·.2))):=by
      show _=_;rw[HST2.out,if_pos rfl]
     clear HTK' HST2;go_wp2;go_roundw
     case rel=>exact⟨j+1,by omega,by go_num,⟨M',R',HM'.out,HR'.out,HTK2.out.1,HTK2.out.2⟩,HHO2.out,HBt3.out⟩
     case measure=>simp[intOf];omega
    rw[no_ne hN];have HTN:Hid (T=N):=by
     show _=_;rw[HTL.out,HST2.out,if_neg hN]
    have HNN:Hid (N≠0):=hN;clear hN HTK' HST2;go_wp2;go_ret;exact⟨by rw[HTN.out,no_ne HNN.out];rfl,HBw3.out⟩
   obtain rfl:j=n2:=by omega
   have HT0:Hid (T=0):=by
    show _=_;rw[HTL.out,HHO.out,←HHN.out,List.drop_length];rfl
   clear hBw HHO HTM3 HTR3;go_wp2;go_ret;exact⟨by rw[HT0.out,no_ok rfl];rfl,HBw.out⟩
theorem check_any (S:Int)(ao:Option Addr)(n cap:Nat)(ao2:Option Addr)(n2 cap2:Nat)(Ls:List ((Int×Int)×(Int×Int)))(Hs:List (ByteArray×(Int×Int)))(w:World)
 (hL:GS lnkE w (.slice ao n cap) Ls) (hH:GS hstE w (.slice ao2 n2 cap2) Hs):
 Calls Tryz.prog 48 #[.agg #[.int .i64 S,.slice ao n cap,.slice ao2 n2 cap2]] w fun e w'=>e=.returned (noV (tpN S Ls Hs))∧Below w.heap.size w w':=by
 have hLn:=hL.len;have hHn:=hH.len;by_cases h1:1≤S∧S≤6
 ·by_cases h2:n≤200∧n2≤8
  ·exact check_walk S ao n cap ao2 n2 cap2 Ls Hs w hL hH h1.1 h1.2 h2.1 h2.2 _ rfl
  have e:tpN S Ls Hs=4:=by
   rw[tpN,if_pos (by simp[h1]),if_neg (by rw[hLn,hHn];simpa using fun h=>Nat.lt_of_not_le fun h3=>h2 ⟨h,h3⟩)]
  rw[e];exact check_full S ao n cap ao2 n2 cap2 w h1.1 h1.2 (by omega)
 have e:tpN S Ls Hs=1:=by
  rw[tpN,if_neg (by simpa using fun h=>Int.lt_of_not_ge fun h3=>h1 ⟨h,h3⟩)]
 rw[e];exact tcheck_range S _ _ w h1
theorem bcell {W w1:World}(hb:Below W.heap.size W w1):(∀b o,b<W.heap.size→w1.cell? ⟨b,o,none⟩=W.cell? ⟨b,o,none⟩)∧(∀b o,b<W.heap.size→w1.frozen? ⟨b,o,none⟩=W.frozen? ⟨b,o,none⟩):=
 ⟨fun b o h=>hb.cell (p:=⟨b,o,none⟩) h,fun b o h=>hb.frozen (p:=⟨b,o,none⟩) h⟩
theorem isHeader_yes (n:Int)(w:World)(h:hdrB n=true):
 Calls Tryz.prog 25 #[.int .i64 n] w fun e w'=>e=.returned (.bool true)∧w'=w:=by
 obtain⟨h1,h2⟩:=hdr_of h;clear h;go_enter Tryz.func25,Tryz.ntmps25;go_wp2;go_ret;exact⟨rfl,rfl⟩
theorem isHeader_no (n:Int)(w:World)(h:hdrB n=false):
 Calls Tryz.prog 25 #[.int .i64 n] w fun e w'=>e=.returned (.bool false)∧w'=w:=by
 rcases hdr_no h with h1 | h1
 ·clear h;go_enter Tryz.func25,Tryz.ntmps25;go_wp2;go_ret;exact⟨rfl,rfl⟩
 have h2:0≤n:=by omega
 have h3:decide (n<16)=false:=by simp;omega
 clear h;go_enter Tryz.func25,Tryz.ntmps25;go_wp2;go_ret;exact⟨rfl,rfl⟩
theorem check_range (m b:Int)(w:World)(h:rngB m b=false):
 Calls Tryz.prog 150 #[.agg #[.int .i64 m,.int .i64 b]] w fun e w'=>e=.returned (.iface 85 (.int .i64 1))∧Below w.heap.size w w':=by
 by_cases hm:hdrB m=true
 ·have hb:hdrB b=false:=by simpa[rngB,hm] using h
  clear h;go_enter Tryz.func150,Tryz.ntmps150
  go_wp2_with fail
  refine (isHeader_yes _ _ hm).mono ?_;rintro e w' ⟨rfl,rfl⟩
  go_wp2_with fail
  refine (isHeader_no _ _ hb).mono ?_;rintro e w' ⟨rfl,rfl⟩;go_wp2;go_ret;exact⟨rfl,(Below.refl _ _).alloc (Nat.le_refl _) _⟩
 have hm':hdrB m=false:=by simpa using hm
 clear h hm;go_enter Tryz.func150,Tryz.ntmps150
 go_wp2_with fail
 refine (isHeader_no _ _ hm').mono ?_;rintro e w' ⟨rfl,rfl⟩;go_wp2;go_ret;exact⟨rfl,(Below.refl _ _).alloc (Nat.le_refl _) _⟩
theorem check_shape (m b:Int)(w:World)(h:rngB m b=true)(h2:okB m b=false):
 Calls Tryz.prog 150 #[.agg #[.int .i64 m,.int .i64 b]] w fun e w'=>e=.returned (.iface 85 (.int .i64 3))∧Below w.heap.size w w':=by
 have hm:hdrB m=true:=by simp only[rngB,Bool.and_eq_true] at h;exact h.1
 have hb:hdrB b=true:=by simp only[rngB,Bool.and_eq_true] at h;exact h.2
 have hz:(bits .andNot .i64 b m==0)=false:=by simpa[okB,h] using h2
 clear h h2;go_enter Tryz.func150,Tryz.ntmps150
 go_wp2_with fail
 refine (isHeader_yes _ _ hm).mono ?_;rintro e w' ⟨rfl,rfl⟩
 go_wp2_with fail
 refine (isHeader_yes _ _ hb).mono ?_;rintro e w' ⟨rfl,rfl⟩;go_wp2;go_ret;exact⟨rfl,(Below.refl _ _).alloc (Nat.le_refl _) _⟩
theorem check_ok (m b:Int)(w:World)(h:okB m b=true):
 Calls Tryz.prog 150 #[.agg #[.int .i64 m,.int .i64 b]] w fun e w'=>e=.returned .nilIface∧Below w.heap.size w w':=by
 have hm:hdrB m=true:=hdr_mk (ok_of h).1;have hb:hdrB b=true:=hdr_mk (ok_of h).2;have hz:(bits .andNot .i64 b m==0)=true:=by simp only[okB,Bool.and_eq_true] at h;exact h.2
 clear h;go_enter Tryz.func150,Tryz.ntmps150
 go_wp2_with fail
 refine (isHeader_yes _ _ hm).mono ?_;rintro e w' ⟨rfl,rfl⟩
 go_wp2_with fail
 refine (isHeader_yes _ _ hb).mono ?_;rintro e w' ⟨rfl,rfl⟩;go_wp2;go_ret;exact⟨rfl,(Below.refl _ _).alloc (Nat.le_refl _) _⟩
theorem isRight_any (m b:Int)(w:World):
 Calls Tryz.prog 165 #[.agg #[.int .i64 m,.int .i64 b]] w fun e w'=>e=.returned (.bool (okB m b))∧Below w.heap.size w w':=by
 cases hr:rngB m b
 ·have ho:okB m b=false:=by simp[okB,hr]
  rw[ho];clear ho;go_enter Tryz.func165,Tryz.ntmps165
  go_wp2_with fail
  refine (check_range _ _ _ hr).mono ?_;rintro e w' ⟨rfl,hb⟩;go_wp2;go_ret;exact⟨rfl,((Below.refl _ _).alloc (Nat.le_refl _) _).trans (hb.mono (by simp))⟩
 cases ho:okB m b
 ·go_enter Tryz.func165,Tryz.ntmps165
  go_wp2_with fail
  refine (check_shape _ _ _ hr ho).mono ?_;rintro e w' ⟨rfl,hb⟩;go_wp2;go_ret;exact⟨rfl,((Below.refl _ _).alloc (Nat.le_refl _) _).trans (hb.mono (by simp))⟩
 go_enter Tryz.func165,Tryz.ntmps165
 go_wp2_with fail
 refine (check_ok _ _ _ ho).mono ?_;rintro e w' ⟨rfl,hb⟩;go_wp2;go_ret;exact⟨rfl,((Below.refl _ _).alloc (Nat.le_refl _) _).trans (hb.mono (by simp))⟩
theorem isHeader_any (n:Int)(w:World):
 Calls Tryz.prog 25 #[.int .i64 n] w fun e w'=>e=.returned (.bool (hdrB n))∧w'=w:=by
 cases h:hdrB n
 ·exact isHeader_no n w h
 exact isHeader_yes n w h
theorem has_any (m b h:Int)(w:World):
 Calls Tryz.prog 162 #[.agg #[.int .i64 m,.int .i64 b],.int .i64 h] w fun e w'=>e=.returned (.bool (hasB m b h))∧Below w.heap.size w w':=by
 cases ho:okB m b
 ·have e:hasB m b h=false:=by simp[hasB,ho]
  rw[e];clear e;go_enter Tryz.func162,Tryz.ntmps162
  go_wp2_with fail
  refine (isRight_any _ _ _).mono ?_;rintro e w1 ⟨rfl,hb1⟩;go_wp2;go_ret;exact⟨rfl,((Below.refl _ _).alloc (Nat.le_refl _) _).trans (hb1.mono (by simp))⟩
 cases hh:hdrB h
 ·have e:hasB m b h=false:=by simp[hasB,hh]
  rw[e];clear e;go_enter Tryz.func162,Tryz.ntmps162
  go_wp2_with fail
  refine (isRight_any _ _ _).mono ?_;rintro e w1 ⟨rfl,hb1⟩;rw[ho]
  go_wp2_with fail
  refine (isHeader_any _ _).mono ?_;rintro e w' ⟨rfl,rfl⟩;go_wp2;go_ret;exact⟨rfl,((Below.refl _ _).alloc (Nat.le_refl _) _).trans (hb1.mono (by simp))⟩
 have e:hasB m b h=(bits .and .i64 h m==b):=by simp[hasB,hh,ho]
 rw[e];clear e;go_enter Tryz.func162,Tryz.ntmps162
 go_wp2_with fail
 refine (isRight_any _ _ _).mono ?_;rintro e w1 ⟨rfl,hb1⟩;rw[ho];obtain⟨hc1,hf1⟩:=bcell hb1
 go_wp2_with fail
 refine (isHeader_any _ _).mono ?_;rintro e w' ⟨rfl,rfl⟩;go_wp2;go_ret;exact⟨rfl,((Below.refl _ _).alloc (Nat.le_refl _) _).trans (hb1.mono (by simp))⟩
theorem check_no (m b:Int)(w:World):
 Calls Tryz.prog 150 #[.agg #[.int .i64 m,.int .i64 b]] w fun e w'=>e=.returned (noV (refN m b))∧Below w.heap.size w w':=by
 cases hr:rngB m b
 ·have e:noV (refN m b)=.iface 85 (.int .i64 1):=by rw[refN_range hr];rfl
  rw[e];exact check_range m b w hr
 cases ho:okB m b
 ·have e:noV (refN m b)=.iface 85 (.int .i64 3):=by rw[refN_shape ho hr];rfl
  rw[e];exact check_shape m b w hr ho
 have e:noV (refN m b)=.nilIface:=by rw[refN_ok ho];rfl
 rw[e];exact check_ok m b w ho
theorem ruCheck_prio (p m b o s v:Int)(w:World)(h:ruP p o=false):
 Calls Tryz.prog 122 #[.agg #[.int .i64 p,.int .i64 m,.int .i64 b,.int .i64 o,.int .i64 s,.int .i64 v]] w fun e w'=>e=.returned (.iface 85 (.int .i64 1))∧Below w.heap.size w w':=by
 have hc:p<0∨(0≤p∧99<p)∨((0≤p∧p≤99)∧o<0)∨((0≤p∧p≤99)∧(0≤o∧4<o)):=by
  simp[ruP] at h;omega
 clear h
 rcases hc with h1 | ⟨h1,h2⟩ | ⟨⟨h1,h2⟩,h3⟩ | ⟨⟨h1,h2⟩,h3,h4⟩
 ·have e1:decide (p<0)=true:=by simp;omega
  go_enter Tryz.func122,Tryz.ntmps122;go_wp2;go_ret;exact⟨rfl,(Below.refl _ _).alloc (Nat.le_refl _) _⟩
 ·have e1:decide (p<0)=false:=by simp;omega
  have e2:decide (99<p)=true:=by simp;omega
  go_enter Tryz.func122,Tryz.ntmps122;go_wp2;go_ret;exact⟨rfl,(Below.refl _ _).alloc (Nat.le_refl _) _⟩
 ·have e1:decide (p<0)=false:=by simp;omega
  have e2:decide (99<p)=false:=by simp;omega
  have e3:decide (o<0)=true:=by simp;omega
  go_enter Tryz.func122,Tryz.ntmps122;go_wp2;go_ret;exact⟨rfl,(Below.refl _ _).alloc (Nat.le_refl _) _⟩
 have e1:decide (p<0)=false:=by simp;omega
 have e2:decide (99<p)=false:=by simp;omega
 have e3:decide (o<0)=false:=by simp;omega
 have e4:decide (4<o)=true:=by simp;omega
 go_enter Tryz.func122,Tryz.ntmps122;go_wp2;go_ret;exact⟨rfl,(Below.refl _ _).alloc (Nat.le_refl _) _⟩
theorem ruP_of {p o:Int}(h:ruP p o=true):decide (p<0)=false∧decide (99<p)=false∧decide (o<0)=false∧decide (4<o)=false:=by
 simp only[ruP,Bool.and_eq_true,decide_eq_true_eq] at h;refine⟨?_,?_,?_,?_⟩ <;> simp <;> omega
theorem ruCheck_set (p m b o s v:Int)(w:World)(h:ruP p o=true)(h2:rngB s v=false):
 Calls Tryz.prog 122 #[.agg #[.int .i64 p,.int .i64 m,.int .i64 b,.int .i64 o,.int .i64 s,.int .i64 v]] w fun e w'=>e=.returned (.iface 85 (.int .i64 1))∧Below w.heap.size w w':=by
 obtain⟨e1,e2,e3,e4⟩:=ruP_of h;clear h;cases hs:hdrB s
 ·clear h2;go_enter Tryz.func122,Tryz.ntmps122
  go_wp2_with fail
  refine (isHeader_no _ _ hs).mono ?_;rintro e w' ⟨rfl,rfl⟩;go_wp2;go_ret;exact⟨rfl,(Below.refl _ _).alloc (Nat.le_refl _) _⟩
 have hv:hdrB v=false:=by simpa[rngB,hs] using h2
 clear h2;go_enter Tryz.func122,Tryz.ntmps122
 go_wp2_with fail
 refine (isHeader_yes _ _ hs).mono ?_;rintro e w' ⟨rfl,rfl⟩
 go_wp2_with fail
 refine (isHeader_no _ _ hv).mono ?_;rintro e w' ⟨rfl,rfl⟩;go_wp2;go_ret;exact⟨rfl,(Below.refl _ _).alloc (Nat.le_refl _) _⟩
theorem ruCheck_cube (p m b o s v:Int)(w:World)(h:ruP p o=true)(h2:rngB s v=true)(h3:okB m b=false):
 Calls Tryz.prog 122 #[.agg #[.int .i64 p,.int .i64 m,.int .i64 b,.int .i64 o,.int .i64 s,.int .i64 v]] w fun e w'=>e=.returned (.iface 85 (.int .i64 (refN m b)))∧Below w.heap.size w w':=by
 obtain⟨e1,e2,e3,e4⟩:=ruP_of h;have hs:hdrB s=true:=by simp only[rngB,Bool.and_eq_true] at h2;exact h2.1
 have hv:hdrB v=true:=by simp only[rngB,Bool.and_eq_true] at h2;exact h2.2
 have hn:refN m b≠0:=by have:=ok_refN m b;rw[h3] at this;simpa using this
 clear h h2 h3;go_enter Tryz.func122,Tryz.ntmps122
 go_wp2_with fail
 refine (isHeader_yes _ _ hs).mono ?_;rintro e w' ⟨rfl,rfl⟩
 go_wp2_with fail
 refine (isHeader_yes _ _ hv).mono ?_;rintro e w' ⟨rfl,rfl⟩
 go_wp2_with fail
 refine (check_no _ _ _).mono ?_;rintro e w1 ⟨rfl,hb1⟩;rw[no_ne hn];go_wp2;go_ret;exact⟨rfl,((Below.refl _ _).alloc (Nat.le_refl _) _).trans (hb1.mono (by simp))⟩
theorem ruCheck_end (p m b o s v:Int)(w:World)(h:ruP p o=true)(h2:rngB s v=true)(h3:okB m b=true):
 Calls Tryz.prog 122 #[.agg #[.int .i64 p,.int .i64 m,.int .i64 b,.int .i64 o,.int .i64 s,.int .i64 v]] w fun e w'=>e=.returned (if ruSet o s v then .nilIface else .iface 85 (.int .i64 3))∧Below w.heap.size w w':=by
 obtain⟨e1,e2,e3,e4⟩:=ruP_of h;have hs:hdrB s=true:=by simp only[rngB,Bool.and_eq_true] at h2;exact h2.1
 have hv:hdrB v=true:=by simp only[rngB,Bool.and_eq_true] at h2;exact h2.2
 have hn:refN m b=0:=refN_ok h3;have hlt:w.heap.size<(w.alloc (Obj.cells #[.int .i64 p,.int .i64 m,.int .i64 b,.int .i64 o,.int .i64 s,.int .i64 v] 66)).heap.size:=by simp
 clear h h2 h3;cases ha:(bits .andNot .i64 v s==0)
 ·have e:ruSet o s v=false:=by simp[ruSet,ha]
  rw[e];clear e;simp only[Bool.false_eq_true,if_false];have ha2:(bits .andNot .i64 v s != 0)=true:=by simpa using ha
  go_enter Tryz.func122,Tryz.ntmps122
  go_wp2_with fail
  refine (isHeader_yes _ _ hs).mono ?_;rintro e w' ⟨rfl,rfl⟩
  go_wp2_with fail
  refine (isHeader_yes _ _ hv).mono ?_;rintro e w' ⟨rfl,rfl⟩
  go_wp2_with fail
  refine (check_no _ _ _).mono ?_;rintro e w1 ⟨rfl,hb1⟩;rw[no_ok hn];obtain⟨hc1,hf1⟩:=bcell hb1;have hB:=((Below.refl w.heap.size w).alloc (Nat.le_refl _) (Obj.cells #[.int .i64 p,.int .i64 m,.int .i64 b,.int .i64 o,.int .i64 s,.int .i64 v] 66)).trans (hb1.mono (by simp));clear hb1;go_wp2;go_ret;exact⟨rfl,hB⟩
 cases ho:(o==0)
 ·have e:ruSet o s v=true:=by simp[ruSet,ha,ho]
  rw[e];clear e;simp only[if_true];have ha2:(bits .andNot .i64 v s != 0)=false:=by simpa using ha
  go_enter Tryz.func122,Tryz.ntmps122
  go_wp2_with fail
  refine (isHeader_yes _ _ hs).mono ?_;rintro e w' ⟨rfl,rfl⟩
  go_wp2_with fail
  refine (isHeader_yes _ _ hv).mono ?_;rintro e w' ⟨rfl,rfl⟩
  go_wp2_with fail
  refine (check_no _ _ _).mono ?_;rintro e w1 ⟨rfl,hb1⟩;rw[no_ok hn];obtain⟨hc1,hf1⟩:=bcell hb1;have hB:=((Below.refl w.heap.size w).alloc (Nat.le_refl _) (Obj.cells #[.int .i64 p,.int .i64 m,.int .i64 b,.int .i64 o,.int .i64 s,.int .i64 v] 66)).trans (hb1.mono (by simp));clear hb1;go_wp2;go_ret;exact⟨rfl,hB⟩
 cases hz:(s==0)
 ·have e:ruSet o s v=false:=by simp[ruSet,ha,ho,hz]
  rw[e];clear e;simp only[Bool.false_eq_true,if_false];have ha2:(bits .andNot .i64 v s != 0)=false:=by simpa using ha
  go_enter Tryz.func122,Tryz.ntmps122
  go_wp2_with fail
  refine (isHeader_yes _ _ hs).mono ?_;rintro e w' ⟨rfl,rfl⟩
  go_wp2_with fail
  refine (isHeader_yes _ _ hv).mono ?_;rintro e w' ⟨rfl,rfl⟩
  go_wp2_with fail
  refine (check_no _ _ _).mono ?_;rintro e w1 ⟨rfl,hb1⟩;rw[no_ok hn];obtain⟨hc1,hf1⟩:=bcell hb1;have hB:=((Below.refl w.heap.size w).alloc (Nat.le_refl _) (Obj.cells #[.int .i64 p,.int .i64 m,.int .i64 b,.int .i64 o,.int .i64 s,.int .i64 v] 66)).trans (hb1.mono (by simp));clear hb1;go_wp2;go_ret;exact⟨rfl,hB⟩
 have e:ruSet o s v=true:=by simp[ruSet,ha,ho,hz]
 rw[e];clear e;simp only[if_true];have ha2:(bits .andNot .i64 v s != 0)=false:=by simpa using ha
 go_enter Tryz.func122,Tryz.ntmps122
 go_wp2_with fail
 refine (isHeader_yes _ _ hs).mono ?_;rintro e w' ⟨rfl,rfl⟩
 go_wp2_with fail
 refine (isHeader_yes _ _ hv).mono ?_;rintro e w' ⟨rfl,rfl⟩
 go_wp2_with fail
 refine (check_no _ _ _).mono ?_;rintro e w1 ⟨rfl,hb1⟩;rw[no_ok hn];obtain⟨hc1,hf1⟩:=bcell hb1;have hB:=((Below.refl w.heap.size w).alloc (Nat.le_refl _) (Obj.cells #[.int .i64 p,.int .i64 m,.int .i64 b,.int .i64 o,.int .i64 s,.int .i64 v] 66)).trans (hb1.mono (by simp));clear hb1;go_wp2;go_ret;exact⟨rfl,hB⟩
theorem ruCheck_any (p m b o s v:Int)(w:World):
 Calls Tryz.prog 122 #[.agg #[.int .i64 p,.int .i64 m,.int .i64 b,.int .i64 o,.int .i64 s,.int .i64 v]] w fun e w'=>e=.returned (noV (ruN p m b o s v))∧Below w.heap.size w w':=by
 cases h1:ruP p o
 ·have e:noV (ruN p m b o s v)=.iface 85 (.int .i64 1):=by simp[ruN,ruIn,h1,noV]
  rw[e];exact ruCheck_prio p m b o s v w h1
 cases h2:rngB s v
 ·have e:noV (ruN p m b o s v)=.iface 85 (.int .i64 1):=by simp[ruN,ruIn,h2,noV]
  rw[e];exact ruCheck_set p m b o s v w h1 h2
 cases h3:okB m b
 ·have hn:refN m b≠0:=by have:=ok_refN m b;rw[h3] at this;simpa using this
  have e:noV (ruN p m b o s v)=.iface 85 (.int .i64 (refN m b)):=by simp[ruN,ruIn,h1,h2,h3,noV,hn]
  rw[e];exact ruCheck_cube p m b o s v w h1 h2 h3
 have e:noV (ruN p m b o s v)=(if ruSet o s v then .nilIface else .iface 85 (.int .i64 3)):=by
  cases h4:ruSet o s v <;> simp[ruN,ruIn,h1,h2,h3,noV,h4]
 rw[e];exact ruCheck_end p m b o s v w h1 h2 h3
structure C6 (w:World)(g o:Nat)(r:Ru):Prop where
 c0:w.cell? ⟨g,o,none⟩=some (.int .i64 r.p)
 c1:w.cell? ⟨g,o+1,none⟩=some (.int .i64 r.m)
 c2:w.cell? ⟨g,o+2,none⟩=some (.int .i64 r.b)
 c3:w.cell? ⟨g,o+3,none⟩=some (.int .i64 r.o)
 c4:w.cell? ⟨g,o+4,none⟩=some (.int .i64 r.s)
 c5:w.cell? ⟨g,o+5,none⟩=some (.int .i64 r.v)
theorem C6.later {w w':World}{g o:Nat}{r:Ru}(h:C6 w g o r)(hb:Below w.heap.size w w'):C6 w' g o r:=
 ⟨cell_later hb h.c0,cell_later hb h.c1,cell_later hb h.c2,cell_later hb h.c3,cell_later hb h.c4,cell_later hb h.c5⟩
theorem C6.new (w:World)(p m b o s v:Int)(t:TypeId):C6 (w.alloc (Obj.cells #[.int .i64 p,.int .i64 m,.int .i64 b,.int .i64 o,.int .i64 s,.int .i64 v] t)) w.heap.size 0 ⟨p,m,b,o,s,v⟩:=by
 refine⟨?_,?_,?_,?_,?_,?_⟩ <;> simp
def RAt (w:World)(g o:Nat)(L:List Ru):Prop:=∀i (h:i<L.length),C6 w g (o+i*6) L[i]
theorem RAt.later {w w':World}{g o:Nat}{L:List Ru}(h:RAt w g o L)(hb:Below w.heap.size w w'):RAt w' g o L:=fun i hi=>(h i hi).later hb
theorem RAt.take {w:World}{g o:Nat}{L:List Ru}(h:RAt w g o L)(k:Nat):RAt w g o (L.take k):=by
 intro i hi;rw[List.getElem_take];exact h i (by simp at hi;omega)
def SR (w:World)(v:Value)(L:List Ru):Prop:=
 (∃ao cap,v=.slice ao 0 cap∧L=[])∨∃g o cap,v=.slice (some ⟨g,o,none⟩) L.length cap∧L.length≤cap∧cap≤maxLen∧RAt w g o L
theorem SR.later {w w':World}{v:Value}{L:List Ru}(h:SR w v L)(hb:Below w.heap.size w w'):SR w' v L:=by
 rcases h with h | ⟨g,o,cap,h1,h2,h3,h4⟩
 ·exact .inl h
 exact .inr ⟨g,o,cap,h1,h2,h3,h4.later hb⟩
theorem RAt.at {w:World}{g o:Nat}{L:List Ru}(h:RAt w g o L){n k:Nat}(hn:L.length=n)(hk:k<n):
 ∃ (p m b q s v:Int) (hl:k<L.length),L[k]=⟨p,m,b,q,s,v⟩∧(w.cell? ⟨g,o+k*6,none⟩=some (.int .i64 p)∧w.cell? ⟨g,o+k*6+1,none⟩=some (.int .i64 m)∧w.cell? ⟨g,o+k*6+2,none⟩=some (.int .i64 b) ∧
   w.cell? ⟨g,o+k*6+3,none⟩=some (.int .i64 q)∧w.cell? ⟨g,o+k*6+4,none⟩=some (.int .i64 s)∧w.cell? ⟨g,o+k*6+5,none⟩=some (.int .i64 v)):=
 have hl:k<L.length:=by omega
 have c:=h k hl
 ⟨_,_,_,_,_,_,hl,rfl,c.c0,c.c1,c.c2,c.c3,c.c4,c.c5⟩
theorem key_ways (p m b o s v p' m' b' o' s' v':Int):
 ((p==p')=false∧keyB ⟨p,m,b,o,s,v⟩ ⟨p',m',b',o',s',v'⟩=false)∨((p==p')=true∧(m==m')=false∧keyB ⟨p,m,b,o,s,v⟩ ⟨p',m',b',o',s',v'⟩=false) ∨
 ((p==p')=true∧(m==m')=true∧(b==b')=false∧keyB ⟨p,m,b,o,s,v⟩ ⟨p',m',b',o',s',v'⟩=false)∨((p==p')=true∧(m==m')=true∧(b==b')=true∧keyB ⟨p,m,b,o,s,v⟩ ⟨p',m',b',o',s',v'⟩=true):=by
 rw[key_eq];by_cases h1:p=p' <;> by_cases h2:m=m' <;> by_cases h3:b=b' <;> simp[h1,h2,h3]
theorem clash_any (p m b o s v p' m' b' o' s' v':Int)(w:World):
 Calls Tryz.prog 147 #[.agg #[.int .i64 p,.int .i64 m,.int .i64 b,.int .i64 o,.int .i64 s,.int .i64 v],.agg #[.int .i64 p',.int .i64 m',.int .i64 b',.int .i64 o',.int .i64 s',.int .i64 v']] w fun e w'=>e=.returned (.bool (keyB ⟨p,m,b,o,s,v⟩ ⟨p',m',b',o',s',v'⟩))∧Below w.heap.size w w':=by
 have HB:Hid (∀o1 o2,Below w.heap.size w ((w.alloc o1).alloc o2)):=fun o1 o2=>((Below.refl _ _).alloc (Nat.le_refl _) o1).alloc (by simp) o2
 rcases key_ways p m b o s v p' m' b' o' s' v' with ⟨e1,e⟩ | ⟨e1,e2,e⟩ | ⟨e1,e2,e3,e⟩ | ⟨e1,e2,e3,e⟩
 all_goals
  rw[e];clear e;go_enter Tryz.func147,Tryz.ntmps147;go_wp2;go_ret;exact⟨rfl,HB.out _ _⟩
def Asks (w:World)(f:FuncId)(c:Value)(P:Ru→Bool):Prop:=
 ∀ (p m b o s v:Int) (W:World),Below w.heap.size w W →
   Calls Tryz.prog f #[.agg #[.int .i64 p,.int .i64 m,.int .i64 b,.int .i64 o,.int .i64 s,.int .i64 v],c] W fun e w'=>e=.returned (.bool (P ⟨p,m,b,o,s,v⟩))∧Below W.heap.size W w'
theorem Asks.later {w w':World}{f:FuncId}{c:Value}{P:Ru→Bool}(h:Asks w f c P)(hb:Below w.heap.size w w'):Asks w' f c P:=
 fun p m b o s v W hW=>h p m b o s v W (hb.trans (hW.mono hb.size))
theorem table1_any (p m b o s v:Int)(r:Ru)(B:Nat)(w:World)(hc:C6 w B 0 r):
 Calls Tryz.prog 146 #[.agg #[.int .i64 p,.int .i64 m,.int .i64 b,.int .i64 o,.int .i64 s,.int .i64 v],.pointer (some ⟨B,0,none⟩)] w fun e w'=>e=.returned (.bool (keyB ⟨p,m,b,o,s,v⟩ r))∧Below w.heap.size w w':=by
 obtain⟨p',m',b',o',s',v'⟩:=r;obtain⟨c0,c1,c2,c3,c4,c5⟩:=hc;simp only[Nat.zero_add] at c0 c1 c2 c3 c4 c5;have hlt:B<w.heap.size:=World.block_lt_of_cell? _ _ c0;go_enter Tryz.func146,Tryz.ntmps146
 go_wp2_with fail
 refine (clash_any _ _ _ _ _ _ _ _ _ _ _ _ _).mono ?_;rintro e w1 ⟨rfl,hb1⟩;go_wp2;go_ret;exact⟨rfl,((Below.refl _ _).alloc (Nat.le_refl _) _).trans (hb1.mono (by simp))⟩
theorem table1_asks (r:Ru)(B:Nat)(w:World)(hc:C6 w B 0 r):Asks w 146 (.pointer (some ⟨B,0,none⟩)) (fun a=>keyB a r):=
 fun p m b o s v W hW=>table1_any p m b o s v r B W (hc.later hW)
theorem any_nextR {L:List Ru}{f:Ru→Bool}{k:Nat}(hk:k<L.length)(h:(L.take k).any f=false)(h2:f L[k]=false):(L.take (k+1)).any f=false:=by
 rw[List.take_succ_eq_append_getElem hk];simp only[List.any_append,h,List.any_cons,List.any_nil,h2,Bool.or_false]
theorem any_hitR {L:List Ru}{f:Ru→Bool}{k:Nat}(hk:k<L.length)(h2:f L[k]=true):L.any f=true:=List.any_eq_true.2 ⟨_,List.getElem_mem hk,h2⟩
def ixP (f:Ru→Bool)(L:List Ru):Int:=if L.any f then (L.findIdx f:Int) else -1
theorem ixP_hit {L:List Ru}{f:Ru→Bool}{k:Nat}(hk:k<L.length)(h:(L.take k).any f=false)(h2:f L[k]=true):ixP f L=k:=by
 rw[ixP,any_hitR hk h2,if_pos rfl]
 congr 1
 rw[List.findIdx_eq hk];refine⟨h2,fun j hj=>?_⟩;rw[List.any_eq_false] at h;have:=h L[j] (by rw[List.mem_take_iff_getElem];exact⟨j,by omega,rfl⟩);simpa using this
theorem ixP_no {L:List Ru}{f:Ru→Bool}(h:L.any f=false):ixP f L = -1:=by simp[ixP,h]
theorem ixP_any (L:List Ru)(f:Ru→Bool):decide (0≤ixP f L)=L.any f:=by
 unfold ixP;cases L.any f
 ·simp
 simp
theorem SR.form {w:World}{v:Value}{L:List Ru}(h:SR w v L):∃ao n cap,v=.slice ao n cap∧L.length=n∧n≤maxLen∧n≤cap∧(0<n→∃g o,ao=some ⟨g,o,none⟩∧RAt w g o L∧cap≤maxLen):=by
 rcases h with ⟨ao,cap,rfl,rfl⟩ | ⟨g,o,cap,rfl,h1,h2,h3⟩
 ·exact⟨ao,0,cap,rfl,rfl,Nat.zero_le _,Nat.zero_le _,fun h=>absurd h (by omega)⟩
 exact⟨_,_,cap,rfl,rfl,Nat.le_trans h1 h2,h1,fun _=>⟨g,o,rfl,h3,h2⟩⟩
theorem idxF (ao:Option Addr)(n cap:Nat)(f:FuncId)(c:Value)(P:Ru→Bool)(L:List Ru)(w:World)(hn:L.length=n)(hn2:n≤maxLen)(ha:0<n→∃g o,ao=some ⟨g,o,none⟩∧RAt w g o L∧cap≤maxLen)(he:∀args w,(callFunc f args).run Tryz.prog w=.ok (.enter f args) w)(hf:Asks w f c P):
 Calls Tryz.prog 161 #[.slice ao n cap,.func (Fn.func f) #[] #[c]] w fun e w'=>e=.returned (.int .i64 (ixP P L))∧Below w.heap.size w w':=by
 have HN:Hid (L.length=n):=hn;have HF:Hid (Asks w f c P):=hf;have HA:Hid (0<n→∃g o,ao=some ⟨g,o,none⟩∧RAt w g o L∧cap≤maxLen):=ha;unfold maxLen at hn2;clear hn hf ha;go_enter Tryz.func161,Tryz.ntmps161;go_wp2
 go_loopw [8] (fun i wr=>∃k:Nat,k≤n∧i=.int .i64 k∧(L.take k).any P=false∧Below w.heap.size w wr)
  (fun i _=>n-(intOf i).toNat)
 case atStart=>exact⟨0,by omega,rfl,by simp,Below.refl _ _⟩
 case round =>
  obtain⟨k,hk,rfl,hno,hB⟩:=hrel;have HB:Hid (Below w.heap.size w wr):=hB;have HNO:Hid ((L.take k).any P=false):=hno;clear hno;by_cases hlt:k<n
  ·obtain⟨g,o,hao,hc,_⟩:=HA.out (by omega);subst hao;obtain⟨p,m,b,q,s,v,hkl,hL,q0,q1,q2,q3,q4,q5⟩:=(hc.later hB).at HN.out hlt;have HL:Hid (L[k]=⟨p,m,b,q,s,v⟩):=hL;clear hL hB;cases ho:P ⟨p,m,b,q,s,v⟩
   ·go_wp2_with fail
    refine (HF.out p m b q s v _ HB.out).mono ?_;rintro e w1 ⟨rfl,hb1⟩;rw[ho];have HB1:=HB.out.trans (hb1.mono HB.out.size);clear hb1;go_wp2;go_roundw
    case rel=>exact⟨k+1,by omega,by go_num,any_nextR hkl HNO.out (by rw[HL.out];exact ho),HB1⟩
    case measure=>simp[intOf];omega
   go_wp2_with fail
   refine (HF.out p m b q s v _ HB.out).mono ?_;rintro e w1 ⟨rfl,hb1⟩;rw[ho];go_wp2;go_ret;exact⟨by rw[ixP_hit hkl HNO.out (by rw[HL.out];exact ho)];rfl,HB.out.trans (hb1.mono HB.out.size)⟩
  obtain rfl:k=n:=by omega
  go_wp2;go_ret;exact⟨by have:=HNO.out;rw[←HN.out,List.take_length] at this;rw[ixP_no this];rfl,HB.out⟩
theorem containsF (ao:Option Addr)(n cap:Nat)(f:FuncId)(c:Value)(P:Ru→Bool)(L:List Ru)(w:World)(hn:L.length=n)(hn2:n≤maxLen)(ha:0<n→∃g o,ao=some ⟨g,o,none⟩∧RAt w g o L∧cap≤maxLen)(he:∀args w,(callFunc f args).run Tryz.prog w=.ok (.enter f args) w)(hf:Asks w f c P):
 Calls Tryz.prog 145 #[.slice ao n cap,.func (Fn.func f) #[] #[c]] w fun e w'=>e=.returned (.bool (L.any P))∧Below w.heap.size w w':=by
 rw[←ixP_any];obtain⟨x,hx⟩:∃x,x=ixP P L:=⟨_,rfl⟩;have HX:Hid (x=ixP P L):=hx;rw[←hx];clear hx;go_enter Tryz.func145,Tryz.ntmps145
 go_wp2_with fail
 refine (idxF ao n cap f c P L _ hn hn2 ha he hf).mono ?_;rintro e w1 ⟨rfl,hb1⟩;rw[←HX.out];go_wp2;go_ret;exact⟨rfl,hb1⟩
theorem containsR_any (g o cap n B:Nat)(r:Ru)(L:List Ru)(w:World)(hc:RAt w g o L)(hn:L.length=n)(hn2:n≤maxLen)(hcap:cap≤maxLen)(hr:C6 w B 0 r):
 Calls Tryz.prog 145 #[.slice (some ⟨g,o,none⟩) n cap,.func (Fn.func 146) #[] #[.pointer (some ⟨B,0,none⟩)]] w fun e w'=>e=.returned (.bool (L.any (fun a=>keyB a r)))∧Below w.heap.size w w':=
 containsF _ n cap _ _ _ L w hn hn2 (fun _=>⟨g,o,rfl,hc,hcap⟩) (enters_of Tryz.func146 (by kernel_rfl) rfl) (table1_asks r B w hr)
theorem tb_long {L:List Ru}(h:12<L.length):tbN L=4:=by simp[tbN,h]
theorem tb_at {L:List Ru}(h:L.length≤12){k:Nat}(hk:k<L.length){x:Int}(h1:tbTo L (k+1)=x)(h2:x≠0):tbN L=x:=by
 subst h1;rw[tbN,if_neg (by omega)];exact to_le h2 hk
theorem to_bad {L:List Ru}{k:Nat}{r:Ru}(hk:k<L.length)(hr:L[k]=r)(h:tbTo L k=0)(h2:r.n≠0):tbTo L (k+1)=r.n:=by
 rw[tbTo,if_pos h,getD_at hk,hr,if_neg h2]
theorem to_clash {L:List Ru}{k:Nat}{r:Ru}(hk:k<L.length)(hr:L[k]=r)(h:tbTo L k=0)(h2:r.n=0)(h3:(L.take k).any (fun a=>keyB a r)=true):tbTo L (k+1)=7:=by
 rw[tbTo,if_pos h,getD_at hk,hr,if_pos h2,h3];rfl
theorem to_next {L:List Ru}{k:Nat}{r:Ru}(hk:k<L.length)(hr:L[k]=r)(h:tbTo L k=0)(h2:r.n=0)(h3:(L.take k).any (fun a=>keyB a r)=false):tbTo L (k+1)=0:=by
 rw[tbTo,if_pos h,getD_at hk,hr,if_pos h2,h3];rfl
theorem table_some (g o cap n:Nat)(L:List Ru)(w:World)(hc:RAt w g o L)(hn:L.length=n)(hl:n≤12)(hcap:n≤cap)(hcap2:cap≤maxLen):
 Calls Tryz.prog 119 #[.slice (some ⟨g,o,none⟩) n cap] w fun e w'=>e=.returned (noV (tbN L))∧Below w.heap.size w w':=by
 have HN:Hid (L.length=n):=hn;unfold maxLen at hcap2;clear hn;go_enter Tryz.func119,Tryz.ntmps119;go_wp2
 go_loopw [12] (fun i wr=>∃k:Nat,k≤n∧i=.int .i64 k∧tbTo L k=0∧Below w.heap.size w wr) (fun i _=>n-(intOf i).toNat)
 case atStart=>exact⟨0,by omega,rfl,rfl,Below.refl _ _⟩
 case round =>
  obtain⟨k,hk,rfl,hno,hB⟩:=hrel;have HB:Hid (Below w.heap.size w wr):=hB;have HNO:Hid (tbTo L k=0):=hno;clear hno;by_cases hlt:k<n
  ·obtain⟨p,m,b,q,s,v,hkl,hL,q0,q1,q2,q3,q4,q5⟩:=(hc.later hB).at HN.out hlt;have HL:Hid (L[k]=⟨p,m,b,q,s,v⟩):=hL;have HC6:=C6.new wr p m b q s v 66;have HRT:=((hc.later hB).later ((Below.refl _ _).alloc (Nat.le_refl _) (Obj.cells #[.int .i64 p,.int .i64 m,.int .i64 b,.int .i64 q,.int .i64 s,.int .i64 v] 66))).take k;have HTL:Hid ((L.take k).length=k):=by show (L.take k).length=k;simp;omega
   have hk2:k≤cap:=by omega
   clear hL hB;by_cases ho:ruN p m b q s v=0
   ·go_wp2_with fail
    refine (ruCheck_any _ _ _ _ _ _ _).mono ?_;rintro e w1 ⟨rfl,hb1⟩;rw[no_ok ho];have HB1:=HB.out.trans (((Below.refl _ _).alloc (Nat.le_refl _) _).trans (hb1.mono (by simp)) |>.mono HB.out.size);have HC7:=HC6.later hb1;have HR7:=HRT.later hb1;clear hb1 HC6 HRT;cases ho2:(L.take k).any (fun a=>keyB a ⟨p,m,b,q,s,v⟩)
    ·go_wp2_with fail
     refine (containsR_any _ _ _ k _ ⟨p,m,b,q,s,v⟩ (L.take k) _ HR7 HTL.out (by unfold maxLen;omega) (by unfold maxLen;omega) HC7).mono ?_;rintro e w2 ⟨rfl,hb2⟩;rw[ho2];have HB2:=HB1.trans (hb2.mono HB1.size);clear hb2;go_wp2;go_roundw
     case rel=>exact⟨k+1,by omega,by go_num,to_next hkl HL.out HNO.out ho ho2,HB2⟩
     case measure=>simp[intOf];omega
    go_wp2_with fail
    refine (containsR_any _ _ _ k _ ⟨p,m,b,q,s,v⟩ (L.take k) _ HR7 HTL.out (by unfold maxLen;omega) (by unfold maxLen;omega) HC7).mono ?_;rintro e w2 ⟨rfl,hb2⟩;rw[ho2];have HB2:=HB1.trans (hb2.mono HB1.size);clear hb2;go_wp2;go_ret;refine⟨?_,HB2⟩;rw[tb_at (by rw[HN.out];exact hl) hkl (to_clash hkl HL.out HNO.out ho ho2) (by decide)];rfl
   go_wp2_with fail
   refine (ruCheck_any _ _ _ _ _ _ _).mono ?_;rintro e w1 ⟨rfl,hb1⟩;rw[no_ne ho];have HB1:=HB.out.trans (((Below.refl _ _).alloc (Nat.le_refl _) _).trans (hb1.mono (by simp)) |>.mono HB.out.size);clear hb1;go_wp2;go_ret;refine⟨?_,HB1⟩;rw[tb_at (by rw[HN.out];exact hl) hkl (to_bad hkl HL.out HNO.out ho) ho,no_ne (show Ru.n ⟨p,m,b,q,s,v⟩≠0 from ho)];rfl
  obtain rfl:k=n:=by omega
  go_wp2;go_ret;refine⟨?_,HB.out⟩;have e1:tbN L=0:=by
   rw[tbN,if_neg (by rw[HN.out];omega),HN.out];exact HNO.out
  rw[e1];rfl
theorem table_long (ao:Option Addr)(cap n:Nat)(w:World)(hl:12<n):
 Calls Tryz.prog 119 #[.slice ao n cap] w fun e w'=>e=.returned (.iface 85 (.int .i64 4))∧Below w.heap.size w w':=by
 go_enter Tryz.func119,Tryz.ntmps119;go_wp2;go_ret;exact⟨rfl,Below.refl _ _⟩
theorem table_nil (ao:Option Addr)(cap:Nat)(w:World):
 Calls Tryz.prog 119 #[.slice ao 0 cap] w fun e w'=>e=.returned .nilIface∧Below w.heap.size w w':=by
 go_enter Tryz.func119,Tryz.ntmps119;go_wp2
 go_loopw [12] (fun i wr=>i=.int .i64 0∧wr=w) (fun i _=>0)
 case atStart=>exact⟨rfl,rfl⟩
 case round =>
  obtain⟨rfl,rfl⟩:=hrel;go_wp2;go_ret;exact⟨rfl,Below.refl _ _⟩
theorem table_any (v:Value)(L:List Ru)(w:World)(h:SR w v L):
 Calls Tryz.prog 119 #[v] w fun e w'=>e=.returned (noV (tbN L))∧Below w.heap.size w w':=by
 rcases h with ⟨ao,cap,rfl,rfl⟩ | ⟨g,o,cap,rfl,h1,h2,hc⟩
 ·exact table_nil ao cap w
 by_cases h12:12<L.length
 ·rw[tb_long h12];exact table_long _ _ _ _ h12
 exact table_some _ _ _ _ L w hc rfl (by omega) h1 h2
def TAt (w:World)(g o:Nat)(Ts:List (List Ru)):Prop:=∀i (h:i<Ts.length),∃ao n cap,w.cell? ⟨g,o+i,none⟩=some (.slice ao n cap)∧SR w (.slice ao n cap) Ts[i]
theorem TAt.later {w w':World}{g o:Nat}{Ts:List (List Ru)}(h:TAt w g o Ts)(hb:Below w.heap.size w w'):TAt w' g o Ts:=fun i hi=>by
 obtain⟨ao,n,cap,h1,h2⟩:=h i hi;exact⟨ao,n,cap,cell_later hb h1,h2.later hb⟩
def TS (w:World)(v:Value)(Ts:List (List Ru)):Prop:=
 (∃ao cap,v=.slice ao 0 cap∧Ts=[])∨∃g o cap,v=.slice (some ⟨g,o,none⟩) Ts.length cap∧Ts.length≤cap∧cap≤maxLen∧TAt w g o Ts
theorem TS.later {w w':World}{v:Value}{Ts:List (List Ru)}(h:TS w v Ts)(hb:Below w.heap.size w w'):TS w' v Ts:=by
 rcases h with h | ⟨g,o,cap,h1,h2,h3,h4⟩
 ·exact .inl h
 exact .inr ⟨g,o,cap,h1,h2,h3,h4.later hb⟩
theorem TS.form {w:World}{v:Value}{Ts:List (List Ru)}(h:TS w v Ts):∃ao n cap,v=.slice ao n cap∧Ts.length=n∧n≤maxLen∧n≤cap∧(0<n→∃g o,ao=some ⟨g,o,none⟩∧TAt w g o Ts∧cap≤maxLen):=by
 rcases h with ⟨ao,cap,rfl,rfl⟩ | ⟨g,o,cap,rfl,h1,h2,h3⟩
 ·exact⟨ao,0,cap,rfl,rfl,Nat.zero_le _,Nat.zero_le _,fun h=>absurd h (by omega)⟩
 exact⟨_,_,cap,rfl,rfl,Nat.le_trans h1 h2,h1,fun _=>⟨g,o,rfl,h3,h2⟩⟩
theorem TS.len {w:World}{ao:Option Addr}{n cap:Nat}{Ts:List (List Ru)}(h:TS w (.slice ao n cap) Ts):Ts.length=n:=by
 rcases h with ⟨_,_,e,rfl⟩ | ⟨_,_,_,e,_⟩
 ·simp at e;simp[e]
 simp at e;exact e.2.1.symm
theorem getT {Ts:List (List Ru)}{k:Nat}(hk:k<Ts.length):Ts.getD k []=Ts[k]:=by simp[List.getD,hk]
def NeBox (W:World)(g:Nat)(S:Int)(v1 v2 v3:Value):Prop:=W.cell? ⟨g,0,none⟩=some (.int .i64 S)∧W.cell? ⟨g,1,none⟩=some v1∧W.cell? ⟨g,2,none⟩=some v2∧W.cell? ⟨g,3,none⟩=some v3
theorem nebox_new (w:World)(S:Int)(v1 v2 v3:Value)(t:TypeId):NeBox (w.alloc (Obj.cells #[.int .i64 S,v1,v2,v3] t)) w.heap.size S v1 v2 v3:=by
 refine⟨?_,?_,?_,?_⟩ <;> simp
theorem NeBox.later {W W':World}{g:Nat}{S:Int}{v1 v2 v3:Value}(h:NeBox W g S v1 v2 v3)(hb:Below W.heap.size W W'):NeBox W' g S v1 v2 v3:=
 ⟨cell_later hb h.1,cell_later hb h.2.1,cell_later hb h.2.2.1,cell_later hb h.2.2.2⟩
theorem ncheck_any (S:Int)(ao:Option Addr)(n cap:Nat)(ao2:Option Addr)(n2 cap2:Nat)(ao3:Option Addr)(n3 cap3:Nat)(Ls:List ((Int×Int)×(Int×Int)))(Hs:List (ByteArray×(Int×Int)))(Ts:List (List Ru))(w:World)
 (hL:GS lnkE w (.slice ao n cap) Ls) (hH:GS hstE w (.slice ao2 n2 cap2) Hs) (hT:TS w (.slice ao3 n3 cap3) Ts):
 Calls Tryz.prog 74 #[.agg #[.int .i64 S,.slice ao n cap,.slice ao2 n2 cap2,.slice ao3 n3 cap3]] w fun e w'=>e=.returned (noV (ntN S Ls Hs Ts))∧Below w.heap.size w w':=by
 have hb1:Below w.heap.size w (w.alloc (Obj.cells #[.int .i64 S,.slice ao n cap,.slice ao2 n2 cap2,.slice ao3 n3 cap3] 28)):=(Below.refl _ _).alloc (Nat.le_refl _) _;obtain⟨C,hC⟩:∃C,C=ntN S Ls Hs Ts:=⟨_,rfl⟩;have HC:Hid (C=ntN S Ls Hs Ts):=hC;rw[←hC];have HL2:Hid (GS lnkE (w.alloc (Obj.cells #[.int .i64 S,.slice ao n cap,.slice ao2 n2 cap2,.slice ao3 n3 cap3] 28)) (.slice ao n cap) Ls):=hL.later hb1;have HH2:Hid (GS hstE (w.alloc (Obj.cells #[.int .i64 S,.slice ao n cap,.slice ao2 n2 cap2,.slice ao3 n3 cap3] 28)) (.slice ao2 n2 cap2) Hs):=hH.later hb1;have HT2:Hid (TS (w.alloc (Obj.cells #[.int .i64 S,.slice ao n cap,.slice ao2 n2 cap2,.slice ao3 n3 cap3] 28)) (.slice ao3 n3 cap3) Ts):=hT.later hb1;have HB2:Hid (Below w.heap.size w (w.alloc (Obj.cells #[.int .i64 S,.slice ao n cap,.slice ao2 n2 cap2,.slice ao3 n3 cap3] 28))):=hb1;have HX:Hid (NeBox (w.alloc (Obj.cells #[.int .i64 S,.slice ao n cap,.slice ao2 n2 cap2,.slice ao3 n3 cap3] 28)) w.heap.size S (.slice ao n cap) (.slice ao2 n2 cap2) (.slice ao3 n3 cap3)):=nebox_new w S _ _ _ 28;clear hC hb1 hL hH hT;go_enter Tryz.func74,Tryz.ntmps74
 go_wp2_with fail
 refine (check_any S ao n cap ao2 n2 cap2 Ls Hs _ HL2.out HH2.out).mono ?_;rintro e w1 ⟨rfl,hb1⟩;obtain⟨T,hT⟩:∃T,T=tpN S Ls Hs:=⟨_,rfl⟩;have HT:Hid (T=tpN S Ls Hs):=hT;rw[←hT];have HB1:Hid (Below w.heap.size w w1):=HB2.out.trans (hb1.mono HB2.out.size);obtain⟨b0,b1,b2,b3⟩:=HX.out.later hb1;have HT1:Hid (TS w1 (.slice ao3 n3 cap3) Ts):=HT2.out.later hb1;clear hT hb1 HX HL2 HH2 HB2 HT2;by_cases h0:T=0
 ·subst h0;rw[no_ok rfl];obtain⟨_,_,_,e2,hTn,hTm,_,hTa⟩:=HT1.out.form;cases e2;have HTN:Hid (Ts.length=n3):=hTn;have HTM:Hid (n3≤maxLen):=hTm;have HTA:Hid (0<n3→∃g o,ao3=some ⟨g,o,none⟩∧TAt w1 g o Ts∧cap3≤maxLen):=hTa;have n63:n3≤9223372036854775807:=by unfold maxLen at hTm;omega
  clear hTn hTm hTa HT1;by_cases hS:(n3:Int)=S
  ·have HC2:Hid (C=tsTo Ts n3):=by
    show _=_;rw[HC.out,ntN,if_pos HT.out.symm,if_pos (by rw[HTN.out];exact hS),HTN.out]
   have e1:((n3:Int) != S)=false:=by simp[hS]
   clear hS HC;go_wp2
   go_loopw [24] (fun i wr=>∃k:Nat,k≤n3∧i=.int .i64 k∧tsTo Ts k=0∧Below w1.heap.size w1 wr) (fun i _=>n3-(intOf i).toNat)
   case atStart=>exact⟨0,by omega,rfl,rfl,Below.refl _ _⟩
   case round =>
    obtain⟨k,hk,rfl,hz,hB⟩:=hrel;have HZ:Hid (tsTo Ts k=0):=hz;have HB:Hid (Below w1.heap.size w1 wr):=hB;have HBw:Hid (Below w.heap.size w wr):=HB1.out.trans (hB.mono HB1.out.size);clear hz b0 b1 b2 b3;by_cases hlt:k<n3
    ·obtain⟨g,o,hao,hc,_⟩:=HTA.out (by omega);subst hao;obtain⟨a4,n4,c4,q0,hs⟩:=(hc.later hB) k (by rw[HTN.out];exact hlt);have HS4:Hid (SR wr (.slice a4 n4 c4) (Ts.getD k [])):=by
      show SR _ _ _;rw[getT (by rw[HTN.out];exact hlt)];exact hs
     clear hs hc hB
     go_wp2_with fail
     refine (table_any _ (Ts.getD k []) _ HS4.out).mono ?_;rintro e w2 ⟨rfl,hb2⟩;obtain⟨R,hR⟩:∃R,R=tbN (Ts.getD k []):=⟨_,rfl⟩;have HR:Hid (tsTo Ts (k+1)=R):=by
      show _=_;rw[tsTo,if_pos HZ.out,hR]
     rw[←hR];have HB3:Hid (Below w1.heap.size w1 w2):=HB.out.trans (hb2.mono HB.out.size);have HBw3:Hid (Below w.heap.size w w2):=HBw.out.trans (hb2.mono HBw.out.size);clear hR hb2 q0;by_cases hN:R=0
     ·subst hN;rw[no_ok rfl];go_wp2;go_roundw
      case rel=>exact⟨k+1,by omega,by go_num,HR.out,HB3.out⟩
      case measure=>simp[intOf];omega
     rw[no_ne hN];have HCR:Hid (C=R):=by
      show _=_;rw[HC2.out,ts_le (k:=k+1) (by rw[HR.out];exact hN) (by omega),HR.out]
     have HNN:Hid (R≠0):=hN;clear hN;go_wp2;go_ret;exact⟨by rw[HCR.out,no_ne HNN.out];rfl,HBw3.out⟩
    obtain rfl:k=n3:=by omega
    have HCR:Hid (C=0):=by
     show _=_;rw[HC2.out,HZ.out]
    clear hB;go_wp2;go_ret;exact⟨by rw[HCR.out];rfl,HBw.out⟩
  have HC2:Hid (C=3):=by
   show _=_;rw[HC.out,ntN,if_pos HT.out.symm,if_neg (by rw[HTN.out];exact hS)]
  have e1:((n3:Int) != S)=true:=by simpa using hS
  clear hS HC;go_wp2;go_ret;exact⟨by rw[HC2.out];rfl,HB1.out⟩
 rw[no_ne h0];have HC2:Hid (C=T):=by
  show _=_;rw[HC.out,ntN,←HT.out,if_neg h0]
 have HN0:Hid (T≠0):=h0;clear h0;go_wp2;go_ret;exact⟨by rw[HC2.out,no_ne HN0.out];rfl,HB1.out⟩
theorem nan_any (a:Int)(w:World):Calls Tryz.prog 94 #[.int .i64 a] w fun e w'=>e=.returned (.bool false)∧w'=w:=by
 go_enter Tryz.func94,Tryz.ntmps94;go_wp2;go_ret;exact⟨by simp,rfl⟩
theorem compare_any (a b:Int)(w:World):Calls Tryz.prog 57 #[.int .i64 a,.int .i64 b] w fun e w'=>e=.returned (.int .i64 (cmpN a b))∧w'=w:=by
 by_cases h1:a<b
 ·have e:cmpN a b = -1:=by simp[cmpN,h1]
  rw[e];clear e;have g1:decide (a<b)=true:=by simpa using h1
  go_enter Tryz.func57,Tryz.ntmps57
  go_wp2_with (first | (go_at_call 94;refine (nan_any _ _).mono ?_;rintro e w' ⟨rfl,rfl⟩))
  go_ret;exact⟨rfl,rfl⟩
 have g1:decide (a<b)=false:=by simpa using h1
 by_cases h2:b<a
 ·have e:cmpN a b=1:=by simp[cmpN,h1,h2]
  rw[e];clear e;have g2:decide (b<a)=true:=by simpa using h2
  go_enter Tryz.func57,Tryz.ntmps57
  go_wp2_with (first | (go_at_call 94;refine (nan_any _ _).mono ?_;rintro e w' ⟨rfl,rfl⟩))
  go_ret;exact⟨rfl,rfl⟩
 have e:cmpN a b=0:=by simp[cmpN,h1,h2]
 rw[e];clear e;have g2:decide (b<a)=false:=by simpa using h2
 go_enter Tryz.func57,Tryz.ntmps57
 go_wp2_with (first | (go_at_call 94;refine (nan_any _ _).mono ?_;rintro e w' ⟨rfl,rfl⟩))
 go_ret;exact⟨rfl,rfl⟩
theorem or_any (x y z:Int)(g:Nat)(w:World)(h0:w.cell? ⟨g,0,none⟩=some (.int .i64 x))(h1:w.cell? ⟨g,1,none⟩=some (.int .i64 y))(h2:w.cell? ⟨g,2,none⟩=some (.int .i64 z)):
 Calls Tryz.prog 56 #[.slice (some ⟨g,0,none⟩) 3 3] w fun e w'=>e=.returned (.int .i64 (orN x y z))∧w'=w:=by
 generalize hq:orN x y z=q
 have HQ:Hid ((if x=0 then (if y=0 then z else y) else x)=q):=hq;clear hq;go_enter Tryz.func56,Tryz.ntmps56;go_wp2
 go_loopw [8] (fun i wr=>∃k:Nat,k≤3∧i=.int .i64 k∧(0<k→x=0)∧(1<k→y=0)∧(2<k→z=0)∧wr=w) (fun i _=>3-(intOf i).toNat)
 case atStart=>exact⟨0,by omega,rfl,by omega,by omega,by omega,rfl⟩
 case round =>
  obtain⟨k,hk,rfl,a0,a1,a2,hw⟩:=hrel
  replace hw:=hw.symm
  subst hw
  rcases (by omega:k=0∨k=1∨k=2∨k=3) with rfl | rfl | rfl | rfl
  ·clear a0 a1 a2;by_cases hx:x=0
   ·have g1:(x==0)=true:=by simpa using hx
    have g2:(x != 0)=false:=by simpa using hx
    go_wp2;go_roundw
    case rel=>exact⟨1,by omega,rfl,fun _=>hx,by omega,by omega,trivial⟩
    case measure=>simp[intOf]
   have g1:(x==0)=false:=by simpa using hx
   have g2:(x != 0)=true:=by simpa using hx
   go_wp2;go_ret;exact⟨by rw[←HQ.out,if_neg hx];rfl,rfl⟩
  ·have hx:=a0 (by omega);clear a0 a1 a2;by_cases hy:y=0
   ·have g1:(y==0)=true:=by simpa using hy
    have g2:(y != 0)=false:=by simpa using hy
    go_wp2;go_roundw
    case rel=>exact⟨2,by omega,rfl,fun _=>hx,fun _=>hy,by omega,trivial⟩
    case measure=>simp[intOf]
   have g1:(y==0)=false:=by simpa using hy
   have g2:(y != 0)=true:=by simpa using hy
   go_wp2;go_ret;exact⟨by rw[←HQ.out,if_pos hx,if_neg hy];rfl,rfl⟩
  ·have hx:=a0 (by omega);have hy:=a1 (by omega);clear a0 a1 a2;by_cases hz:z=0
   ·have g1:(z==0)=true:=by simpa using hz
    have g2:(z != 0)=false:=by simpa using hz
    go_wp2;go_roundw
    case rel=>exact⟨3,by omega,rfl,fun _=>hx,fun _=>hy,fun _=>hz,trivial⟩
    case measure=>simp[intOf]
   have g1:(z==0)=false:=by simpa using hz
   have g2:(z != 0)=true:=by simpa using hz
   go_wp2;go_ret;exact⟨by rw[←HQ.out,if_pos hx,if_pos hy];rfl,rfl⟩
  have hx:=a0 (by omega);have hy:=a1 (by omega);have hz:=a2 (by omega);clear a0 a1 a2;go_wp2;go_ret;exact⟨by rw[←HQ.out,if_pos hx,if_pos hy,hz];rfl,rfl⟩
theorem compare_b (a b:Int)(w:World):Calls Tryz.prog 57 #[.int .i64 a,.int .i64 b] w fun e w'=>e=.returned (.int .i64 (cmpN a b))∧Below w.heap.size w w':=
 (compare_any a b w).mono fun _ w' h=>⟨h.1,by rw[h.2];exact Below.refl _ _⟩
theorem or_b (x y z:Int)(g:Nat)(w:World)(h0:w.cell? ⟨g,0,none⟩=some (.int .i64 x))(h1:w.cell? ⟨g,1,none⟩=some (.int .i64 y))(h2:w.cell? ⟨g,2,none⟩=some (.int .i64 z)):
 Calls Tryz.prog 56 #[.slice (some ⟨g,0,none⟩) 3 3] w fun e w'=>e=.returned (.int .i64 (orN x y z))∧Below w.heap.size w w':=
 (or_any x y z g w h0 h1 h2).mono fun _ w' h=>⟨h.1,by rw[h.2];exact Below.refl _ _⟩
theorem cells3 {W:World}(x y z:Value)(t:TypeId):
 (W.alloc (.cells #[x,y,z] t)).cell? ⟨W.heap.size,0,none⟩=some x∧(W.alloc (.cells #[x,y,z] t)).cell? ⟨W.heap.size,1,none⟩=some y∧(W.alloc (.cells #[x,y,z] t)).cell? ⟨W.heap.size,2,none⟩=some z:=by
 refine⟨?_,?_,?_⟩ <;> simp
def OS (w:World)(p m b p' m' b':Int)(w':World):Prop:=
 Below w.heap.size w w'∧(w'.cell? ⟨w.heap.size,0,none⟩=some (.int .i64 p)∧w'.cell? ⟨w.heap.size,1,none⟩=some (.int .i64 m)∧w'.cell? ⟨w.heap.size,2,none⟩=some (.int .i64 b)) ∧
  (w'.cell? ⟨w.heap.size+1,0,none⟩=some (.int .i64 p')∧w'.cell? ⟨w.heap.size+1,1,none⟩=some (.int .i64 m')∧w'.cell? ⟨w.heap.size+1,2,none⟩=some (.int .i64 b'))
theorem OS.later {w W W':World}{p m b p' m' b':Int}(hb:Below W.heap.size W W')(h:OS w p m b p' m' b' W):OS w p m b p' m' b' W':=by
 obtain⟨h0,⟨h1,h2,h3⟩,⟨h4,h5,h6⟩⟩:=h;exact⟨h0.trans (hb.mono h0.size),⟨cell_later hb h1,cell_later hb h2,cell_later hb h3⟩,⟨cell_later hb h4,cell_later hb h5,cell_later hb h6⟩⟩
theorem order_any (p m b o s v p' m' b' o' s' v':Int)(w:World):
 Calls Tryz.prog 163 #[.agg #[.int .i64 p,.int .i64 m,.int .i64 b,.int .i64 o,.int .i64 s,.int .i64 v],.agg #[.int .i64 p',.int .i64 m',.int .i64 b',.int .i64 o',.int .i64 s',.int .i64 v']] w fun e w'=>e=.returned (.int .i64 (ordN p m b p' m' b'))∧Below w.heap.size w w':=by
 have hS0:OS w p m b p' m' b' ((w.alloc (Obj.cells #[.int .i64 p,.int .i64 m,.int .i64 b,.int .i64 o,.int .i64 s,.int .i64 v] 66)).alloc (Obj.cells #[.int .i64 p',.int .i64 m',.int .i64 b',.int .i64 o',.int .i64 s',.int .i64 v'] 66)):=by
  refine⟨((Below.refl _ _).alloc (Nat.le_refl _) _).alloc (by simp) _,⟨?_,?_,?_⟩,⟨?_,?_,?_⟩⟩ <;> simp
 go_enter Tryz.func163,Tryz.ntmps163;go_wp2
 generalize ((w.alloc (Obj.cells #[.int .i64 p,.int .i64 m,.int .i64 b,.int .i64 o,.int .i64 s,.int .i64 v] 66)).alloc (Obj.cells #[.int .i64 p',.int .i64 m',.int .i64 b',.int .i64 o',.int .i64 s',.int .i64 v'] 66))=W0 at *
 unfold OS at hS0
 go_region_held3 (fun w'=>Below w.heap.size w w'∧(w'.cell? ⟨w.heap.size,0,none⟩=some (.int .i64 p)∧w'.cell? ⟨w.heap.size,1,none⟩=some (.int .i64 m)∧w'.cell? ⟨w.heap.size,2,none⟩=some (.int .i64 b)) ∧
  (w'.cell? ⟨w.heap.size+1,0,none⟩=some (.int .i64 p')∧w'.cell? ⟨w.heap.size+1,1,none⟩=some (.int .i64 m')∧w'.cell? ⟨w.heap.size+1,2,none⟩=some (.int .i64 b')))
  (first | assumption | exact OS.later (by assumption) (by assumption) | exact OS.later (Below.drew (Below.refl _ _)) (by assumption) | exact OS.later (Below.alloc (Below.refl _ _) (Nat.le_refl _) _) (by assumption))
  (first
   | (go_at_call 57;refine (compare_b _ _ _).mono ?_;rintro e w' ⟨rfl,hb⟩)
   | (go_at_call 56;refine (or_b (cmpN p p') (cmpN m m') (cmpN b b') _ _ (cells3 _ _ _ _).1 (cells3 _ _ _ _).2.1 (cells3 _ _ _ _).2.2).mono ?_;rintro e w' ⟨rfl,hb⟩))
 have hS:=(‹Below w.heap.size w w'∧_›).1;go_wp2;go_ret;exact⟨rfl,hS⟩
theorem quiet_val {P:Program}{o:Oper}{a:Act}{C:World→Prop}{K:Act→Prop}{v:Value}
 (hy:∀w,C w→(execOp a.eval o).run P w=.ok (.value v) w) (h:K (a.put o.dst v)):o.quiet P a C K:=
 ⟨v,fun w hC=>by unfold Oper.quietAt;rw[hy w hC];exact⟨rfl,rfl⟩,h⟩
theorem qv {P:Program}{o:Oper}{a:Act}{C:World→Prop}{K:Act→Prop}(v:Value)(hy:∀w,C w→(execOp a.eval o).run P w=.ok (.value v) w)(h:K (a.put o.dst v)):o.quiet P a C K:=quiet_val hy h
theorem quiet_call {P:Program}{o:Oper}{a:Act}{C:World→Prop}{K:Act→Prop}{v:Value}{f:FuncId}{args:Array Value}
 (he:∀w,(execOp a.eval o).run P w=.ok (.enter f args) w) (hc:∀w,C w→Calls P f args w fun e w''=>e=.returned v∧C w'') (h:K (a.put o.dst v)):o.quiet P a C K:=
 ⟨v,fun w hC=>by unfold Oper.quietAt;rw[he w];exact⟨rfl,hc w hC⟩,h⟩
theorem exec_bin {P:Program}{o:Oper}{a:Act}{w:World}{op:BinOp}{t t2:TypeId}{x y:Operand}{v:Value}(ho:o.op=.binOp op t x y t2)(hg:(eqGuard op t x y (a.eval x) (a.eval y)).run P w=.ok () w)
 (h:(binOp op t (a.eval x) (a.eval y)).run P w=.ok v w):(execOp a.eval o).run P w=.ok (.value v) w:=by
 simp[execOp,ho,hg,h,Result.andThen]
theorem run_eql_of {P:Program}{w:World}{t:TypeId}{x y:Array Value}{b:Bool}(h:(Op.equal t (.agg x) (.agg y)).run P w=.ok b w):(binOp .eql t (.agg x) (.agg y)).run P w=.ok (.bool b) w:=by
 simp[binOp,h]
def CA (w:World)(g:Nat)(p m b o s v:Int)(w':World):Prop:=
 Below w.heap.size w w'∧w'.cell? ⟨g,0,none⟩=some (.int .i64 p)∧w'.cell? ⟨g,1,none⟩=some (.int .i64 m)∧w'.cell? ⟨g,2,none⟩=some (.int .i64 b) ∧
  w'.cell? ⟨g,3,none⟩=some (.int .i64 o)∧w'.cell? ⟨g,4,none⟩=some (.int .i64 s)∧w'.cell? ⟨g,5,none⟩=some (.int .i64 v)
theorem CA.later {w W W':World}{g:Nat}{p m b o s v:Int}(hb:Below W.heap.size W W')(h:CA w g p m b o s v W):CA w g p m b o s v W':=by
 obtain⟨h0,h1,h2,h3,h4,h5,h6⟩:=h;exact⟨h0.trans (hb.mono h0.size),cell_later hb h1,cell_later hb h2,cell_later hb h3,cell_later hb h4,cell_later hb h5,cell_later hb h6⟩
def CB (w:World)(g:Nat)(p m b o s v:Int)(g' o':Nat)(p' m' b' q' s' v':Int)(w':World):Prop:=
 (Below w.heap.size w w'∧w'.cell? ⟨g,0,none⟩=some (.int .i64 p)∧w'.cell? ⟨g,1,none⟩=some (.int .i64 m)∧w'.cell? ⟨g,2,none⟩=some (.int .i64 b) ∧
  w'.cell? ⟨g,3,none⟩=some (.int .i64 o)∧w'.cell? ⟨g,4,none⟩=some (.int .i64 s)∧w'.cell? ⟨g,5,none⟩=some (.int .i64 v)) ∧
 w'.cell? ⟨g',o',none⟩=some (.int .i64 p')∧w'.cell? ⟨g',o'+1,none⟩=some (.int .i64 m')∧w'.cell? ⟨g',o'+2,none⟩=some (.int .i64 b') ∧
  w'.cell? ⟨g',o'+3,none⟩=some (.int .i64 q')∧w'.cell? ⟨g',o'+4,none⟩=some (.int .i64 s')∧w'.cell? ⟨g',o'+5,none⟩=some (.int .i64 v')
theorem CB.later {w W W':World}{g:Nat}{p m b o s v:Int}{g' o':Nat}{p' m' b' q' s' v':Int}(hb:Below W.heap.size W W')(h:CB w g p m b o s v g' o' p' m' b' q' s' v' W):CB w g p m b o s v g' o' p' m' b' q' s' v' W':=by
 obtain⟨h0,h1,h2,h3,h4,h5,h6⟩:=h;exact⟨CA.later hb h0,cell_later hb h1,cell_later hb h2,cell_later hb h3,cell_later hb h4,cell_later hb h5,cell_later hb h6⟩
def cntB (m b h x y:Int):Bool:=hasB m b h&&(decide (x<0) || decide (0<y))
theorem be_next {L:List Ru}{h:Int}{k:Nat}(x:Int)(hx:x=beTo L h k)(y:Bool)(hy:((L.getD k zeR).has h&&(decide (x<0) || decide (0<ordR (L.getD k zeR) (L.getD x.toNat zeR))))=y):beTo L h (k+1)=if y then (k:Int) else x:=by
 subst hx;rw[beTo,hy]
theorem counting_some (g o cap n:Nat)(h:Int)(L:List Ru)(w:World)(hc:RAt w g o L)(hn:L.length=n)(hcap2:n≤maxLen):
 Calls Tryz.prog 153 #[.slice (some ⟨g,o,none⟩) n cap,.int .i64 h] w fun e w'=>e=.returned (.int .i64 (beTo L h n))∧Below w.heap.size w w':=by
 have HN:Hid (L.length=n):=hn;unfold maxLen at hcap2;clear hn;go_enter Tryz.func153,Tryz.ntmps153;go_wp2
 go_loopw [5,10] (fun x i wr=>∃k:Nat,k≤n∧x=.int .i64 (beTo L h k)∧i=.int .i64 k∧Below w.heap.size w wr) (fun _ i _=>n-(intOf i).toNat)
 case atStart=>exact⟨0,by omega,rfl,rfl,Below.refl _ _⟩
 case round =>
  obtain⟨k,hk,rfl,rfl,hB⟩:=hrel;have hbd:=be_bd L h k
  generalize hx:beTo L h k=x at *
  have HX:Hid (x=beTo L h k):=hx.symm;obtain⟨x0,x1⟩:=hbd;clear hx;have HB:Hid (Below w.heap.size w wr):=hB;by_cases hlt:k<n
  ·obtain⟨p,m,b,q,s,v,hkl,hL,q0,q1,q2,q3,q4,q5⟩:=(hc.later hB).at HN.out hlt;have HK:Hid (L.getD k zeR=⟨p,m,b,q,s,v⟩):=(getD_at hkl).trans hL;have HA:Hid (CA wr wr.heap.size p m b q s v (wr.alloc (Obj.cells #[.int .i64 p,.int .i64 m,.int .i64 b,.int .i64 q,.int .i64 s,.int .i64 v] 66))):=by
    refine⟨(Below.refl _ _).alloc (Nat.le_refl _) _,?_,?_,?_,?_,?_,?_⟩ <;> simp
   have HCC:Hid (RAt wr g o L):=hc.later hB;clear hL hB;go_upto_region 5 with fail;clear q0 q1 q2 q3 q4 q5
   go_cut [10,31] from 10 to 33 (fun i c w'=>i=.int .i64 k∧c=.bool (cntB m b h x (ordR ⟨p,m,b,q,s,v⟩ (L.getD x.toNat zeR)))∧Below wr.heap.size wr w')
   case first =>
    have hS0:=HA.out;clear HA;have HW0:Hid (Below wr.heap.size wr (wr.alloc (Obj.cells #[.int .i64 p,.int .i64 m,.int .i64 b,.int .i64 q,.int .i64 s,.int .i64 v] 66))):=(Below.refl _ _).alloc (Nat.le_refl _) _;have HW0:Hid (Below wr.heap.size wr (wr.alloc (Obj.cells #[.int .i64 p,.int .i64 m,.int .i64 b,.int .i64 q,.int .i64 s,.int .i64 v] 66))):=(Below.refl _ _).alloc (Nat.le_refl _) _
    generalize (wr.alloc (Obj.cells #[.int .i64 p,.int .i64 m,.int .i64 b,.int .i64 q,.int .i64 s,.int .i64 v] 66))=W0 at *
    cases hh:hasB m b h
    ·refine wp_region_quiet (C:=CA wr wr.heap.size p m b q s v) (by kernel_rfl) (by kernel_rfl) (CA.later (W:=W0) (Below.drew (Below.refl _ _)) hS0) ?_;simp only[List.toList_toArray];go_big_quiet_want;refine qv (.pointer (some ⟨wr.heap.size,1,none⟩)) ?_ ?_
     ·rintro w' ⟨z0,z1,z2,z3,z4,z5,z6⟩;go_simp
     simp only[Act.put,AP];go_big_quiet_on;go_big_quiet_want;refine qv (.agg #[.int .i64 m,.int .i64 b]) ?_ ?_
     ·rintro w' ⟨z0,z1,z2,z3,z4,z5,z6⟩;go_simp
     simp only[Act.put,AP];go_big_quiet_on;go_big_quiet_want;refine qv (.int .i64 h) ?_ ?_
     ·rintro w' ⟨z0,z1,z2,z3,z4,z5,z6⟩;go_simp
     simp only[Act.put,AP];go_big_quiet_on;go_big_quiet_want;refine quiet_call (f:=162) (args:=#[.agg #[.int .i64 m,.int .i64 b],.int .i64 h]) (v:=.bool false) (fun w'=>?_) (fun w' hC=>(has_any m b h w').mono (fun e w2 h2=>⟨by rw[h2.1,hh],CA.later h2.2 hC⟩)) ?_
     ·go_simp
     simp only[Act.put,AP];go_big_quiet_on;go_big_quiet_want;refine qv (.bool false) ?_ ?_
     ·rintro w' ⟨z0,z1,z2,z3,z4,z5,z6⟩;go_simp
     simp only[Act.put,AP];go_big_quiet_on;go_big_quiet_skip;go_big_quiet_skip;go_big_quiet_skip;go_big_quiet_skip;go_big_quiet_skip;go_big_quiet_skip;go_big_quiet_skip;go_big_quiet_skip;go_big_quiet_skip;go_big_quiet_skip;go_big_quiet_skip;go_big_quiet_want;refine qv (.bool false) ?_ ?_
     ·rintro w' ⟨z0,z1,z2,z3,z4,z5,z6⟩;go_simp
     simp only[Act.put,AP];go_big_quiet_on;refine wpQuiet_nil ?_;intro w' hC
     go_wp2_with fail
     go_meet
     case rel=>exact⟨rfl,by simp[cntB,hh],hC.1⟩
    by_cases hx0:x<0
    ·have hx1:decide (x<0)=true:=by simpa using hx0
     refine wp_region_quiet (C:=CA wr wr.heap.size p m b q s v) (by kernel_rfl) (by kernel_rfl) (CA.later (W:=W0) (Below.drew (Below.refl _ _)) hS0) ?_;simp only[List.toList_toArray];go_big_quiet_want;refine qv (.pointer (some ⟨wr.heap.size,1,none⟩)) ?_ ?_
     ·rintro w' ⟨z0,z1,z2,z3,z4,z5,z6⟩;go_simp
     simp only[Act.put,AP];go_big_quiet_on;go_big_quiet_want;refine qv (.agg #[.int .i64 m,.int .i64 b]) ?_ ?_
     ·rintro w' ⟨z0,z1,z2,z3,z4,z5,z6⟩;go_simp
     simp only[Act.put,AP];go_big_quiet_on;go_big_quiet_want;refine qv (.int .i64 h) ?_ ?_
     ·rintro w' ⟨z0,z1,z2,z3,z4,z5,z6⟩;go_simp
     simp only[Act.put,AP];go_big_quiet_on;go_big_quiet_want;refine quiet_call (f:=162) (args:=#[.agg #[.int .i64 m,.int .i64 b],.int .i64 h]) (v:=.bool true) (fun w'=>?_) (fun w' hC=>(has_any m b h w').mono (fun e w2 h2=>⟨by rw[h2.1,hh],CA.later h2.2 hC⟩)) ?_
     ·go_simp
     simp only[Act.put,AP];go_big_quiet_on;go_big_quiet_want;refine qv (.bool true) ?_ ?_
     ·rintro w' ⟨z0,z1,z2,z3,z4,z5,z6⟩;go_simp
     simp only[Act.put,AP];go_big_quiet_on;go_big_quiet_want;refine qv (.int .i64 x) ?_ ?_
     ·rintro w' ⟨z0,z1,z2,z3,z4,z5,z6⟩;go_simp
     simp only[Act.put,AP];go_big_quiet_on;go_big_quiet_want;refine qv (.bool true) ?_ ?_
     ·rintro w' ⟨z0,z1,z2,z3,z4,z5,z6⟩;go_simp
     simp only[Act.put,AP];go_big_quiet_on;go_big_quiet_want;refine qv (.bool true) ?_ ?_
     ·rintro w' ⟨z0,z1,z2,z3,z4,z5,z6⟩;go_simp
     simp only[Act.put,AP];go_big_quiet_on;go_big_quiet_skip;go_big_quiet_skip;go_big_quiet_skip;go_big_quiet_skip;go_big_quiet_skip;go_big_quiet_skip;go_big_quiet_skip;go_big_quiet_want;refine qv (.bool true) ?_ ?_
     ·rintro w' ⟨z0,z1,z2,z3,z4,z5,z6⟩;go_simp
     simp only[Act.put,AP];go_big_quiet_on;go_big_quiet_want;refine qv (.bool true) ?_ ?_
     ·rintro w' ⟨z0,z1,z2,z3,z4,z5,z6⟩;go_simp
     simp only[Act.put,AP];go_big_quiet_on;refine wpQuiet_nil ?_;intro w' hC
     go_wp2_with fail
     go_meet
     case rel=>exact⟨rfl,by simp[cntB,hh,hx0],hC.1⟩
    obtain⟨y,hy⟩:∃y:Nat,x=(y:Int):=⟨x.toNat,by omega⟩;have hx2:decide ((y:Int)<0)=false:=by simp
    subst hy;obtain⟨p2,m2,b2,q2,s2,v2,hyl,hLy,y0,y1,y2,y3,y4,y5⟩:=HCC.out.at HN.out (show y<n by omega);have HYL:Hid (L.getD ((y:Nat):Int).toNat zeR=⟨p2,m2,b2,q2,s2,v2⟩):=by
     show L.getD ((y:Nat):Int).toNat zeR=_;rw[Int.toNat_natCast,getD_at hyl,hLy]
    have yb0:(0:Int)≤(y:Int):=by omega
    have yb1:((y:Int))<(n:Int):=by omega
    have hS1:CB wr wr.heap.size p m b q s v g (o+y*6) p2 m2 b2 q2 s2 v2 W0:=⟨hS0,cell_later HW0.out y0,cell_later HW0.out y1,cell_later HW0.out y2,cell_later HW0.out y3,cell_later HW0.out y4,cell_later HW0.out y5⟩;clear y0 y1 y2 y3 y4 y5 hLy hS0;have hS0:=hS1;clear hS1;refine wp_region_quiet (C:=CB wr wr.heap.size p m b q s v g (o+y*6) p2 m2 b2 q2 s2 v2) (by kernel_rfl) (by kernel_rfl) (CB.later (W:=W0) (Below.drew (Below.refl _ _)) hS0) ?_;simp only[List.toList_toArray];go_big_quiet_want;refine qv (.pointer (some ⟨wr.heap.size,1,none⟩)) ?_ ?_
    ·rintro w' ⟨⟨z0,z1,z2,z3,z4,z5,z6⟩,y1,y2,y3,y4,y5,y6⟩;go_simp
    simp only[Act.put,AP];go_big_quiet_on;go_big_quiet_want;refine qv (.agg #[.int .i64 m,.int .i64 b]) ?_ ?_
    ·rintro w' ⟨⟨z0,z1,z2,z3,z4,z5,z6⟩,y1,y2,y3,y4,y5,y6⟩;go_simp
    simp only[Act.put,AP];go_big_quiet_on;go_big_quiet_want;refine qv (.int .i64 h) ?_ ?_
    ·rintro w' ⟨⟨z0,z1,z2,z3,z4,z5,z6⟩,y1,y2,y3,y4,y5,y6⟩;go_simp
    simp only[Act.put,AP];go_big_quiet_on;go_big_quiet_want;refine quiet_call (f:=162) (args:=#[.agg #[.int .i64 m,.int .i64 b],.int .i64 h]) (v:=.bool true) (fun w'=>?_) (fun w' hC=>(has_any m b h w').mono (fun e w2 h2=>⟨by rw[h2.1,hh],CB.later h2.2 hC⟩)) ?_
    ·go_simp
    simp only[Act.put,AP];go_big_quiet_on;go_big_quiet_want;refine qv (.bool true) ?_ ?_
    ·rintro w' ⟨⟨z0,z1,z2,z3,z4,z5,z6⟩,y1,y2,y3,y4,y5,y6⟩;go_simp
    simp only[Act.put,AP];go_big_quiet_on;go_big_quiet_want;refine qv (.int .i64 (y:Int)) ?_ ?_
    ·rintro w' ⟨⟨z0,z1,z2,z3,z4,z5,z6⟩,y1,y2,y3,y4,y5,y6⟩;go_simp
    simp only[Act.put,AP];go_big_quiet_on;go_big_quiet_want;refine qv (.bool false) ?_ ?_
    ·rintro w' ⟨⟨z0,z1,z2,z3,z4,z5,z6⟩,y1,y2,y3,y4,y5,y6⟩;go_simp
    simp only[Act.put,AP];go_big_quiet_on;go_big_quiet_want;refine qv (.bool false) ?_ ?_
    ·rintro w' ⟨⟨z0,z1,z2,z3,z4,z5,z6⟩,y1,y2,y3,y4,y5,y6⟩;go_simp
    simp only[Act.put,AP];go_big_quiet_on;go_big_quiet_want;refine qv (.agg #[.int .i64 p,.int .i64 m,.int .i64 b,.int .i64 q,.int .i64 s,.int .i64 v]) ?_ ?_
    ·rintro w' ⟨⟨z0,z1,z2,z3,z4,z5,z6⟩,y1,y2,y3,y4,y5,y6⟩;go_simp
    simp only[Act.put,AP];go_big_quiet_on;go_big_quiet_want;refine qv (.slice (some ⟨g,o,none⟩) n cap) ?_ ?_
    ·rintro w' ⟨⟨z0,z1,z2,z3,z4,z5,z6⟩,y1,y2,y3,y4,y5,y6⟩;go_simp
    simp only[Act.put,AP];go_big_quiet_on;go_big_quiet_want;refine qv (.int .i64 (y:Int)) ?_ ?_
    ·rintro w' ⟨⟨z0,z1,z2,z3,z4,z5,z6⟩,y1,y2,y3,y4,y5,y6⟩;go_simp
    simp only[Act.put,AP];go_big_quiet_on;go_big_quiet_want;refine qv (.pointer (some ⟨g,o+y*6,none⟩)) ?_ ?_
    ·rintro w' ⟨⟨z0,z1,z2,z3,z4,z5,z6⟩,y1,y2,y3,y4,y5,y6⟩;go_simp
    simp only[Act.put,AP];go_big_quiet_on;go_big_quiet_want;refine qv (.agg #[.int .i64 p2,.int .i64 m2,.int .i64 b2,.int .i64 q2,.int .i64 s2,.int .i64 v2]) ?_ ?_
    ·rintro w' ⟨⟨z0,z1,z2,z3,z4,z5,z6⟩,y1,y2,y3,y4,y5,y6⟩;go_simp
    simp only[Act.put,AP];go_big_quiet_on;go_big_quiet_want;refine quiet_call (f:=163) (args:=#[.agg #[.int .i64 p,.int .i64 m,.int .i64 b,.int .i64 q,.int .i64 s,.int .i64 v],.agg #[.int .i64 p2,.int .i64 m2,.int .i64 b2,.int .i64 q2,.int .i64 s2,.int .i64 v2]]) (v:=.int .i64 (ordN p m b p2 m2 b2)) (fun w'=>?_) (fun w' hC=>(order_any p m b q s v p2 m2 b2 q2 s2 v2 w').mono (fun e w2 h2=>⟨h2.1,CB.later h2.2 hC⟩)) ?_
    ·go_simp
    simp only[Act.put,AP];go_big_quiet_on;go_big_quiet_want;refine qv (.bool (decide (0<ordN p m b p2 m2 b2))) ?_ ?_
    ·rintro w' ⟨⟨z0,z1,z2,z3,z4,z5,z6⟩,y1,y2,y3,y4,y5,y6⟩;go_simp
    simp only[Act.put,AP];go_big_quiet_on;go_big_quiet_want;refine qv (.bool (decide (0<ordN p m b p2 m2 b2))) ?_ ?_
    ·rintro w' ⟨⟨z0,z1,z2,z3,z4,z5,z6⟩,y1,y2,y3,y4,y5,y6⟩;go_simp
    simp only[Act.put,AP];go_big_quiet_on;go_big_quiet_want;refine qv (.bool (decide (0<ordN p m b p2 m2 b2))) ?_ ?_
    ·rintro w' ⟨⟨z0,z1,z2,z3,z4,z5,z6⟩,y1,y2,y3,y4,y5,y6⟩;go_simp
    simp only[Act.put,AP];go_big_quiet_on;refine wpQuiet_nil ?_;intro w' hC
    go_wp2_with fail
    go_meet
    case rel=>exact⟨rfl,by rw[HYL.out];simp[cntB,hh,hx2,ordR];first | rfl | exact decide_eq_decide.2 Iff.rfl,hC.1.1⟩
   case rest =>
    obtain⟨rfl,hc2,hB2⟩:=hcut;have HB1:=HB.out.trans (hB2.mono HB.out.size);have HY:=be_next (L:=L) (h:=h) (k:=k) x HX.out _ rfl;rw[HK.out] at HY;have HYY:Hid (beTo L h (k+1)=if cntB m b h x (ordR ⟨p,m,b,q,s,v⟩ (L.getD x.toNat zeR)) then (k:Int) else x):=HY;clear HY hB2 HA HCC
    generalize cntB m b h x (ordR ⟨p,m,b,q,s,v⟩ (L.getD x.toNat zeR))=Y at *
    subst hc2;cases Y
    ·go_wp2;go_roundw
     case rel=>exact⟨k+1,by omega,by rw[HYY.out];rfl,by go_num,HB1⟩
     case measure=>simp[intOf];omega
    go_wp2;go_roundw
    case rel=>exact⟨k+1,by omega,by rw[HYY.out];rfl,by go_num,HB1⟩
    case measure=>simp[intOf];omega
  obtain rfl:k=n:=by omega
  go_wp2;go_ret;exact⟨by rw[←HX.out];rfl,HB.out⟩
theorem counting_nil (ao:Option Addr)(cap:Nat)(h:Int)(w:World):
 Calls Tryz.prog 153 #[.slice ao 0 cap,.int .i64 h] w fun e w'=>e=.returned (.int .i64 (-1))∧Below w.heap.size w w':=by
 go_enter Tryz.func153,Tryz.ntmps153;go_wp2
 go_loopw [5,10] (fun x i wr=>x=.int .i64 (-1)∧i=.int .i64 0∧wr=w) (fun _ i _=>0)
 case atStart=>exact⟨rfl,rfl,rfl⟩
 case round =>
  obtain⟨rfl,rfl,rfl⟩:=hrel;go_wp2;go_ret;exact⟨rfl,Below.refl _ _⟩
theorem counting_any (x:Value)(L:List Ru)(h:Int)(w:World)(hs:SR w x L):
 Calls Tryz.prog 153 #[x,.int .i64 h] w fun e w'=>e=.returned (.int .i64 (beTo L h L.length))∧Below w.heap.size w w':=by
 rcases hs with ⟨ao,cap,rfl,rfl⟩ | ⟨g,o,cap,rfl,h1,h2,hc⟩
 ·exact counting_nil ao cap h w
 exact counting_some g o cap _ h L w hc rfl (Nat.le_trans h1 h2)
theorem apply_any (p m b o s v h:Int)(w:World):
 Calls Tryz.prog 154 #[.agg #[.int .i64 p,.int .i64 m,.int .i64 b,.int .i64 o,.int .i64 s,.int .i64 v],.int .i64 h] w fun e w'=>e=.returned (.tuple #[.int .i64 (apR p m b o s v h),noV (apN p m b o s v h)])∧Below w.heap.size w w':=by
 cases hr:ruOk p m b o s v
 ·have hn:=ruN_ne hr;rw[apR_bad (by rw[apN_bad h hr];exact hn),apN_bad h hr,no_ne hn];go_enter Tryz.func154,Tryz.ntmps154
  go_wp2_with fail
  refine (ruCheck_any _ _ _ _ _ _ _).mono ?_;rintro e w1 ⟨rfl,hb1⟩;rw[no_ne hn];go_wp2;refine bodyPost_ret (v:=.tuple #[.int .i64 0,.iface 85 (.int .i64 (ruN p m b o s v))]) (by simp[results,Tryz.results154,go_sem]) rfl ⟨rfl,?_⟩;exact ((Below.refl _ _).alloc (Nat.le_refl _) _).trans (hb1.mono (by simp))
 have hn:=ruN_ok hr;cases hh:hdrB h
 ·have e:apN p m b o s v h=1:=by simp[apN,hr,hh]
  rw[apR_bad (by rw[e];decide),e];clear e;go_enter Tryz.func154,Tryz.ntmps154
  go_wp2_with fail
  refine (ruCheck_any _ _ _ _ _ _ _).mono ?_;rintro e w1 ⟨rfl,hb1⟩;rw[no_ok hn]
  go_wp2_with fail
  refine (isHeader_no _ _ hh).mono ?_;rintro e w' ⟨rfl,rfl⟩;go_wp2;refine bodyPost_ret (v:=.tuple #[.int .i64 0,.iface 85 (.int .i64 1)]) (by simp[results,Tryz.results154,go_sem]) rfl ⟨rfl,?_⟩;exact ((Below.refl _ _).alloc (Nat.le_refl _) _).trans (hb1.mono (by simp))
 have hlt:w.heap.size<(w.alloc (Obj.cells #[.int .i64 p,.int .i64 m,.int .i64 b,.int .i64 o,.int .i64 s,.int .i64 v] 66)).heap.size:=by simp
 cases ha:hasB m b h
 ·have e:apN p m b o s v h=5:=by simp[apN,hr,hh,ha]
  rw[apR_bad (by rw[e];decide),e];clear e;go_enter Tryz.func154,Tryz.ntmps154
  go_wp2_with fail
  refine (ruCheck_any _ _ _ _ _ _ _).mono ?_;rintro e w1 ⟨rfl,hb1⟩;rw[no_ok hn];obtain⟨hc1,hf1⟩:=bcell hb1;have hB:=((Below.refl w.heap.size w).alloc (Nat.le_refl _) (Obj.cells #[.int .i64 p,.int .i64 m,.int .i64 b,.int .i64 o,.int .i64 s,.int .i64 v] 66)).trans (hb1.mono (by simp));have hlt2:w.heap.size<w1.heap.size:=by have:=hb1.size;omega
  clear hb1
  go_wp2_with fail
  refine (isHeader_yes _ _ hh).mono ?_;rintro e w' ⟨rfl,rfl⟩
  go_wp2_with fail
  refine (has_any _ _ _ _).mono ?_;rintro e w2 ⟨rfl,hb2⟩;rw[ha];obtain⟨hc2,hf2⟩:=bcell hb2;have hB2:=hB.trans (hb2.mono (by omega));clear hb2 hB;go_wp2;refine bodyPost_ret (v:=.tuple #[.int .i64 0,.iface 85 (.int .i64 5)]) (by simp[results,Tryz.results154,go_sem]) rfl ⟨rfl,?_⟩;exact hB2
 cases ho:(o==0)
 ·have e:apN p m b o s v h=0:=by simp[apN,hr,hh,ha,ho]
  have e2:apR p m b o s v h=apV s v h:=by simp[apR,e]
  rw[e2,e];clear e e2;go_enter Tryz.func154,Tryz.ntmps154
  go_wp2_with fail
  refine (ruCheck_any _ _ _ _ _ _ _).mono ?_;rintro e w1 ⟨rfl,hb1⟩;rw[no_ok hn];obtain⟨hc1,hf1⟩:=bcell hb1;have hB:=((Below.refl w.heap.size w).alloc (Nat.le_refl _) (Obj.cells #[.int .i64 p,.int .i64 m,.int .i64 b,.int .i64 o,.int .i64 s,.int .i64 v] 66)).trans (hb1.mono (by simp));have hlt2:w.heap.size<w1.heap.size:=by have:=hb1.size;omega
  clear hb1
  go_wp2_with fail
  refine (isHeader_yes _ _ hh).mono ?_;rintro e w' ⟨rfl,rfl⟩
  go_wp2_with fail
  refine (has_any _ _ _ _).mono ?_;rintro e w2 ⟨rfl,hb2⟩;rw[ha];obtain⟨hc2,hf2⟩:=bcell hb2;have hB2:=hB.trans (hb2.mono (by omega));clear hb2 hB;go_wp2;refine bodyPost_ret (v:=.tuple #[.int .i64 (apV s v h),.nilIface]) (by simp[results,Tryz.results154,go_sem,apV]) rfl ⟨rfl,?_⟩;exact hB2
 have e:apN p m b o s v h=5:=by simp[apN,hr,hh,ha,ho]
 rw[apR_bad (by rw[e];decide),e];clear e;go_enter Tryz.func154,Tryz.ntmps154
 go_wp2_with fail
 refine (ruCheck_any _ _ _ _ _ _ _).mono ?_;rintro e w1 ⟨rfl,hb1⟩;rw[no_ok hn];obtain⟨hc1,hf1⟩:=bcell hb1;have hB:=((Below.refl w.heap.size w).alloc (Nat.le_refl _) (Obj.cells #[.int .i64 p,.int .i64 m,.int .i64 b,.int .i64 o,.int .i64 s,.int .i64 v] 66)).trans (hb1.mono (by simp));have hlt2:w.heap.size<w1.heap.size:=by have:=hb1.size;omega
 clear hb1
 go_wp2_with fail
 refine (isHeader_yes _ _ hh).mono ?_;rintro e w' ⟨rfl,rfl⟩
 go_wp2_with fail
 refine (has_any _ _ _ _).mono ?_;rintro e w2 ⟨rfl,hb2⟩;rw[ha];obtain⟨hc2,hf2⟩:=bcell hb2;have hB2:=hB.trans (hb2.mono (by omega));clear hb2 hB;go_wp2;refine bodyPost_ret (v:=.tuple #[.int .i64 0,.iface 85 (.int .i64 5)]) (by simp[results,Tryz.results154,go_sem]) rfl ⟨rfl,?_⟩;exact hB2
end
section
open Go.ChangeShapes Go.WideShapes Go.ChangeAt Go.RowKit Go.Joins
def hopE:Enc ((Int×Int)×Int) where
 c:=fun x=>[.int .i64 x.1.1,.int .i64 x.1.2,.int .i64 x.2]
 n:=3
 len:=fun _=>rfl
 pos:=by decide
 one:=by
  intro x u hu;simp at hu
  rcases hu with rfl | rfl | rfl <;> rfl
theorem hop_cells {w:World}{g o:Nat}{x0 x1 x2:Int}(h:VAt w g o (hopE.c ((x0,x1),x2))):w.cell? ⟨g,o,none⟩=some (.int .i64 x0)∧w.cell? ⟨g,o+1,none⟩=some (.int .i64 x1)∧w.cell? ⟨g,o+2,none⟩=some (.int .i64 x2):=
 ⟨h 0 _ rfl,h 1 _ rfl,h 2 _ rfl⟩
theorem hop_at {w:World}{g o:Nat}{L:List ((Int×Int)×Int)}(h:GAt hopE w g o L){n k:Nat}(hn:L.length=n)(hk:k<n):
 ∃(x0:Int) (x1:Int) (x2:Int) (hl:k<L.length),L[k]=((x0,x1),x2)∧w.cell? ⟨g,o+k*3,none⟩=some (.int .i64 x0)∧w.cell? ⟨g,o+k*3+1,none⟩=some (.int .i64 x1)∧w.cell? ⟨g,o+k*3+2,none⟩=some (.int .i64 x2):=
 have hl:k<L.length:=by omega
 ⟨_,_,_,hl,rfl,hop_cells (h k hl)⟩
theorem hop_new (w:World)(x0 x1 x2:Int)(t:TypeId):VAt (w.alloc (Obj.cells #[.int .i64 x0,.int .i64 x1,.int .i64 x2] t)) w.heap.size 0 (hopE.c ((x0,x1),x2)):=vat_new w [.int .i64 x0,.int .i64 x1,.int .i64 x2] t
def hopB (a b:(Int×Int)×Int):Bool:=(a.1.1==b.1.1)&&((a.1.2==b.1.2)&&((a.2==b.2)))
theorem hopB_iff (a b:(Int×Int)×Int):hopB a b=true↔a=b:=by
 have e:hopB a b=((a.1.1==b.1.1)&&((a.1.2==b.1.2)&&((a.2==b.2)))):=rfl;rw[e];simp only[Bool.and_eq_true,beq_iff_eq];constructor
 ·intro h;obtain⟨⟨a0,a1⟩,a2⟩:=a;obtain⟨⟨b0,b1⟩,b2⟩:=b;simp at h ⊢;simp[h]
 intro h;subst h;simp
theorem hop_ways (x0 x1 x2 y0 y1 y2:Int):
 ((x0==y0)=false∧hopB ((x0,x1),x2) ((y0,y1),y2)=false) ∨
 ((x0==y0)=true∧(x1==y1)=false∧hopB ((x0,x1),x2) ((y0,y1),y2)=false) ∨
 ((x0==y0)=true∧(x1==y1)=true∧(x2==y2)=false∧hopB ((x0,x1),x2) ((y0,y1),y2)=false) ∨
 ((x0==y0)=true∧(x1==y1)=true∧(x2==y2)=true∧hopB ((x0,x1),x2) ((y0,y1),y2)=true):=by
 have e:hopB ((x0,x1),x2) ((y0,y1),y2)=((x0==y0)&&((x1==y1)&&((x2==y2)))):=rfl;rw[e];cases h0:(x0==y0)
 ·simp
 skip;cases h1:(x1==y1)
 ·simp
 skip;cases h2:(x2==y2)
 ·simp
 skip;simp
theorem hop_eq (x0 x1 x2 y0 y1 y2:Int)(w:World):(Op.equal 74 (.agg #[.int .i64 x0,.int .i64 x1,.int .i64 x2]) (.agg #[.int .i64 y0,.int .i64 y1,.int .i64 y2])).run Tryz.prog w=.ok (hopB ((x0,x1),x2) ((y0,y1),y2)) w:=by
 unfold Op.equal Op.maxDepth;rw[run_equalIn_struct w 9999 _ _ _ (by kernel_rfl) (by kernel_rfl)]
 rcases hop_ways x0 x1 x2 y0 y1 y2 with ⟨e0,e⟩ | ⟨e0,e1,e⟩ | ⟨e0,e1,e2,e⟩ | ⟨e0,e1,e2,e⟩
 all_goals
  rw[e];go_simp
theorem hop_info:(Tryz.prog.info? 74).map (fun i=>(i.zero,i.size,i.bytes))=some (some (.agg #[.int .i64 0,.int .i64 0,.int .i64 0]),3,24):=by kernel_rfl
theorem hop_zero:(Value.agg #[.int .i64 0,.int .i64 0,.int .i64 0]).cells.size=3:=by simp[Value.cells]
end
end Go.Proofs.YtglnnoglbieaeaaGreatDoor
