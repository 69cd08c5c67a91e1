/- Contracts and facts on the way to PlanNothing, joined into one text: TableDiff2, NetCheck, SmNet, ChangeSame, StCube, StRule, StOp, ClassMem, ChangeMem, ChangeOps, OwnInts, ChangeDiff, CcLink, ClassTwo, StrClone, ChangeBox. -/
import Derived.Test.YtiokpmlhmlcojaaGreatPlanNothingP3
namespace Go.Proofs.YtiokpmlhmlcojaaGreat
set_option linter.unusedSimpArgs false
set_option linter.unusedVariables false
set_option maxHeartbeats 16000000
set_option maxRecDepth 100000
section
open Go.RowKit
theorem bey_le (A B:List Ru):(bey A B).length≤A.length:=List.length_filter_le _ _
theorem taken_next {D:List Ru}{k:Nat}(hk:k<D.length):taken (D.take (k+1))=taken (D.take k)++[⟨0,false,D[k]⟩]:=by
 rw[List.take_succ_eq_append_getElem hk];simp only[taken,List.map_append,List.map_cons,List.map_nil]
theorem added_next {D:List Ru}{k:Nat}(hk:k<D.length)(C:List Op8):C++added (D.take (k+1))=(C++added (D.take k))++[⟨0,true,D[k]⟩]:=by
 rw[List.take_succ_eq_append_getElem hk];simp only[added,List.map_append,List.map_cons,List.map_nil,List.append_assoc]
theorem taken_len (D:List Ru):(taken D).length=D.length:=by simp[taken]
theorem added_len (D:List Ru):(added D).length=D.length:=by simp[added]
theorem diff_own (ao:Option Addr)(n cap:Nat)(ao2:Option Addr)(n2 cap2:Nat)(L M:List Ru)(w:World)(hs:SR w (.slice ao n cap) L)(ht:SR w (.slice ao2 n2 cap2) M)(h0:twN L M=0):
 Calls Tryz.prog 22 #[.slice ao n cap,.slice ao2 n2 cap2] w fun e w'=>∃u,e=.returned (.tuple #[u,.nilIface])∧w'.ownsRow w.heap.size 83 8 u (taken (bey L M)++added (bey M L)).length (cellsO (taken (bey L M)++added (bey M L)))∧Below w.heap.size w w':=by
 have HS:Hid (SR w (.slice ao n cap) L):=hs;have HT:Hid (SR w (.slice ao2 n2 cap2) M):=ht;have H0:Hid (twN L M=0):=h0;have HL:Hid (L.length≤12∧M.length≤12):=⟨(tb_iff.1 (tw_two h0).1).1,(tb_iff.1 (tw_two h0).2).1⟩;clear hs ht h0;go_enter Tryz.func22,Tryz.ntmps22
 go_wp2_with fail
 refine (check_any2 _ _ L M _ HS.out HT.out).mono ?_;rintro e w1 ⟨rfl,hb1⟩;rw[no_ok H0.out];have HS1:Hid (SR w1 (.slice ao n cap) L):=HS.out.later hb1;have HT1:Hid (SR w1 (.slice ao2 n2 cap2) M):=HT.out.later hb1;have HB1:Hid (Below w.heap.size w w1):=hb1;clear hb1
 go_wp2_with fail
 refine (beyond_any _ _ _ _ _ _ L M _ HS1.out HT1.out (by have:=HL.out;omega)).mono ?_;rintro e w2 ⟨ao3,n3,cap3,rfl,hn3,hown,hb2⟩;have HD0:Hid ((bey L M).length≤12):=Nat.le_trans (bey_le L M) HL.out.1;obtain⟨D,hD⟩:∃D,D=bey L M:=⟨_,rfl⟩;rw[←hD] at hn3 hown HD0;have HD:Hid (D=bey L M):=hD;have HN3:Hid (D.length=n3):=hn3.symm;have hn12:n3≤12:=by have:=HD0.out;omega
 have HR:Hid (w2.ownsRow w.heap.size 37 6 (.slice ao3 n3 cap3) D.length (cellsR D)):=own_mono hown HB1.out.size;have HB2:Hid (Below w.heap.size w w2):=HB1.out.trans (hb2.mono HB1.out.size);clear hn3 hown hb2 hD HS1 HT1 HB1
 go_upto_block 0 with fail
 go_cut [7] from 6 (fun u w'=>w'.ownsRow w.heap.size 83 8 u (taken (bey L M)).length (cellsO (taken (bey L M)))∧Below w.heap.size w w')
 case first =>
  go_wp2
  go_loopw [7,22] (fun u i wr=>∃k:Nat,k≤n3∧i=.int .i64 k∧wr.ownsRow w.heap.size 83 8 u (taken (D.take k)).length (cellsO (taken (D.take k)))∧wr.ownsRow w.heap.size 37 6 (.slice ao3 n3 cap3) D.length (cellsR D)∧Below w.heap.size w wr) (fun _ i _=>n3-(intOf i).toNat)
  case atStart=>exact⟨0,by omega,rfl,World.ownsRow_nil _ _ _ _,HR.out,HB2.out⟩
  case round =>
   obtain⟨k,hk,rfl,hop,hru,hB⟩:=hrel;have HOP:Hid (wr.ownsRow w.heap.size 83 8 u7 (taken (D.take k)).length (cellsO (taken (D.take k)))):=hop;have HRU:Hid (wr.ownsRow w.heap.size 37 6 (.slice ao3 n3 cap3) D.length (cellsR D)):=hru;have HB:Hid (Below w.heap.size w wr):=hB;clear hop hB HR HB2;by_cases hlt:k<n3
   ·obtain⟨ao',n',cap',e,_,_,_,ha⟩:=(own_SR hru).form;cases e;obtain⟨g,og,rfl,hRA,_⟩:=ha (by omega);obtain⟨p,m,b,q,s,v,hkl,hLk,q0,q1,q2,q3,q4,q5⟩:=hRA.at HN3.out hlt;have HT2:Hid (taken (D.take (k+1))=taken (D.take k)++[⟨0,false,⟨p,m,b,q,s,v⟩⟩]):=by
     show _=_;rw[taken_next hkl,hLk]
    have HK:Hid ((taken (D.take k)).length≤1000):=by
     show _≤1000;rw[taken_len,List.length_take];omega
    have hBA:=(Below.refl wr.heap.size wr).alloc (Nat.le_refl _) (Obj.cells #[.int .i64 p,.int .i64 m,.int .i64 b,.int .i64 q,.int .i64 s,.int .i64 v] 37);have hBB:=hBA.alloc (by simp) (Obj.cells #[.int .i64 0,Value.bool false,.int .i64 p,.int .i64 m,.int .i64 b,.int .i64 q,.int .i64 s,.int .i64 v] 83);have HBB:=hBB;have HC8:=C8.new (wr.alloc (Obj.cells #[.int .i64 p,.int .i64 m,.int .i64 b,.int .i64 q,.int .i64 s,.int .i64 v] 37)) 0 false p m b q s v 83;simp only[World.size_alloc] at HC8;clear hRA hLk ha hBA hru
    go_wp2_with (at_builtin;refine wpList_append_op _ rfl _ _ 45 rfl Tryz.underlying45 w.heap.size _ rfl _ (own_below HOP.out hBB) _ rfl _ HC8 HK.out (HB.out.trans (hBB.mono HB.out.size)).size ?_)
    intro v' w3 hown3 hgrow;have hO3:=own_below HOP.out hBB;have HR3:Hid (w3.ownsRow w.heap.size 37 6 (.slice (some ⟨g,og,none⟩) n3 cap3) D.length (cellsR D)):=(own_below HRU.out hBB).kept hgrow (own_apart (own_below HRU.out hBB) hO3 (by decide));have HB3:Hid (Below w.heap.size w w3):=(HB.out.trans (hBB.mono HB.out.size)).grown hgrow (HB.out.trans (hBB.mono HB.out.size)).size (fun g hg=>(hO3.lt g hg).1);have HO3:Hid (w3.ownsRow w.heap.size 83 8 v' (taken (D.take (k+1))).length (cellsO (taken (D.take (k+1))))):=by
     show World.ownsRow _ _ _ _ _ _ _;rw[HT2.out,List.length_append];exact hown3
    clear hown3 hgrow hO3 hBB HBB HC8 q0 q1 q2 q3 q4 q5;go_wp2;go_roundw
    case rel=>exact⟨k+1,by omega,by go_num,HO3.out,HR3.out,HB3.out⟩
    case measure=>simp[intOf];omega
   obtain rfl:k=n3:=by omega
   go_wp2_with fail
   go_meet
   case rel =>
    refine⟨?_,HB.out⟩;have h1:=HOP.out;rw[←HN3.out,List.take_length,HD.out] at h1;exact h1
 case rest =>
  obtain⟨hop,hB⟩:=hcut;obtain⟨C,hC⟩:∃C,C=taken (bey L M):=⟨_,rfl⟩;have HC:Hid (C=taken (bey L M)):=hC;have HCL:Hid (C.length≤12):=by
   show C.length≤12;rw[hC,taken_len];exact Nat.le_trans (bey_le L M) HL.out.1
  rw[←hC] at hop;have HOC:Hid (wc.ownsRow w.heap.size 83 8 u7 C.length (cellsO C)):=hop;have HBC:Hid (Below w.heap.size w wc):=hB;have HS1:Hid (SR wc (.slice ao n cap) L):=HS.out.later hB;have HT1:Hid (SR wc (.slice ao2 n2 cap2) M):=HT.out.later hB;clear hop hB hC HR HB2 HN3 HD HD0 hn12;clear D
  go_wp2_with fail
  refine (beyond_any _ _ _ _ _ _ M L _ HT1.out HS1.out (by have:=HL.out;omega)).mono ?_;rintro e w2 ⟨ao3,n3,cap3,rfl,hn3,hown,hb2⟩;have HD0:Hid ((bey M L).length≤12):=Nat.le_trans (bey_le M L) HL.out.2;obtain⟨D,hD⟩:∃D,D=bey M L:=⟨_,rfl⟩;rw[←hD] at hn3 hown HD0;have HD:Hid (D=bey M L):=hD;have HN3:Hid (D.length=n3):=hn3.symm;have hn12:n3≤12:=by have:=HD0.out;omega
  have HR:Hid (w2.ownsRow w.heap.size 37 6 (.slice ao3 n3 cap3) D.length (cellsR D)):=own_mono hown HBC.out.size;have HOC2:Hid (w2.ownsRow w.heap.size 83 8 u7 C.length (cellsO C)):=own_below HOC.out hb2;have HB2:Hid (Below w.heap.size w w2):=HBC.out.trans (hb2.mono HBC.out.size);clear hn3 hown hb2 hD HS1 HT1;go_wp2
  go_loopw [7,36] (fun u i wr=>∃k:Nat,k≤n3∧i=.int .i64 k∧wr.ownsRow w.heap.size 83 8 u (C++added (D.take k)).length (cellsO (C++added (D.take k)))∧wr.ownsRow w.heap.size 37 6 (.slice ao3 n3 cap3) D.length (cellsR D)∧Below w.heap.size w wr) (fun _ i _=>n3-(intOf i).toNat)
  case atStart=>exact⟨0,by omega,rfl,by have:=HOC2.out;simpa[added] using this,HR.out,HB2.out⟩
  case round =>
   obtain⟨k,hk,rfl,hop,hru,hB⟩:=hrel;have HOP:Hid (wr.ownsRow w.heap.size 83 8 u7 (C++added (D.take k)).length (cellsO (C++added (D.take k)))):=hop;have HRU:Hid (wr.ownsRow w.heap.size 37 6 (.slice ao3 n3 cap3) D.length (cellsR D)):=hru;have HB:Hid (Below w.heap.size w wr):=hB;clear hop hB HR HB2 HOC2;by_cases hlt:k<n3
   ·obtain⟨ao',n',cap',e,_,_,_,ha⟩:=(own_SR hru).form;cases e;obtain⟨g,og,rfl,hRA,_⟩:=ha (by omega);obtain⟨p,m,b,q,s,v,hkl,hLk,q0,q1,q2,q3,q4,q5⟩:=hRA.at HN3.out hlt;have HT2:Hid (C++added (D.take (k+1))=C++added (D.take k)++[⟨0,true,⟨p,m,b,q,s,v⟩⟩]):=by
     show _=_;rw[added_next hkl,hLk]
    have HK:Hid ((C++added (D.take k)).length≤1000):=by
     show _≤1000;rw[List.length_append,added_len,List.length_take];have:=HCL.out;omega
    have hBA:=(Below.refl wr.heap.size wr).alloc (Nat.le_refl _) (Obj.cells #[.int .i64 p,.int .i64 m,.int .i64 b,.int .i64 q,.int .i64 s,.int .i64 v] 37);have hBB:=hBA.alloc (by simp) (Obj.cells #[.int .i64 0,Value.bool true,.int .i64 p,.int .i64 m,.int .i64 b,.int .i64 q,.int .i64 s,.int .i64 v] 83);have HBB:=hBB;have HC8:=C8.new (wr.alloc (Obj.cells #[.int .i64 p,.int .i64 m,.int .i64 b,.int .i64 q,.int .i64 s,.int .i64 v] 37)) 0 true p m b q s v 83;simp only[World.size_alloc] at HC8;clear hRA hLk ha hBA hru
    go_wp2_with (at_builtin;refine wpList_append_op _ rfl _ _ 45 rfl Tryz.underlying45 w.heap.size _ rfl _ (own_below HOP.out hBB) _ rfl _ HC8 HK.out (HB.out.trans (hBB.mono HB.out.size)).size ?_)
    intro v' w3 hown3 hgrow;have hO3:=own_below HOP.out hBB;have HR3:Hid (w3.ownsRow w.heap.size 37 6 (.slice (some ⟨g,og,none⟩) n3 cap3) D.length (cellsR D)):=(own_below HRU.out hBB).kept hgrow (own_apart (own_below HRU.out hBB) hO3 (by decide));have HB3:Hid (Below w.heap.size w w3):=(HB.out.trans (hBB.mono HB.out.size)).grown hgrow (HB.out.trans (hBB.mono HB.out.size)).size (fun g hg=>(hO3.lt g hg).1);have HO3:Hid (w3.ownsRow w.heap.size 83 8 v' (C++added (D.take (k+1))).length (cellsO (C++added (D.take (k+1))))):=by
     show World.ownsRow _ _ _ _ _ _ _;rw[HT2.out,List.append_assoc,List.length_append,List.length_append];exact hown3
    clear hown3 hgrow hO3 hBB HBB HC8 q0 q1 q2 q3 q4 q5;go_wp2;go_roundw
    case rel=>exact⟨k+1,by omega,by go_num,HO3.out,HR3.out,HB3.out⟩
    case measure=>simp[intOf];omega
   obtain rfl:k=n3:=by omega
   have HFI:Hid (wr.ownsRow w.heap.size 83 8 u7 (taken (bey L M)++added (bey M L)).length (cellsO (taken (bey L M)++added (bey M L)))):=by
    have h1:=HOP.out;rw[←HN3.out,List.take_length,HD.out,HC.out] at h1;exact h1
   go_wp2;refine bodyPost_ret (v:=.tuple #[u7,.nilIface]) (by simp[results,Tryz.results22,go_sem]) rfl ⟨_,rfl,HFI.out,HB.out⟩
def TAt (w:World)(g o:Nat)(Ts:List (List Ru)):Prop:=∀i (h:i<Ts.length),∃ao n cap,w.cell? ⟨g,o+i,none⟩=some (.slice ao n cap)∧SR w (.slice ao n cap) Ts[i]
theorem TAt.later {w w':World}{g o:Nat}{Ts:List (List Ru)}(h:TAt w g o Ts)(hb:Below w.heap.size w w'):TAt w' g o Ts:=fun i hi=>by
 obtain⟨ao,n,cap,h1,h2⟩:=h i hi;exact⟨ao,n,cap,cell_later hb h1,h2.later hb⟩
def TS (w:World)(v:Value)(Ts:List (List Ru)):Prop:=
 (∃ao cap,v=.slice ao 0 cap∧Ts=[])∨∃g o cap,v=.slice (some ⟨g,o,none⟩) Ts.length cap∧Ts.length≤cap∧cap≤maxLen∧TAt w g o Ts
theorem TS.later {w w':World}{v:Value}{Ts:List (List Ru)}(h:TS w v Ts)(hb:Below w.heap.size w w'):TS w' v Ts:=by
 rcases h with h | ⟨g,o,cap,h1,h2,h3,h4⟩
 ·exact .inl h
 exact .inr ⟨g,o,cap,h1,h2,h3,h4.later hb⟩
theorem TS.form {w:World}{v:Value}{Ts:List (List Ru)}(h:TS w v Ts):∃ao n cap,v=.slice ao n cap∧Ts.length=n∧n≤maxLen∧n≤cap∧(0<n→∃g o,ao=some ⟨g,o,none⟩∧TAt w g o Ts∧cap≤maxLen):=by
 rcases h with ⟨ao,cap,rfl,rfl⟩ | ⟨g,o,cap,rfl,h1,h2,h3⟩
 ·exact⟨ao,0,cap,rfl,rfl,Nat.zero_le _,Nat.zero_le _,fun h=>absurd h (by omega)⟩
 exact⟨_,_,cap,rfl,rfl,Nat.le_trans h1 h2,h1,fun _=>⟨g,o,rfl,h3,h2⟩⟩
theorem TS.len {w:World}{ao:Option Addr}{n cap:Nat}{Ts:List (List Ru)}(h:TS w (.slice ao n cap) Ts):Ts.length=n:=by
 rcases h with ⟨_,_,e,rfl⟩ | ⟨_,_,_,e,_⟩
 ·simp at e;simp[e]
 simp at e;exact e.2.1.symm
theorem getT {Ts:List (List Ru)}{k:Nat}(hk:k<Ts.length):Ts.getD k []=Ts[k]:=by simp[List.getD,hk]
def NeBox (W:World)(g:Nat)(S:Int)(v1 v2 v3:Value):Prop:=W.cell? ⟨g,0,none⟩=some (.int .i64 S)∧W.cell? ⟨g,1,none⟩=some v1∧W.cell? ⟨g,2,none⟩=some v2∧W.cell? ⟨g,3,none⟩=some v3
theorem nebox_new (w:World)(S:Int)(v1 v2 v3:Value)(t:TypeId):NeBox (w.alloc (Obj.cells #[.int .i64 S,v1,v2,v3] t)) w.heap.size S v1 v2 v3:=by
 refine⟨?_,?_,?_,?_⟩ <;> simp
theorem NeBox.later {W W':World}{g:Nat}{S:Int}{v1 v2 v3:Value}(h:NeBox W g S v1 v2 v3)(hb:Below W.heap.size W W'):NeBox W' g S v1 v2 v3:=
 ⟨cell_later hb h.1,cell_later hb h.2.1,cell_later hb h.2.2.1,cell_later hb h.2.2.2⟩
theorem ncheck_any (S:Int)(ao:Option Addr)(n cap:Nat)(ao2:Option Addr)(n2 cap2:Nat)(ao3:Option Addr)(n3 cap3:Nat)(Ls:LkQ)(Hs:HoQ)(Ts:List (List Ru))(w:World)
 (hL:GS lnkE w (.slice ao n cap) Ls) (hH:GS hstE w (.slice ao2 n2 cap2) Hs) (hT:TS w (.slice ao3 n3 cap3) Ts):
 Calls Tryz.prog 28 #[.agg #[.int .i64 S,.slice ao n cap,.slice ao2 n2 cap2,.slice ao3 n3 cap3]] w fun e w'=>e=.returned (noV (ntN S Ls Hs Ts))∧Below w.heap.size w w':=by
 have hb1:Below w.heap.size w (w.alloc (Obj.cells #[.int .i64 S,.slice ao n cap,.slice ao2 n2 cap2,.slice ao3 n3 cap3] 28)):=(Below.refl _ _).alloc (Nat.le_refl _) _;obtain⟨C,hC⟩:∃C,C=ntN S Ls Hs Ts:=⟨_,rfl⟩;have HC:Hid (C=ntN S Ls Hs Ts):=hC;rw[←hC];have HL2:Hid (GS lnkE (w.alloc (Obj.cells #[.int .i64 S,.slice ao n cap,.slice ao2 n2 cap2,.slice ao3 n3 cap3] 28)) (.slice ao n cap) Ls):=hL.later hb1;have HH2:Hid (GS hstE (w.alloc (Obj.cells #[.int .i64 S,.slice ao n cap,.slice ao2 n2 cap2,.slice ao3 n3 cap3] 28)) (.slice ao2 n2 cap2) Hs):=hH.later hb1;have HT2:Hid (TS (w.alloc (Obj.cells #[.int .i64 S,.slice ao n cap,.slice ao2 n2 cap2,.slice ao3 n3 cap3] 28)) (.slice ao3 n3 cap3) Ts):=hT.later hb1;have HB2:Hid (Below w.heap.size w (w.alloc (Obj.cells #[.int .i64 S,.slice ao n cap,.slice ao2 n2 cap2,.slice ao3 n3 cap3] 28))):=hb1;have HX:Hid (NeBox (w.alloc (Obj.cells #[.int .i64 S,.slice ao n cap,.slice ao2 n2 cap2,.slice ao3 n3 cap3] 28)) w.heap.size S (.slice ao n cap) (.slice ao2 n2 cap2) (.slice ao3 n3 cap3)):=nebox_new w S _ _ _ 28;clear hC hb1 hL hH hT;go_enter Tryz.func28,Tryz.ntmps28
 go_wp2_with fail
 refine (check_any S ao n cap ao2 n2 cap2 Ls Hs _ HL2.out HH2.out).mono ?_;rintro e w1 ⟨rfl,hb1⟩;obtain⟨T,hT⟩:∃T,T=tpN S Ls Hs:=⟨_,rfl⟩;have HT:Hid (T=tpN S Ls Hs):=hT;rw[←hT];have HB1:Hid (Below w.heap.size w w1):=HB2.out.trans (hb1.mono HB2.out.size);obtain⟨b0,b1,b2,b3⟩:=HX.out.later hb1;have HT1:Hid (TS w1 (.slice ao3 n3 cap3) Ts):=HT2.out.later hb1;clear hT hb1 HX HL2 HH2 HB2 HT2;by_cases h0:T=0
 ·subst h0;rw[no_ok rfl];obtain⟨_,_,_,e2,hTn,hTm,_,hTa⟩:=HT1.out.form;cases e2;have HTN:Hid (Ts.length=n3):=hTn;have HTM:Hid (n3≤maxLen):=hTm;have HTA:Hid (0<n3→∃g o,ao3=some ⟨g,o,none⟩∧TAt w1 g o Ts∧cap3≤maxLen):=hTa;have n63:n3≤9223372036854775807:=by unfold maxLen at hTm;omega
  clear hTn hTm hTa HT1;by_cases hS:(n3:Int)=S
  ·have HC2:Hid (C=tsTo Ts n3):=by
    show _=_;rw[HC.out,ntN,if_pos HT.out.symm,if_pos (by rw[HTN.out];exact hS),HTN.out]
   have e1:((n3:Int) != S)=false:=by simp[hS]
   clear hS HC;go_wp2
   go_loopw [24] (fun i wr=>∃k:Nat,k≤n3∧i=.int .i64 k∧tsTo Ts k=0∧Below w1.heap.size w1 wr) (fun i _=>n3-(intOf i).toNat)
   case atStart=>exact⟨0,by omega,rfl,rfl,Below.refl _ _⟩
   case round =>
    obtain⟨k,hk,rfl,hz,hB⟩:=hrel;have HZ:Hid (tsTo Ts k=0):=hz;have HB:Hid (Below w1.heap.size w1 wr):=hB;have HBw:Hid (Below w.heap.size w wr):=HB1.out.trans (hB.mono HB1.out.size);clear hz b0 b1 b2 b3;by_cases hlt:k<n3
    ·obtain⟨g,o,hao,hc,_⟩:=HTA.out (by omega);subst hao;obtain⟨a4,n4,c4,q0,hs⟩:=(hc.later hB) k (by rw[HTN.out];exact hlt);have HS4:Hid (SR wr (.slice a4 n4 c4) (Ts.getD k [])):=by
      show SR _ _ _;rw[getT (by rw[HTN.out];exact hlt)];exact hs
     clear hs hc hB
     go_wp2_with fail
     refine (table_any _ (Ts.getD k []) _ HS4.out).mono ?_;rintro e w2 ⟨rfl,hb2⟩;obtain⟨R,hR⟩:∃R,R=tbN (Ts.getD k []):=⟨_,rfl⟩;have HR:Hid (tsTo Ts (k+1)=R):=by
      show _=_;rw[tsTo,if_pos HZ.out,hR]
     rw[←hR];have HB3:Hid (Below w1.heap.size w1 w2):=HB.out.trans (hb2.mono HB.out.size);have HBw3:Hid (Below w.heap.size w w2):=HBw.out.trans (hb2.mono HBw.out.size);clear hR hb2 q0;by_cases hN:R=0
     ·subst hN;rw[no_ok rfl];go_wp2;go_roundw
      case rel=>exact⟨k+1,by omega,by go_num,HR.out,HB3.out⟩
      case measure=>simp[intOf];omega
     rw[no_ne hN];have HCR:Hid (C=R):=by
      show _=_;rw[HC2.out,ts_le (k:=k+1) (by rw[HR.out];exact hN) (by omega),HR.out]
     have HNN:Hid (R≠0):=hN;clear hN;go_wp2;go_ret;exact⟨by rw[HCR.out,no_ne HNN.out];rfl,HBw3.out⟩
    obtain rfl:k=n3:=by omega
    have HCR:Hid (C=0):=by
     show _=_;rw[HC2.out,HZ.out]
    clear hB;go_wp2;go_ret;exact⟨by rw[HCR.out];rfl,HBw.out⟩
  have HC2:Hid (C=3):=by
   show _=_;rw[HC.out,ntN,if_pos HT.out.symm,if_neg (by rw[HTN.out];exact hS)]
  have e1:((n3:Int) != S)=true:=by simpa using hS
  clear hS HC;go_wp2;go_ret;exact⟨by rw[HC2.out];rfl,HB1.out⟩
 rw[no_ne h0];have HC2:Hid (C=T):=by
  show _=_;rw[HC.out,ntN,←HT.out,if_neg h0]
 have HN0:Hid (T≠0):=h0;clear h0;go_wp2;go_ret;exact⟨by rw[HC2.out,no_ne HN0.out];rfl,HB1.out⟩
def NN (W:World)(B:Nat)(S:Int)(a1 a2 a3:Value)(S':Int)(b1 b2 b3:Value):Prop:=NeBox W B S a1 a2 a3∧NeBox W (B+1) S' b1 b2 b3
theorem nn_new (w:World)(S:Int)(a1 a2 a3:Value)(S':Int)(b1 b2 b3:Value)(t:TypeId):NN ((w.alloc (Obj.cells #[.int .i64 S,a1,a2,a3] t)).alloc (Obj.cells #[.int .i64 S',b1,b2,b3] t)) w.heap.size S a1 a2 a3 S' b1 b2 b3:=by
 refine⟨(nebox_new w S a1 a2 a3 t).later ((Below.refl _ _).alloc (Nat.le_refl _) _),?_⟩;have:=nebox_new (w.alloc (Obj.cells #[.int .i64 S,a1,a2,a3] t)) S' b1 b2 b3 t;simpa using this
theorem NN.later {W W':World}{B:Nat}{S:Int}{a1 a2 a3:Value}{S':Int}{b1 b2 b3:Value}(h:NN W B S a1 a2 a3 S' b1 b2 b3)(hb:Below W.heap.size W W'):NN W' B S a1 a2 a3 S' b1 b2 b3:=⟨h.1.later hb,h.2.later hb⟩
theorem NeBox.grown {W W':World}{g:Nat}{S:Int}{v1 v2 v3:Value}{row:Option Nat}(h:NeBox W g S v1 v2 v3)(hg:W.grownBy W' row)(hne:some g≠row):NeBox W' g S v1 v2 v3:=
 ⟨hg.cell h.1 hne,hg.cell h.2.1 hne,hg.cell h.2.2.1 hne,hg.cell h.2.2.2 hne⟩
theorem NN.grown {W W':World}{B:Nat}{S:Int}{a1 a2 a3:Value}{S':Int}{b1 b2 b3:Value}{row:Option Nat}(h:NN W B S a1 a2 a3 S' b1 b2 b3)(hg:W.grownBy W' row)(hr:∀g,row=some g→B+2≤g):NN W' B S a1 a2 a3 S' b1 b2 b3:=
 ⟨h.1.grown hg (fun e=>by have:=hr _ e.symm;omega),h.2.grown hg (fun e=>by have:=hr _ e.symm;omega)⟩
def nwN (S:Int)(Ls:LkQ)(Hs:HoQ)(Ts:List (List Ru))(S':Int)(Ls':LkQ)(Hs':HoQ)(Ts':List (List Ru)):Int:=
 if ntN S Ls Hs Ts=0 then ntN S' Ls' Hs' Ts' else ntN S Ls Hs Ts
theorem chCheck_any (S:Int)(ao:Option Addr)(n cap:Nat)(ao2:Option Addr)(n2 cap2:Nat)(ao3:Option Addr)(n3 cap3:Nat)(S':Int)(bo:Option Addr)(m dap:Nat)(bo2:Option Addr)(m2 dap2:Nat)(bo3:Option Addr)(m3 dap3:Nat)(Ls:LkQ)(Hs:HoQ)(Ts:List (List Ru))(Ls':LkQ)(Hs':HoQ)(Ts':List (List Ru))(w:World)
 (hL:GS lnkE w (.slice ao n cap) Ls) (hH:GS hstE w (.slice ao2 n2 cap2) Hs) (hT:TS w (.slice ao3 n3 cap3) Ts) (hL':GS lnkE w (.slice bo m dap) Ls') (hH':GS hstE w (.slice bo2 m2 dap2) Hs') (hT':TS w (.slice bo3 m3 dap3) Ts'):
 Calls Tryz.prog 20 #[.agg #[.int .i64 S,.slice ao n cap,.slice ao2 n2 cap2,.slice ao3 n3 cap3],.agg #[.int .i64 S',.slice bo m dap,.slice bo2 m2 dap2,.slice bo3 m3 dap3]] w fun e w'=>e=.returned (noV (nwN S Ls Hs Ts S' Ls' Hs' Ts'))∧Below w.heap.size w w':=by
 have hb0:Below w.heap.size w ((w.alloc (Obj.cells #[.int .i64 S,.slice ao n cap,.slice ao2 n2 cap2,.slice ao3 n3 cap3] 28)).alloc (Obj.cells #[.int .i64 S',.slice bo m dap,.slice bo2 m2 dap2,.slice bo3 m3 dap3] 28)):=((Below.refl _ _).alloc (Nat.le_refl _) _).alloc (by simp) _;have HNN:=nn_new w S (.slice ao n cap) (.slice ao2 n2 cap2) (.slice ao3 n3 cap3) S' (.slice bo m dap) (.slice bo2 m2 dap2) (.slice bo3 m3 dap3) 28;have HB0:Hid (Below w.heap.size w ((w.alloc (Obj.cells #[.int .i64 S,.slice ao n cap,.slice ao2 n2 cap2,.slice ao3 n3 cap3] 28)).alloc (Obj.cells #[.int .i64 S',.slice bo m dap,.slice bo2 m2 dap2,.slice bo3 m3 dap3] 28))):=hb0;have HW:Hid (∀W,Below w.heap.size w W→(GS lnkE W (.slice ao n cap) Ls∧GS hstE W (.slice ao2 n2 cap2) Hs∧TS W (.slice ao3 n3 cap3) Ts)∧GS lnkE W (.slice bo m dap) Ls'∧GS hstE W (.slice bo2 m2 dap2) Hs'∧TS W (.slice bo3 m3 dap3) Ts'):=fun W h=>⟨⟨hL.later h,hH.later h,hT.later h⟩,hL'.later h,hH'.later h,hT'.later h⟩
 obtain⟨X,hX⟩:∃X,X=nwN S Ls Hs Ts S' Ls' Hs' Ts':=⟨_,rfl⟩;have HX:Hid (X=nwN S Ls Hs Ts S' Ls' Hs' Ts'):=hX;rw[←hX];clear hL hH hT hL' hH' hT' hb0 hX;go_enter Tryz.func20,Tryz.ntmps20
 go_wp2_with fail
 refine (ncheck_any S ao n cap ao2 n2 cap2 ao3 n3 cap3 Ls Hs Ts _ (HW.out _ HB0.out).1.1 (HW.out _ HB0.out).1.2.1 (HW.out _ HB0.out).1.2.2).mono ?_;rintro e w1 ⟨rfl,hb1⟩;obtain⟨C,hC⟩:∃C,C=ntN S Ls Hs Ts:=⟨_,rfl⟩;have HC:Hid (C=ntN S Ls Hs Ts):=hC;rw[←hC];have HB1:Hid (Below w.heap.size w w1):=HB0.out.trans (hb1.mono HB0.out.size);obtain⟨⟨p0,p1,p2,p3⟩,s0,s1,s2,s3⟩:=HNN.later hb1;have hlt1:w.heap.size<w1.heap.size:=bLQ _ _ p0;have hlt2:w.heap.size+1<w1.heap.size:=bLQ _ _ s0;clear hC hb1 HNN HB0;by_cases h0:C=0
 ·subst h0;rw[no_ok rfl];have HX2:Hid (X=ntN S' Ls' Hs' Ts'):=by
   show _=_;rw[HX.out,nwN,if_pos HC.out.symm]
  go_wp2_with fail
  refine (ncheck_any S' bo m dap bo2 m2 dap2 bo3 m3 dap3 Ls' Hs' Ts' _ (HW.out _ HB1.out).2.1 (HW.out _ HB1.out).2.2.1 (HW.out _ HB1.out).2.2.2).mono ?_;rintro e w2 ⟨rfl,hb2⟩;have HB2:Hid (Below w.heap.size w w2):=HB1.out.trans (hb2.mono HB1.out.size);rw[←HX2.out];clear hb2 p0 p1 p2 p3 s0 s1 s2 s3;go_wp2;go_ret;exact⟨rfl,HB2.out⟩
 have HNZ:Hid (C≠0):=h0;have HX2:Hid (X=C):=by
  show _=_;rw[HX.out,nwN,←HC.out,if_neg h0]
 rw[no_ne h0];clear h0;go_wp2;go_ret;exact⟨by rw[HX2.out,no_ne HNZ.out];rfl,HB1.out⟩
theorem sameTopo_any (S:Int)(ao:Option Addr)(n cap:Nat)(ao2:Option Addr)(n2 cap2:Nat)(Ls:LkQ)(Hs:HoQ)(S':Int)(bo:Option Addr)(m cap3:Nat)(bo2:Option Addr)(m2 cap4:Nat)(Ls':LkQ)(Hs':HoQ)(w:World)
 (hL:GS lnkE w (.slice ao n cap) Ls) (hH:GS hstE w (.slice ao2 n2 cap2) Hs) (hL':GS lnkE w (.slice bo m cap3) Ls') (hH':GS hstE w (.slice bo2 m2 cap4) Hs'):
 Calls Tryz.prog 21 #[.agg #[.int .i64 S,.slice ao n cap,.slice ao2 n2 cap2],.agg #[.int .i64 S',.slice bo m cap3,.slice bo2 m2 cap4]] w fun e w'=>e=.returned (.bool (tpB S S' Ls Ls' Hs Hs'))∧Below w.heap.size w w':=by
 have hb0:Below w.heap.size w ((w.alloc (Obj.cells #[.int .i64 S,.slice ao n cap,.slice ao2 n2 cap2] 25)).alloc (Obj.cells #[.int .i64 S',.slice bo m cap3,.slice bo2 m2 cap4] 25)):=((Below.refl _ _).alloc (Nat.le_refl _) _).alloc (by simp) _;have HTT:=tt_new w S S' (.slice ao n cap) (.slice ao2 n2 cap2) (.slice bo m cap3) (.slice bo2 m2 cap4) 25;have HB0:Hid (Below w.heap.size w ((w.alloc (Obj.cells #[.int .i64 S,.slice ao n cap,.slice ao2 n2 cap2] 25)).alloc (Obj.cells #[.int .i64 S',.slice bo m cap3,.slice bo2 m2 cap4] 25))):=hb0;have HW:Hid (∀W,Below w.heap.size w W→(GS lnkE W (.slice ao n cap) Ls∧GS hstE W (.slice ao2 n2 cap2) Hs)∧GS lnkE W (.slice bo m cap3) Ls'∧GS hstE W (.slice bo2 m2 cap4) Hs'):=fun W h=>⟨⟨hL.later h,hH.later h⟩,hL'.later h,hH'.later h⟩
 clear hL hH hL' hH' hb0;by_cases hS:S=S'
 ·subst hS;have e1:(S==S)=true:=by simp
  have HE:Hid (tpB S S Ls Ls' Hs Hs'=(smG lnkB Ls Ls'&&smG hstB Hs Hs')):=by
   show _=_;simp[tpB]
  rw[HE.out];go_enter Tryz.func21,Tryz.ntmps21
  go_wp2_with fail
  refine (lnk_equal ao n cap bo m cap3 Ls Ls' _ (HW.out _ HB0.out).1.1 (HW.out _ HB0.out).2.1).mono ?_;rintro e w1 ⟨rfl,hb1⟩;have HB1:Hid (Below w.heap.size w w1):=HB0.out.trans (hb1.mono HB0.out.size);obtain⟨⟨p0,p1,p2⟩,s0,s1,s2⟩:=HTT.later hb1;have hlt1:w.heap.size<w1.heap.size:=bLQ _ _ p0;have hlt2:w.heap.size+1<w1.heap.size:=bLQ _ _ s0;obtain⟨b1,hb⟩:∃b,b=smG lnkB Ls Ls':=⟨_,rfl⟩;have HBE:Hid (smG lnkB Ls Ls'=b1):=hb.symm;rw[HBE.out];clear hb hb1 HB0 HTT;cases b1 with
  | false =>
    go_wp2;go_ret;exact⟨by rw[HBE.out];rfl,HB1.out⟩
  | true =>
    go_wp2_with fail
    refine (hst_equal ao2 n2 cap2 bo2 m2 cap4 Hs Hs' _ (HW.out _ HB1.out).1.2 (HW.out _ HB1.out).2.2).mono ?_;rintro e w2 ⟨rfl,hb2⟩;have HB2:Hid (Below w.heap.size w w2):=HB1.out.trans (hb2.mono HB1.out.size);obtain⟨b2,hb⟩:∃b,b=smG hstB Hs Hs':=⟨_,rfl⟩;have HB3:Hid (smG hstB Hs Hs'=b2):=hb.symm;rw[HB3.out];clear hb hb2 p0 p1 p2 s0 s1 s2;go_wp2;go_ret;exact⟨by rw[HBE.out,HB3.out];rfl,HB2.out⟩
 have e1:(S==S')=false:=by simpa using hS
 have HE:Hid (tpB S S' Ls Ls' Hs Hs'=false):=by
  show _=_;simp[tpB,hS]
 rw[HE.out];clear hS;go_enter Tryz.func21,Tryz.ntmps21;go_wp2;go_ret;exact⟨rfl,HB0.out⟩
theorem nw_two {S:Int}{Ls:LkQ}{Hs:HoQ}{Ts:List (List Ru)}{S':Int}{Ls':LkQ}{Hs':HoQ}{Ts':List (List Ru)}(h:nwN S Ls Hs Ts S' Ls' Hs' Ts'=0):ntN S Ls Hs Ts=0∧ntN S' Ls' Hs' Ts'=0:=by
 unfold nwN at h;by_cases e:ntN S Ls Hs Ts=0
 ·rw[if_pos e] at h;exact⟨e,h⟩
 rw[if_neg e] at h;exact absurd h e
theorem nw_tw {S:Int}{Ls:LkQ}{Hs:HoQ}{Ts:List (List Ru)}{S':Int}{Ls':LkQ}{Hs':HoQ}{Ts':List (List Ru)}(h:nwN S Ls Hs Ts S' Ls' Hs' Ts'=0)(j:Nat)(h1:j<Ts.length)(h2:j<Ts'.length):twN (Ts.getD j []) (Ts'.getD j [])=0:=by
 obtain⟨a,b⟩:=nw_two h;rw[twN,if_pos ((nt_0 a).2.2 j h1),(nt_0 b).2.2 j h2]
end
section
open Go.ChangeShapes Go.WideShapes Go.ChangeAt Go.RowKit Go.Joins
def cuE:Enc (Int×Int) where
 c:=fun x=>[.int .i64 x.1,.int .i64 x.2]
 n:=2
 len:=fun _=>rfl
 pos:=by decide
 one:=by
  intro x u hu;simp at hu
  rcases hu with rfl | rfl <;> rfl
theorem cu_open {H:Type}{enc:TypeId×Value→H}{W:World}{n:Nat}{cs:List Value}{x:DataW H×List MemPlace}
 (h:DataW.trod enc Tryz.prog W 0 (fun _=>true) true n 35 cs=some x):∃y,cs=cuE.c y:=by
 obtain⟨xs,k,_,_,hl,hlen,hf⟩:=DataW.trod_struct Tryz.underlying35 h;have hC:Tryz.prog.cellsOf 35=2:=by kernel_rfl
 have hT0:Tryz.prog.cellsOf 3=1:=by kernel_rfl
 rw[hC] at hl
 match cs,hl with
 | [c0,c1],_ =>
   match xs,hlen with
   | [z0,z1],_ =>
     have g0:=hf 0 _ rfl;have g1:=hf 1 _ rfl;simp[hT0] at g0 g1;obtain⟨v0,e0,_,_⟩:=DataW.trod_int Tryz.underlying3 g0;obtain⟨v1,e1,_,_⟩:=DataW.trod_int Tryz.underlying3 g1;simp[] at e0 e1;refine⟨(v0,v1),?_⟩;simp[cuE,e0,e1]
def rlE:Enc (Ru) where
 c:=fun x=>[.int .i64 x.p,.int .i64 x.m,.int .i64 x.b,.int .i64 x.o,.int .i64 x.s,.int .i64 x.v]
 n:=6
 len:=fun _=>rfl
 pos:=by decide
 one:=by
  intro x u hu;simp at hu
  rcases hu with rfl | rfl | rfl | rfl | rfl | rfl <;> rfl
theorem rl_cells {w:World}{g o:Nat}{x0 x1 x2 x3 x4 x5:Int}(h:VAt w g o (rlE.c ⟨x0,x1,x2,x3,x4,x5⟩)):w.cell? ⟨g,o,none⟩=some (.int .i64 x0)∧w.cell? ⟨g,o+1,none⟩=some (.int .i64 x1)∧w.cell? ⟨g,o+2,none⟩=some (.int .i64 x2)∧w.cell? ⟨g,o+3,none⟩=some (.int .i64 x3)∧w.cell? ⟨g,o+4,none⟩=some (.int .i64 x4)∧w.cell? ⟨g,o+5,none⟩=some (.int .i64 x5):=
 ⟨h 0 _ rfl,h 1 _ rfl,h 2 _ rfl,h 3 _ rfl,h 4 _ rfl,h 5 _ rfl⟩
theorem rl_open {H:Type}{enc:TypeId×Value→H}{W:World}{n:Nat}{cs:List Value}{x:DataW H×List MemPlace}
 (h:DataW.trod enc Tryz.prog W 0 (fun _=>true) true n 37 cs=some x):∃y,cs=rlE.c y:=by
 obtain⟨xs,k,_,_,hl,hlen,hf⟩:=DataW.trod_struct Tryz.underlying37 h;have hC:Tryz.prog.cellsOf 37=6:=by kernel_rfl
 have hT0:Tryz.prog.cellsOf 3=1:=by kernel_rfl
 have hT1:Tryz.prog.cellsOf 35=2:=by kernel_rfl
 rw[hC] at hl
 match cs,hl with
 | [c0,c1,c2,c3,c4,c5],_ =>
   match xs,hlen with
   | [z0,z1,z2,z3,z4],_ =>
     have g0:=hf 0 _ rfl;have g1:=hf 1 _ rfl;have g2:=hf 2 _ rfl;have g3:=hf 3 _ rfl;have g4:=hf 4 _ rfl;simp[hT0,hT1] at g0 g1 g2 g3 g4;obtain⟨v0,e0,_,_⟩:=DataW.trod_int Tryz.underlying3 g0;obtain⟨s1,e1⟩:=cu_open g1;obtain⟨v3,e2,_,_⟩:=DataW.trod_int Tryz.underlying3 g2;obtain⟨v4,e3,_,_⟩:=DataW.trod_int Tryz.underlying3 g3;obtain⟨v5,e4,_,_⟩:=DataW.trod_int Tryz.underlying3 g4;simp[cuE] at e0 e1 e2 e3 e4;refine⟨⟨v0,s1.1,s1.2,v3,v4,v5⟩,?_⟩;simp[rlE,e0,e1,e2,e3,e4]
def opE:Enc (Op8) where
 c:=fun x=>[.int .i64 x.w,.bool x.a,.int .i64 x.r.p,.int .i64 x.r.m,.int .i64 x.r.b,.int .i64 x.r.o,.int .i64 x.r.s,.int .i64 x.r.v]
 n:=8
 len:=fun _=>rfl
 pos:=by decide
 one:=by
  intro x u hu;simp at hu
  rcases hu with rfl | rfl | rfl | rfl | rfl | rfl | rfl | rfl <;> rfl
theorem op_cells {w:World}{g o:Nat}{x0:Int}{x1:Bool}{x2 x3 x4 x5 x6 x7:Int}(h:VAt w g o (opE.c ⟨x0,x1,⟨x2,x3,x4,x5,x6,x7⟩⟩)):w.cell? ⟨g,o,none⟩=some (.int .i64 x0)∧w.cell? ⟨g,o+1,none⟩=some (.bool x1)∧w.cell? ⟨g,o+2,none⟩=some (.int .i64 x2)∧w.cell? ⟨g,o+3,none⟩=some (.int .i64 x3)∧w.cell? ⟨g,o+4,none⟩=some (.int .i64 x4)∧w.cell? ⟨g,o+5,none⟩=some (.int .i64 x5)∧w.cell? ⟨g,o+6,none⟩=some (.int .i64 x6)∧w.cell? ⟨g,o+7,none⟩=some (.int .i64 x7):=
 ⟨h 0 _ rfl,h 1 _ rfl,h 2 _ rfl,h 3 _ rfl,h 4 _ rfl,h 5 _ rfl,h 6 _ rfl,h 7 _ rfl⟩
theorem op_at {w:World}{g o:Nat}{L:List (Op8)}(h:GAt opE w g o L){n k:Nat}(hn:L.length=n)(hk:k<n):
 ∃(x0:Int) (x1:Bool) (x2:Int) (x3:Int) (x4:Int) (x5:Int) (x6:Int) (x7:Int) (hl:k<L.length),L[k]=⟨x0,x1,⟨x2,x3,x4,x5,x6,x7⟩⟩∧w.cell? ⟨g,o+k*8,none⟩=some (.int .i64 x0)∧w.cell? ⟨g,o+k*8+1,none⟩=some (.bool x1)∧w.cell? ⟨g,o+k*8+2,none⟩=some (.int .i64 x2)∧w.cell? ⟨g,o+k*8+3,none⟩=some (.int .i64 x3)∧w.cell? ⟨g,o+k*8+4,none⟩=some (.int .i64 x4)∧w.cell? ⟨g,o+k*8+5,none⟩=some (.int .i64 x5)∧w.cell? ⟨g,o+k*8+6,none⟩=some (.int .i64 x6)∧w.cell? ⟨g,o+k*8+7,none⟩=some (.int .i64 x7):=
 have hl:k<L.length:=by omega
 ⟨_,_,_,_,_,_,_,_,hl,rfl,op_cells (h k hl)⟩
theorem op_new (w:World)(x0:Int)(x1:Bool)(x2 x3 x4 x5 x6 x7:Int)(t:TypeId):VAt (w.alloc (Obj.cells #[.int .i64 x0,.bool x1,.int .i64 x2,.int .i64 x3,.int .i64 x4,.int .i64 x5,.int .i64 x6,.int .i64 x7] t)) w.heap.size 0 (opE.c ⟨x0,x1,⟨x2,x3,x4,x5,x6,x7⟩⟩):=vat_new w [.int .i64 x0,.bool x1,.int .i64 x2,.int .i64 x3,.int .i64 x4,.int .i64 x5,.int .i64 x6,.int .i64 x7] t
theorem op_info:(Tryz.prog.info? 83).map (fun i=>(i.zero,i.size,i.bytes))=some (some (.agg #[.int .i64 0,.bool false,.int .i64 0,.int .i64 0,.int .i64 0,.int .i64 0,.int .i64 0,.int .i64 0]),8,64):=by kernel_rfl
theorem op_zero:(Value.agg #[.int .i64 0,.bool false,.int .i64 0,.int .i64 0,.int .i64 0,.int .i64 0,.int .i64 0,.int .i64 0]).cells.size=8:=by simp[Value.cells]
end
section
open Go.RowKit
abbrev SlT:Type:=Option Addr×Nat×Nat
def slV (x:SlT):Value:=.slice x.1 x.2.1 x.2.2
def slE:Enc SlT where
 c:=fun x=>[slV x]
 n:=1
 len:=fun _=>rfl
 pos:=by decide
 one:=by
  intro x u hu;simp at hu;subst hu;rfl
theorem sl_cells (L:List SlT):cellsG slE L=L.map slV:=by
 induction L with
 | nil=>rfl
 | cons x r ih =>
   simp only[cellsG,List.flatMap_cons,List.map_cons] at *;rw[ih];rfl
theorem grown_below {w w':World}(hb:Below w.heap.size w w'):w.grownBy w' none:=⟨hb.os,hb.tape,hb.output,hb.size,fun k hk _=>hb.block k hk⟩
theorem grown_set (w:World)(b i:Nat)(v:Value):w.grownBy (w.setCell ⟨b,i,none⟩ v) (some b):=
 ⟨rfl,rfl,rfl,by simp[World.setCell],fun k _ hk=>Below.heap_setCell _ _ _ _ (fun e=>hk (by simp[e]))⟩
theorem none_or (o:Option Nat):o=none∨o≠none:=by cases o <;> simp
theorem run_append_blk {P:Program}{w:World}{base:Nat}(t ty e:TypeId)(i:TypeInfo)(z:Value)(ht:P.underlying t=some (.slice e))(hi:P.info? e=some i)(hz:i.zero=some z)
 (v:Value) (n:Nat) (xs:List Value) (hown:w.ownsRow base e i.size v n xs)
 (a:Addr) (c:Nat) (news:List Value) (hl:news.length=1*i.size) (hnews:∀j u,news[j]?=some u→w.cell? (a.add j)=some u) (h1:∀u∈news,u.oneCell'=true)
 (h63:n+1≤maxLen) (hbytes:(n+1)*i.bytes≤140737488355328) {v':Value} {w':World} (hr:(Builtin.append_ #[t,t] ty #[v,.slice (some a) 1 c]).run P w=.ok v' w'):v'.ownBlock=v.ownBlock∨v'.ownBlock=some w.heap.size:=by
 have hm:n+1≤9223372036854775807:=by simp only[maxLen] at h63;omega
 rcases hown.2 with ⟨rfl,rfl⟩ | ⟨g,cap,cur,rfl,hbg,hg,hnc,hcm,hcs,htake⟩
 ·rw[run_append_nil (P:=P) w t ty e i z ht hi hz a 1 c news hl hnews (by omega) (by omega) (by have hb:=hbytes;simp only[Nat.zero_add] at hb;omega)] at hr;cases hr;exact .inr rfl
 by_cases hroom:n+1≤cap
 ·have hfit:n*i.size+news.length≤cur.size:=by rw[hl,hcs,←Nat.add_mul];exact Nat.mul_le_mul_right _ hroom
  rw[run_append_room (P:=P) w t ty e i ht hi g n cap cur hg a 1 c news hl hnews h1 hroom hfit] at hr;cases hr;exact .inl rfl
 rw[run_append_grow (P:=P) w t ty e i z ht hi hz ⟨g,0,none⟩ n cap xs hown.1 (hown.cells (g:=g) rfl) a 1 c news hl hnews (by omega) (by omega) (growslice_fits (by omega) hbytes)] at hr;cases hr;exact .inr rfl
theorem wpList_append_blk {P:Program}{α:Type}{E:Enc α}(w:World){ops:Array Oper}{rest:List Oper}{o:Oper}{a:Act}{Q:Exit→Act→World→Prop}(hgd:o.guard=none)(s x:Operand)(t e:TypeId)
 (ho:o.op=.call { callee:=.builtin .append,args:=#[s,x],argTypes:=#[t,t] }) (ht:P.underlying t=some (.slice e)) (i:TypeInfo) (z:Value) (bytes:Nat) (hi:P.info? e=some i) (hz:i.zero=some z)
 (hsize:i.size=E.n) (hby:i.bytes=bytes) (hzs:z.cells.size=E.n) (base:Nat)
 (v:Value) (hs:a.eval s=v) (L:List α) (hown:w.ownsRow base e E.n v L.length (cellsG E L)) (g q c:Nat) (hx:a.eval x=.slice (some ⟨g,q,none⟩) 1 c) (y:α) (hM:VAt w g q (E.c y))
 (h63:L.length+1≤maxLen) (hbytes:(L.length+1)*bytes≤140737488355328) (hbase:base≤w.heap.size)
 (h:∀v' w',w'.ownsRow base e E.n v' (L++[y]).length (cellsG E (L++[y]))→w.grownBy w' v.ownBlock→v'.ownBlock=v.ownBlock∨v'.ownBlock=some w.heap.size→wpList P ops Q rest (a.put o.dst v') w'):wpList P ops Q (o :: rest) a w:=by
 have hG:GAt E w g q [y]:=by
  intro k hk;obtain rfl:k=0:=by simp at hk;omega
  simpa using hM
 have hc:=hG.cells;rw[cellsG_one] at hc;have hl:(E.c y).length=1*E.n:=by rw[E.len];omega
 obtain⟨v',w',hr,h2,h3,_⟩:=run_append_own (P:=P) w base t o.type e i z E.n bytes ht hi hz hsize hby hzs E.pos v _ _ hown ⟨g,q,none⟩ 1 c (E.c y) hl hc (E.one y) h63 hbytes hbase;have hb:=run_append_blk (P:=P) t o.type e i z ht hi hz v _ _ (by rw[hsize];exact hown) ⟨g,q,none⟩ c (E.c y) (by rw[hsize];exact hl) hc (E.one y) h63 (by rw[hby];exact hbytes) hr;refine wpList_plain hgd fun K hK=>?_
 unfold Oper.wp execOp;simp only[ho,resolve,invoke,builtin,Sem.run_bind,Sem.run_pure,Result.andThen_ok,List.map_toArray,List.map_cons,List.map_nil,hs,hx,hr];exact hK _ _ (h v' w' (by rw[List.length_append,cellsG_app,cellsG_one];exact h2) h3 hb)
section
variable {e1 e2:TypeId}{w w':World}{B:Nat}{v u:Value}{vs us:List SlT}{Cs Ps:List (List Int)}
end
def offB (x:SlT)(b:Nat):Prop:=x.2.1=0∨∀a,x.1=some a→a.block≠b
theorem RAt.lt {w:World}{g o:Nat}{L:List Ru}(h:RAt w g o L)(h0:0<L.length):g<w.heap.size:=bLQ _ _ (h 0 h0).c0
theorem SR.off {w:World}{x:SlT}{L:List Ru}(h:SR w (slV x) L){b:Nat}(hb:w.heap.size≤b):offB x b:=by
 obtain⟨ao,n,cap⟩:=x
 rcases h with ⟨ao',cap',e,rfl⟩ | ⟨g,o,cap',e,h1,h2,h3⟩
 ·simp only[slV,Value.slice.injEq] at e;exact .inl e.2.1
 simp only[slV,Value.slice.injEq] at e;obtain⟨rfl,rfl,rfl⟩:=e;by_cases h0:L.length=0
 ·exact .inl h0
 refine .inr fun a ha=>?_
 cases ha;have:=h3.lt (by omega);show g≠b;omega
theorem SR.grown {w w':World}{x:SlT}{L:List Ru}{row:Option Nat}(h:SR w (slV x) L)(hg:w.grownBy w' row)(ho:∀b,row=some b→offB x b):SR w' (slV x) L:=by
 obtain⟨ao,n,cap⟩:=x
 rcases h with ⟨ao',cap',e,rfl⟩ | ⟨g,o,cap',e,h1,h2,h3⟩
 ·exact .inl ⟨ao',cap',e,rfl⟩
 simp only[slV,Value.slice.injEq] at e;obtain⟨rfl,rfl,rfl⟩:=e;by_cases h0:L.length=0
 ·exact .inl ⟨_,_,by rw[slV,h0],List.length_eq_zero_iff.1 h0⟩
 have hne:some g≠row:=by
  intro e
  rcases ho g e.symm with h4 | h4
  ·exact h0 h4
  exact h4 _ rfl rfl
 refine .inr ⟨g,o,cap,rfl,h1,h2,fun i hi=>?_⟩;obtain⟨c0,c1,c2,c3,c4,c5⟩:=h3 i hi;exact⟨hg.cell c0 hne,hg.cell c1 hne,hg.cell c2 hne,hg.cell c3 hne,hg.cell c4 hne,hg.cell c5 hne⟩
structure TR (e:TypeId)(w:World)(A B:Nat)(v:Value)(vs:List SlT)(Ts:List (List Ru)):Prop where
 ov:w.ownsRow B e slE.n v vs.length (cellsG slE vs)
 lv:vs.length=Ts.length
 rv:∀(i:Nat) (x:SlT) (L:List Ru),vs[i]?=some x→Ts[i]?=some L→SR w (slV x) L∧∀b,v.ownBlock=some b→offB x b
 rz:∀(i:Nat) (x:SlT),vs[i]?=some x→∀b,A≤b→b<B→offB x b
section
variable {e:TypeId}{w w':World}{A B:Nat}{v:Value}{vs:List SlT}{Ts:List (List Ru)}
theorem tr_nil (e:TypeId)(w:World)(A B:Nat):TR e w A B (.slice none 0 0) [] []:=
 ⟨World.ownsRow_nil w B e slE.n,rfl,fun i x L h=>by simp at h,fun i x h=>by simp at h⟩
theorem TR.later (h:TR e w A B v vs Ts)(hb:Below w.heap.size w w'):TR e w' A B v vs Ts:=
 ⟨h.ov.kept (grown_below hb) (none_or _),h.lv,fun i x L h1 h2=>⟨(h.rv i x L h1 h2).1.later hb,(h.rv i x L h1 h2).2⟩,h.rz⟩
theorem TR.grown (h:TR e w A B v vs Ts){b:Nat}(hg:w.grownBy w' (some b))(h1:A≤b)(h2:b<B):TR e w' A B v vs Ts:=by
 refine⟨h.ov.kept hg (.inr fun e=>?_),h.lv,fun i x L a1 a2=>⟨(h.rv i x L a1 a2).1.grown hg (fun c hc=>?_),(h.rv i x L a1 a2).2⟩,h.rz⟩
 ·have:=(h.ov.lt b e).1;omega
 cases hc;exact h.rz i x a1 b h1 h2
theorem TR.push (h:TR e w A B v vs Ts){x:SlT}{L:List Ru}(hx:SR w (slV x) L){v':Value}(hox:∀b,v.ownBlock=some b→offB x b)(hoz:∀b,A≤b→b<B→offB x b)
 (hg:w.grownBy w' v.ownBlock) (ho:w'.ownsRow B e slE.n v' (vs++[x]).length (cellsG slE (vs++[x]))) (hb:v'.ownBlock=v.ownBlock∨v'.ownBlock=some w.heap.size):TR e w' A B v' (vs++[x]) (Ts++[L]):=by
 have one:∀{y:SlT} {M:List Ru},SR w (slV y) M→(∀b,v.ownBlock=some b→offB y b)→SR w' (slV y) M∧∀b,v'.ownBlock=some b→offB y b:=by
  intro y M h1 h2;refine⟨h1.grown hg h2,fun b hv=>?_⟩
  rcases hb with hb | hb
  ·exact h2 b (by rw[←hb];exact hv)
  rw[hb] at hv;cases hv;exact h1.off (Nat.le_refl _)
 refine⟨ho,by simp[h.lv],fun i y M h1 h2=>?_,fun i y h1=>?_⟩
 ·by_cases hi:i<vs.length
  ·rw[List.getElem?_append_left hi] at h1;rw[List.getElem?_append_left (by rw[←h.lv];exact hi)] at h2;obtain⟨a1,a2⟩:=h.rv i y M h1 h2;exact one a1 a2
  have hi2:i=vs.length:=by
   have:=(List.getElem?_eq_some_iff.1 h1).1;simp at this;omega
  subst hi2;simp at h1;rw[h.lv] at h2;simp at h2;subst h1 h2;exact one hx hox
 by_cases hi:i<vs.length
 ·rw[List.getElem?_append_left hi] at h1;exact h.rz i y h1
 have hi2:i=vs.length:=by
  have:=(List.getElem?_eq_some_iff.1 h1).1;simp at this;omega
 subst hi2;simp at h1;subst h1;exact hoz
theorem TR.put {g n cap i:Nat}(h:TR e w A B (.slice (some ⟨g,0,none⟩) n cap) vs Ts){x:SlT}{L:List Ru}(hx:SR w (slV x) L)(hox:offB x g)(hoz:∀b,A≤b→b<B→offB x b):TR e (w.setCell ⟨g,i,none⟩ (slV x)) A B (.slice (some ⟨g,0,none⟩) n cap) (vs.set i x) (Ts.set i L):=by
 have hgw:w.grownBy (w.setCell ⟨g,i,none⟩ (slV x)) (some g):=grown_set w g i (slV x);refine⟨?_,by simp[h.lv],fun j y M a1 a2=>?_,fun j y a1=>?_⟩
 ·have h1:=h.ov;have hn:n=vs.length:=by
   rcases h1.2 with ⟨h3,_⟩ | ⟨_,_,_,h3,_⟩
   ·cases h3
   simp only[Value.slice.injEq] at h3;exact h3.2.1
  rw[List.length_set,sl_cells,List.map_set];rw[sl_cells,←hn] at h1;rw[←hn];exact (h1.stored _ _).1
 ·have hj:j<(vs.set i x).length:=(List.getElem?_eq_some_iff.1 a1).1;rw[List.length_set] at hj;by_cases hij:i=j
  ·subst hij;rw[List.getElem?_set_self hj] at a1;rw[List.getElem?_set_self (by rw[←h.lv];exact hj)] at a2;cases a1;cases a2;refine⟨hx.grown hgw (fun b hb=>by cases hb;exact hox),fun b hb=>?_⟩;cases hb;exact hox
  rw[List.getElem?_set_ne hij] at a1 a2;obtain⟨b1,b2⟩:=h.rv j y M a1 a2;exact⟨b1.grown hgw (fun b hb=>by cases hb;exact b2 g rfl),b2⟩
 have hj:j<(vs.set i x).length:=(List.getElem?_eq_some_iff.1 a1).1;rw[List.length_set] at hj;by_cases hij:i=j
 ·subst hij;rw[List.getElem?_set_self hj] at a1;cases a1;exact hoz
 rw[List.getElem?_set_ne hij] at a1;exact h.rz j y a1
theorem TR.ts (h:TR e w A B v vs Ts):TS w v Ts:=by
 rcases own_GS h.ov with ⟨ao,cap,rfl,h0⟩ | ⟨g,o,cap,rfl,h1,h2,h3⟩
 ·refine .inl ⟨ao,cap,rfl,?_⟩;have:=h.lv;rw[h0] at this;exact List.length_eq_zero_iff.1 this.symm
 refine .inr ⟨g,o,cap,by rw[h.lv],by rw[←h.lv];exact h1,h2,fun i hi=>?_⟩;have hi2:i<vs.length:=by rw[h.lv];exact hi
 have:=h3 i hi2 0 _ rfl;have e:o+i*slE.n+0=o+i:=by show o+i*1+0=o+i;omega
 rw[e] at this;exact⟨_,_,_,this,(h.rv i _ _ (List.getElem?_eq_getElem hi2) (List.getElem?_eq_getElem hi)).1⟩
theorem TR.at {g n cap i:Nat}(h:TR e w A B (.slice (some ⟨g,0,none⟩) n cap) vs Ts)(hi:i<Ts.length):∃x:SlT,w.cell? ⟨g,i,none⟩=some (slV x)∧SR w (slV x) (Ts.getD i [])∧w.frozen? ⟨g,i,none⟩=false∧n=Ts.length∧B≤g∧g<w.heap.size:=by
 have h1:=h.ov;have hn:n=vs.length:=by
  rcases h1.2 with ⟨h3,_⟩ | ⟨_,_,_,h3,_⟩
  ·cases h3
  simp only[Value.slice.injEq] at h3;exact h3.2.1
 have hi2:i<vs.length:=by rw[h.lv];exact hi
 rw[sl_cells,←hn] at h1;refine⟨vs[i],?_,?_,h1.frozenAt i,by rw[hn,h.lv],(h1.lt g rfl).1,(h1.lt g rfl).2⟩
 ·rw[h1.cellAt i (by show i<n*1;omega)];simp[hi2]
 rw[getT hi];exact (h.rv i _ _ (List.getElem?_eq_getElem hi2) (List.getElem?_eq_getElem hi)).1
end
def NO (w:World)(B:Nat)(v:Value)(L:List Op8):Prop:=w.ownsRow B 83 8 v L.length (cellsG opE L)
theorem NO.gs {w:World}{B:Nat}{v:Value}{L:List Op8}(h:NO w B v L):GS opE w v L:=own_GS (E:=opE) h
theorem NO.nil (w:World)(B:Nat):NO w B (.slice none 0 0) []:=World.ownsRow_nil w B _ 8
theorem NO.mono {w:World}{B B':Nat}{v:Value}{L:List Op8}(h:NO w B v L)(hB:B'≤B):NO w B' v L:=by
 obtain⟨h1,h2 | ⟨g,cap,cur,hv,hb,h3⟩⟩:=h
 ·exact⟨h1,.inl h2⟩
 exact⟨h1,.inr ⟨g,cap,cur,hv,Nat.le_trans hB hb,h3⟩⟩
theorem NO.later {w w':World}{B:Nat}{v:Value}{L:List Op8}(h:NO w B v L)(hb:Below w.heap.size w w'):NO w' B v L:=h.kept (grown_below hb) (none_or _)
theorem NO.ofn {w:World}{B n:Nat}{v:Value}{M L:List Op8}(h:w.ownsRow B 83 8 v n (cellsG opE M))(hL:M=L)(hn:n=L.length):NO w B v L:=by subst hL hn;exact h
theorem NR.ofn {w:World}{B n:Nat}{v:Value}{M:List Ru}(h:w.ownsRow B 37 6 v n (cellsR M))(hn:n=M.length):NR w B v M:=by subst hn;exact h
theorem wpList_append_ops (w:World){ops:Array Oper}{rest:List Oper}{o:Oper}{a:Act}{Q:Exit→Act→World→Prop}(hgd:o.guard=none)(s x:Operand)(t:TypeId)
 (ho:o.op=.call { callee:=.builtin .append,args:=#[s,x],argTypes:=#[t,t] }) (ht:Tryz.prog.underlying t=some (.slice 83)) (base:Nat)
 (v:Value) (hs:a.eval s=v) (L:List Op8) (hown:NO w base v L) (u:Value) (hx:a.eval x=u) (M:List Op8) (hM:GS opE w u M)
 (h100:L.length+M.length≤1000000) (hbase:base≤w.heap.size)
 (h:∀v' w',NO w' base v' (L++M)→w.grownBy w' v.ownBlock→wpList Tryz.prog ops Q rest (a.put o.dst v') w'):wpList Tryz.prog ops Q (o :: rest) a w:=by
 obtain⟨i0,hi,hz0,hz1,hz2⟩:=info_parts op_info;exact wpList_append_GS (E:=opE) w hgd s x t 83 ho ht i0 _ 64 hi hz0 hz1 hz2 op_zero base v hs L hown u hx M hM (by unfold maxLen;omega) (by omega) hbase h
theorem ta_info:(Tryz.prog.info? 39).map (fun i=>(i.zero,i.size,i.bytes))=some (some (.slice none 0 0),1,24):=by kernel_rfl
theorem NR.sl {w:World}{B:Nat}{v:Value}{L:List Ru}(h:NR w B v L):∃x:SlT,v=slV x∧∀b,b<B→offB x b:=by
 rcases h.2 with ⟨rfl,h0⟩ | ⟨g,cap,cur,rfl,hg,_⟩
 ·exact⟨(none,0,0),rfl,fun b _=>.inl rfl⟩
 refine⟨(some ⟨g,0,none⟩,L.length,cap),rfl,fun b hb=>.inr fun a ha=>?_⟩;cases ha;show g≠b;omega
theorem own_form {w:World}{B e size n:Nat}{v:Value}{xs:List Value}(h:w.ownsRow B e size v n xs):∃ao cap,v=.slice ao n cap:=by
 rcases h.2 with ⟨rfl,rfl⟩ | ⟨g,cap,cur,rfl,_⟩
 ·exact⟨none,0,rfl⟩
 exact⟨_,cap,rfl⟩
def diN (S:Int)(Ls:LkQ)(Hs:HoQ)(Ts:List (List Ru))(S':Int)(Ls':LkQ)(Hs':HoQ)(Ts':List (List Ru)):Int:=
 if nwN S Ls Hs Ts S' Ls' Hs' Ts'=0 then (if tpB S S' Ls Ls' Hs Hs'=true then 0 else 3) else nwN S Ls Hs Ts S' Ls' Hs' Ts'
def diL (S:Int)(Ls:LkQ)(Hs:HoQ)(Ts:List (List Ru))(S':Int)(Ls':LkQ)(Hs':HoQ)(Ts':List (List Ru)):List Op8:=
 if diN S Ls Hs Ts S' Ls' Hs' Ts'=0 then cdL Ts Ts' Ts.length else []
theorem of_next {w:Int}{D:List Op8}{k:Nat}(hk:k<D.length)(C:List Op8):C++ofS w (D.take (k+1))=(C++ofS w (D.take k))++[⟨w,D[k].a,D[k].r⟩]:=by
 rw[List.take_succ_eq_append_getElem hk];simp only[ofS,List.map_append,List.map_cons,List.map_nil,List.append_assoc]
theorem chDiff_any (S:Int)(ao:Option Addr)(n cap:Nat)(ao2:Option Addr)(n2 cap2:Nat)(ao3:Option Addr)(n3 cap3:Nat)(S':Int)(bo:Option Addr)(m dap:Nat)(bo2:Option Addr)(m2 dap2:Nat)(bo3:Option Addr)(m3 dap3:Nat)(Ls:LkQ)(Hs:HoQ)(Ts:List (List Ru))(Ls':LkQ)(Hs':HoQ)(Ts':List (List Ru))(w:World)
 (hL:GS lnkE w (.slice ao n cap) Ls) (hH:GS hstE w (.slice ao2 n2 cap2) Hs) (hT:TS w (.slice ao3 n3 cap3) Ts) (hL':GS lnkE w (.slice bo m dap) Ls') (hH':GS hstE w (.slice bo2 m2 dap2) Hs') (hT':TS w (.slice bo3 m3 dap3) Ts'):
 Calls Tryz.prog 9 #[.agg #[.int .i64 S,.slice ao n cap,.slice ao2 n2 cap2,.slice ao3 n3 cap3],.agg #[.int .i64 S',.slice bo m dap,.slice bo2 m2 dap2,.slice bo3 m3 dap3]] w fun e w'=>∃v,e=.returned (.tuple #[v,noV (diN S Ls Hs Ts S' Ls' Hs' Ts')])∧NO w' w.heap.size v (diL S Ls Hs Ts S' Ls' Hs' Ts')∧Below w.heap.size w w':=by
 have hb0:Below w.heap.size w ((w.alloc (Obj.cells #[.int .i64 S,.slice ao n cap,.slice ao2 n2 cap2,.slice ao3 n3 cap3] 28)).alloc (Obj.cells #[.int .i64 S',.slice bo m dap,.slice bo2 m2 dap2,.slice bo3 m3 dap3] 28)):=((Below.refl _ _).alloc (Nat.le_refl _) _).alloc (by simp) _;have HNN:=nn_new w S (.slice ao n cap) (.slice ao2 n2 cap2) (.slice ao3 n3 cap3) S' (.slice bo m dap) (.slice bo2 m2 dap2) (.slice bo3 m3 dap3) 28;have HB0:Hid (Below w.heap.size w ((w.alloc (Obj.cells #[.int .i64 S,.slice ao n cap,.slice ao2 n2 cap2,.slice ao3 n3 cap3] 28)).alloc (Obj.cells #[.int .i64 S',.slice bo m dap,.slice bo2 m2 dap2,.slice bo3 m3 dap3] 28))):=hb0;have HW:Hid (∀W,Below w.heap.size w W→(GS lnkE W (.slice ao n cap) Ls∧GS hstE W (.slice ao2 n2 cap2) Hs∧TS W (.slice ao3 n3 cap3) Ts)∧GS lnkE W (.slice bo m dap) Ls'∧GS hstE W (.slice bo2 m2 dap2) Hs'∧TS W (.slice bo3 m3 dap3) Ts'):=fun W h=>⟨⟨hL.later h,hH.later h,hT.later h⟩,hL'.later h,hH'.later h,hT'.later h⟩
 obtain⟨_,_,_,e,gn,gn2,gn3,ga⟩:=hT.form;cases e;obtain⟨_,_,_,e,gm,gm2,gm3,gb⟩:=hT'.form;cases e;have HN:Hid (Ts.length=n3):=gn;have HM:Hid (Ts'.length=m3):=gm;have HA:Hid (0<n3→∃g o,ao3=some ⟨g,o,none⟩∧TAt w g o Ts∧cap3≤maxLen):=ga;have HA2:Hid (0<m3→∃g o,bo3=some ⟨g,o,none⟩∧TAt w g o Ts'∧dap3≤maxLen):=gb;have n63:n3≤9223372036854775807:=by unfold maxLen at gn2;omega
 obtain⟨C,hC⟩:∃X,X=nwN S Ls Hs Ts S' Ls' Hs' Ts':=⟨_,rfl⟩;have HC:Hid (C=nwN S Ls Hs Ts S' Ls' Hs' Ts'):=hC;obtain⟨X,hX⟩:∃X,X=diN S Ls Hs Ts S' Ls' Hs' Ts':=⟨_,rfl⟩;obtain⟨R,hR⟩:∃X,X=diL S Ls Hs Ts S' Ls' Hs' Ts':=⟨_,rfl⟩;have HX:Hid (X=if C=0 then (if tpB S S' Ls Ls' Hs Hs'=true then 0 else 3) else C):=by
  show _=_;rw[hX,diN,hC]
 have HR:Hid (R=if X=0 then cdL Ts Ts' Ts.length else []):=by
  show _=_;rw[hR,diL,hX]
 rw[←hX,←hR];clear hL hH hT hL' hH' hT' hb0 hX hR hC gn gn2 ga gm gm2 gb;go_enter Tryz.func9,Tryz.ntmps9
 go_wp2_with fail
 refine (chCheck_any S ao n cap ao2 n2 cap2 ao3 n3 cap3 S' bo m dap bo2 m2 dap2 bo3 m3 dap3 Ls Hs Ts Ls' Hs' Ts' _ (HW.out _ HB0.out).1.1 (HW.out _ HB0.out).1.2.1 (HW.out _ HB0.out).1.2.2 (HW.out _ HB0.out).2.1 (HW.out _ HB0.out).2.2.1 (HW.out _ HB0.out).2.2.2).mono ?_;rintro e w1 ⟨rfl,hb1⟩;rw[←HC.out];have HB1:Hid (Below w.heap.size w w1):=HB0.out.trans (hb1.mono HB0.out.size);have HNH:Hid (NN w1 w.heap.size S (.slice ao n cap) (.slice ao2 n2 cap2) (.slice ao3 n3 cap3) S' (.slice bo m dap) (.slice bo2 m2 dap2) (.slice bo3 m3 dap3)):=HNN.later hb1;obtain⟨⟨p0,p1,p2,p3⟩,s0,s1,s2,s3⟩:=HNN.later hb1;have hlt1:w.heap.size<w1.heap.size:=bLQ _ _ p0;have hlt2:w.heap.size+1<w1.heap.size:=bLQ _ _ s0;clear hb1 HNN HB0;by_cases h0:C=0
 ·subst h0;rw[no_ok rfl]
  go_wp2_with fail
  refine (sameTopo_any S ao n cap ao2 n2 cap2 Ls Hs S' bo m dap bo2 m2 dap2 Ls' Hs' _ (HW.out _ HB1.out).1.1 (HW.out _ HB1.out).1.2.1 (HW.out _ HB1.out).2.1 (HW.out _ HB1.out).2.2.1).mono ?_;rintro e w2 ⟨rfl,hb2⟩;have HB2:Hid (Below w.heap.size w w2):=HB1.out.trans (hb2.mono HB1.out.size);have HN2:Hid (NN w2 w.heap.size S (.slice ao n cap) (.slice ao2 n2 cap2) (.slice ao3 n3 cap3) S' (.slice bo m dap) (.slice bo2 m2 dap2) (.slice bo3 m3 dap3)):=HNH.out.later hb2;clear p0 p1 p2 p3 s0 s1 s2 s3 hlt1 hlt2;obtain⟨⟨p0,p1,p2,p3⟩,s0,s1,s2,s3⟩:=HNH.out.later hb2;have hlt1:w.heap.size<w2.heap.size:=bLQ _ _ p0;have hlt2:w.heap.size+1<w2.heap.size:=bLQ _ _ s0;obtain⟨b1,hb⟩:∃b,b=tpB S S' Ls Ls' Hs Hs':=⟨_,rfl⟩;have HBE:Hid (tpB S S' Ls Ls' Hs Hs'=b1):=hb.symm;rw[HBE.out];clear hb hb2 HNH HB1;cases b1 with
  | false =>
    have HX3:Hid (X=3):=by
     show _=_;rw[HX.out,HBE.out];rfl
    have HR3:Hid (R=[]):=by
     show _=_;rw[HR.out,HX3.out];rfl
    go_wp2;refine bodyPost_ret (v:=.tuple #[.slice none 0 0,.iface 63 (.int .i64 3)]) (by simp[results,Tryz.results9,go_sem]) rfl ?_;rw[HX3.out,HR3.out];exact⟨_,rfl,NO.nil _ _,HB2.out⟩
  | true =>
    have HX0:Hid (X=0):=by
     show _=_;rw[HX.out,HBE.out];rfl
    have HR0:Hid (R=cdL Ts Ts' n3):=by
     show _=_;rw[HR.out,HX0.out,HN.out];rfl
    have HTW:Hid (∀j,j<n3→j<m3→twN (Ts.getD j []) (Ts'.getD j [])=0):=fun j h1 h2=>nw_tw HC.out.symm j (by rw[HN.out];exact h1) (by rw[HM.out];exact h2)
    have hnm:n3=m3:=by
     have h1:=(nt_0 (nw_two HC.out.symm).1).2.1;have h2:=(nt_0 (nw_two HC.out.symm).2).2.1;have h3:=(tpB_iff.1 HBE.out).1;rw[HN.out] at h1;rw[HM.out] at h2;omega
    subst hnm;have h36:n3≤6:=by
     have h1:=(nt_0 (nw_two HC.out.symm).1).2.1;have h2:=(tp_0 (nt_0 (nw_two HC.out.symm).1).1).1;rw[HN.out] at h1;omega
    have HFW:Hid (∀k,k≤n3→(cdL Ts Ts' k).length≤24*k):=by
     intro k
     induction k with
     | zero=>intro _;simp[cdL]
     | succ k ih =>
       intro hk;have h1:=ih (by omega);have h2:(dfL (Ts.getD k []) (Ts'.getD k [])).length≤24:=by
        have h:=HTW.out k (by omega) (by omega);have h3:=tw_two h;have a:=(tb_iff.1 h3.1).1;have b:=(tb_iff.1 h3.2).1;have c:=bey_le (Ts.getD k []) (Ts'.getD k []);have d:=bey_le (Ts'.getD k []) (Ts.getD k []);rw[dfL,if_pos h];simp only[taken,added,List.length_append,List.length_map];omega
       rw[cdL,List.length_append,ofS,List.length_map];omega
    go_wp2
    go_loopw [7,30] (fun u i wr=>∃k:Nat,k≤n3∧i=.int .i64 k∧NO wr (w.heap.size+2) u (cdL Ts Ts' k)∧NN wr w.heap.size S (.slice ao n cap) (.slice ao2 n2 cap2) (.slice ao3 n3 cap3) S' (.slice bo m dap) (.slice bo2 m2 dap2) (.slice bo3 n3 dap3)∧Below w.heap.size w wr) (fun _ i _=>n3-(intOf i).toNat)
    case atStart=>exact⟨0,by omega,rfl,NO.nil _ _,HN2.out,HB2.out⟩
    case round =>
     obtain⟨k,hk,rfl,hO,hX,hB⟩:=hrel;clear HN2 HB2 p0 p1 p2 p3 s0 s1 s2 s3 hlt1 hlt2;have HB:Hid (Below w.heap.size w wr):=hB;have HO:Hid (NO wr (w.heap.size+2) u7 (cdL Ts Ts' k)):=hO;have HNX:Hid (NN wr w.heap.size S (.slice ao n cap) (.slice ao2 n2 cap2) (.slice ao3 n3 cap3) S' (.slice bo m dap) (.slice bo2 m2 dap2) (.slice bo3 n3 dap3)):=hX;obtain⟨⟨p0,p1,p2,p3⟩,s0,s1,s2,s3⟩:=hX;have hlt1:w.heap.size<wr.heap.size:=bLQ _ _ p0;have hlt2:w.heap.size+1<wr.heap.size:=bLQ _ _ s0;by_cases hlt:k<n3
     ·obtain⟨g,og,hao,hc,_⟩:=HA.out (by omega);obtain⟨f,of,hbo,hd,_⟩:=HA2.out (by omega);subst hao hbo;have hkA:k<Ts.length:=by rw[HN.out];exact hlt
      have hkB:k<Ts'.length:=by rw[HM.out];exact hlt
      obtain⟨a3,l3,c3,r0,hG3⟩:=(hc.later hB) k hkA;obtain⟨a4,l4,c4,r1,hG4⟩:=(hd.later hB) k hkB;rw[←getT hkA] at hG3;rw[←getT hkB] at hG4;have HG3:Hid (SR wr (.slice a3 l3 c3) (Ts.getD k [])):=hG3;have HG4:Hid (SR wr (.slice a4 l4 c4) (Ts'.getD k [])):=hG4;have HT0:Hid (twN (Ts.getD k []) (Ts'.getD k [])=0):=HTW.out k hlt hlt;have kb0:(0:Int)≤(k:Int):=by omega
      have kb1:(k:Int)<(n3:Int):=by omega
      clear hc hd hB hG3 hG4 hO
      go_wp2_with fail
      refine (diff_own a3 l3 c3 a4 l4 c4 _ _ wr HG3.out HG4.out HT0.out).mono ?_;rintro e w3 ⟨v5,rfl,hown,hb3⟩;obtain⟨D,hD⟩:∃D,D=dfL (Ts.getD k []) (Ts'.getD k []):=⟨_,rfl⟩;have HD:Hid (cdL Ts Ts' (k+1)=cdL Ts Ts' k++ofS ((k:Int)+1) D):=by
       show _=_;rw[cdL,hD]
      have hD2:NO w3 wr.heap.size v5 D:=by
       rw[hD,dfL,if_pos HT0.out];exact hown
      obtain⟨a5,n5,c5,rfl⟩:∃b1 m1 d1,v5=.slice b1 m1 d1:=by
       obtain⟨a,c,h⟩:=own_form hD2;exact⟨a,_,c,h⟩
      have HDL:Hid (D.length=n5):=hD2.gs.len;have HD24:Hid ((cdL Ts Ts' k).length+D.length≤1000):=by
       have h1:=HFW.out (k+1) (by omega);rw[HD.out,List.length_append,ofS,List.length_map] at h1;show _≤_;omega
      have hn5:n5≤1000:=by have:=HD24.out;rw[HDL.out] at this;omega
      have HNO3:Hid (NO w3 wr.heap.size (.slice a5 n5 c5) D):=hD2;have HO3:Hid (NO w3 (w.heap.size+2) u7 (cdL Ts Ts' k)):=HO.out.later hb3;have HOB:Hid (∀b,u7.ownBlock=some b→b<wr.heap.size):=fun b hb=>(HO.out.lt b hb).2
      have HB3:Hid (Below w.heap.size w w3):=HB.out.trans (hb3.mono HB.out.size);have HN3:Hid (NN w3 w.heap.size S (.slice ao n cap) (.slice ao2 n2 cap2) (.slice (some ⟨g,og,none⟩) n3 cap3) S' (.slice bo m dap) (.slice bo2 m2 dap2) (.slice (some ⟨f,of,none⟩) n3 dap3)):=HNX.out.later hb3;have HS3:Hid (w.heap.size+2≤wr.heap.size):=by show _≤_;omega
      have HLE:Hid (wr.heap.size≤w3.heap.size):=hb3.size;clear hown hb3 hD hD2 p0 p1 p2 p3 s0 s1 s2 s3 hlt1 hlt2 r0 r1 HO HNX HB HG3 HG4;have HAP:Hid ((Value.slice a5 n5 c5).ownBlock=none∨(Value.slice a5 n5 c5).ownBlock≠u7.ownBlock):=by
       rcases h5:(Value.slice a5 n5 c5).ownBlock with _ | b5
       ·exact .inl rfl
       refine .inr fun e=>?_
       have h1:=(HNO3.out.lt b5 h5).1;have h2:=HOB.out b5 e.symm;omega
      obtain⟨i0,hi,hz0,hz1,hz2⟩:=info_parts op_info;have HI1:Hid (Tryz.prog.info? 83=some i0):=hi;have HI2:Hid (i0.zero=some (.agg #[.int .i64 0,.bool false,.int .i64 0,.int .i64 0,.int .i64 0,.int .i64 0,.int .i64 0,.int .i64 0])):=hz0;have HI3:Hid (i0.size=8):=hz1;have HI4:Hid (i0.bytes=64):=hz2;have kw:IntKind.i64.wrap ((k:Int)+1)=(k:Int)+1:=by rw[IntKind.wrap_i64];omega
      have kw2:wrap64 ((k:Int)+1)=(k:Int)+1:=by unfold wrap64;omega
      obtain⟨_,_,_,e,h51,h52,h53,h5a⟩:=HNO3.out.gs.form;cases e;clear hi hz0 hz1 hz2 h51 h52 h53 h5a HOB
      generalize hZ:wr.heap.size=Z at HNO3 HS3 HLE
      clear hZ;go_wp2
      go_loopw [7,47] (fun u j W=>∃q:Nat,q≤n5∧j=.int .i64 q∧NO W (w.heap.size+2) u (cdL Ts Ts' k++ofS ((k:Int)+1) (D.take q))∧NN W w.heap.size S (.slice ao n cap) (.slice ao2 n2 cap2) (.slice (some ⟨g,og,none⟩) n3 cap3) S' (.slice bo m dap) (.slice bo2 m2 dap2) (.slice (some ⟨f,of,none⟩) n3 dap3)∧NO W Z (.slice a5 n5 c5) D∧((Value.slice a5 n5 c5).ownBlock=none∨(Value.slice a5 n5 c5).ownBlock≠u.ownBlock)∧Below w.heap.size w W) (fun _ j _=>n5-(intOf j).toNat)
      case atStart=>exact⟨0,by omega,rfl,by simpa[ofS] using HO3.out,HN3.out,HNO3.out,HAP.out,HB3.out⟩
      case round =>
       obtain⟨q,hq,rfl,hO,hX,hNO,hap,hB⟩:=hrel;clear HO3 HN3 HNO3 HAP HB3;have HB:Hid (Below w.heap.size w wr):=hB;have HO:Hid (NO wr (w.heap.size+2) u7 (cdL Ts Ts' k++ofS ((k:Int)+1) (D.take q))):=hO;have HNX:Hid (NN wr w.heap.size S (.slice ao n cap) (.slice ao2 n2 cap2) (.slice (some ⟨g,og,none⟩) n3 cap3) S' (.slice bo m dap) (.slice bo2 m2 dap2) (.slice (some ⟨f,of,none⟩) n3 dap3)):=hX;have HNO:Hid (NO wr Z (.slice a5 n5 c5) D):=hNO;have HAP:Hid ((Value.slice a5 n5 c5).ownBlock=none∨(Value.slice a5 n5 c5).ownBlock≠u7.ownBlock):=hap;have HLW:Hid (w.heap.size+2≤wr.heap.size):=by
        have:=bLQ _ _ hX.2.1;show _≤_;simp at this;omega
       clear hO hX hap;by_cases hlq:q<n5
       ·obtain⟨_,_,_,e,_,_,_,ha⟩:=hNO.gs.form;cases e;obtain⟨g5,o5,rfl,hGA,_⟩:=ha (by omega);obtain⟨y0,ya,p,m',b,o',s',v,hql,hDq,r0,r1,r2,r3,r4,r5,r6,r7⟩:=op_at hGA HDL.out hlq;have qb0:(0:Int)≤(q:Int):=by omega
        have qb1:(q:Int)<(n5:Int):=by omega
        have HNX2:Hid (cdL Ts Ts' k++ofS ((k:Int)+1) (D.take (q+1))=(cdL Ts Ts' k++ofS ((k:Int)+1) (D.take q))++[⟨(k:Int)+1,ya,⟨p,m',b,o',s',v⟩⟩]):=by
         show _=_;rw[of_next hql,hDq]
        have HL1:Hid ((cdL Ts Ts' k++ofS ((k:Int)+1) (D.take q)).length≤1000):=by
         have:=HD24.out;show _≤_;rw[List.length_append,ofS,List.length_map,List.length_take];omega
        have HLV1:Hid ((cdL Ts Ts' k++ofS ((k:Int)+1) (D.take q)).length+1≤maxLen):=by
         have:=HL1.out;show _≤_;unfold maxLen;omega
        have HLV2:Hid (((cdL Ts Ts' k++ofS ((k:Int)+1) (D.take q)).length+1)*64≤140737488355328):=by
         have:=HL1.out;show _≤_;omega
        have hBB:Below wr.heap.size wr ((wr.alloc (Obj.cells #[.int .i64 ((k:Int)+1),.bool ya,.int .i64 p,.int .i64 m',.int .i64 b,.int .i64 o',.int .i64 s',.int .i64 v] 83)).alloc (Obj.cells #[.int .i64 ((k:Int)+1),.bool ya,.int .i64 p,.int .i64 m',.int .i64 b,.int .i64 o',.int .i64 s',.int .i64 v] 83)):=((Below.refl _ _).alloc (Nat.le_refl _) _).alloc (by simp) _;have HBB:Hid (Below wr.heap.size wr ((wr.alloc (Obj.cells #[.int .i64 ((k:Int)+1),.bool ya,.int .i64 p,.int .i64 m',.int .i64 b,.int .i64 o',.int .i64 s',.int .i64 v] 83)).alloc (Obj.cells #[.int .i64 ((k:Int)+1),.bool ya,.int .i64 p,.int .i64 m',.int .i64 b,.int .i64 o',.int .i64 s',.int .i64 v] 83))):=hBB;have HVA:Hid (VAt ((wr.alloc (Obj.cells #[.int .i64 ((k:Int)+1),.bool ya,.int .i64 p,.int .i64 m',.int .i64 b,.int .i64 o',.int .i64 s',.int .i64 v] 83)).alloc (Obj.cells #[.int .i64 ((k:Int)+1),.bool ya,.int .i64 p,.int .i64 m',.int .i64 b,.int .i64 o',.int .i64 s',.int .i64 v] 83)) (wr.heap.size+1) 0 (opE.c ⟨(k:Int)+1,ya,⟨p,m',b,o',s',v⟩⟩)):=by
         have h:=op_new (wr.alloc (Obj.cells #[.int .i64 ((k:Int)+1),.bool ya,.int .i64 p,.int .i64 m',.int .i64 b,.int .i64 o',.int .i64 s',.int .i64 v] 83)) ((k:Int)+1) ya p m' b o' s' v 83;rw[World.size_alloc] at h;exact h
        clear hNO ha hGA hDq hBB hB
        go_wp2_with (at_builtin;refine wpList_append_blk (E:=opE) _ rfl _ _ 45 83 rfl Tryz.underlying45 i0 _ 64 HI1.out HI2.out HI3.out HI4.out op_zero (w.heap.size+2) u7 rfl (cdL Ts Ts' k++ofS ((k:Int)+1) (D.take q)) (HO.out.later HBB.out) (wr.heap.size+1) 0 1 rfl ⟨(k:Int)+1,ya,⟨p,m',b,o',s',v⟩⟩ HVA.out HLV1.out HLV2.out (Nat.le_trans HLW.out HBB.out.size) ?_)
        intro v' w4 hown hgrow hblk;have hNB:=HNO.out.later HBB.out;have HO4:Hid (NO w4 (w.heap.size+2) v' (cdL Ts Ts' k++ofS ((k:Int)+1) (D.take (q+1)))):=by
         show NO _ _ _ _;rw[HNX2.out];refine NO.ofn hown (by simp) ?_;simp only[List.length_append,List.length_cons,List.length_nil];omega
        have HN4:Hid (NO w4 Z (.slice (some ⟨g5,o5,none⟩) n5 c5) D):=hNB.kept hgrow HAP.out;have HB4:Hid (Below w.heap.size w w4):=by
         have h1:=HB.out.trans (HBB.out.mono HB.out.size);exact h1.grown hgrow h1.size (fun b hb=>by have:=(HO.out.lt b hb).1;omega)
        have HX4:Hid (NN w4 w.heap.size S (.slice ao n cap) (.slice ao2 n2 cap2) (.slice (some ⟨g,og,none⟩) n3 cap3) S' (.slice bo m dap) (.slice bo2 m2 dap2) (.slice (some ⟨f,of,none⟩) n3 dap3)):=(HNX.out.later HBB.out).grown hgrow (fun b hb=>(HO.out.lt b hb).1);have HAP4:Hid ((Value.slice (some ⟨g5,o5,none⟩) n5 c5).ownBlock=none∨(Value.slice (some ⟨g5,o5,none⟩) n5 c5).ownBlock≠v'.ownBlock):=by
         rcases hblk with h | h
         ·rw[h];exact HAP.out
         refine .inr fun e=>?_
         rw[h] at e;have h2:=(hNB.lt _ e).2;simp at h2
        clear hown hgrow hblk hNB r0 r1 r2 r3 r4 r5 r6 r7 HVA HBB;go_wp2;go_roundw
        case rel=>exact⟨q+1,by omega,by go_num,HO4.out,HX4.out,HN4.out,HAP4.out,HB4.out⟩
        case measure=>simp[intOf];omega
       obtain rfl:q=n5:=by omega
       have HO4:Hid (NO wr (w.heap.size+2) u7 (cdL Ts Ts' (k+1))):=by
        have h:=HO.out;rw[←HDL.out,List.take_length,←HD.out] at h;exact h
       clear hNO hB;go_wp2;go_roundw
       case rel=>exact⟨k+1,by omega,by go_num,HO4.out,HNX.out,HB.out⟩
       case measure=>simp[intOf];omega
     obtain rfl:k=n3:=by omega
     clear hB hO;go_wp2;refine bodyPost_ret (v:=.tuple #[u7,.nilIface]) (by simp[results,Tryz.results9,go_sem]) rfl ?_;rw[HX0.out,HR0.out];exact⟨_,rfl,HO.out.mono (by omega),HB.out⟩
 have HNZ:Hid (C≠0):=h0;have HXC:Hid (X=C):=by
  show _=_;rw[HX.out,if_neg h0]
 have HR3:Hid (R=[]):=by
  show _=_;rw[HR.out,HXC.out,if_neg h0]
 rw[no_ne h0];clear h0;go_wp2;refine bodyPost_ret (v:=.tuple #[.slice none 0 0,.iface 63 (.int .i64 C)]) (by simp[results,Tryz.results9,go_sem]) rfl ?_;rw[HXC.out,HR3.out,no_ne HNZ.out];exact⟨_,rfl,NO.nil _ _,HB1.out⟩
theorem lnk_grow_nil (n:Nat)(w:World)(hn:n≤1000):
 Calls Tryz.prog 91 #[.slice none 0 0,.int .i64 n] w fun e w'=>∃v,e=.returned v∧w'.ownsRow w.heap.size 78 4 v 0 []∧Below w.heap.size w w':=by
 have h1:¬((n:Int)<0):=by omega
 by_cases h0:n=0
 ·subst h0;go_enter Tryz.func91,Tryz.ntmps91;go_wp2;go_ret;exact⟨_,rfl,World.ownsRow_nil _ _ _ _,Below.refl _ _⟩
 obtain⟨i0,hi,hz0,hz1,hz2⟩:=info_parts lnk_info;have h3:wrap64 ((n:Int)-0)=(n:Int):=by unfold wrap64;omega
 have h4:(n:Int) > 0:=by omega
 have hrz:∀ty,(Builtin.append_ #[22,3] ty #[.slice none 0 0,.int .i64 n]).run Tryz.prog w =
  .ok (.slice (some ⟨w.heap.size,0,none⟩) n (grownCap w n 0 78)) (w.drew.alloc (.cells (Builtin.zeroCells (Value.agg #[.int .i64 0,.int .i64 0,.int .i64 0,.int .i64 0]).cells n++Builtin.zeroCells (Value.agg #[.int .i64 0,.int .i64 0,.int .i64 0,.int .i64 0]).cells (grownCap w n 0 78-n)) 78)):=fun ty =>
  Lib.run_append_nil_zeros w 22 3 ty 78 i0 _ .i64 .i64 Tryz.underlying22 Tryz.underlying3 hi hz0 n (by omega) (by rw[hz1];decide) (by omega) (by rw[hz2];omega)
 have hGn:n≤grownCap w n 0 78:=grownCap_ge w _ _ _;have hGm:grownCap w n 0 78≤maxLen:=grownCap_le_maxLen w n 0 78 (by unfold maxLen;omega)
 generalize grownCap w n 0 78=G at *
 have HM:Hid (G≤maxLen):=hGm;have hG63:G≤9223372036854775807:=by unfold maxLen at hGm;omega
 have HO:Hid ((w.drew.alloc (.cells (Builtin.zeroCells (Value.agg #[.int .i64 0,.int .i64 0,.int .i64 0,.int .i64 0]).cells n++Builtin.zeroCells (Value.agg #[.int .i64 0,.int .i64 0,.int .i64 0,.int .i64 0]).cells (G-n)) 78)).ownsRow w.heap.size 78 4 (.slice (some ⟨w.heap.size,0,none⟩) 0 G) 0 []):=
  World.ownsRow_made w.drew _ G (Nat.le_refl _) HM.out (by
   simp only[Array.size_append,size_zeroCells,lnk_zero,←Nat.add_mul]
   congr 1
   omega)
 clear hGm;go_enter Tryz.func91,Tryz.ntmps91
 go_wp2_with (at_builtin;refine Lib.wpList_append_run _ rfl _ _ _ _ rfl _ _ rfl rfl _ _ (hrz _) ?_)
 all_goals (go_ret;exact⟨_,rfl,HO.out,((Below.refl _ _).drew).alloc (Nat.le_refl _) _⟩)
def lnkPt (w:World)(g o:Nat)(Ls:List (LkQ)):Prop:=∀i (h:i<Ls.length),∃ao n cap,w.cell? ⟨g,o+i,none⟩=some (.slice ao n cap)∧GS lnkE w (.slice ao n cap) Ls[i]
theorem lnkPt.later {w w':World}{g o:Nat}{Ls:List (LkQ)}(h:lnkPt w g o Ls)(hb:Below w.heap.size w w'):lnkPt w' g o Ls:=fun i hi=>by
 obtain⟨ao,n,cap,h1,h2⟩:=h i hi;exact⟨ao,n,cap,cell_later hb h1,h2.later hb⟩
theorem lnk_flat_next {Ls:List (LkQ)}{k:Nat}(hk:k<Ls.length):(Ls.take (k+1)).flatten=(Ls.take k).flatten++Ls[k]:=by
 rw[List.take_succ_eq_append_getElem hk];simp only[List.flatten_append,List.flatten_cons,List.flatten_nil,List.append_nil]
theorem lnk_flat_le {Ls:List (LkQ)}(k:Nat):(Ls.take k).flatten.length≤Ls.flatten.length:=by
 have:Ls.flatten=(Ls.take k).flatten++(Ls.drop k).flatten:=by rw[←List.flatten_append,List.take_append_drop]
 rw[this,List.length_append];omega
theorem lnk_append (w:World){ops:Array Oper}{rest:List Oper}{o:Oper}{a:Act}{Q:Exit→Act→World→Prop}(hgd:o.guard=none)(s x:Operand)(t:TypeId)
 (ho:o.op=.call { callee:=.builtin .append,args:=#[s,x],argTypes:=#[t,t] }) (ht:Tryz.prog.underlying t=some (.slice 78)) (base:Nat)
 (v:Value) (hs:a.eval s=v) (L:LkQ) (hown:w.ownsRow base 78 4 v L.length (cellsG lnkE L)) (u:Value) (hx:a.eval x=u) (M:LkQ) (hM:GS lnkE w u M)
 (h100:L.length+M.length≤1000000) (hbase:base≤w.heap.size)
 (h:∀v' w',w'.ownsRow base 78 4 v' (L++M).length (cellsG lnkE (L++M))→w.grownBy w' v.ownBlock→wpList Tryz.prog ops Q rest (a.put o.dst v') w'):wpList Tryz.prog ops Q (o :: rest) a w:=by
 obtain⟨i0,hi,hz0,hz1,hz2⟩:=info_parts lnk_info;exact wpList_append_GS (E:=lnkE) w hgd s x t 78 ho ht i0 _ 32 hi hz0 hz1 hz2 lnk_zero base v hs L hown u hx M hM (by unfold maxLen;omega) (by omega) hbase h
theorem lnk_concat (g o m cap:Nat)(Ls:List (LkQ))(w:World)(hm:Ls.length=m)(hm2:m≤1000)(hc:lnkPt w g o Ls)(hs:Ls.flatten.length≤1000):
 Calls Tryz.prog 61 #[.slice (some ⟨g,o,none⟩) m cap] w fun e w'=>∃v,e=.returned v∧w'.ownsRow w.heap.size 78 4 v Ls.flatten.length (cellsG lnkE Ls.flatten)∧Below w.heap.size w w':=by
 have HM:Hid (Ls.length=m):=hm;have HC:Hid (lnkPt w g o Ls):=hc;have HS:Hid (Ls.flatten.length≤1000):=hs;obtain⟨N,hN⟩:∃N,N=Ls.flatten.length:=⟨_,rfl⟩;have HN:Hid (N=Ls.flatten.length):=hN;have hN2:N≤1000:=by omega
 clear hm hc hs hN;go_enter Tryz.func61,Tryz.ntmps61
 go_upto_block 0 with fail
 go_cut [3] from 3 (fun z w'=>z=.int .i64 (N:Int)∧w'=w)
 case first =>
  go_wp2
  go_loopw [3,11] (fun z i wr=>∃k:Nat,k≤m∧i=.int .i64 k∧z=.int .i64 ((Ls.take k).flatten.length:Int)∧wr=w) (fun _ i _=>m-(intOf i).toNat)
  case atStart=>exact⟨0,by omega,rfl,rfl,rfl⟩
  case round =>
   obtain⟨k,hk,rfl,rfl,rfl⟩:=hrel;by_cases hlt:k<m
   ·have hkl:k<Ls.length:=by rw[HM.out];exact hlt
    obtain⟨ao,n,cap2,q0,hsr⟩:=HC.out k hkl;have HT:Hid ((Ls.take (k+1)).flatten.length=(Ls.take k).flatten.length+n):=by
     show _=_;rw[lnk_flat_next hkl,List.length_append,hsr.len]
    have hb1:(Ls.take k).flatten.length+n≤1000:=by
     have h1:=lnk_flat_le (Ls:=Ls) (k+1);have h2:=HS.out;have h3:=HT.out;omega
    generalize (Ls.take k).flatten.length=z at *
    clear hsr;go_wp2;go_roundw
    case rel=>exact⟨k+1,by omega,by go_num,by rw[HT.out];go_num,by simp⟩
    case measure=>simp[intOf];omega
   obtain rfl:k=m:=by omega
   go_wp2_with fail
   go_meet
   case rel=>exact⟨by rw[←HM.out,List.take_length,HN.out],rfl⟩
 case rest =>
  obtain⟨rfl,rfl⟩:=hcut
  go_wp2_with fail
  refine (lnk_grow_nil N _ hN2).mono ?_;rintro e w1 ⟨v,rfl,hown,hB⟩;have HO:Hid (w1.ownsRow wc.heap.size 78 4 v 0 []):=hown;have HB:Hid (Below wc.heap.size wc w1):=hB;clear hown hB;go_wp2
  go_loopw [6,27] (fun u i wr=>∃k:Nat,k≤m∧i=.int .i64 k∧wr.ownsRow wc.heap.size 78 4 u (Ls.take k).flatten.length (cellsG lnkE (Ls.take k).flatten)∧Below wc.heap.size wc wr) (fun _ i _=>m-(intOf i).toNat)
  case atStart=>exact⟨0,by omega,rfl,HO.out,HB.out⟩
  case round =>
   obtain⟨k,hk,rfl,hown,hB⟩:=hrel;have HOW:Hid (wr.ownsRow wc.heap.size 78 4 u6 (Ls.take k).flatten.length (cellsG lnkE (Ls.take k).flatten)):=hown;have HBW:Hid (Below wc.heap.size wc wr):=hB;clear hown;by_cases hlt:k<m
   ·have hkl:k<Ls.length:=by rw[HM.out];exact hlt
    obtain⟨ao,n,cap2,q0,hsr⟩:=(HC.out.later hB) k hkl;have HSR:Hid (GS lnkE wr (.slice ao n cap2) Ls[k]):=hsr;have HL1:Hid ((Ls.take k).flatten.length+Ls[k].length≤1000000):=by
     have h1:=lnk_flat_le (Ls:=Ls) (k+1);rw[lnk_flat_next hkl,List.length_append] at h1;have h2:=HS.out;show _≤_;omega
    clear hsr hB
    go_wp2_with (at_builtin;refine lnk_append _ rfl _ _ 22 rfl Tryz.underlying22 wc.heap.size _ rfl _ HOW.out _ rfl _ HSR.out HL1.out HBW.out.size ?_)
    intro v' w3 hown3 hgrow;have HO5:Hid (w3.ownsRow wc.heap.size 78 4 v' (Ls.take (k+1)).flatten.length (cellsG lnkE (Ls.take (k+1)).flatten)):=by
     show w3.ownsRow _ _ _ _ _ _;rw[lnk_flat_next hkl,show ((Ls.take k).flatten++Ls[k]).length=(List.take k (List.map List.length Ls)).sum+Ls[k].length by simp];exact hown3
    have HB5:Hid (Below wc.heap.size wc w3):=HBW.out.grown hgrow HBW.out.size (fun g hg=>(HOW.out.lt g hg).1);clear hown3 hgrow q0;go_wp2;go_roundw
    case rel=>exact⟨k+1,by omega,by go_num,HO5.out,HB5.out⟩
    case measure=>simp[intOf];omega
   obtain rfl:k=m:=by omega
   go_wp2;go_ret;refine⟨_,rfl,?_,HBW.out⟩;have:=HOW.out;rw[←HM.out,List.take_length] at this;exact this
theorem below_grown {B:Nat}{w W:World}{row:Option Nat}(h:w.grownBy W row)(hB:B≤w.heap.size)(hr:∀k,row=some k→B≤k):Below B w W:=
 ⟨h.os,h.tape,h.output,h.size,fun k hk=>h.block k (by omega) (fun e=>by have:=hr k e.symm;omega)⟩
theorem step_append_blk {P:Program}{α:Type}{E:Enc α}(w:World){ops:Array Oper}{o:Oper}{a:Act}{K:Act→World→Prop}{Q:Exit→Act→World→Prop}{X:Prop}(hgd:o.guard=none)(s x:Operand)(t e:TypeId)
 (ho:o.op=.call { callee:=.builtin .append,args:=#[s,x],argTypes:=#[t,t] }) (ht:P.underlying t=some (.slice e)) (i:TypeInfo) (z:Value) (bytes:Nat) (hi:P.info? e=some i) (hz:i.zero=some z)
 (hsize:i.size=E.n) (hby:i.bytes=bytes) (hzs:z.cells.size=E.n) (base:Nat)
 (v:Value) (hs:a.eval s=v) (L:List α) (hown:w.ownsRow base e E.n v L.length (cellsG E L)) (g q c:Nat) (hx:a.eval x=.slice (some ⟨g,q,none⟩) 1 c) (y:α) (hM:VAt w g q (E.c y))
 (h63:L.length+1≤maxLen) (hbytes:(L.length+1)*bytes≤140737488355328) (hbase:base≤w.heap.size)
 (h:∀v' w',w'.ownsRow base e E.n v' (L++[y]).length (cellsG E (L++[y]))→w.grownBy w' v.ownBlock→v'.ownBlock=v.ownBlock∨v'.ownBlock=some w.heap.size→K (a.put o.dst v') w'):
 if Region.wanted o (yielded ops a.tmps)=true then Oper.wp P o a w K Q else X:=by
 have hw:Region.wanted o (yielded ops a.tmps)=true:=by simp[Region.wanted,hgd]
 rw[if_pos hw];have hG:GAt E w g q [y]:=by
  intro k hk;obtain rfl:k=0:=by simp at hk;omega
  simpa using hM
 have hc:=hG.cells;rw[cellsG_one] at hc;have hl:(E.c y).length=1*E.n:=by rw[E.len];omega
 obtain⟨v',w',hr,h2,h3,_⟩:=run_append_own (P:=P) w base t o.type e i z E.n bytes ht hi hz hsize hby hzs E.pos v _ _ hown ⟨g,q,none⟩ 1 c (E.c y) hl hc (E.one y) h63 hbytes hbase;have hb:=run_append_blk (P:=P) t o.type e i z ht hi hz v _ _ (by rw[hsize];exact hown) ⟨g,q,none⟩ c (E.c y) (by rw[hsize];exact hl) hc (E.one y) h63 (by rw[hby];exact hbytes) hr;unfold Oper.wp execOp;simp only[ho,resolve,invoke,builtin,Sem.run_bind,Sem.run_pure,Result.andThen_ok,List.map_toArray,List.map_cons,List.map_nil,hs,hx,hr];exact h v' w' (by rw[List.length_append,cellsG_app,cellsG_one];exact h2) h3 hb
section
variable {e1 e2:TypeId}{w W1 W1' W2 W2' Wf:World}{B:Nat}{v u v' u':Value}{vs us:List SlT}{Cs Ps:List (List Int)}
end
theorem infoByte:(Tryz.prog.info? 5).map (fun i=>(i.zero,i.size,i.bytes))=some (some (.int .u8 0),1,1):=by kernel_rfl
theorem liteClone (s:ByteArray)(w:World)(hlim:s.size≤1000000):
 Calls Tryz.prog 85 #[.string s] w fun e w'=>e=.returned (.string s)∧Below w.heap.size w w':=by
 by_cases h0:s.size=0
 ·have hs:s=⟨#[]⟩:=by
   apply ByteArray.ext
   exact Array.eq_empty_of_size_eq_zero h0
  subst hs;go_enter Tryz.func85,Tryz.ntmps85;go_wp2;go_ret;exact⟨rfl,Below.refl _ _⟩
 obtain⟨i0,hi,hz0,hz1,hz2⟩:=info_parts infoByte;have hinfo:(Tryz.prog.info? 5).map (·.size)=some 1:=by rw[hi];simp[hz1]
 have hco:Tryz.prog.cellsOf 5=1:=by simp[Program.cellsOf,hi,hz1]
 obtain⟨M,hM⟩:∃M,M=madeCells (Value.int .u8 0).cells (((s.size:Nat):Int).toNat*i0.size):=⟨_,rfl⟩;have hMs:M.size=s.size:=by rw[hM,size_madeCells,hz1];simp
 have hmk:(Instr.makeSlice 185 (.int .i64 (s.size:Int)) (.int .i64 (s.size:Int))).run Tryz.prog w=.ok (.slice (some ⟨w.heap.size,0,none⟩) s.size s.size) (w.alloc (.cells M 5)):=by
  have h:=run_make (P:=Tryz.prog) w 185 5 i0 (.int .u8 0) Tryz.underlying185 hi hz0 .i64 .i64 (s.size:Int) (s.size:Int) (by omega) (by omega) (by rw[hz2];omega) (by omega);rw[←hM] at h;simpa using h
 clear hM;have hcp:=Lib.run_copy_row_string (P:=Tryz.prog) (w.alloc (.cells M 5)) 185 9 3 5 w.heap.size 0 s.size s.size s M 5 Tryz.underlying185 hinfo (heap_alloc_new w _) (Nat.le_refl _) (by omega);obtain⟨Y,hY⟩:∃Y,Y=(M.toList.take 0++Lib.byteCells s.data.toList++M.toList.drop (0+s.size)).toArray:=⟨_,rfl⟩;rw[←hY] at hcp;have hYl:Y.toList=Lib.byteCells s.data.toList:=by
  rw[hY,List.toList_toArray,List.take_zero,List.nil_append,List.drop_of_length_le (by rw[Array.length_toList];omega),List.append_nil]
 have hYs:Y.size=s.size:=by rw[←Array.length_toList,hYl,Lib.byteCells_length,←Lib.size_eq]
 have hgY:((w.alloc (.cells M 5)).setRow w.heap.size Y).heap[w.heap.size]?=some (.cells Y 5 (0,0)):=setRow_heap _ _ M _ 5 (0,0) (heap_alloc_new w _);have hne:s.data.toList≠[]:=fun e=>h0 (by rw[Lib.size_eq,e];rfl)
 have hUS:=Lib.run_unsafeString_row (P:=Tryz.prog) ((w.alloc (.cells M 5)).setRow w.heap.size Y) 186 3 9 5 Tryz.underlying186 hco w.heap.size Y.size (by unfold World.shape?;rw[hgY]) s.data.toList hne (by rw[←Lib.size_eq];omega) (by rw[←Lib.size_eq];omega)
  (fun j x hx=>Lib.cells_of_row hgY Y.size j _ (by rw[List.take_of_length_le (by rw[Array.length_toList];exact Nat.le_refl _),hYl];simp[Lib.byteCells,hx]))
 rw[←Lib.size_eq] at hUS;clear hY;go_enter Tryz.func85,Tryz.ntmps85;go_wp2;go_ret;have hb1:Below w.heap.size w (w.alloc (.cells M 5)):=(Below.refl _ w).alloc (Nat.le_refl _) _;have hb2:Below w.heap.size (w.alloc (.cells M 5)) ((w.alloc (.cells M 5)).setRow w.heap.size Y):=⟨rfl,rfl,rfl,by simp,fun k hk=>setRow_other _ _ _ _ (by omega)⟩;exact⟨rfl,Lib.below_freeze (hb1.trans hb2) (p:=⟨w.heap.size,0,none⟩) (Nat.le_refl _) _⟩
theorem clone_any (s:ByteArray)(w:World)(hlim:s.size≤1000000):
 Calls Tryz.prog 53 #[.string s] w fun e w'=>e=.returned (.string s)∧Below w.heap.size w w':=by
 go_enter Tryz.func53,Tryz.ntmps53
 go_wp2_with fail
 refine (liteClone s _ hlim).mono ?_;rintro e w1 ⟨rfl,hb1⟩;go_wp2;go_ret;exact⟨rfl,hb1⟩
theorem ca_split {S:Int}{Ts:List (List Ru)}{l:List Op8}{k:Nat}(hk:k<l.length)(h:caN S Ts (l.take k)=0):caN S Ts l=caN S (caT Ts (l.take k)) (l[k] :: l.drop (k+1)):=by
 have e:l=l.take k++(l[k] :: l.drop (k+1)):=by simp
 conv=>lhs;rw[e]
 rw[ca_app,if_pos h]
theorem cs_take {S:Int}{Ts:List (List Ru)}{l:List Op8}{k:Nat}(hk:k<l.length)(h:caN S Ts (l.take k)=0):caN S Ts (l.take (k+1))=caN S (caT Ts (l.take k)) [l[k]]∧caT Ts (l.take (k+1))=caT (caT Ts (l.take k)) [l[k]]:=by
 rw[List.take_succ_eq_append_getElem hk,ca_app,if_pos h,cj_app];exact⟨rfl,rfl⟩
def nvS (X S:Int):Int:=if X=0 then S else 0
def nvL {α:Type}(X:Int)(L:List α):List α:=if X=0 then L else []
structure AB (W:World)(B:Nat)(S:Int)(v1 v2 v3:Value):Prop where
 n:NeBox W B S v1 v2 v3
 r:NeBox W (B+1) 0 (.slice none 0 0) (.slice none 0 0) (.slice none 0 0)
 f:∀c,W.frozen? ⟨B+1,c,none⟩=false
theorem ab_new (w:World)(S:Int)(v1 v2 v3:Value)(t:TypeId):AB ((w.alloc (Obj.cells #[.int .i64 S,v1,v2,v3] t)).alloc (Obj.cells #[.int .i64 0,.slice none 0 0,.slice none 0 0,.slice none 0 0] t)) w.heap.size S v1 v2 v3:=by
 obtain⟨h1,h2⟩:=nn_new w S v1 v2 v3 0 (.slice none 0 0) (.slice none 0 0) (.slice none 0 0) t;refine⟨h1,h2,fun c=>?_⟩;have h:=heap_alloc_new (w.alloc (Obj.cells #[.int .i64 S,v1,v2,v3] t)) (Obj.cells #[.int .i64 0,.slice none 0 0,.slice none 0 0,.slice none 0 0] t);rw[World.size_alloc] at h;simp only[World.frozen?,h];simp
theorem AB.lt {W:World}{B:Nat}{S:Int}{v1 v2 v3:Value}(h:AB W B S v1 v2 v3):B+1<W.heap.size:=bLQ W ⟨B+1,0,none⟩ h.r.1
theorem AB.grown {W W':World}{B:Nat}{S:Int}{v1 v2 v3:Value}{row:Option Nat}(h:AB W B S v1 v2 v3)(hg:W.grownBy W' row)(hr:∀g,row=some g→B+2≤g):AB W' B S v1 v2 v3:=
 ⟨h.n.grown hg (fun e=>by have:=hr _ e.symm;omega),h.r.grown hg (fun e=>by have:=hr _ e.symm;omega),fun c=>(World.frozen?_of_block (hg.block (B+1) h.lt (fun e=>by have:=hr _ e.symm;omega))).trans (h.f c)⟩
theorem AB.later {W W':World}{B:Nat}{S:Int}{v1 v2 v3:Value}(h:AB W B S v1 v2 v3)(hb:Below W.heap.size W W'):AB W' B S v1 v2 v3:=h.grown (grown_below hb) (fun g hg=>by cases hg)
def put4 (W:World)(b:Nat)(x y z u:Value):World:=(((W.setCell ⟨b,0,none⟩ x).setCell ⟨b,1,none⟩ y).setCell ⟨b,2,none⟩ z).setCell ⟨b,3,none⟩ u
theorem below_pn4 {B:Nat}{a W:World}(h:Below B a W)(b:Nat)(hb:B≤b)(x y z u:Value):Below B a (put4 W b x y z u):=(((h.setCell hb _).setCell hb _).setCell hb _).setCell hb _
theorem grown_put4 (W:World)(b:Nat)(x y z u:Value):W.grownBy (put4 W b x y z u) (some b):=by
 have h1:=grown_set W b 0 x;have h2:=grown_set (W.setCell ⟨b,0,none⟩ x) b 1 y;have h3:=grown_set ((W.setCell ⟨b,0,none⟩ x).setCell ⟨b,1,none⟩ y) b 2 z;have h4:=grown_set (((W.setCell ⟨b,0,none⟩ x).setCell ⟨b,1,none⟩ y).setCell ⟨b,2,none⟩ z) b 3 u;exact⟨rfl,rfl,rfl,Nat.le_trans (Nat.le_trans (Nat.le_trans h1.size h2.size) h3.size) h4.size,fun k hk hne=>(((h4.block k (Nat.lt_of_lt_of_le hk (Nat.le_trans (Nat.le_trans h1.size h2.size) h3.size)) hne).trans (h3.block k (Nat.lt_of_lt_of_le hk (Nat.le_trans h1.size h2.size)) hne)).trans (h2.block k (Nat.lt_of_lt_of_le hk h1.size) hne)).trans (h1.block k hk hne)⟩
theorem TR.mono {e:TypeId}{w:World}{A B B':Nat}{v:Value}{vs:List SlT}{Ts:List (List Ru)}(h:TR e w A B v vs Ts)(hB:B'≤B):TR e w A B' v vs Ts:=
 ⟨own_mono h.ov hB,h.lv,h.rv,fun i x h1 b h2 h3=>h.rz i x h1 b h2 (by omega)⟩
end
end Go.Proofs.YtiokpmlhmlcojaaGreat
