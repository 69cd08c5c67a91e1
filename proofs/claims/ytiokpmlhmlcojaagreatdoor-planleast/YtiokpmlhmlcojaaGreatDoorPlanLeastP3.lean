/- Contracts and facts on the way to PlanLeast, joined into one text: TableDiff2, RuleTwo, NetCheck, SmNet, ChangeSame, StCube, StRule, StOp, ClassMem, ChangeMem, ChangeOps, OwnInts, ChangeDiff, CcLink, ClassTwo, StrClone, ChangeBox, ChangeFresh, ChangeApply. -/
import Derived.Test.YtiokpmlhmlcojaaGreatDoorPlanLeastP2
namespace Go.Proofs.YtiokpmlhmlcojaaGreatDoor
set_option linter.unusedSimpArgs false
set_option linter.unusedVariables false
set_option maxHeartbeats 16000000
set_option maxRecDepth 100000
open Go.Proofs.Tryz
open IntKind (i64)
section
open Go.RowKit
theorem bey_le (A B:List Ru):(bey A B).length≤A.length:=List.length_filter_le _ _
theorem taken_next {D:List Ru}{k:Nat}(hk:k<D.length):taken (D.take (k+1))=taken (D.take k)++[⟨0,false,D[k]⟩]:=by
 rw[List.take_succ_eq_append_getElem hk];simp only[taken,List.map_append,List.map_cons,List.map_nil]
theorem added_next {D:List Ru}{k:Nat}(hk:k<D.length)(C:List Op8):C++added (D.take (k+1))=(C++added (D.take k))++[⟨0,true,D[k]⟩]:=by
 rw[List.take_succ_eq_append_getElem hk];simp only[added,List.map_append,List.map_cons,List.map_nil,List.append_assoc]
theorem taken_len (D:List Ru):(taken D).length=D.length:=by simp[taken]
theorem added_len (D:List Ru):(added D).length=D.length:=by simp[added]
theorem diff_own (ao:AdQ)(n cap:Nat)(ao2:AdQ)(n2 cap2:Nat)(L M:List Ru)(w:World)(hs:SR w (.slice ao n cap) L)(ht:SR w (.slice ao2 n2 cap2) M)(h0:twN L M=0):
 Calls prog 87 #[.slice ao n cap,.slice ao2 n2 cap2] w fun e w'=>∃u,e=.returned (.tuple #[u,.nilIface])∧w'.ownsRow w.heap.size 90 8 u (taken (bey L M)++added (bey M L)).length (cellsO (taken (bey L M)++added (bey M L)))∧Below w.heap.size w w':=by
 have HS:Hid (SR w (.slice ao n cap) L):=hs;have HT:Hid (SR w (.slice ao2 n2 cap2) M):=ht;have H0:Hid (twN L M=0):=h0;have HL:Hid (L.length≤12∧M.length≤12):=⟨(tb_iff.1 (tw_two h0).1).1,(tb_iff.1 (tw_two h0).2).1⟩;clear hs ht h0;go_enter func87,ntmps87
 go_wp2_with fail
 refine (check_any2 _ _ L M _ HS.out HT.out).mono ?_;rintro e w1 ⟨rfl,hb1⟩;rw[no_ok H0.out];have HS1:Hid (SR w1 (.slice ao n cap) L):=HS.out.later hb1;have HT1:Hid (SR w1 (.slice ao2 n2 cap2) M):=HT.out.later hb1;have HB1:Hid (Below w.heap.size w w1):=hb1;clear hb1
 go_wp2_with fail
 refine (beyond_any _ _ _ _ _ _ L M _ HS1.out HT1.out (by have:=HL.out;omega)).mono ?_;rintro e w2 ⟨ao3,n3,cap3,rfl,hn3,hown,hb2⟩;have HD0:Hid ((bey L M).length≤12):=Nat.le_trans (bey_le L M) HL.out.1;obtain⟨D,hD⟩:∃D,D=bey L M:=⟨_,rfl⟩;rw[←hD] at hn3 hown HD0;have HD:Hid (D=bey L M):=hD;have HN3:Hid (D.length=n3):=hn3.symm;have hn12:n3≤12:=by have:=HD0.out;omega
 have HR:Hid (w2.ownsRow w.heap.size 88 6 (.slice ao3 n3 cap3) D.length (cellsR D)):=own_mono hown HB1.out.size;have HB2:Hid (Below w.heap.size w w2):=HB1.out.trans (hb2.mono HB1.out.size);clear hn3 hown hb2 hD HS1 HT1 HB1
 go_upto_block 0 with fail
 go_cut [7] from 6 (fun u w'=>w'.ownsRow w.heap.size 90 8 u (taken (bey L M)).length (cellsO (taken (bey L M)))∧Below w.heap.size w w')
 case first =>
  go_wp2
  go_loopw [7,22] (fun u i wr=>∃k:Nat,k≤n3∧i=.int i64 k∧wr.ownsRow w.heap.size 90 8 u (taken (D.take k)).length (cellsO (taken (D.take k)))∧wr.ownsRow w.heap.size 88 6 (.slice ao3 n3 cap3) D.length (cellsR D)∧Below w.heap.size w wr) (fun _ i _=>n3-(intOf i).toNat)
  case atStart=>exact⟨0,by omega,rfl,World.ownsRow_nil _ _ _ _,HR.out,HB2.out⟩
  case round =>
   obtain⟨k,hk,rfl,hop,hru,hB⟩:=hrel;have HOP:Hid (wr.ownsRow w.heap.size 90 8 u7 (taken (D.take k)).length (cellsO (taken (D.take k)))):=hop;have HRU:Hid (wr.ownsRow w.heap.size 88 6 (.slice ao3 n3 cap3) D.length (cellsR D)):=hru;have HB:Hid (Below w.heap.size w wr):=hB;clear hop hB HR HB2;by_cases hlt:k<n3
   ·obtain⟨ao',n',cap',e,_,_,_,ha⟩:=(own_SR hru).form;cases e;obtain⟨g,og,rfl,hRA,_⟩:=ha (by omega);obtain⟨p,m,b,q,s,v,hkl,hLk,q0,q1,q2,q3,q4,q5⟩:=hRA.at HN3.out hlt;have HT2:Hid (taken (D.take (k+1))=taken (D.take k)++[⟨0,false,⟨p,m,b,q,s,v⟩⟩]):=by
     show _=_;rw[taken_next hkl,hLk]
    have HK:Hid ((taken (D.take k)).length≤1000):=by
     show _≤1000;rw[taken_len,List.length_take];omega
    have hBA:=(Below.refl wr.heap.size wr).alloc (nLQ _) (Obj.cells #[.int i64 p,.int i64 m,.int i64 b,.int i64 q,.int i64 s,.int i64 v] 88);have hBB:=hBA.alloc (by simp) (Obj.cells #[.int i64 0,Value.bool false,.int i64 p,.int i64 m,.int i64 b,.int i64 q,.int i64 s,.int i64 v] 90);have HBB:=hBB;have HC8:=C8.new (wr.alloc (.cells #[.int i64 p,.int i64 m,.int i64 b,.int i64 q,.int i64 s,.int i64 v] 88)) 0 false p m b q s v 90;simp only[World.size_alloc] at HC8;clear hRA hLk ha hBA hru
    go_wp2_with (at_builtin;refine wpList_append_op _ rfl _ _ 39 rfl underlying39 w.heap.size _ rfl _ (own_below HOP.out hBB) _ rfl _ HC8 HK.out (HB.out.trans (hBB.mono HB.out.size)).size ?_)
    intro v' w3 hown3 hgrow;have hO3:=own_below HOP.out hBB;have HR3:Hid (w3.ownsRow w.heap.size 88 6 (.slice (some ⟨g,og,none⟩) n3 cap3) D.length (cellsR D)):=(own_below HRU.out hBB).kept hgrow (own_apart (own_below HRU.out hBB) hO3 (by decide));have HB3:Hid (Below w.heap.size w w3):=(HB.out.trans (hBB.mono HB.out.size)).grown hgrow (HB.out.trans (hBB.mono HB.out.size)).size (fun g hg=>(hO3.lt g hg).1);have HO3:Hid (w3.ownsRow w.heap.size 90 8 v' (taken (D.take (k+1))).length (cellsO (taken (D.take (k+1))))):=by
     show World.ownsRow _ _ _ _ _ _ _;rw[HT2.out,List.length_append];exact hown3
    clear hown3 hgrow hO3 hBB HBB HC8 q0 q1 q2 q3 q4 q5;go_wp2;go_roundw
    case rel=>exact⟨k+1,by omega,by go_num,HO3.out,HR3.out,HB3.out⟩
    case measure=>simp[intOf];omega
   obtain rfl:k=n3:=by omega
   go_wp2_with fail
   go_meet
   case rel =>
    refine⟨?_,HB.out⟩;have h1:=HOP.out;rw[←HN3.out,List.take_length,HD.out] at h1;exact h1
 case rest =>
  obtain⟨hop,hB⟩:=hcut;obtain⟨C,hC⟩:∃C,C=taken (bey L M):=⟨_,rfl⟩;have HC:Hid (C=taken (bey L M)):=hC;have HCL:Hid (C.length≤12):=by
   show C.length≤12;rw[hC,taken_len];exact Nat.le_trans (bey_le L M) HL.out.1
  rw[←hC] at hop;have HOC:Hid (wc.ownsRow w.heap.size 90 8 u7 C.length (cellsO C)):=hop;have HBC:Hid (Below w.heap.size w wc):=hB;have HS1:Hid (SR wc (.slice ao n cap) L):=HS.out.later hB;have HT1:Hid (SR wc (.slice ao2 n2 cap2) M):=HT.out.later hB;clear hop hB hC HR HB2 HN3 HD HD0 hn12;clear D
  go_wp2_with fail
  refine (beyond_any _ _ _ _ _ _ M L _ HT1.out HS1.out (by have:=HL.out;omega)).mono ?_;rintro e w2 ⟨ao3,n3,cap3,rfl,hn3,hown,hb2⟩;have HD0:Hid ((bey M L).length≤12):=Nat.le_trans (bey_le M L) HL.out.2;obtain⟨D,hD⟩:∃D,D=bey M L:=⟨_,rfl⟩;rw[←hD] at hn3 hown HD0;have HD:Hid (D=bey M L):=hD;have HN3:Hid (D.length=n3):=hn3.symm;have hn12:n3≤12:=by have:=HD0.out;omega
  have HR:Hid (w2.ownsRow w.heap.size 88 6 (.slice ao3 n3 cap3) D.length (cellsR D)):=own_mono hown HBC.out.size;have HOC2:Hid (w2.ownsRow w.heap.size 90 8 u7 C.length (cellsO C)):=own_below HOC.out hb2;have HB2:Hid (Below w.heap.size w w2):=HBC.out.trans (hb2.mono HBC.out.size);clear hn3 hown hb2 hD HS1 HT1;go_wp2
  go_loopw [7,36] (fun u i wr=>∃k:Nat,k≤n3∧i=.int i64 k∧wr.ownsRow w.heap.size 90 8 u (C++added (D.take k)).length (cellsO (C++added (D.take k)))∧wr.ownsRow w.heap.size 88 6 (.slice ao3 n3 cap3) D.length (cellsR D)∧Below w.heap.size w wr) (fun _ i _=>n3-(intOf i).toNat)
  case atStart=>exact⟨0,by omega,rfl,by have:=HOC2.out;simpa[added] using this,HR.out,HB2.out⟩
  case round =>
   obtain⟨k,hk,rfl,hop,hru,hB⟩:=hrel;have HOP:Hid (wr.ownsRow w.heap.size 90 8 u7 (C++added (D.take k)).length (cellsO (C++added (D.take k)))):=hop;have HRU:Hid (wr.ownsRow w.heap.size 88 6 (.slice ao3 n3 cap3) D.length (cellsR D)):=hru;have HB:Hid (Below w.heap.size w wr):=hB;clear hop hB HR HB2 HOC2;by_cases hlt:k<n3
   ·obtain⟨ao',n',cap',e,_,_,_,ha⟩:=(own_SR hru).form;cases e;obtain⟨g,og,rfl,hRA,_⟩:=ha (by omega);obtain⟨p,m,b,q,s,v,hkl,hLk,q0,q1,q2,q3,q4,q5⟩:=hRA.at HN3.out hlt;have HT2:Hid (C++added (D.take (k+1))=C++added (D.take k)++[⟨0,true,⟨p,m,b,q,s,v⟩⟩]):=by
     show _=_;rw[added_next hkl,hLk]
    have HK:Hid ((C++added (D.take k)).length≤1000):=by
     show _≤1000;rw[List.length_append,added_len,List.length_take];have:=HCL.out;omega
    have hBA:=(Below.refl wr.heap.size wr).alloc (nLQ _) (Obj.cells #[.int i64 p,.int i64 m,.int i64 b,.int i64 q,.int i64 s,.int i64 v] 88);have hBB:=hBA.alloc (by simp) (Obj.cells #[.int i64 0,Value.bool true,.int i64 p,.int i64 m,.int i64 b,.int i64 q,.int i64 s,.int i64 v] 90);have HBB:=hBB;have HC8:=C8.new (wr.alloc (.cells #[.int i64 p,.int i64 m,.int i64 b,.int i64 q,.int i64 s,.int i64 v] 88)) 0 true p m b q s v 90;simp only[World.size_alloc] at HC8;clear hRA hLk ha hBA hru
    go_wp2_with (at_builtin;refine wpList_append_op _ rfl _ _ 39 rfl underlying39 w.heap.size _ rfl _ (own_below HOP.out hBB) _ rfl _ HC8 HK.out (HB.out.trans (hBB.mono HB.out.size)).size ?_)
    intro v' w3 hown3 hgrow;have hO3:=own_below HOP.out hBB;have HR3:Hid (w3.ownsRow w.heap.size 88 6 (.slice (some ⟨g,og,none⟩) n3 cap3) D.length (cellsR D)):=(own_below HRU.out hBB).kept hgrow (own_apart (own_below HRU.out hBB) hO3 (by decide));have HB3:Hid (Below w.heap.size w w3):=(HB.out.trans (hBB.mono HB.out.size)).grown hgrow (HB.out.trans (hBB.mono HB.out.size)).size (fun g hg=>(hO3.lt g hg).1);have HO3:Hid (w3.ownsRow w.heap.size 90 8 v' (C++added (D.take (k+1))).length (cellsO (C++added (D.take (k+1))))):=by
     show World.ownsRow _ _ _ _ _ _ _;rw[HT2.out,List.append_assoc,List.length_append,List.length_append];exact hown3
    clear hown3 hgrow hO3 hBB HBB HC8 q0 q1 q2 q3 q4 q5;go_wp2;go_roundw
    case rel=>exact⟨k+1,by omega,by go_num,HO3.out,HR3.out,HB3.out⟩
    case measure=>simp[intOf];omega
   obtain rfl:k=n3:=by omega
   have HFI:Hid (wr.ownsRow w.heap.size 90 8 u7 (taken (bey L M)++added (bey M L)).length (cellsO (taken (bey L M)++added (bey M L)))):=by
    have h1:=HOP.out;rw[←HN3.out,List.take_length,HD.out,HC.out] at h1;exact h1
   go_wp2;refine bodyPost_ret (v:=.tuple #[u7,.nilIface]) (by simp[results,results87,go_sem]) rfl ⟨_,rfl,HFI.out,HB.out⟩
def CD (w:World)(g o:Nat)(p m b q s v:Int)(g' o':Nat)(p' m' b' q' s' v':Int)(w':World):Prop:=
 Below w.heap.size w w'∧(w'.cell? ⟨g,o,none⟩=some (.int i64 p)∧w'.cell? ⟨g,o+1,none⟩=some (.int i64 m)∧w'.cell? ⟨g,o+2,none⟩=some (.int i64 b) ∧
  w'.cell? ⟨g,o+3,none⟩=some (.int i64 q)∧w'.cell? ⟨g,o+4,none⟩=some (.int i64 s)∧w'.cell? ⟨g,o+5,none⟩=some (.int i64 v)) ∧
 w'.cell? ⟨g',o',none⟩=some (.int i64 p')∧w'.cell? ⟨g',o'+1,none⟩=some (.int i64 m')∧w'.cell? ⟨g',o'+2,none⟩=some (.int i64 b') ∧
  w'.cell? ⟨g',o'+3,none⟩=some (.int i64 q')∧w'.cell? ⟨g',o'+4,none⟩=some (.int i64 s')∧w'.cell? ⟨g',o'+5,none⟩=some (.int i64 v')
theorem CD.later {w W W':World}{g o:Nat}{p m b q s v:Int}{g' o':Nat}{p' m' b' q' s' v':Int}(hb:Below W.heap.size W W')(h:CD w g o p m b q s v g' o' p' m' b' q' s' v' W):CD w g o p m b q s v g' o' p' m' b' q' s' v' W':=by
 obtain⟨h0,⟨h1,h2,h3,h4,h5,h6⟩,k1,k2,k3,k4,k5,k6⟩:=h;exact⟨h0.trans (hb.mono h0.size),⟨cell_later hb h1,cell_later hb h2,cell_later hb h3,cell_later hb h4,cell_later hb h5,cell_later hb h6⟩,cell_later hb k1,cell_later hb k2,cell_later hb k3,cell_later hb k4,cell_later hb k5,cell_later hb k6⟩
def TAt (w:World)(g o:Nat)(Ts:TsQ):Prop:=∀i (h:i<Ts.length),∃ao n cap,w.cell? ⟨g,o+i,none⟩=some (.slice ao n cap)∧SR w (.slice ao n cap) Ts[i]
theorem TAt.later {w w':World}{g o:Nat}{Ts:TsQ}(h:TAt w g o Ts)(hb:Below w.heap.size w w'):TAt w' g o Ts:=fun i hi=>by
 obtain⟨ao,n,cap,h1,h2⟩:=h i hi;exact⟨ao,n,cap,cell_later hb h1,h2.later hb⟩
def TS (w:World)(v:Value)(Ts:TsQ):Prop:=
 (∃ao cap,v=.slice ao 0 cap∧Ts=[])∨∃g o cap,v=.slice (some ⟨g,o,none⟩) Ts.length cap∧Ts.length≤cap∧cap≤maxLen∧TAt w g o Ts
theorem TS.later {w w':World}{v:Value}{Ts:TsQ}(h:TS w v Ts)(hb:Below w.heap.size w w'):TS w' v Ts:=by
 rcases h with h | ⟨g,o,cap,h1,h2,h3,h4⟩
 ·exact .inl h
 exact .inr ⟨g,o,cap,h1,h2,h3,h4.later hb⟩
theorem TS.form {w:World}{v:Value}{Ts:TsQ}(h:TS w v Ts):∃ao n cap,v=.slice ao n cap∧Ts.length=n∧n≤maxLen∧n≤cap∧(0<n→∃g o,ao=some ⟨g,o,none⟩∧TAt w g o Ts∧cap≤maxLen):=by
 rcases h with ⟨ao,cap,rfl,rfl⟩ | ⟨g,o,cap,rfl,h1,h2,h3⟩
 ·exact⟨ao,0,cap,rfl,rfl,Nat.zero_le _,Nat.zero_le _,fun h=>absurd h (by omega)⟩
 exact⟨_,_,cap,rfl,rfl,Nat.le_trans h1 h2,h1,fun _=>⟨g,o,rfl,h3,h2⟩⟩
theorem TS.len {w:World}{ao:AdQ}{n cap:Nat}{Ts:TsQ}(h:TS w (.slice ao n cap) Ts):Ts.length=n:=by
 rcases h with ⟨_,_,e,rfl⟩ | ⟨_,_,_,e,_⟩
 ·simp at e;simp[e]
 simp at e;exact e.2.1.symm
theorem getT {Ts:TsQ}{k:Nat}(hk:k<Ts.length):Ts.getD k []=Ts[k]:=by simp[List.getD,hk]
def NeBox (W:World)(g:Nat)(S:Int)(v1 v2 v3:Value):Prop:=W.cell? ⟨g,0,none⟩=some (.int i64 S)∧W.cell? ⟨g,1,none⟩=some v1∧W.cell? ⟨g,2,none⟩=some v2∧W.cell? ⟨g,3,none⟩=some v3
theorem nebox_new (w:World)(S:Int)(v1 v2 v3:Value)(t:TypeId):NeBox (w.alloc (.cells #[.int i64 S,v1,v2,v3] t)) w.heap.size S v1 v2 v3:=by
 refine⟨?_,?_,?_,?_⟩ <;> simp
theorem NeBox.later {W W':World}{g:Nat}{S:Int}{v1 v2 v3:Value}(h:NeBox W g S v1 v2 v3)(hb:Below W.heap.size W W'):NeBox W' g S v1 v2 v3:=
 ⟨cell_later hb h.1,cell_later hb h.2.1,cell_later hb h.2.2.1,cell_later hb h.2.2.2⟩
theorem ncheck_any (S:Int)(ao:AdQ)(n cap:Nat)(ao2:AdQ)(n2 cap2:Nat)(ao3:AdQ)(n3 cap3:Nat)(Ls:LkQ)(Hs:HoQ)(Ts:TsQ)(w:World)
 (hL:GS lnkE w (.slice ao n cap) Ls) (hH:GS hstE w (.slice ao2 n2 cap2) Hs) (hT:TS w (.slice ao3 n3 cap3) Ts):
 Calls prog 58 #[.agg #[.int i64 S,.slice ao n cap,.slice ao2 n2 cap2,.slice ao3 n3 cap3]] w fun e w'=>e=.returned (noV (ntN S Ls Hs Ts))∧Below w.heap.size w w':=by
 have hb1:Below w.heap.size w (w.alloc (.cells #[.int i64 S,.slice ao n cap,.slice ao2 n2 cap2,.slice ao3 n3 cap3] 28)):=(bRQ _ _).alloc (nLQ _) _;obtain⟨C,hC⟩:∃C,C=ntN S Ls Hs Ts:=⟨_,rfl⟩;have HC:Hid (C=ntN S Ls Hs Ts):=hC;rw[←hC];have HL2:Hid (GS lnkE (w.alloc (.cells #[.int i64 S,.slice ao n cap,.slice ao2 n2 cap2,.slice ao3 n3 cap3] 28)) (.slice ao n cap) Ls):=hL.later hb1;have HH2:Hid (GS hstE (w.alloc (.cells #[.int i64 S,.slice ao n cap,.slice ao2 n2 cap2,.slice ao3 n3 cap3] 28)) (.slice ao2 n2 cap2) Hs):=hH.later hb1;have HT2:Hid (TS (w.alloc (.cells #[.int i64 S,.slice ao n cap,.slice ao2 n2 cap2,.slice ao3 n3 cap3] 28)) (.slice ao3 n3 cap3) Ts):=hT.later hb1;have HB2:Hid (Below w.heap.size w (w.alloc (.cells #[.int i64 S,.slice ao n cap,.slice ao2 n2 cap2,.slice ao3 n3 cap3] 28))):=hb1;have HX:Hid (NeBox (w.alloc (.cells #[.int i64 S,.slice ao n cap,.slice ao2 n2 cap2,.slice ao3 n3 cap3] 28)) w.heap.size S (.slice ao n cap) (.slice ao2 n2 cap2) (.slice ao3 n3 cap3)):=nebox_new w S _ _ _ 28;clear hC hb1 hL hH hT;go_enter func58,ntmps58
 go_wp2_with fail
 refine (check_any S ao n cap ao2 n2 cap2 Ls Hs _ HL2.out HH2.out).mono ?_;rintro e w1 ⟨rfl,hb1⟩;obtain⟨T,hT⟩:∃T,T=tpN S Ls Hs:=⟨_,rfl⟩;have HT:Hid (T=tpN S Ls Hs):=hT;rw[←hT];have HB1:Hid (Below w.heap.size w w1):=HB2.out.trans (hb1.mono HB2.out.size);obtain⟨b0,b1,b2,b3⟩:=HX.out.later hb1;have HT1:Hid (TS w1 (.slice ao3 n3 cap3) Ts):=HT2.out.later hb1;clear hT hb1 HX HL2 HH2 HB2 HT2;by_cases h0:T=0
 ·subst h0;rw[no_ok rfl];obtain⟨_,_,_,e2,hTn,hTm,_,hTa⟩:=HT1.out.form;cases e2;have HTN:Hid (Ts.length=n3):=hTn;have HTM:Hid (n3≤maxLen):=hTm;have HTA:Hid (0<n3→∃g o,ao3=some ⟨g,o,none⟩∧TAt w1 g o Ts∧cap3≤maxLen):=hTa;have n63:n3≤9223372036854775807:=by unfold maxLen at hTm;omega
  clear hTn hTm hTa HT1;by_cases hS:(n3:Int)=S
  ·have HC2:Hid (C=tsTo Ts n3):=by
    show _=_;rw[HC.out,ntN,if_pos HT.out.symm,if_pos (by rw[HTN.out];exact hS),HTN.out]
   have e1:((n3:Int) != S)=false:=by simp[hS]
   clear hS HC;go_wp2
   go_loopw [24] (fun i wr=>∃k:Nat,k≤n3∧i=.int i64 k∧tsTo Ts k=0∧Below w1.heap.size w1 wr) (fun i _=>n3-(intOf i).toNat)
   case atStart=>exact⟨0,by omega,rfl,rfl,bRQ _ _⟩
   case round =>
    obtain⟨k,hk,rfl,hz,hB⟩:=hrel;have HZ:Hid (tsTo Ts k=0):=hz;have HB:Hid (Below w1.heap.size w1 wr):=hB;have HBw:Hid (Below w.heap.size w wr):=HB1.out.trans (hB.mono HB1.out.size);clear hz b0 b1 b2 b3;by_cases hlt:k<n3
    ·obtain⟨g,o,hao,hc,_⟩:=HTA.out (by omega);subst hao;obtain⟨a4,n4,c4,q0,hs⟩:=(hc.later hB) k (by rw[HTN.out];exact hlt);have HS4:Hid (SR wr (.slice a4 n4 c4) (Ts.getD k [])):=by
      show SR _ _ _;rw[getT (by rw[HTN.out];exact hlt)];exact hs
     clear hs hc hB
     go_wp2_with fail
     refine (table_any _ (Ts.getD k []) _ HS4.out).mono ?_;rintro e w2 ⟨rfl,hb2⟩;obtain⟨R,hR⟩:∃R,R=tbN (Ts.getD k []):=⟨_,rfl⟩;have HR:Hid (tsTo Ts (k+1)=R):=by
      show _=_;rw[tsTo,if_pos HZ.out,hR]
     rw[←hR];have HB3:Hid (Below w1.heap.size w1 w2):=HB.out.trans (hb2.mono HB.out.size);have HBw3:Hid (Below w.heap.size w w2):=HBw.out.trans (hb2.mono HBw.out.size);clear hR hb2 q0;by_cases hN:R=0
     ·subst hN;rw[no_ok rfl];go_wp2;go_roundw
      case rel=>exact⟨k+1,by omega,by go_num,HR.out,HB3.out⟩
      case measure=>simp[intOf];omega
     rw[no_ne hN];have HCR:Hid (C=R):=by
      show _=_;rw[HC2.out,ts_le (k:=k+1) (by rw[HR.out];exact hN) (by omega),HR.out]
     have HNN:Hid (R≠0):=hN;clear hN;go_wp2;go_ret;exact⟨by rw[HCR.out,no_ne HNN.out];rfl,HBw3.out⟩
    obtain rfl:k=n3:=by omega
    have HCR:Hid (C=0):=by
     show _=_;rw[HC2.out,HZ.out]
    clear hB;go_wp2;go_ret;exact⟨by rw[HCR.out];rfl,HBw.out⟩
  have HC2:Hid (C=3):=by
   show _=_;rw[HC.out,ntN,if_pos HT.out.symm,if_neg (by rw[HTN.out];exact hS)]
  have e1:((n3:Int) != S)=true:=by simpa using hS
  clear hS HC;go_wp2;go_ret;exact⟨by rw[HC2.out];rfl,HB1.out⟩
 rw[no_ne h0];have HC2:Hid (C=T):=by
  show _=_;rw[HC.out,ntN,←HT.out,if_neg h0]
 have HN0:Hid (T≠0):=h0;clear h0;go_wp2;go_ret;exact⟨by rw[HC2.out,no_ne HN0.out];rfl,HB1.out⟩
def NN (W:World)(B:Nat)(S:Int)(a1 a2 a3:Value)(S':Int)(b1 b2 b3:Value):Prop:=NeBox W B S a1 a2 a3∧NeBox W (B+1) S' b1 b2 b3
theorem nn_new (w:World)(S:Int)(a1 a2 a3:Value)(S':Int)(b1 b2 b3:Value)(t:TypeId):NN ((w.alloc (.cells #[.int i64 S,a1,a2,a3] t)).alloc (.cells #[.int i64 S',b1,b2,b3] t)) w.heap.size S a1 a2 a3 S' b1 b2 b3:=by
 refine⟨(nebox_new w S a1 a2 a3 t).later ((bRQ _ _).alloc (nLQ _) _),?_⟩;have:=nebox_new (w.alloc (.cells #[.int i64 S,a1,a2,a3] t)) S' b1 b2 b3 t;simpa using this
theorem NN.later {W W':World}{B:Nat}{S:Int}{a1 a2 a3:Value}{S':Int}{b1 b2 b3:Value}(h:NN W B S a1 a2 a3 S' b1 b2 b3)(hb:Below W.heap.size W W'):NN W' B S a1 a2 a3 S' b1 b2 b3:=⟨h.1.later hb,h.2.later hb⟩
theorem NeBox.grown {W W':World}{g:Nat}{S:Int}{v1 v2 v3:Value}{row:Option Nat}(h:NeBox W g S v1 v2 v3)(hg:W.grownBy W' row)(hne:some g≠row):NeBox W' g S v1 v2 v3:=
 ⟨hg.cell h.1 hne,hg.cell h.2.1 hne,hg.cell h.2.2.1 hne,hg.cell h.2.2.2 hne⟩
theorem NN.grown {W W':World}{B:Nat}{S:Int}{a1 a2 a3:Value}{S':Int}{b1 b2 b3:Value}{row:Option Nat}(h:NN W B S a1 a2 a3 S' b1 b2 b3)(hg:W.grownBy W' row)(hr:∀g,row=some g→B+2≤g):NN W' B S a1 a2 a3 S' b1 b2 b3:=
 ⟨h.1.grown hg (fun e=>by have:=hr _ e.symm;omega),h.2.grown hg (fun e=>by have:=hr _ e.symm;omega)⟩
def nwN (S:Int)(Ls:LkQ)(Hs:HoQ)(Ts:TsQ)(S':Int)(Ls':LkQ)(Hs':HoQ)(Ts':TsQ):Int:=
 if ntN S Ls Hs Ts=0 then ntN S' Ls' Hs' Ts' else ntN S Ls Hs Ts
theorem chCheck_any (S:Int)(ao:AdQ)(n cap:Nat)(ao2:AdQ)(n2 cap2:Nat)(ao3:AdQ)(n3 cap3:Nat)(S':Int)(bo:AdQ)(m dap:Nat)(bo2:AdQ)(m2 dap2:Nat)(bo3:AdQ)(m3 dap3:Nat)(Ls:LkQ)(Hs:HoQ)(Ts:TsQ)(Ls':LkQ)(Hs':HoQ)(Ts':TsQ)(w:World)
 (hL:GS lnkE w (.slice ao n cap) Ls) (hH:GS hstE w (.slice ao2 n2 cap2) Hs) (hT:TS w (.slice ao3 n3 cap3) Ts) (hL':GS lnkE w (.slice bo m dap) Ls') (hH':GS hstE w (.slice bo2 m2 dap2) Hs') (hT':TS w (.slice bo3 m3 dap3) Ts'):
 Calls prog 69 #[.agg #[.int i64 S,.slice ao n cap,.slice ao2 n2 cap2,.slice ao3 n3 cap3],.agg #[.int i64 S',.slice bo m dap,.slice bo2 m2 dap2,.slice bo3 m3 dap3]] w fun e w'=>e=.returned (noV (nwN S Ls Hs Ts S' Ls' Hs' Ts'))∧Below w.heap.size w w':=by
 have hb0:Below w.heap.size w ((w.alloc (.cells #[.int i64 S,.slice ao n cap,.slice ao2 n2 cap2,.slice ao3 n3 cap3] 28)).alloc (.cells #[.int i64 S',.slice bo m dap,.slice bo2 m2 dap2,.slice bo3 m3 dap3] 28)):=((bRQ _ _).alloc (nLQ _) _).alloc (by simp) _;have HNN:=nn_new w S (.slice ao n cap) (.slice ao2 n2 cap2) (.slice ao3 n3 cap3) S' (.slice bo m dap) (.slice bo2 m2 dap2) (.slice bo3 m3 dap3) 28;have HB0:Hid (Below w.heap.size w ((w.alloc (.cells #[.int i64 S,.slice ao n cap,.slice ao2 n2 cap2,.slice ao3 n3 cap3] 28)).alloc (.cells #[.int i64 S',.slice bo m dap,.slice bo2 m2 dap2,.slice bo3 m3 dap3] 28))):=hb0;have HW:Hid (∀W,Below w.heap.size w W→(GS lnkE W (.slice ao n cap) Ls∧GS hstE W (.slice ao2 n2 cap2) Hs∧TS W (.slice ao3 n3 cap3) Ts)∧GS lnkE W (.slice bo m dap) Ls'∧GS hstE W (.slice bo2 m2 dap2) Hs'∧TS W (.slice bo3 m3 dap3) Ts'):=fun W h=>⟨⟨hL.later h,hH.later h,hT.later h⟩,hL'.later h,hH'.later h,hT'.later h⟩
 obtain⟨X,hX⟩:∃X,X=nwN S Ls Hs Ts S' Ls' Hs' Ts':=⟨_,rfl⟩;have HX:Hid (X=nwN S Ls Hs Ts S' Ls' Hs' Ts'):=hX;rw[←hX];clear hL hH hT hL' hH' hT' hb0 hX;go_enter func69,ntmps69
 go_wp2_with fail
 refine (ncheck_any S ao n cap ao2 n2 cap2 ao3 n3 cap3 Ls Hs Ts _ (HW.out _ HB0.out).1.1 (HW.out _ HB0.out).1.2.1 (HW.out _ HB0.out).1.2.2).mono ?_;rintro e w1 ⟨rfl,hb1⟩;obtain⟨C,hC⟩:∃C,C=ntN S Ls Hs Ts:=⟨_,rfl⟩;have HC:Hid (C=ntN S Ls Hs Ts):=hC;rw[←hC];have HB1:Hid (Below w.heap.size w w1):=HB0.out.trans (hb1.mono HB0.out.size);obtain⟨⟨p0,p1,p2,p3⟩,s0,s1,s2,s3⟩:=HNN.later hb1;have hlt1:w.heap.size<w1.heap.size:=bLQ _ _ p0;have hlt2:w.heap.size+1<w1.heap.size:=bLQ _ _ s0;clear hC hb1 HNN HB0;by_cases h0:C=0
 ·subst h0;rw[no_ok rfl];have HX2:Hid (X=ntN S' Ls' Hs' Ts'):=by
   show _=_;rw[HX.out,nwN,if_pos HC.out.symm]
  go_wp2_with fail
  refine (ncheck_any S' bo m dap bo2 m2 dap2 bo3 m3 dap3 Ls' Hs' Ts' _ (HW.out _ HB1.out).2.1 (HW.out _ HB1.out).2.2.1 (HW.out _ HB1.out).2.2.2).mono ?_;rintro e w2 ⟨rfl,hb2⟩;have HB2:Hid (Below w.heap.size w w2):=HB1.out.trans (hb2.mono HB1.out.size);rw[←HX2.out];clear hb2 p0 p1 p2 p3 s0 s1 s2 s3;go_wp2;go_ret;exact⟨rfl,HB2.out⟩
 have HNZ:Hid (C≠0):=h0;have HX2:Hid (X=C):=by
  show _=_;rw[HX.out,nwN,←HC.out,if_neg h0]
 rw[no_ne h0];clear h0;go_wp2;go_ret;exact⟨by rw[HX2.out,no_ne HNZ.out];rfl,HB1.out⟩
theorem sameTopo_any (S:Int)(ao:AdQ)(n cap:Nat)(ao2:AdQ)(n2 cap2:Nat)(Ls:LkQ)(Hs:HoQ)(S':Int)(bo:AdQ)(m cap3:Nat)(bo2:AdQ)(m2 cap4:Nat)(Ls':LkQ)(Hs':HoQ)(w:World)
 (hL:GS lnkE w (.slice ao n cap) Ls) (hH:GS hstE w (.slice ao2 n2 cap2) Hs) (hL':GS lnkE w (.slice bo m cap3) Ls') (hH':GS hstE w (.slice bo2 m2 cap4) Hs'):
 Calls prog 70 #[.agg #[.int i64 S,.slice ao n cap,.slice ao2 n2 cap2],.agg #[.int i64 S',.slice bo m cap3,.slice bo2 m2 cap4]] w fun e w'=>e=.returned (.bool (tpB S S' Ls Ls' Hs Hs'))∧Below w.heap.size w w':=by
 have hb0:Below w.heap.size w ((w.alloc (.cells #[.int i64 S,.slice ao n cap,.slice ao2 n2 cap2] 25)).alloc (.cells #[.int i64 S',.slice bo m cap3,.slice bo2 m2 cap4] 25)):=((bRQ _ _).alloc (nLQ _) _).alloc (by simp) _;have HTT:=tt_new w S S' (.slice ao n cap) (.slice ao2 n2 cap2) (.slice bo m cap3) (.slice bo2 m2 cap4) 25;have HB0:Hid (Below w.heap.size w ((w.alloc (.cells #[.int i64 S,.slice ao n cap,.slice ao2 n2 cap2] 25)).alloc (.cells #[.int i64 S',.slice bo m cap3,.slice bo2 m2 cap4] 25))):=hb0;have HW:Hid (∀W,Below w.heap.size w W→(GS lnkE W (.slice ao n cap) Ls∧GS hstE W (.slice ao2 n2 cap2) Hs)∧GS lnkE W (.slice bo m cap3) Ls'∧GS hstE W (.slice bo2 m2 cap4) Hs'):=fun W h=>⟨⟨hL.later h,hH.later h⟩,hL'.later h,hH'.later h⟩
 clear hL hH hL' hH' hb0;by_cases hS:S=S'
 ·subst hS;have e1:(S==S)=true:=by simp
  have HE:Hid (tpB S S Ls Ls' Hs Hs'=(smG lnkB Ls Ls'&&smG hstB Hs Hs')):=by
   show _=_;simp[tpB]
  rw[HE.out];go_enter func70,ntmps70
  go_wp2_with fail
  refine (lnk_equal ao n cap bo m cap3 Ls Ls' _ (HW.out _ HB0.out).1.1 (HW.out _ HB0.out).2.1).mono ?_;rintro e w1 ⟨rfl,hb1⟩;have HB1:Hid (Below w.heap.size w w1):=HB0.out.trans (hb1.mono HB0.out.size);obtain⟨⟨p0,p1,p2⟩,s0,s1,s2⟩:=HTT.later hb1;have hlt1:w.heap.size<w1.heap.size:=bLQ _ _ p0;have hlt2:w.heap.size+1<w1.heap.size:=bLQ _ _ s0;obtain⟨b1,hb⟩:∃b,b=smG lnkB Ls Ls':=⟨_,rfl⟩;have HBE:Hid (smG lnkB Ls Ls'=b1):=hb.symm;rw[HBE.out];clear hb hb1 HB0 HTT;cases b1 with
  | false =>
    go_wp2;go_ret;exact⟨by rw[HBE.out];rfl,HB1.out⟩
  | true =>
    go_wp2_with fail
    refine (hst_equal ao2 n2 cap2 bo2 m2 cap4 Hs Hs' _ (HW.out _ HB1.out).1.2 (HW.out _ HB1.out).2.2).mono ?_;rintro e w2 ⟨rfl,hb2⟩;have HB2:Hid (Below w.heap.size w w2):=HB1.out.trans (hb2.mono HB1.out.size);obtain⟨b2,hb⟩:∃b,b=smG hstB Hs Hs':=⟨_,rfl⟩;have HB3:Hid (smG hstB Hs Hs'=b2):=hb.symm;rw[HB3.out];clear hb hb2 p0 p1 p2 s0 s1 s2;go_wp2;go_ret;exact⟨by rw[HBE.out,HB3.out];rfl,HB2.out⟩
 have e1:(S==S')=false:=by simpa using hS
 have HE:Hid (tpB S S' Ls Ls' Hs Hs'=false):=by
  show _=_;simp[tpB,hS]
 rw[HE.out];clear hS;go_enter func70,ntmps70;go_wp2;go_ret;exact⟨rfl,HB0.out⟩
theorem nw_two {S:Int}{Ls:LkQ}{Hs:HoQ}{Ts:TsQ}{S':Int}{Ls':LkQ}{Hs':HoQ}{Ts':TsQ}(h:nwN S Ls Hs Ts S' Ls' Hs' Ts'=0):ntN S Ls Hs Ts=0∧ntN S' Ls' Hs' Ts'=0:=by
 unfold nwN at h;by_cases e:ntN S Ls Hs Ts=0
 ·rw[if_pos e] at h;exact⟨e,h⟩
 rw[if_neg e] at h;exact absurd h e
theorem nw_tw {S:Int}{Ls:LkQ}{Hs:HoQ}{Ts:TsQ}{S':Int}{Ls':LkQ}{Hs':HoQ}{Ts':TsQ}(h:nwN S Ls Hs Ts S' Ls' Hs' Ts'=0)(j:Nat)(h1:j<Ts.length)(h2:j<Ts'.length):twN (Ts.getD j []) (Ts'.getD j [])=0:=by
 obtain⟨a,b⟩:=nw_two h;rw[twN,if_pos ((nt_0 a).2.2 j h1),(nt_0 b).2.2 j h2]
end
section
open Go.ChangeShapes Go.WideShapes Go.ChangeAt Go.RowKit Go.Joins
def cuE:Enc (Int×Int) where
 c:=fun x=>[.int i64 x.1,.int i64 x.2]
 n:=2
 len:=fun _=>rfl
 pos:=by decide
 one:=by
  intro x u hu;simp at hu
  rcases hu with rfl | rfl <;> rfl
theorem cu_open {H:Type}{enc:TypeId×Value→H}{W:World}{n:Nat}{cs:List Value}{x:DataW H×List MemPlace}
 (h:DataW.trod enc prog W 0 (fun _=>true) true n 86 cs=some x):∃y,cs=cuE.c y:=by
 obtain⟨xs,k,_,_,hl,hlen,hf⟩:=DataW.trod_struct underlying86 h;have hC:Tryz.prog.cellsOf 86=2:=by kernel_rfl
 have hT0:Tryz.prog.cellsOf 3=1:=by kernel_rfl
 rw[hC] at hl
 match cs,hl with
 | [c0,c1],_ =>
   match xs,hlen with
   | [z0,z1],_ =>
     have g0:=hf 0 _ rfl;have g1:=hf 1 _ rfl;simp[hT0] at g0 g1;obtain⟨v0,e0,_,_⟩:=DataW.trod_int underlying3 g0;obtain⟨v1,e1,_,_⟩:=DataW.trod_int underlying3 g1;simp[] at e0 e1;refine⟨(v0,v1),?_⟩;simp[cuE,e0,e1]
def rlE:Enc (Ru) where
 c:=fun x=>[.int i64 x.p,.int i64 x.m,.int i64 x.b,.int i64 x.o,.int i64 x.s,.int i64 x.v]
 n:=6
 len:=fun _=>rfl
 pos:=by decide
 one:=by
  intro x u hu;simp at hu
  rcases hu with rfl | rfl | rfl | rfl | rfl | rfl <;> rfl
theorem rl_cells {w:World}{g o:Nat}{x0 x1 x2 x3 x4 x5:Int}(h:VAt w g o (rlE.c ⟨x0,x1,x2,x3,x4,x5⟩)):w.cell? ⟨g,o,none⟩=some (.int i64 x0)∧w.cell? ⟨g,o+1,none⟩=some (.int i64 x1)∧w.cell? ⟨g,o+2,none⟩=some (.int i64 x2)∧w.cell? ⟨g,o+3,none⟩=some (.int i64 x3)∧w.cell? ⟨g,o+4,none⟩=some (.int i64 x4)∧w.cell? ⟨g,o+5,none⟩=some (.int i64 x5):=
 ⟨h 0 _ rfl,h 1 _ rfl,h 2 _ rfl,h 3 _ rfl,h 4 _ rfl,h 5 _ rfl⟩
theorem rl_open {H:Type}{enc:TypeId×Value→H}{W:World}{n:Nat}{cs:List Value}{x:DataW H×List MemPlace}
 (h:DataW.trod enc prog W 0 (fun _=>true) true n 88 cs=some x):∃y,cs=rlE.c y:=by
 obtain⟨xs,k,_,_,hl,hlen,hf⟩:=DataW.trod_struct underlying88 h;have hC:Tryz.prog.cellsOf 88=6:=by kernel_rfl
 have hT0:Tryz.prog.cellsOf 3=1:=by kernel_rfl
 have hT1:Tryz.prog.cellsOf 86=2:=by kernel_rfl
 rw[hC] at hl
 match cs,hl with
 | [c0,c1,c2,c3,c4,c5],_ =>
   match xs,hlen with
   | [z0,z1,z2,z3,z4],_ =>
     have g0:=hf 0 _ rfl;have g1:=hf 1 _ rfl;have g2:=hf 2 _ rfl;have g3:=hf 3 _ rfl;have g4:=hf 4 _ rfl;simp[hT0,hT1] at g0 g1 g2 g3 g4;obtain⟨v0,e0,_,_⟩:=DataW.trod_int underlying3 g0;obtain⟨s1,e1⟩:=cu_open g1;obtain⟨v3,e2,_,_⟩:=DataW.trod_int underlying3 g2;obtain⟨v4,e3,_,_⟩:=DataW.trod_int underlying3 g3;obtain⟨v5,e4,_,_⟩:=DataW.trod_int underlying3 g4;simp[cuE] at e0 e1 e2 e3 e4;refine⟨⟨v0,s1.1,s1.2,v3,v4,v5⟩,?_⟩;simp[rlE,e0,e1,e2,e3,e4]
def opE:Enc (Op8) where
 c:=fun x=>[.int i64 x.w,.bool x.a,.int i64 x.r.p,.int i64 x.r.m,.int i64 x.r.b,.int i64 x.r.o,.int i64 x.r.s,.int i64 x.r.v]
 n:=8
 len:=fun _=>rfl
 pos:=by decide
 one:=by
  intro x u hu;simp at hu
  rcases hu with rfl | rfl | rfl | rfl | rfl | rfl | rfl | rfl <;> rfl
theorem op_cells {w:World}{g o:Nat}{x0:Int}{x1:Bool}{x2 x3 x4 x5 x6 x7:Int}(h:VAt w g o (opE.c ⟨x0,x1,⟨x2,x3,x4,x5,x6,x7⟩⟩)):w.cell? ⟨g,o,none⟩=some (.int i64 x0)∧w.cell? ⟨g,o+1,none⟩=some (.bool x1)∧w.cell? ⟨g,o+2,none⟩=some (.int i64 x2)∧w.cell? ⟨g,o+3,none⟩=some (.int i64 x3)∧w.cell? ⟨g,o+4,none⟩=some (.int i64 x4)∧w.cell? ⟨g,o+5,none⟩=some (.int i64 x5)∧w.cell? ⟨g,o+6,none⟩=some (.int i64 x6)∧w.cell? ⟨g,o+7,none⟩=some (.int i64 x7):=
 ⟨h 0 _ rfl,h 1 _ rfl,h 2 _ rfl,h 3 _ rfl,h 4 _ rfl,h 5 _ rfl,h 6 _ rfl,h 7 _ rfl⟩
theorem op_at {w:World}{g o:Nat}{L:List (Op8)}(h:GAt opE w g o L){n k:Nat}(hn:L.length=n)(hk:k<n):
 ∃(x0:Int) (x1:Bool) (x2:Int) (x3:Int) (x4:Int) (x5:Int) (x6:Int) (x7:Int) (hl:k<L.length),L[k]=⟨x0,x1,⟨x2,x3,x4,x5,x6,x7⟩⟩∧w.cell? ⟨g,o+k*8,none⟩=some (.int i64 x0)∧w.cell? ⟨g,o+k*8+1,none⟩=some (.bool x1)∧w.cell? ⟨g,o+k*8+2,none⟩=some (.int i64 x2)∧w.cell? ⟨g,o+k*8+3,none⟩=some (.int i64 x3)∧w.cell? ⟨g,o+k*8+4,none⟩=some (.int i64 x4)∧w.cell? ⟨g,o+k*8+5,none⟩=some (.int i64 x5)∧w.cell? ⟨g,o+k*8+6,none⟩=some (.int i64 x6)∧w.cell? ⟨g,o+k*8+7,none⟩=some (.int i64 x7):=
 have hl:k<L.length:=by omega
 ⟨_,_,_,_,_,_,_,_,hl,rfl,op_cells (h k hl)⟩
theorem op_new (w:World)(x0:Int)(x1:Bool)(x2 x3 x4 x5 x6 x7:Int)(t:TypeId):VAt (w.alloc (.cells #[.int i64 x0,.bool x1,.int i64 x2,.int i64 x3,.int i64 x4,.int i64 x5,.int i64 x6,.int i64 x7] t)) w.heap.size 0 (opE.c ⟨x0,x1,⟨x2,x3,x4,x5,x6,x7⟩⟩):=vat_new w [.int i64 x0,.bool x1,.int i64 x2,.int i64 x3,.int i64 x4,.int i64 x5,.int i64 x6,.int i64 x7] t
theorem op_row (w:World)(x0:Int)(x1:Bool)(x2 x3 x4 x5 x6 x7:Int)(t:TypeId):GS opE (w.alloc (.cells #[.int i64 x0,.bool x1,.int i64 x2,.int i64 x3,.int i64 x4,.int i64 x5,.int i64 x6,.int i64 x7] t)) (.slice (some ⟨w.heap.size,0,none⟩) 1 1) [⟨x0,x1,⟨x2,x3,x4,x5,x6,x7⟩⟩]:=gs_one (E:=opE) w ⟨x0,x1,⟨x2,x3,x4,x5,x6,x7⟩⟩ t (vs:=[.int i64 x0,.bool x1,.int i64 x2,.int i64 x3,.int i64 x4,.int i64 x5,.int i64 x6,.int i64 x7]) rfl
def opB (a b:Op8):Bool:=(a.w==b.w)&&((a.a==b.a)&&((a.r.p==b.r.p)&&((a.r.m==b.r.m)&&((a.r.b==b.r.b)&&((a.r.o==b.r.o)&&((a.r.s==b.r.s)&&((a.r.v==b.r.v))))))))
theorem opB_iff (a b:Op8):opB a b=true↔a=b:=by
 have e:opB a b=((a.w==b.w)&&((a.a==b.a)&&((a.r.p==b.r.p)&&((a.r.m==b.r.m)&&((a.r.b==b.r.b)&&((a.r.o==b.r.o)&&((a.r.s==b.r.s)&&((a.r.v==b.r.v))))))))):=rfl;rw[e];simp only[Bool.and_eq_true,beq_iff_eq];constructor
 ·intro h;obtain⟨a0,a1,⟨a2,a3,a4,a5,a6,a7⟩⟩:=a;obtain⟨b0,b1,⟨b2,b3,b4,b5,b6,b7⟩⟩:=b;simp at h ⊢;simp[h]
 intro h;subst h;simp
theorem op_ways (x0:Int)(x1:Bool)(x2 x3 x4 x5 x6 x7 y0:Int)(y1:Bool)(y2 y3 y4 y5 y6 y7:Int):
 ((x0==y0)=false∧opB ⟨x0,x1,⟨x2,x3,x4,x5,x6,x7⟩⟩ ⟨y0,y1,⟨y2,y3,y4,y5,y6,y7⟩⟩=false) ∨
 ((x0==y0)=true∧(x1==y1)=false∧opB ⟨x0,x1,⟨x2,x3,x4,x5,x6,x7⟩⟩ ⟨y0,y1,⟨y2,y3,y4,y5,y6,y7⟩⟩=false) ∨
 ((x0==y0)=true∧(x1==y1)=true∧(x2==y2)=false∧opB ⟨x0,x1,⟨x2,x3,x4,x5,x6,x7⟩⟩ ⟨y0,y1,⟨y2,y3,y4,y5,y6,y7⟩⟩=false) ∨
 ((x0==y0)=true∧(x1==y1)=true∧(x2==y2)=true∧(x3==y3)=false∧opB ⟨x0,x1,⟨x2,x3,x4,x5,x6,x7⟩⟩ ⟨y0,y1,⟨y2,y3,y4,y5,y6,y7⟩⟩=false) ∨
 ((x0==y0)=true∧(x1==y1)=true∧(x2==y2)=true∧(x3==y3)=true∧(x4==y4)=false∧opB ⟨x0,x1,⟨x2,x3,x4,x5,x6,x7⟩⟩ ⟨y0,y1,⟨y2,y3,y4,y5,y6,y7⟩⟩=false) ∨
 ((x0==y0)=true∧(x1==y1)=true∧(x2==y2)=true∧(x3==y3)=true∧(x4==y4)=true∧(x5==y5)=false∧opB ⟨x0,x1,⟨x2,x3,x4,x5,x6,x7⟩⟩ ⟨y0,y1,⟨y2,y3,y4,y5,y6,y7⟩⟩=false) ∨
 ((x0==y0)=true∧(x1==y1)=true∧(x2==y2)=true∧(x3==y3)=true∧(x4==y4)=true∧(x5==y5)=true∧(x6==y6)=false∧opB ⟨x0,x1,⟨x2,x3,x4,x5,x6,x7⟩⟩ ⟨y0,y1,⟨y2,y3,y4,y5,y6,y7⟩⟩=false) ∨
 ((x0==y0)=true∧(x1==y1)=true∧(x2==y2)=true∧(x3==y3)=true∧(x4==y4)=true∧(x5==y5)=true∧(x6==y6)=true∧(x7==y7)=false∧opB ⟨x0,x1,⟨x2,x3,x4,x5,x6,x7⟩⟩ ⟨y0,y1,⟨y2,y3,y4,y5,y6,y7⟩⟩=false) ∨
 ((x0==y0)=true∧(x1==y1)=true∧(x2==y2)=true∧(x3==y3)=true∧(x4==y4)=true∧(x5==y5)=true∧(x6==y6)=true∧(x7==y7)=true∧opB ⟨x0,x1,⟨x2,x3,x4,x5,x6,x7⟩⟩ ⟨y0,y1,⟨y2,y3,y4,y5,y6,y7⟩⟩=true):=by
 have e:opB ⟨x0,x1,⟨x2,x3,x4,x5,x6,x7⟩⟩ ⟨y0,y1,⟨y2,y3,y4,y5,y6,y7⟩⟩=((x0==y0)&&((x1==y1)&&((x2==y2)&&((x3==y3)&&((x4==y4)&&((x5==y5)&&((x6==y6)&&((x7==y7))))))))):=rfl;rw[e];cases h0:(x0==y0)
 ·simp
 skip;cases h1:(x1==y1)
 ·simp
 skip;cases h2:(x2==y2)
 ·simp
 skip;cases h3:(x3==y3)
 ·simp
 skip;cases h4:(x4==y4)
 ·simp
 skip;cases h5:(x5==y5)
 ·simp
 skip;cases h6:(x6==y6)
 ·simp
 skip;cases h7:(x7==y7)
 ·simp
 skip;simp
theorem op_eq (x0:Int)(x1:Bool)(x2 x3 x4 x5 x6 x7 y0:Int)(y1:Bool)(y2 y3 y4 y5 y6 y7:Int)(w:World):(Op.equal 90 (.agg #[.int i64 x0,.bool x1,.int i64 x2,.int i64 x3,.int i64 x4,.int i64 x5,.int i64 x6,.int i64 x7]) (.agg #[.int i64 y0,.bool y1,.int i64 y2,.int i64 y3,.int i64 y4,.int i64 y5,.int i64 y6,.int i64 y7])).run prog w=.ok (opB ⟨x0,x1,⟨x2,x3,x4,x5,x6,x7⟩⟩ ⟨y0,y1,⟨y2,y3,y4,y5,y6,y7⟩⟩) w:=by
 unfold Op.equal Op.maxDepth;rw[run_equalIn_struct w 9999 _ _ _ (by kernel_rfl) (by kernel_rfl)]
 rcases op_ways x0 x1 x2 x3 x4 x5 x6 x7 y0 y1 y2 y3 y4 y5 y6 y7 with ⟨e0,e⟩ | ⟨e0,e1,e⟩ | ⟨e0,e1,e2,e⟩ | ⟨e0,e1,e2,e3,e⟩ | ⟨e0,e1,e2,e3,e4,e⟩ | ⟨e0,e1,e2,e3,e4,e5,e⟩ | ⟨e0,e1,e2,e3,e4,e5,e6,e⟩ | ⟨e0,e1,e2,e3,e4,e5,e6,e7,e⟩ | ⟨e0,e1,e2,e3,e4,e5,e6,e7,e⟩
 all_goals
  rw[e];go_simp
theorem op_info:(Tryz.prog.info? 90).map (fun i=>(i.zero,i.size,i.bytes))=some (some (.agg #[.int i64 0,.bool false,.int i64 0,.int i64 0,.int i64 0,.int i64 0,.int i64 0,.int i64 0]),8,64):=by kernel_rfl
theorem op_zero:(Value.agg #[.int i64 0,.bool false,.int i64 0,.int i64 0,.int i64 0,.int i64 0,.int i64 0,.int i64 0]).cells.size=8:=by simp[Value.cells]
end
section
open Go.RowKit
def inE:Enc Int where
 c:=fun x=>[.int i64 x]
 n:=1
 len:=fun _=>rfl
 pos:=by decide
 one:=by
  intro x u hu;simp at hu;subst hu;rfl
theorem in_at {w:World}{g o:Nat}{L:List Int}(h:GAt inE w g o L){n k:Nat}(hn:L.length=n)(hk:k<n):∃(x:Int) (hl:k<L.length),L[k]=x∧w.cell? ⟨g,o+k,none⟩=some (.int i64 x):=by
 have hl:k<L.length:=by omega
 have:=h k hl 0 _ rfl;refine⟨_,hl,rfl,?_⟩;have e:o+k*inE.n+0=o+k:=by show o+k*1+0=o+k;omega
 rw[e] at this;exact this
abbrev SlT:Type:=AdQ×Nat×Nat
def slV (x:SlT):Value:=.slice x.1 x.2.1 x.2.2
def slE:Enc SlT where
 c:=fun x=>[slV x]
 n:=1
 len:=fun _=>rfl
 pos:=by decide
 one:=by
  intro x u hu;simp at hu;subst hu;rfl
theorem sl_cells (L:List SlT):cellsG slE L=L.map slV:=by
 induction L with
 | nil=>rfl
 | cons x r ih =>
   simp only[cellsG,List.flatMap_cons,List.map_cons] at *;rw[ih];rfl
theorem grown_below {w w':World}(hb:Below w.heap.size w w'):w.grownBy w' none:=⟨hb.os,hb.tape,hb.output,hb.size,fun k hk _=>hb.block k hk⟩
theorem grown_set (w:World)(b i:Nat)(v:Value):w.grownBy (w.setCell ⟨b,i,none⟩ v) (some b):=
 ⟨rfl,rfl,rfl,by simp[World.setCell],fun k _ hk=>Below.heap_setCell _ _ _ _ (fun e=>hk (by simp[e]))⟩
theorem none_or (o:Option Nat):o=none∨o≠none:=by cases o <;> simp
theorem run_append_blk {P:Program}{w:World}{base:Nat}(t ty e:TypeId)(i:TypeInfo)(z:Value)(ht:P.underlying t=some (.slice e))(hi:P.info? e=some i)(hz:i.zero=some z)
 (v:Value) (n:Nat) (xs:List Value) (hown:w.ownsRow base e i.size v n xs)
 (a:Addr) (c:Nat) (news:List Value) (hl:news.length=1*i.size) (hnews:∀j u,news[j]?=some u→w.cell? (a.add j)=some u) (h1:∀u∈news,u.oneCell'=true)
 (h63:n+1≤maxLen) (hbytes:(n+1)*i.bytes≤140737488355328) {v':Value} {w':World} (hr:(Builtin.append_ #[t,t] ty #[v,.slice (some a) 1 c]).run P w=.ok v' w'):v'.ownBlock=v.ownBlock∨v'.ownBlock=some w.heap.size:=by
 have hm:n+1≤9223372036854775807:=by simp only[maxLen] at h63;omega
 rcases hown.2 with ⟨rfl,rfl⟩ | ⟨g,cap,cur,rfl,hbg,hg,hnc,hcm,hcs,htake⟩
 ·rw[run_append_nil (P:=P) w t ty e i z ht hi hz a 1 c news hl hnews (by omega) (by omega) (by have hb:=hbytes;simp only[Nat.zero_add] at hb;omega)] at hr;cases hr;exact .inr rfl
 by_cases hroom:n+1≤cap
 ·have hfit:n*i.size+news.length≤cur.size:=by rw[hl,hcs,←Nat.add_mul];exact Nat.mul_le_mul_right _ hroom
  rw[run_append_room (P:=P) w t ty e i ht hi g n cap cur hg a 1 c news hl hnews h1 hroom hfit] at hr;cases hr;exact .inl rfl
 rw[run_append_grow (P:=P) w t ty e i z ht hi hz ⟨g,0,none⟩ n cap xs hown.1 (hown.cells (g:=g) rfl) a 1 c news hl hnews (by omega) (by omega) (growslice_fits (by omega) hbytes)] at hr;cases hr;exact .inr rfl
theorem wpList_append_blk {P:Program}{α:Type}{E:Enc α}(w:World){ops:Array Oper}{rest:List Oper}{o:Oper}{a:Act}{Q:Exit→Act→World→Prop}(hgd:o.guard=none)(s x:Operand)(t e:TypeId)
 (ho:o.op=.call { callee:=.builtin .append,args:=#[s,x],argTypes:=#[t,t] }) (ht:P.underlying t=some (.slice e)) (i:TypeInfo) (z:Value) (bytes:Nat) (hi:P.info? e=some i) (hz:i.zero=some z)
 (hsize:i.size=E.n) (hby:i.bytes=bytes) (hzs:z.cells.size=E.n) (base:Nat)
 (v:Value) (hs:a.eval s=v) (L:List α) (hown:w.ownsRow base e E.n v L.length (cellsG E L)) (g q c:Nat) (hx:a.eval x=.slice (some ⟨g,q,none⟩) 1 c) (y:α) (hM:VAt w g q (E.c y))
 (h63:L.length+1≤maxLen) (hbytes:(L.length+1)*bytes≤140737488355328) (hbase:base≤w.heap.size)
 (h:∀v' w',w'.ownsRow base e E.n v' (L++[y]).length (cellsG E (L++[y]))→w.grownBy w' v.ownBlock→v'.ownBlock=v.ownBlock∨v'.ownBlock=some w.heap.size→wpList P ops Q rest (a.put o.dst v') w'):wpList P ops Q (o :: rest) a w:=by
 have hG:GAt E w g q [y]:=by
  intro k hk;obtain rfl:k=0:=by simp at hk;omega
  simpa using hM
 have hc:=hG.cells;rw[cellsG_one] at hc;have hl:(E.c y).length=1*E.n:=by rw[E.len];omega
 obtain⟨v',w',hr,h2,h3,_⟩:=run_append_own (P:=P) w base t o.type e i z E.n bytes ht hi hz hsize hby hzs E.pos v _ _ hown ⟨g,q,none⟩ 1 c (E.c y) hl hc (E.one y) h63 hbytes hbase;have hb:=run_append_blk (P:=P) t o.type e i z ht hi hz v _ _ (by rw[hsize];exact hown) ⟨g,q,none⟩ c (E.c y) (by rw[hsize];exact hl) hc (E.one y) h63 (by rw[hby];exact hbytes) hr;refine wpList_plain hgd fun K hK=>?_
 unfold Oper.wp execOp;simp only[ho,resolve,invoke,builtin,Sem.run_bind,Sem.run_pure,Result.andThen_ok,List.map_toArray,List.map_cons,List.map_nil,hs,hx,hr];exact hK _ _ (h v' w' (by rw[List.length_append,cellsG_app,cellsG_one];exact h2) h3 hb)
section
variable {e1 e2:TypeId}{w w':World}{B:Nat}{v u:Value}{vs us:List SlT}{Cs Ps:List (List Int)}
end
def offB (x:SlT)(b:Nat):Prop:=x.2.1=0∨∀a,x.1=some a→a.block≠b
theorem RAt.lt {w:World}{g o:Nat}{L:List Ru}(h:RAt w g o L)(h0:0<L.length):g<w.heap.size:=bLQ _ _ (h 0 h0).c0
theorem SR.off {w:World}{x:SlT}{L:List Ru}(h:SR w (slV x) L){b:Nat}(hb:w.heap.size≤b):offB x b:=by
 obtain⟨ao,n,cap⟩:=x
 rcases h with ⟨ao',cap',e,rfl⟩ | ⟨g,o,cap',e,h1,h2,h3⟩
 ·simp only[slV,Value.slice.injEq] at e;exact .inl e.2.1
 simp only[slV,Value.slice.injEq] at e;obtain⟨rfl,rfl,rfl⟩:=e;by_cases h0:L.length=0
 ·exact .inl h0
 refine .inr fun a ha=>?_
 cases ha;have:=h3.lt (by omega);show g≠b;omega
theorem SR.grown {w w':World}{x:SlT}{L:List Ru}{row:Option Nat}(h:SR w (slV x) L)(hg:w.grownBy w' row)(ho:∀b,row=some b→offB x b):SR w' (slV x) L:=by
 obtain⟨ao,n,cap⟩:=x
 rcases h with ⟨ao',cap',e,rfl⟩ | ⟨g,o,cap',e,h1,h2,h3⟩
 ·exact .inl ⟨ao',cap',e,rfl⟩
 simp only[slV,Value.slice.injEq] at e;obtain⟨rfl,rfl,rfl⟩:=e;by_cases h0:L.length=0
 ·exact .inl ⟨_,_,by rw[slV,h0],List.length_eq_zero_iff.1 h0⟩
 have hne:some g≠row:=by
  intro e
  rcases ho g e.symm with h4 | h4
  ·exact h0 h4
  exact h4 _ rfl rfl
 refine .inr ⟨g,o,cap,rfl,h1,h2,fun i hi=>?_⟩;obtain⟨c0,c1,c2,c3,c4,c5⟩:=h3 i hi;exact⟨hg.cell c0 hne,hg.cell c1 hne,hg.cell c2 hne,hg.cell c3 hne,hg.cell c4 hne,hg.cell c5 hne⟩
structure TR (e:TypeId)(w:World)(A B:Nat)(v:Value)(vs:List SlT)(Ts:TsQ):Prop where
 ov:w.ownsRow B e slE.n v vs.length (cellsG slE vs)
 lv:vs.length=Ts.length
 rv:∀(i:Nat) (x:SlT) (L:List Ru),vs[i]?=some x→Ts[i]?=some L→SR w (slV x) L∧∀b,v.ownBlock=some b→offB x b
 rz:∀(i:Nat) (x:SlT),vs[i]?=some x→∀b,A≤b→b<B→offB x b
section
variable {e:TypeId}{w w':World}{A B:Nat}{v:Value}{vs:List SlT}{Ts:TsQ}
theorem tr_nil (e:TypeId)(w:World)(A B:Nat):TR e w A B (.slice none 0 0) [] []:=
 ⟨World.ownsRow_nil w B e slE.n,rfl,fun i x L h=>by simp at h,fun i x h=>by simp at h⟩
theorem TR.later (h:TR e w A B v vs Ts)(hb:Below w.heap.size w w'):TR e w' A B v vs Ts:=
 ⟨h.ov.kept (grown_below hb) (none_or _),h.lv,fun i x L h1 h2=>⟨(h.rv i x L h1 h2).1.later hb,(h.rv i x L h1 h2).2⟩,h.rz⟩
theorem TR.grown (h:TR e w A B v vs Ts){b:Nat}(hg:w.grownBy w' (some b))(h1:A≤b)(h2:b<B):TR e w' A B v vs Ts:=by
 refine⟨h.ov.kept hg (.inr fun e=>?_),h.lv,fun i x L a1 a2=>⟨(h.rv i x L a1 a2).1.grown hg (fun c hc=>?_),(h.rv i x L a1 a2).2⟩,h.rz⟩
 ·have:=(h.ov.lt b e).1;omega
 cases hc;exact h.rz i x a1 b h1 h2
theorem ts_sl {v:Value}(h:TS w v Ts):∃vs:List SlT,GS slE w v vs∧vs.length=Ts.length∧∀(i:Nat) (x:SlT) (L:List Ru),vs[i]?=some x→Ts[i]?=some L→SR w (slV x) L:=by
 rcases h with ⟨ao,cap,rfl,rfl⟩ | ⟨g,o,cap,rfl,h1,h2,h3⟩
 ·exact⟨[],.inl ⟨ao,cap,rfl,rfl⟩,rfl,fun i x L h=>by simp at h⟩
 have each:∀i,i<Ts.length→∃x:SlT,w.cell? ⟨g,o+i,none⟩=some (slV x)∧SR w (slV x) (Ts.getD i []):=by
  intro i hi;obtain⟨ao,n,cap,c1,c2⟩:=h3 i hi;refine⟨(ao,n,cap),c1,?_⟩;rw[getT hi];exact c2
 have iR:Inhabited SlT:=⟨(none,0,0)⟩;obtain⟨R,hR⟩:=Go.Deep.choose_lt each;refine⟨(List.range Ts.length).map R,.inr ⟨g,o,cap,by simp,by simpa using h1,h2,fun i hi j u hu=>?_⟩,by simp,fun i x L a1 a2=>?_⟩
 ·have hi2:i<Ts.length:=by simpa using hi
  have e1:((List.range Ts.length).map R)[i]=R i:=by simp
  rw[e1] at hu;obtain rfl:j=0:=by
   have:=(List.getElem?_eq_some_iff.1 hu).1;rw[slE.len] at this;have e2:slE.n=1:=rfl;omega
  have e3:o+i*slE.n+0=o+i:=by show o+i*1+0=o+i;omega
  have e4:slV (R i)=u:=Option.some.inj hu;rw[e3,←e4];exact (hR i hi2).1
 have hi:i<Ts.length:=(List.getElem?_eq_some_iff.1 a2).1;have e1:R i=x:=by simpa[hi] using a1
 have e2:=(hR i hi).2;rw[getT hi] at e2;rw[List.getElem?_eq_getElem hi] at a2;cases a2;rw[←e1];exact e2
theorem tr_copy {w0:World}{u:Value}(hlen:vs.length=Ts.length)(hsl:∀(i:Nat) (x:SlT) (L:List Ru),vs[i]?=some x→Ts[i]?=some L→SR w0 (slV x) L)(hb:Below w0.heap.size w0 w)(hg:w.grownBy w' none)(hB:w0.heap.size≤B)(ho:w'.ownsRow B e slE.n u vs.length (cellsG slE vs)):TR e w' w0.heap.size B u vs Ts:=by
 have each:∀(i:Nat) (x:SlT),vs[i]?=some x→∃L,Ts[i]?=some L:=fun i x h=>by
  have hi:i<Ts.length:=by rw[←hlen];exact (List.getElem?_eq_some_iff.1 h).1
  exact⟨_,List.getElem?_eq_getElem hi⟩
 refine⟨ho,hlen,fun i x L h1 h2=>⟨((hsl i x L h1 h2).later hb).grown hg (fun b hb=>by cases hb),fun b hb=>(hsl i x L h1 h2).off (Nat.le_trans hB (ho.lt b hb).1)⟩,fun i x h1 b h2 h3=>?_⟩;obtain⟨L,hL⟩:=each i x h1;exact (hsl i x L h1 hL).off h2
theorem TR.push (h:TR e w A B v vs Ts){x:SlT}{L:List Ru}(hx:SR w (slV x) L){v':Value}(hox:∀b,v.ownBlock=some b→offB x b)(hoz:∀b,A≤b→b<B→offB x b)
 (hg:w.grownBy w' v.ownBlock) (ho:w'.ownsRow B e slE.n v' (vs++[x]).length (cellsG slE (vs++[x]))) (hb:v'.ownBlock=v.ownBlock∨v'.ownBlock=some w.heap.size):TR e w' A B v' (vs++[x]) (Ts++[L]):=by
 have one:∀{y:SlT} {M:List Ru},SR w (slV y) M→(∀b,v.ownBlock=some b→offB y b)→SR w' (slV y) M∧∀b,v'.ownBlock=some b→offB y b:=by
  intro y M h1 h2;refine⟨h1.grown hg h2,fun b hv=>?_⟩
  rcases hb with hb | hb
  ·exact h2 b (by rw[←hb];exact hv)
  rw[hb] at hv;cases hv;exact h1.off (nLQ _)
 refine⟨ho,by simp[h.lv],fun i y M h1 h2=>?_,fun i y h1=>?_⟩
 ·by_cases hi:i<vs.length
  ·rw[List.getElem?_append_left hi] at h1;rw[List.getElem?_append_left (by rw[←h.lv];exact hi)] at h2;obtain⟨a1,a2⟩:=h.rv i y M h1 h2;exact one a1 a2
  have hi2:i=vs.length:=by
   have:=(List.getElem?_eq_some_iff.1 h1).1;simp at this;omega
  subst hi2;simp at h1;rw[h.lv] at h2;simp at h2;subst h1 h2;exact one hx hox
 by_cases hi:i<vs.length
 ·rw[List.getElem?_append_left hi] at h1;exact h.rz i y h1
 have hi2:i=vs.length:=by
  have:=(List.getElem?_eq_some_iff.1 h1).1;simp at this;omega
 subst hi2;simp at h1;subst h1;exact hoz
theorem TR.put {g n cap i:Nat}(h:TR e w A B (.slice (some ⟨g,0,none⟩) n cap) vs Ts){x:SlT}{L:List Ru}(hx:SR w (slV x) L)(hox:offB x g)(hoz:∀b,A≤b→b<B→offB x b):TR e (w.setCell ⟨g,i,none⟩ (slV x)) A B (.slice (some ⟨g,0,none⟩) n cap) (vs.set i x) (Ts.set i L):=by
 have hgw:w.grownBy (w.setCell ⟨g,i,none⟩ (slV x)) (some g):=grown_set w g i (slV x);refine⟨?_,by simp[h.lv],fun j y M a1 a2=>?_,fun j y a1=>?_⟩
 ·have h1:=h.ov;have hn:n=vs.length:=by
   rcases h1.2 with ⟨h3,_⟩ | ⟨_,_,_,h3,_⟩
   ·cases h3
   simp only[Value.slice.injEq] at h3;exact h3.2.1
  rw[List.length_set,sl_cells,List.map_set];rw[sl_cells,←hn] at h1;rw[←hn];exact (h1.stored _ _).1
 ·have hj:j<(vs.set i x).length:=(List.getElem?_eq_some_iff.1 a1).1;rw[List.length_set] at hj;by_cases hij:i=j
  ·subst hij;rw[List.getElem?_set_self hj] at a1;rw[List.getElem?_set_self (by rw[←h.lv];exact hj)] at a2;cases a1;cases a2;refine⟨hx.grown hgw (fun b hb=>by cases hb;exact hox),fun b hb=>?_⟩;cases hb;exact hox
  rw[List.getElem?_set_ne hij] at a1 a2;obtain⟨b1,b2⟩:=h.rv j y M a1 a2;exact⟨b1.grown hgw (fun b hb=>by cases hb;exact b2 g rfl),b2⟩
 have hj:j<(vs.set i x).length:=(List.getElem?_eq_some_iff.1 a1).1;rw[List.length_set] at hj;by_cases hij:i=j
 ·subst hij;rw[List.getElem?_set_self hj] at a1;cases a1;exact hoz
 rw[List.getElem?_set_ne hij] at a1;exact h.rz j y a1
theorem TR.ts (h:TR e w A B v vs Ts):TS w v Ts:=by
 rcases own_GS h.ov with ⟨ao,cap,rfl,h0⟩ | ⟨g,o,cap,rfl,h1,h2,h3⟩
 ·refine .inl ⟨ao,cap,rfl,?_⟩;have:=h.lv;rw[h0] at this;exact List.length_eq_zero_iff.1 this.symm
 refine .inr ⟨g,o,cap,by rw[h.lv],by rw[←h.lv];exact h1,h2,fun i hi=>?_⟩;have hi2:i<vs.length:=by rw[h.lv];exact hi
 have:=h3 i hi2 0 _ rfl;have e:o+i*slE.n+0=o+i:=by show o+i*1+0=o+i;omega
 rw[e] at this;exact⟨_,_,_,this,(h.rv i _ _ (List.getElem?_eq_getElem hi2) (List.getElem?_eq_getElem hi)).1⟩
theorem TR.at {g n cap i:Nat}(h:TR e w A B (.slice (some ⟨g,0,none⟩) n cap) vs Ts)(hi:i<Ts.length):∃x:SlT,w.cell? ⟨g,i,none⟩=some (slV x)∧SR w (slV x) (Ts.getD i [])∧w.frozen? ⟨g,i,none⟩=false∧n=Ts.length∧B≤g∧g<w.heap.size:=by
 have h1:=h.ov;have hn:n=vs.length:=by
  rcases h1.2 with ⟨h3,_⟩ | ⟨_,_,_,h3,_⟩
  ·cases h3
  simp only[Value.slice.injEq] at h3;exact h3.2.1
 have hi2:i<vs.length:=by rw[h.lv];exact hi
 rw[sl_cells,←hn] at h1;refine⟨vs[i],?_,?_,h1.frozenAt i,by rw[hn,h.lv],(h1.lt g rfl).1,(h1.lt g rfl).2⟩
 ·rw[h1.cellAt i (by show i<n*1;omega)];simp[hi2]
 rw[getT hi];exact (h.rv i _ _ (List.getElem?_eq_getElem hi2) (List.getElem?_eq_getElem hi)).1
end
def NO (w:World)(B:Nat)(v:Value)(L:List Op8):Prop:=w.ownsRow B 90 8 v L.length (cellsG opE L)
theorem NO.gs {w:World}{B:Nat}{v:Value}{L:List Op8}(h:NO w B v L):GS opE w v L:=own_GS (E:=opE) h
theorem NO.nil (w:World)(B:Nat):NO w B (.slice none 0 0) []:=World.ownsRow_nil w B _ 8
theorem NO.mono {w:World}{B B':Nat}{v:Value}{L:List Op8}(h:NO w B v L)(hB:B'≤B):NO w B' v L:=by
 obtain⟨h1,h2 | ⟨g,cap,cur,hv,hb,h3⟩⟩:=h
 ·exact⟨h1,.inl h2⟩
 exact⟨h1,.inr ⟨g,cap,cur,hv,Nat.le_trans hB hb,h3⟩⟩
theorem NO.later {w w':World}{B:Nat}{v:Value}{L:List Op8}(h:NO w B v L)(hb:Below w.heap.size w w'):NO w' B v L:=h.kept (grown_below hb) (none_or _)
theorem NO.ofn {w:World}{B n:Nat}{v:Value}{M L:List Op8}(h:w.ownsRow B 90 8 v n (cellsG opE M))(hL:M=L)(hn:n=L.length):NO w B v L:=by subst hL hn;exact h
theorem NR.ofn {w:World}{B n:Nat}{v:Value}{M:List Ru}(h:w.ownsRow B 88 6 v n (cellsR M))(hn:n=M.length):NR w B v M:=by subst hn;exact h
theorem wpList_append_ops (w:World){ops:Array Oper}{rest:List Oper}{o:Oper}{a:Act}{Q:Exit→Act→World→Prop}(hgd:o.guard=none)(s x:Operand)(t:TypeId)
 (ho:o.op=.call { callee:=.builtin .append,args:=#[s,x],argTypes:=#[t,t] }) (ht:Tryz.prog.underlying t=some (.slice 90)) (base:Nat)
 (v:Value) (hs:a.eval s=v) (L:List Op8) (hown:NO w base v L) (u:Value) (hx:a.eval x=u) (M:List Op8) (hM:GS opE w u M)
 (h100:L.length+M.length≤1000000) (hbase:base≤w.heap.size)
 (h:∀v' w',NO w' base v' (L++M)→w.grownBy w' v.ownBlock→wpList prog ops Q rest (a.put o.dst v') w'):wpList prog ops Q (o :: rest) a w:=by
 obtain⟨i0,hi,hz0,hz1,hz2⟩:=info_parts op_info;exact wpList_append_GS (E:=opE) w hgd s x t 90 ho ht i0 _ 64 hi hz0 hz1 hz2 op_zero base v hs L hown u hx M hM (by unfold maxLen;omega) (by omega) hbase h
theorem ta_info:(Tryz.prog.info? 93).map (fun i=>(i.zero,i.size,i.bytes))=some (some (.slice none 0 0),1,24):=by kernel_rfl
theorem ta_zero:(Value.slice none 0 0).cells.size=1:=by simp[Value.cells]
theorem NR.sl {w:World}{B:Nat}{v:Value}{L:List Ru}(h:NR w B v L):∃x:SlT,v=slV x∧∀b,b<B→offB x b:=by
 rcases h.2 with ⟨rfl,h0⟩ | ⟨g,cap,cur,rfl,hg,_⟩
 ·exact⟨(none,0,0),rfl,fun b _=>.inl rfl⟩
 refine⟨(some ⟨g,0,none⟩,L.length,cap),rfl,fun b hb=>.inr fun a ha=>?_⟩;cases ha;show g≠b;omega
theorem own_form {w:World}{B e size n:Nat}{v:Value}{xs:List Value}(h:w.ownsRow B e size v n xs):∃ao cap,v=.slice ao n cap:=by
 rcases h.2 with ⟨rfl,rfl⟩ | ⟨g,cap,cur,rfl,_⟩
 ·exact⟨none,0,rfl⟩
 exact⟨_,cap,rfl⟩
def diN (S:Int)(Ls:LkQ)(Hs:HoQ)(Ts:TsQ)(S':Int)(Ls':LkQ)(Hs':HoQ)(Ts':TsQ):Int:=
 if nwN S Ls Hs Ts S' Ls' Hs' Ts'=0 then (if tpB S S' Ls Ls' Hs Hs'=true then 0 else 3) else nwN S Ls Hs Ts S' Ls' Hs' Ts'
def diL (S:Int)(Ls:LkQ)(Hs:HoQ)(Ts:TsQ)(S':Int)(Ls':LkQ)(Hs':HoQ)(Ts':TsQ):List Op8:=
 if diN S Ls Hs Ts S' Ls' Hs' Ts'=0 then cdL Ts Ts' Ts.length else []
theorem of_next {w:Int}{D:List Op8}{k:Nat}(hk:k<D.length)(C:List Op8):C++ofS w (D.take (k+1))=(C++ofS w (D.take k))++[⟨w,D[k].a,D[k].r⟩]:=by
 rw[List.take_succ_eq_append_getElem hk];simp only[ofS,List.map_append,List.map_cons,List.map_nil,List.append_assoc]
theorem chDiff_any (S:Int)(ao:AdQ)(n cap:Nat)(ao2:AdQ)(n2 cap2:Nat)(ao3:AdQ)(n3 cap3:Nat)(S':Int)(bo:AdQ)(m dap:Nat)(bo2:AdQ)(m2 dap2:Nat)(bo3:AdQ)(m3 dap3:Nat)(Ls:LkQ)(Hs:HoQ)(Ts:TsQ)(Ls':LkQ)(Hs':HoQ)(Ts':TsQ)(w:World)
 (hL:GS lnkE w (.slice ao n cap) Ls) (hH:GS hstE w (.slice ao2 n2 cap2) Hs) (hT:TS w (.slice ao3 n3 cap3) Ts) (hL':GS lnkE w (.slice bo m dap) Ls') (hH':GS hstE w (.slice bo2 m2 dap2) Hs') (hT':TS w (.slice bo3 m3 dap3) Ts'):
 Calls prog 56 #[.agg #[.int i64 S,.slice ao n cap,.slice ao2 n2 cap2,.slice ao3 n3 cap3],.agg #[.int i64 S',.slice bo m dap,.slice bo2 m2 dap2,.slice bo3 m3 dap3]] w fun e w'=>∃v,e=.returned (.tuple #[v,noV (diN S Ls Hs Ts S' Ls' Hs' Ts')])∧NO w' w.heap.size v (diL S Ls Hs Ts S' Ls' Hs' Ts')∧Below w.heap.size w w':=by
 have hb0:Below w.heap.size w ((w.alloc (.cells #[.int i64 S,.slice ao n cap,.slice ao2 n2 cap2,.slice ao3 n3 cap3] 28)).alloc (.cells #[.int i64 S',.slice bo m dap,.slice bo2 m2 dap2,.slice bo3 m3 dap3] 28)):=((bRQ _ _).alloc (nLQ _) _).alloc (by simp) _;have HNN:=nn_new w S (.slice ao n cap) (.slice ao2 n2 cap2) (.slice ao3 n3 cap3) S' (.slice bo m dap) (.slice bo2 m2 dap2) (.slice bo3 m3 dap3) 28;have HB0:Hid (Below w.heap.size w ((w.alloc (.cells #[.int i64 S,.slice ao n cap,.slice ao2 n2 cap2,.slice ao3 n3 cap3] 28)).alloc (.cells #[.int i64 S',.slice bo m dap,.slice bo2 m2 dap2,.slice bo3 m3 dap3] 28))):=hb0;have HW:Hid (∀W,Below w.heap.size w W→(GS lnkE W (.slice ao n cap) Ls∧GS hstE W (.slice ao2 n2 cap2) Hs∧TS W (.slice ao3 n3 cap3) Ts)∧GS lnkE W (.slice bo m dap) Ls'∧GS hstE W (.slice bo2 m2 dap2) Hs'∧TS W (.slice bo3 m3 dap3) Ts'):=fun W h=>⟨⟨hL.later h,hH.later h,hT.later h⟩,hL'.later h,hH'.later h,hT'.later h⟩
 obtain⟨_,_,_,e,gn,gn2,gn3,ga⟩:=hT.form;cases e;obtain⟨_,_,_,e,gm,gm2,gm3,gb⟩:=hT'.form;cases e;have HN:Hid (Ts.length=n3):=gn;have HM:Hid (Ts'.length=m3):=gm;have HA:Hid (0<n3→∃g o,ao3=some ⟨g,o,none⟩∧TAt w g o Ts∧cap3≤maxLen):=ga;have HA2:Hid (0<m3→∃g o,bo3=some ⟨g,o,none⟩∧TAt w g o Ts'∧dap3≤maxLen):=gb;have n63:n3≤9223372036854775807:=by unfold maxLen at gn2;omega
 obtain⟨C,hC⟩:∃X,X=nwN S Ls Hs Ts S' Ls' Hs' Ts':=⟨_,rfl⟩;have HC:Hid (C=nwN S Ls Hs Ts S' Ls' Hs' Ts'):=hC;obtain⟨X,hX⟩:∃X,X=diN S Ls Hs Ts S' Ls' Hs' Ts':=⟨_,rfl⟩;obtain⟨R,hR⟩:∃X,X=diL S Ls Hs Ts S' Ls' Hs' Ts':=⟨_,rfl⟩;have HX:Hid (X=if C=0 then (if tpB S S' Ls Ls' Hs Hs'=true then 0 else 3) else C):=by
  show _=_;rw[hX,diN,hC]
 have HR:Hid (R=if X=0 then cdL Ts Ts' Ts.length else []):=by
  show _=_;rw[hR,diL,hX]
 rw[←hX,←hR];clear hL hH hT hL' hH' hT' hb0 hX hR hC gn gn2 ga gm gm2 gb;go_enter func56,ntmps56
 go_wp2_with fail
 refine (chCheck_any S ao n cap ao2 n2 cap2 ao3 n3 cap3 S' bo m dap bo2 m2 dap2 bo3 m3 dap3 Ls Hs Ts Ls' Hs' Ts' _ (HW.out _ HB0.out).1.1 (HW.out _ HB0.out).1.2.1 (HW.out _ HB0.out).1.2.2 (HW.out _ HB0.out).2.1 (HW.out _ HB0.out).2.2.1 (HW.out _ HB0.out).2.2.2).mono ?_;rintro e w1 ⟨rfl,hb1⟩;rw[←HC.out];have HB1:Hid (Below w.heap.size w w1):=HB0.out.trans (hb1.mono HB0.out.size);have HNH:Hid (NN w1 w.heap.size S (.slice ao n cap) (.slice ao2 n2 cap2) (.slice ao3 n3 cap3) S' (.slice bo m dap) (.slice bo2 m2 dap2) (.slice bo3 m3 dap3)):=HNN.later hb1;obtain⟨⟨p0,p1,p2,p3⟩,s0,s1,s2,s3⟩:=HNN.later hb1;have hlt1:w.heap.size<w1.heap.size:=bLQ _ _ p0;have hlt2:w.heap.size+1<w1.heap.size:=bLQ _ _ s0;clear hb1 HNN HB0;by_cases h0:C=0
 ·subst h0;rw[no_ok rfl]
  go_wp2_with fail
  refine (sameTopo_any S ao n cap ao2 n2 cap2 Ls Hs S' bo m dap bo2 m2 dap2 Ls' Hs' _ (HW.out _ HB1.out).1.1 (HW.out _ HB1.out).1.2.1 (HW.out _ HB1.out).2.1 (HW.out _ HB1.out).2.2.1).mono ?_;rintro e w2 ⟨rfl,hb2⟩;have HB2:Hid (Below w.heap.size w w2):=HB1.out.trans (hb2.mono HB1.out.size);have HN2:Hid (NN w2 w.heap.size S (.slice ao n cap) (.slice ao2 n2 cap2) (.slice ao3 n3 cap3) S' (.slice bo m dap) (.slice bo2 m2 dap2) (.slice bo3 m3 dap3)):=HNH.out.later hb2;clear p0 p1 p2 p3 s0 s1 s2 s3 hlt1 hlt2;obtain⟨⟨p0,p1,p2,p3⟩,s0,s1,s2,s3⟩:=HNH.out.later hb2;have hlt1:w.heap.size<w2.heap.size:=bLQ _ _ p0;have hlt2:w.heap.size+1<w2.heap.size:=bLQ _ _ s0;obtain⟨b1,hb⟩:∃b,b=tpB S S' Ls Ls' Hs Hs':=⟨_,rfl⟩;have HBE:Hid (tpB S S' Ls Ls' Hs Hs'=b1):=hb.symm;rw[HBE.out];clear hb hb2 HNH HB1;cases b1 with
  | false =>
    have HX3:Hid (X=3):=by
     show _=_;rw[HX.out,HBE.out];rfl
    have HR3:Hid (R=[]):=by
     show _=_;rw[HR.out,HX3.out];rfl
    go_wp2;refine bodyPost_ret (v:=.tuple #[.slice none 0 0,.iface 68 (.int i64 3)]) (by simp[results,results56,go_sem]) rfl ?_;rw[HX3.out,HR3.out];exact⟨_,rfl,NO.nil _ _,HB2.out⟩
  | true =>
    have HX0:Hid (X=0):=by
     show _=_;rw[HX.out,HBE.out];rfl
    have HR0:Hid (R=cdL Ts Ts' n3):=by
     show _=_;rw[HR.out,HX0.out,HN.out];rfl
    have HTW:Hid (∀j,j<n3→j<m3→twN (Ts.getD j []) (Ts'.getD j [])=0):=fun j h1 h2=>nw_tw HC.out.symm j (by rw[HN.out];exact h1) (by rw[HM.out];exact h2)
    have hnm:n3=m3:=by
     have h1:=(nt_0 (nw_two HC.out.symm).1).2.1;have h2:=(nt_0 (nw_two HC.out.symm).2).2.1;have h3:=(tpB_iff.1 HBE.out).1;rw[HN.out] at h1;rw[HM.out] at h2;omega
    subst hnm;have h36:n3≤6:=by
     have h1:=(nt_0 (nw_two HC.out.symm).1).2.1;have h2:=(tp_0 (nt_0 (nw_two HC.out.symm).1).1).1;rw[HN.out] at h1;omega
    have HFW:Hid (∀k,k≤n3→(cdL Ts Ts' k).length≤24*k):=by
     intro k
     induction k with
     | zero=>intro _;simp[cdL]
     | succ k ih =>
       intro hk;have h1:=ih (by omega);have h2:(dfL (Ts.getD k []) (Ts'.getD k [])).length≤24:=by
        have h:=HTW.out k (by omega) (by omega);have h3:=tw_two h;have a:=(tb_iff.1 h3.1).1;have b:=(tb_iff.1 h3.2).1;have c:=bey_le (Ts.getD k []) (Ts'.getD k []);have d:=bey_le (Ts'.getD k []) (Ts.getD k []);rw[dfL,if_pos h];simp only[taken,added,List.length_append,List.length_map];omega
       rw[cdL,List.length_append,ofS,List.length_map];omega
    go_wp2
    go_loopw [7,30] (fun u i wr=>∃k:Nat,k≤n3∧i=.int i64 k∧NO wr (w.heap.size+2) u (cdL Ts Ts' k)∧NN wr w.heap.size S (.slice ao n cap) (.slice ao2 n2 cap2) (.slice ao3 n3 cap3) S' (.slice bo m dap) (.slice bo2 m2 dap2) (.slice bo3 n3 dap3)∧Below w.heap.size w wr) (fun _ i _=>n3-(intOf i).toNat)
    case atStart=>exact⟨0,by omega,rfl,NO.nil _ _,HN2.out,HB2.out⟩
    case round =>
     obtain⟨k,hk,rfl,hO,hX,hB⟩:=hrel;clear HN2 HB2 p0 p1 p2 p3 s0 s1 s2 s3 hlt1 hlt2;have HB:Hid (Below w.heap.size w wr):=hB;have HO:Hid (NO wr (w.heap.size+2) u7 (cdL Ts Ts' k)):=hO;have HNX:Hid (NN wr w.heap.size S (.slice ao n cap) (.slice ao2 n2 cap2) (.slice ao3 n3 cap3) S' (.slice bo m dap) (.slice bo2 m2 dap2) (.slice bo3 n3 dap3)):=hX;obtain⟨⟨p0,p1,p2,p3⟩,s0,s1,s2,s3⟩:=hX;have hlt1:w.heap.size<wr.heap.size:=bLQ _ _ p0;have hlt2:w.heap.size+1<wr.heap.size:=bLQ _ _ s0;by_cases hlt:k<n3
     ·obtain⟨g,og,hao,hc,_⟩:=HA.out (by omega);obtain⟨f,of,hbo,hd,_⟩:=HA2.out (by omega);subst hao hbo;have hkA:k<Ts.length:=by rw[HN.out];exact hlt
      have hkB:k<Ts'.length:=by rw[HM.out];exact hlt
      obtain⟨a3,l3,c3,r0,hG3⟩:=(hc.later hB) k hkA;obtain⟨a4,l4,c4,r1,hG4⟩:=(hd.later hB) k hkB;rw[←getT hkA] at hG3;rw[←getT hkB] at hG4;have HG3:Hid (SR wr (.slice a3 l3 c3) (Ts.getD k [])):=hG3;have HG4:Hid (SR wr (.slice a4 l4 c4) (Ts'.getD k [])):=hG4;have HT0:Hid (twN (Ts.getD k []) (Ts'.getD k [])=0):=HTW.out k hlt hlt;have kb0:(0:Int)≤(k:Int):=by omega
      have kb1:(k:Int)<(n3:Int):=by omega
      clear hc hd hB hG3 hG4 hO
      go_wp2_with fail
      refine (diff_own a3 l3 c3 a4 l4 c4 _ _ wr HG3.out HG4.out HT0.out).mono ?_;rintro e w3 ⟨v5,rfl,hown,hb3⟩;obtain⟨D,hD⟩:∃D,D=dfL (Ts.getD k []) (Ts'.getD k []):=⟨_,rfl⟩;have HD:Hid (cdL Ts Ts' (k+1)=cdL Ts Ts' k++ofS ((k:Int)+1) D):=by
       show _=_;rw[cdL,hD]
      have hD2:NO w3 wr.heap.size v5 D:=by
       rw[hD,dfL,if_pos HT0.out];exact hown
      obtain⟨a5,n5,c5,rfl⟩:∃b1 m1 d1,v5=.slice b1 m1 d1:=by
       obtain⟨a,c,h⟩:=own_form hD2;exact⟨a,_,c,h⟩
      have HDL:Hid (D.length=n5):=hD2.gs.len;have HD24:Hid ((cdL Ts Ts' k).length+D.length≤1000):=by
       have h1:=HFW.out (k+1) (by omega);rw[HD.out,List.length_append,ofS,List.length_map] at h1;show _≤_;omega
      have hn5:n5≤1000:=by have:=HD24.out;rw[HDL.out] at this;omega
      have HNO3:Hid (NO w3 wr.heap.size (.slice a5 n5 c5) D):=hD2;have HO3:Hid (NO w3 (w.heap.size+2) u7 (cdL Ts Ts' k)):=HO.out.later hb3;have HOB:Hid (∀b,u7.ownBlock=some b→b<wr.heap.size):=fun b hb=>(HO.out.lt b hb).2
      have HB3:Hid (Below w.heap.size w w3):=HB.out.trans (hb3.mono HB.out.size);have HN3:Hid (NN w3 w.heap.size S (.slice ao n cap) (.slice ao2 n2 cap2) (.slice (some ⟨g,og,none⟩) n3 cap3) S' (.slice bo m dap) (.slice bo2 m2 dap2) (.slice (some ⟨f,of,none⟩) n3 dap3)):=HNX.out.later hb3;have HS3:Hid (w.heap.size+2≤wr.heap.size):=by show _≤_;omega
      have HLE:Hid (wr.heap.size≤w3.heap.size):=hb3.size;clear hown hb3 hD hD2 p0 p1 p2 p3 s0 s1 s2 s3 hlt1 hlt2 r0 r1 HO HNX HB HG3 HG4;have HAP:Hid ((Value.slice a5 n5 c5).ownBlock=none∨(Value.slice a5 n5 c5).ownBlock≠u7.ownBlock):=by
       rcases h5:(Value.slice a5 n5 c5).ownBlock with _ | b5
       ·exact .inl rfl
       refine .inr fun e=>?_
       have h1:=(HNO3.out.lt b5 h5).1;have h2:=HOB.out b5 e.symm;omega
      obtain⟨i0,hi,hz0,hz1,hz2⟩:=info_parts op_info;have HI1:Hid (Tryz.prog.info? 90=some i0):=hi;have HI2:Hid (i0.zero=some (.agg #[.int i64 0,.bool false,.int i64 0,.int i64 0,.int i64 0,.int i64 0,.int i64 0,.int i64 0])):=hz0;have HI3:Hid (i0.size=8):=hz1;have HI4:Hid (i0.bytes=64):=hz2;have kw:IntKind.i64.wrap ((k:Int)+1)=(k:Int)+1:=by rw[IntKind.wrap_i64];omega
      have kw2:wrap64 ((k:Int)+1)=(k:Int)+1:=by unfold wrap64;omega
      obtain⟨_,_,_,e,h51,h52,h53,h5a⟩:=HNO3.out.gs.form;cases e;clear hi hz0 hz1 hz2 h51 h52 h53 h5a HOB
      generalize hZ:wr.heap.size=Z at HNO3 HS3 HLE
      clear hZ;go_wp2
      go_loopw [7,47] (fun u j W=>∃q:Nat,q≤n5∧j=.int i64 q∧NO W (w.heap.size+2) u (cdL Ts Ts' k++ofS ((k:Int)+1) (D.take q))∧NN W w.heap.size S (.slice ao n cap) (.slice ao2 n2 cap2) (.slice (some ⟨g,og,none⟩) n3 cap3) S' (.slice bo m dap) (.slice bo2 m2 dap2) (.slice (some ⟨f,of,none⟩) n3 dap3)∧NO W Z (.slice a5 n5 c5) D∧((Value.slice a5 n5 c5).ownBlock=none∨(Value.slice a5 n5 c5).ownBlock≠u.ownBlock)∧Below w.heap.size w W) (fun _ j _=>n5-(intOf j).toNat)
      case atStart=>exact⟨0,by omega,rfl,by simpa[ofS] using HO3.out,HN3.out,HNO3.out,HAP.out,HB3.out⟩
      case round =>
       obtain⟨q,hq,rfl,hO,hX,hNO,hap,hB⟩:=hrel;clear HO3 HN3 HNO3 HAP HB3;have HB:Hid (Below w.heap.size w wr):=hB;have HO:Hid (NO wr (w.heap.size+2) u7 (cdL Ts Ts' k++ofS ((k:Int)+1) (D.take q))):=hO;have HNX:Hid (NN wr w.heap.size S (.slice ao n cap) (.slice ao2 n2 cap2) (.slice (some ⟨g,og,none⟩) n3 cap3) S' (.slice bo m dap) (.slice bo2 m2 dap2) (.slice (some ⟨f,of,none⟩) n3 dap3)):=hX;have HNO:Hid (NO wr Z (.slice a5 n5 c5) D):=hNO;have HAP:Hid ((Value.slice a5 n5 c5).ownBlock=none∨(Value.slice a5 n5 c5).ownBlock≠u7.ownBlock):=hap;have HLW:Hid (w.heap.size+2≤wr.heap.size):=by
        have:=bLQ _ _ hX.2.1;show _≤_;simp at this;omega
       clear hO hX hap;by_cases hlq:q<n5
       ·obtain⟨_,_,_,e,_,_,_,ha⟩:=hNO.gs.form;cases e;obtain⟨g5,o5,rfl,hGA,_⟩:=ha (by omega);obtain⟨y0,ya,p,m',b,o',s',v,hql,hDq,r0,r1,r2,r3,r4,r5,r6,r7⟩:=op_at hGA HDL.out hlq;have qb0:(0:Int)≤(q:Int):=by omega
        have qb1:(q:Int)<(n5:Int):=by omega
        have HNX2:Hid (cdL Ts Ts' k++ofS ((k:Int)+1) (D.take (q+1))=(cdL Ts Ts' k++ofS ((k:Int)+1) (D.take q))++[⟨(k:Int)+1,ya,⟨p,m',b,o',s',v⟩⟩]):=by
         show _=_;rw[of_next hql,hDq]
        have HL1:Hid ((cdL Ts Ts' k++ofS ((k:Int)+1) (D.take q)).length≤1000):=by
         have:=HD24.out;show _≤_;rw[List.length_append,ofS,List.length_map,List.length_take];omega
        have HLV1:Hid ((cdL Ts Ts' k++ofS ((k:Int)+1) (D.take q)).length+1≤maxLen):=by
         have:=HL1.out;show _≤_;unfold maxLen;omega
        have HLV2:Hid (((cdL Ts Ts' k++ofS ((k:Int)+1) (D.take q)).length+1)*64≤140737488355328):=by
         have:=HL1.out;show _≤_;omega
        have hBB:Below wr.heap.size wr ((wr.alloc (.cells #[.int i64 ((k:Int)+1),.bool ya,.int i64 p,.int i64 m',.int i64 b,.int i64 o',.int i64 s',.int i64 v] 90)).alloc (.cells #[.int i64 ((k:Int)+1),.bool ya,.int i64 p,.int i64 m',.int i64 b,.int i64 o',.int i64 s',.int i64 v] 90)):=((bRQ _ _).alloc (nLQ _) _).alloc (by simp) _;have HBB:Hid (Below wr.heap.size wr ((wr.alloc (.cells #[.int i64 ((k:Int)+1),.bool ya,.int i64 p,.int i64 m',.int i64 b,.int i64 o',.int i64 s',.int i64 v] 90)).alloc (.cells #[.int i64 ((k:Int)+1),.bool ya,.int i64 p,.int i64 m',.int i64 b,.int i64 o',.int i64 s',.int i64 v] 90))):=hBB;have HVA:Hid (VAt ((wr.alloc (.cells #[.int i64 ((k:Int)+1),.bool ya,.int i64 p,.int i64 m',.int i64 b,.int i64 o',.int i64 s',.int i64 v] 90)).alloc (.cells #[.int i64 ((k:Int)+1),.bool ya,.int i64 p,.int i64 m',.int i64 b,.int i64 o',.int i64 s',.int i64 v] 90)) (wr.heap.size+1) 0 (opE.c ⟨(k:Int)+1,ya,⟨p,m',b,o',s',v⟩⟩)):=by
         have h:=op_new (wr.alloc (.cells #[.int i64 ((k:Int)+1),.bool ya,.int i64 p,.int i64 m',.int i64 b,.int i64 o',.int i64 s',.int i64 v] 90)) ((k:Int)+1) ya p m' b o' s' v 90;rw[World.size_alloc] at h;exact h
        clear hNO ha hGA hDq hBB hB
        go_wp2_with (at_builtin;refine wpList_append_blk (E:=opE) _ rfl _ _ 39 90 rfl underlying39 i0 _ 64 HI1.out HI2.out HI3.out HI4.out op_zero (w.heap.size+2) u7 rfl (cdL Ts Ts' k++ofS ((k:Int)+1) (D.take q)) (HO.out.later HBB.out) (wr.heap.size+1) 0 1 rfl ⟨(k:Int)+1,ya,⟨p,m',b,o',s',v⟩⟩ HVA.out HLV1.out HLV2.out (Nat.le_trans HLW.out HBB.out.size) ?_)
        intro v' w4 hown hgrow hblk;have hNB:=HNO.out.later HBB.out;have HO4:Hid (NO w4 (w.heap.size+2) v' (cdL Ts Ts' k++ofS ((k:Int)+1) (D.take (q+1)))):=by
         show NO _ _ _ _;rw[HNX2.out];refine NO.ofn hown (by simp) ?_;simp only[List.length_append,List.length_cons,List.length_nil];omega
        have HN4:Hid (NO w4 Z (.slice (some ⟨g5,o5,none⟩) n5 c5) D):=hNB.kept hgrow HAP.out;have HB4:Hid (Below w.heap.size w w4):=by
         have h1:=HB.out.trans (HBB.out.mono HB.out.size);exact h1.grown hgrow h1.size (fun b hb=>by have:=(HO.out.lt b hb).1;omega)
        have HX4:Hid (NN w4 w.heap.size S (.slice ao n cap) (.slice ao2 n2 cap2) (.slice (some ⟨g,og,none⟩) n3 cap3) S' (.slice bo m dap) (.slice bo2 m2 dap2) (.slice (some ⟨f,of,none⟩) n3 dap3)):=(HNX.out.later HBB.out).grown hgrow (fun b hb=>(HO.out.lt b hb).1);have HAP4:Hid ((Value.slice (some ⟨g5,o5,none⟩) n5 c5).ownBlock=none∨(Value.slice (some ⟨g5,o5,none⟩) n5 c5).ownBlock≠v'.ownBlock):=by
         rcases hblk with h | h
         ·rw[h];exact HAP.out
         refine .inr fun e=>?_
         rw[h] at e;have h2:=(hNB.lt _ e).2;simp at h2
        clear hown hgrow hblk hNB r0 r1 r2 r3 r4 r5 r6 r7 HVA HBB;go_wp2;go_roundw
        case rel=>exact⟨q+1,by omega,by go_num,HO4.out,HX4.out,HN4.out,HAP4.out,HB4.out⟩
        case measure=>simp[intOf];omega
       obtain rfl:q=n5:=by omega
       have HO4:Hid (NO wr (w.heap.size+2) u7 (cdL Ts Ts' (k+1))):=by
        have h:=HO.out;rw[←HDL.out,List.take_length,←HD.out] at h;exact h
       clear hNO hB;go_wp2;go_roundw
       case rel=>exact⟨k+1,by omega,by go_num,HO4.out,HNX.out,HB.out⟩
       case measure=>simp[intOf];omega
     obtain rfl:k=n3:=by omega
     clear hB hO;go_wp2;refine bodyPost_ret (v:=.tuple #[u7,.nilIface]) (by simp[results,results56,go_sem]) rfl ?_;rw[HX0.out,HR0.out];exact⟨_,rfl,HO.out.mono (by omega),HB.out⟩
 have HNZ:Hid (C≠0):=h0;have HXC:Hid (X=C):=by
  show _=_;rw[HX.out,if_neg h0]
 have HR3:Hid (R=[]):=by
  show _=_;rw[HR.out,HXC.out,if_neg h0]
 rw[no_ne h0];clear h0;go_wp2;refine bodyPost_ret (v:=.tuple #[.slice none 0 0,.iface 68 (.int i64 C)]) (by simp[results,results56,go_sem]) rfl ?_;rw[HXC.out,HR3.out,no_ne HNZ.out];exact⟨_,rfl,NO.nil _ _,HB1.out⟩
theorem lnk_grow_nil (n:Nat)(w:World)(hn:n≤1000):
 Calls prog 141 #[.slice none 0 0,.int i64 n] w fun e w'=>∃v,e=.returned v∧w'.ownsRow w.heap.size 124 4 v 0 []∧Below w.heap.size w w':=by
 have h1:¬((n:Int)<0):=by omega
 by_cases h0:n=0
 ·subst h0;go_enter func141,ntmps141;go_wp2;go_ret;exact⟨_,rfl,World.ownsRow_nil _ _ _ _,bRQ _ _⟩
 obtain⟨i0,hi,hz0,hz1,hz2⟩:=info_parts lnk_info;have h3:wrap64 ((n:Int)-0)=(n:Int):=by unfold wrap64;omega
 have h4:(n:Int) > 0:=by omega
 have hrz:∀ty,(Builtin.append_ #[22,3] ty #[.slice none 0 0,.int i64 n]).run prog w =
  .ok (.slice (some ⟨w.heap.size,0,none⟩) n (grownCap w n 0 124)) (w.drew.alloc (.cells (Builtin.zeroCells (Value.agg #[.int i64 0,.int i64 0,.int i64 0,.int i64 0]).cells n++Builtin.zeroCells (Value.agg #[.int i64 0,.int i64 0,.int i64 0,.int i64 0]).cells (grownCap w n 0 124-n)) 124)):=fun ty =>
  Lib.run_append_nil_zeros w 22 3 ty 124 i0 _ .i64 .i64 underlying22 underlying3 hi hz0 n (by omega) (by rw[hz1];decide) (by omega) (by rw[hz2];omega)
 have hGn:n≤grownCap w n 0 124:=grownCap_ge w _ _ _;have hGm:grownCap w n 0 124≤maxLen:=grownCap_le_maxLen w n 0 124 (by unfold maxLen;omega)
 generalize grownCap w n 0 124=G at *
 have HM:Hid (G≤maxLen):=hGm;have hG63:G≤9223372036854775807:=by unfold maxLen at hGm;omega
 have HO:Hid ((w.drew.alloc (.cells (Builtin.zeroCells (Value.agg #[.int i64 0,.int i64 0,.int i64 0,.int i64 0]).cells n++Builtin.zeroCells (Value.agg #[.int i64 0,.int i64 0,.int i64 0,.int i64 0]).cells (G-n)) 124)).ownsRow w.heap.size 124 4 (.slice (some ⟨w.heap.size,0,none⟩) 0 G) 0 []):=
  World.ownsRow_made w.drew _ G (nLQ _) HM.out (by
   simp only[Array.size_append,size_zeroCells,lnk_zero,←Nat.add_mul]
   congr 1
   omega)
 clear hGm;go_enter func141,ntmps141
 go_wp2_with (at_builtin;refine Lib.wpList_append_run _ rfl _ _ _ _ rfl _ _ rfl rfl _ _ (hrz _) ?_)
 all_goals (go_ret;exact⟨_,rfl,HO.out,((bRQ _ _).drew).alloc (nLQ _) _⟩)
def lnkPt (w:World)(g o:Nat)(Ls:List (LkQ)):Prop:=∀i (h:i<Ls.length),∃ao n cap,w.cell? ⟨g,o+i,none⟩=some (.slice ao n cap)∧GS lnkE w (.slice ao n cap) Ls[i]
theorem lnkPt.later {w w':World}{g o:Nat}{Ls:List (LkQ)}(h:lnkPt w g o Ls)(hb:Below w.heap.size w w'):lnkPt w' g o Ls:=fun i hi=>by
 obtain⟨ao,n,cap,h1,h2⟩:=h i hi;exact⟨ao,n,cap,cell_later hb h1,h2.later hb⟩
theorem lnk_flat_next {Ls:List (LkQ)}{k:Nat}(hk:k<Ls.length):(Ls.take (k+1)).flatten=(Ls.take k).flatten++Ls[k]:=by
 rw[List.take_succ_eq_append_getElem hk];simp only[List.flatten_append,List.flatten_cons,List.flatten_nil,List.append_nil]
theorem lnk_flat_le {Ls:List (LkQ)}(k:Nat):(Ls.take k).flatten.length≤Ls.flatten.length:=by
 have:Ls.flatten=(Ls.take k).flatten++(Ls.drop k).flatten:=by rw[←List.flatten_append,List.take_append_drop]
 rw[this,List.length_append];omega
theorem lnk_append (w:World){ops:Array Oper}{rest:List Oper}{o:Oper}{a:Act}{Q:Exit→Act→World→Prop}(hgd:o.guard=none)(s x:Operand)(t:TypeId)
 (ho:o.op=.call { callee:=.builtin .append,args:=#[s,x],argTypes:=#[t,t] }) (ht:Tryz.prog.underlying t=some (.slice 124)) (base:Nat)
 (v:Value) (hs:a.eval s=v) (L:LkQ) (hown:w.ownsRow base 124 4 v L.length (cellsG lnkE L)) (u:Value) (hx:a.eval x=u) (M:LkQ) (hM:GS lnkE w u M)
 (h100:L.length+M.length≤1000000) (hbase:base≤w.heap.size)
 (h:∀v' w',w'.ownsRow base 124 4 v' (L++M).length (cellsG lnkE (L++M))→w.grownBy w' v.ownBlock→wpList prog ops Q rest (a.put o.dst v') w'):wpList prog ops Q (o :: rest) a w:=by
 obtain⟨i0,hi,hz0,hz1,hz2⟩:=info_parts lnk_info;exact wpList_append_GS (E:=lnkE) w hgd s x t 124 ho ht i0 _ 32 hi hz0 hz1 hz2 lnk_zero base v hs L hown u hx M hM (by unfold maxLen;omega) (by omega) hbase h
theorem lnk_concat (g o m cap:Nat)(Ls:List (LkQ))(w:World)(hm:Ls.length=m)(hm2:m≤1000)(hc:lnkPt w g o Ls)(hs:Ls.flatten.length≤1000):
 Calls prog 103 #[.slice (some ⟨g,o,none⟩) m cap] w fun e w'=>∃v,e=.returned v∧w'.ownsRow w.heap.size 124 4 v Ls.flatten.length (cellsG lnkE Ls.flatten)∧Below w.heap.size w w':=by
 have HM:Hid (Ls.length=m):=hm;have HC:Hid (lnkPt w g o Ls):=hc;have HS:Hid (Ls.flatten.length≤1000):=hs;obtain⟨N,hN⟩:∃N,N=Ls.flatten.length:=⟨_,rfl⟩;have HN:Hid (N=Ls.flatten.length):=hN;have hN2:N≤1000:=by omega
 clear hm hc hs hN;go_enter func103,ntmps103
 go_upto_block 0 with fail
 go_cut [3] from 3 (fun z w'=>z=.int i64 (N:Int)∧w'=w)
 case first =>
  go_wp2
  go_loopw [3,11] (fun z i wr=>∃k:Nat,k≤m∧i=.int i64 k∧z=.int i64 ((Ls.take k).flatten.length:Int)∧wr=w) (fun _ i _=>m-(intOf i).toNat)
  case atStart=>exact⟨0,by omega,rfl,rfl,rfl⟩
  case round =>
   obtain⟨k,hk,rfl,rfl,rfl⟩:=hrel;by_cases hlt:k<m
   ·have hkl:k<Ls.length:=by rw[HM.out];exact hlt
    obtain⟨ao,n,cap2,q0,hsr⟩:=HC.out k hkl;have HT:Hid ((Ls.take (k+1)).flatten.length=(Ls.take k).flatten.length+n):=by
     show _=_;rw[lnk_flat_next hkl,List.length_append,hsr.len]
    have hb1:(Ls.take k).flatten.length+n≤1000:=by
     have h1:=lnk_flat_le (Ls:=Ls) (k+1);have h2:=HS.out;have h3:=HT.out;omega
    generalize (Ls.take k).flatten.length=z at *
    clear hsr;go_wp2;go_roundw
    case rel=>exact⟨k+1,by omega,by go_num,by rw[HT.out];go_num,by simp⟩
    case measure=>simp[intOf];omega
   obtain rfl:k=m:=by omega
   go_wp2_with fail
   go_meet
   case rel=>exact⟨by rw[←HM.out,List.take_length,HN.out],rfl⟩
 case rest =>
  obtain⟨rfl,rfl⟩:=hcut
  go_wp2_with fail
  refine (lnk_grow_nil N _ hN2).mono ?_;rintro e w1 ⟨v,rfl,hown,hB⟩;have HO:Hid (w1.ownsRow wc.heap.size 124 4 v 0 []):=hown;have HB:Hid (Below wc.heap.size wc w1):=hB;clear hown hB;go_wp2
  go_loopw [6,27] (fun u i wr=>∃k:Nat,k≤m∧i=.int i64 k∧wr.ownsRow wc.heap.size 124 4 u (Ls.take k).flatten.length (cellsG lnkE (Ls.take k).flatten)∧Below wc.heap.size wc wr) (fun _ i _=>m-(intOf i).toNat)
  case atStart=>exact⟨0,by omega,rfl,HO.out,HB.out⟩
  case round =>
   obtain⟨k,hk,rfl,hown,hB⟩:=hrel;have HOW:Hid (wr.ownsRow wc.heap.size 124 4 u6 (Ls.take k).flatten.length (cellsG lnkE (Ls.take k).flatten)):=hown;have HBW:Hid (Below wc.heap.size wc wr):=hB;clear hown;by_cases hlt:k<m
   ·have hkl:k<Ls.length:=by rw[HM.out];exact hlt
    obtain⟨ao,n,cap2,q0,hsr⟩:=(HC.out.later hB) k hkl;have HSR:Hid (GS lnkE wr (.slice ao n cap2) Ls[k]):=hsr;have HL1:Hid ((Ls.take k).flatten.length+Ls[k].length≤1000000):=by
     have h1:=lnk_flat_le (Ls:=Ls) (k+1);rw[lnk_flat_next hkl,List.length_append] at h1;have h2:=HS.out;show _≤_;omega
    clear hsr hB
    go_wp2_with (at_builtin;refine lnk_append _ rfl _ _ 22 rfl underlying22 wc.heap.size _ rfl _ HOW.out _ rfl _ HSR.out HL1.out HBW.out.size ?_)
    intro v' w3 hown3 hgrow;have HO5:Hid (w3.ownsRow wc.heap.size 124 4 v' (Ls.take (k+1)).flatten.length (cellsG lnkE (Ls.take (k+1)).flatten)):=by
     show w3.ownsRow _ _ _ _ _ _;rw[lnk_flat_next hkl,show ((Ls.take k).flatten++Ls[k]).length=(List.take k (List.map List.length Ls)).sum+Ls[k].length by simp];exact hown3
    have HB5:Hid (Below wc.heap.size wc w3):=HBW.out.grown hgrow HBW.out.size (fun g hg=>(HOW.out.lt g hg).1);clear hown3 hgrow q0;go_wp2;go_roundw
    case rel=>exact⟨k+1,by omega,by go_num,HO5.out,HB5.out⟩
    case measure=>simp[intOf];omega
   obtain rfl:k=m:=by omega
   go_wp2;go_ret;refine⟨_,rfl,?_,HBW.out⟩;have:=HOW.out;rw[←HM.out,List.take_length] at this;exact this
theorem below_grown {B:Nat}{w W:World}{row:Option Nat}(h:w.grownBy W row)(hB:B≤w.heap.size)(hr:∀k,row=some k→B≤k):Below B w W:=
 ⟨h.os,h.tape,h.output,h.size,fun k hk=>h.block k (by omega) (fun e=>by have:=hr k e.symm;omega)⟩
theorem step_append_blk {P:Program}{α:Type}{E:Enc α}(w:World){ops:Array Oper}{o:Oper}{a:Act}{K:Act→World→Prop}{Q:Exit→Act→World→Prop}{X:Prop}(hgd:o.guard=none)(s x:Operand)(t e:TypeId)
 (ho:o.op=.call { callee:=.builtin .append,args:=#[s,x],argTypes:=#[t,t] }) (ht:P.underlying t=some (.slice e)) (i:TypeInfo) (z:Value) (bytes:Nat) (hi:P.info? e=some i) (hz:i.zero=some z)
 (hsize:i.size=E.n) (hby:i.bytes=bytes) (hzs:z.cells.size=E.n) (base:Nat)
 (v:Value) (hs:a.eval s=v) (L:List α) (hown:w.ownsRow base e E.n v L.length (cellsG E L)) (g q c:Nat) (hx:a.eval x=.slice (some ⟨g,q,none⟩) 1 c) (y:α) (hM:VAt w g q (E.c y))
 (h63:L.length+1≤maxLen) (hbytes:(L.length+1)*bytes≤140737488355328) (hbase:base≤w.heap.size)
 (h:∀v' w',w'.ownsRow base e E.n v' (L++[y]).length (cellsG E (L++[y]))→w.grownBy w' v.ownBlock→v'.ownBlock=v.ownBlock∨v'.ownBlock=some w.heap.size→K (a.put o.dst v') w'):
 if Region.wanted o (yielded ops a.tmps)=true then Oper.wp P o a w K Q else X:=by
 have hw:Region.wanted o (yielded ops a.tmps)=true:=by simp[Region.wanted,hgd]
 rw[if_pos hw];have hG:GAt E w g q [y]:=by
  intro k hk;obtain rfl:k=0:=by simp at hk;omega
  simpa using hM
 have hc:=hG.cells;rw[cellsG_one] at hc;have hl:(E.c y).length=1*E.n:=by rw[E.len];omega
 obtain⟨v',w',hr,h2,h3,_⟩:=run_append_own (P:=P) w base t o.type e i z E.n bytes ht hi hz hsize hby hzs E.pos v _ _ hown ⟨g,q,none⟩ 1 c (E.c y) hl hc (E.one y) h63 hbytes hbase;have hb:=run_append_blk (P:=P) t o.type e i z ht hi hz v _ _ (by rw[hsize];exact hown) ⟨g,q,none⟩ c (E.c y) (by rw[hsize];exact hl) hc (E.one y) h63 (by rw[hby];exact hbytes) hr;unfold Oper.wp execOp;simp only[ho,resolve,invoke,builtin,Sem.run_bind,Sem.run_pure,Result.andThen_ok,List.map_toArray,List.map_cons,List.map_nil,hs,hx,hr];exact h v' w' (by rw[List.length_append,cellsG_app,cellsG_one];exact h2) h3 hb
section
variable {e1 e2:TypeId}{w W1 W1' W2 W2' Wf:World}{B:Nat}{v u v' u':Value}{vs us:List SlT}{Cs Ps:List (List Int)}
end
theorem infoByte:(Tryz.prog.info? 5).map (fun i=>(i.zero,i.size,i.bytes))=some (some (.int .u8 0),1,1):=by kernel_rfl
theorem liteClone (s:ByteArray)(w:World)(hlim:s.size≤1000000):
 Calls prog 135 #[.string s] w fun e w'=>e=.returned (.string s)∧Below w.heap.size w w':=by
 by_cases h0:s.size=0
 ·have hs:s=⟨#[]⟩:=by
   apply ByteArray.ext
   exact Array.eq_empty_of_size_eq_zero h0
  subst hs;go_enter func135,ntmps135;go_wp2;go_ret;exact⟨rfl,bRQ _ _⟩
 obtain⟨i0,hi,hz0,hz1,hz2⟩:=info_parts infoByte;have hinfo:(Tryz.prog.info? 5).map (·.size)=some 1:=by rw[hi];simp[hz1]
 have hco:Tryz.prog.cellsOf 5=1:=by simp[Program.cellsOf,hi,hz1]
 obtain⟨M,hM⟩:∃M,M=madeCells (Value.int .u8 0).cells (((s.size:Nat):Int).toNat*i0.size):=⟨_,rfl⟩;have hMs:M.size=s.size:=by rw[hM,size_madeCells,hz1];simp
 have hmk:(Instr.makeSlice 261 (.int i64 (s.size:Int)) (.int i64 (s.size:Int))).run prog w=.ok (.slice (some ⟨w.heap.size,0,none⟩) s.size s.size) (w.alloc (.cells M 5)):=by
  have h:=run_make (P:=prog) w 261 5 i0 (.int .u8 0) underlying261 hi hz0 .i64 .i64 (s.size:Int) (s.size:Int) (by omega) (by omega) (by rw[hz2];omega) (by omega);rw[←hM] at h;simpa using h
 clear hM;have hcp:=Lib.run_copy_row_string (P:=prog) (w.alloc (.cells M 5)) 261 9 3 5 w.heap.size 0 s.size s.size s M 5 underlying261 hinfo (heap_alloc_new w _) (nLQ _) (by omega);obtain⟨Y,hY⟩:∃Y,Y=(M.toList.take 0++Lib.byteCells s.data.toList++M.toList.drop (0+s.size)).toArray:=⟨_,rfl⟩;rw[←hY] at hcp;have hYl:Y.toList=Lib.byteCells s.data.toList:=by
  rw[hY,List.toList_toArray,List.take_zero,List.nil_append,List.drop_of_length_le (by rw[Array.length_toList];omega),List.append_nil]
 have hYs:Y.size=s.size:=by rw[←Array.length_toList,hYl,Lib.byteCells_length,←Lib.size_eq]
 have hgY:((w.alloc (.cells M 5)).setRow w.heap.size Y).heap[w.heap.size]?=some (.cells Y 5 (0,0)):=setRow_heap _ _ M _ 5 (0,0) (heap_alloc_new w _);have hne:s.data.toList≠[]:=fun e=>h0 (by rw[Lib.size_eq,e];rfl)
 have hUS:=Lib.run_unsafeString_row (P:=prog) ((w.alloc (.cells M 5)).setRow w.heap.size Y) 262 3 9 5 underlying262 hco w.heap.size Y.size (by unfold World.shape?;rw[hgY]) s.data.toList hne (by rw[←Lib.size_eq];omega) (by rw[←Lib.size_eq];omega)
  (fun j x hx=>Lib.cells_of_row hgY Y.size j _ (by rw[List.take_of_length_le (by rw[Array.length_toList];exact nLQ _),hYl];simp[Lib.byteCells,hx]))
 rw[←Lib.size_eq] at hUS;clear hY;go_enter func135,ntmps135;go_wp2;go_ret;have hb1:Below w.heap.size w (w.alloc (.cells M 5)):=(Below.refl _ w).alloc (nLQ _) _;have hb2:Below w.heap.size (w.alloc (.cells M 5)) ((w.alloc (.cells M 5)).setRow w.heap.size Y):=⟨rfl,rfl,rfl,by simp,fun k hk=>setRow_other _ _ _ _ (by omega)⟩;exact⟨rfl,Lib.below_freeze (hb1.trans hb2) (p:=⟨w.heap.size,0,none⟩) (nLQ _) _⟩
theorem clone_any (s:ByteArray)(w:World)(hlim:s.size≤1000000):
 Calls prog 95 #[.string s] w fun e w'=>e=.returned (.string s)∧Below w.heap.size w w':=by
 go_enter func95,ntmps95
 go_wp2_with fail
 refine (liteClone s _ hlim).mono ?_;rintro e w1 ⟨rfl,hb1⟩;go_wp2;go_ret;exact⟨rfl,hb1⟩
theorem ca_split {S:Int}{Ts:TsQ}{l:List Op8}{k:Nat}(hk:k<l.length)(h:caN S Ts (l.take k)=0):caN S Ts l=caN S (caT Ts (l.take k)) (l[k] :: l.drop (k+1)):=by
 have e:l=l.take k++(l[k] :: l.drop (k+1)):=by simp
 conv=>lhs;rw[e]
 rw[ca_app,if_pos h]
theorem cs_take {S:Int}{Ts:TsQ}{l:List Op8}{k:Nat}(hk:k<l.length)(h:caN S Ts (l.take k)=0):caN S Ts (l.take (k+1))=caN S (caT Ts (l.take k)) [l[k]]∧caT Ts (l.take (k+1))=caT (caT Ts (l.take k)) [l[k]]:=by
 rw[List.take_succ_eq_append_getElem hk,ca_app,if_pos h,cj_app];exact⟨rfl,rfl⟩
theorem do_ch2 {L:List Ru}{a:Bool}{r:Ru}(h:tbN L=0)(h2:r.n=0):doN L a r=chN L a r∧doL L a r=chL L a r:=by
 have e:doN L a r=chN L a r:=by simp[doN,h,h2]
 refine⟨e,?_⟩;by_cases h3:chN L a r=0
 ·rw[doL,e,if_pos h3]
 rw[doL,e,if_neg h3,chL_ne h3]
theorem do_ru2 {L:List Ru}{a:Bool}{r:Ru}(h:tbN L=0)(h2:r.n≠0):doN L a r=r.n:=by simp[doN,h,h2]
def nvS (X S:Int):Int:=if X=0 then S else 0
def nvL {α:Type}(X:Int)(L:List α):List α:=if X=0 then L else []
def nvV (X:Int)(v:Value):Value:=if X=0 then v else .slice none 0 0
structure AB (W:World)(B:Nat)(S:Int)(v1 v2 v3:Value):Prop where
 n:NeBox W B S v1 v2 v3
 r:NeBox W (B+1) 0 (.slice none 0 0) (.slice none 0 0) (.slice none 0 0)
 f:∀c,W.frozen? ⟨B+1,c,none⟩=false
theorem ab_new (w:World)(S:Int)(v1 v2 v3:Value)(t:TypeId):AB ((w.alloc (.cells #[.int i64 S,v1,v2,v3] t)).alloc (.cells #[.int i64 0,.slice none 0 0,.slice none 0 0,.slice none 0 0] t)) w.heap.size S v1 v2 v3:=by
 obtain⟨h1,h2⟩:=nn_new w S v1 v2 v3 0 (.slice none 0 0) (.slice none 0 0) (.slice none 0 0) t;refine⟨h1,h2,fun c=>?_⟩;have h:=heap_alloc_new (w.alloc (.cells #[.int i64 S,v1,v2,v3] t)) (Obj.cells #[.int i64 0,.slice none 0 0,.slice none 0 0,.slice none 0 0] t);rw[World.size_alloc] at h;simp only[World.frozen?,h];simp
theorem AB.lt {W:World}{B:Nat}{S:Int}{v1 v2 v3:Value}(h:AB W B S v1 v2 v3):B+1<W.heap.size:=bLQ W ⟨B+1,0,none⟩ h.r.1
theorem AB.grown {W W':World}{B:Nat}{S:Int}{v1 v2 v3:Value}{row:Option Nat}(h:AB W B S v1 v2 v3)(hg:W.grownBy W' row)(hr:∀g,row=some g→B+2≤g):AB W' B S v1 v2 v3:=
 ⟨h.n.grown hg (fun e=>by have:=hr _ e.symm;omega),h.r.grown hg (fun e=>by have:=hr _ e.symm;omega),fun c=>(World.frozen?_of_block (hg.block (B+1) h.lt (fun e=>by have:=hr _ e.symm;omega))).trans (h.f c)⟩
theorem AB.later {W W':World}{B:Nat}{S:Int}{v1 v2 v3:Value}(h:AB W B S v1 v2 v3)(hb:Below W.heap.size W W'):AB W' B S v1 v2 v3:=h.grown (grown_below hb) (fun g hg=>by cases hg)
def put4 (W:World)(b:Nat)(x y z u:Value):World:=(((W.setCell ⟨b,0,none⟩ x).setCell ⟨b,1,none⟩ y).setCell ⟨b,2,none⟩ z).setCell ⟨b,3,none⟩ u
theorem below_pn4 {B:Nat}{a W:World}(h:Below B a W)(b:Nat)(hb:B≤b)(x y z u:Value):Below B a (put4 W b x y z u):=(((h.setCell hb _).setCell hb _).setCell hb _).setCell hb _
theorem grown_put4 (W:World)(b:Nat)(x y z u:Value):W.grownBy (put4 W b x y z u) (some b):=by
 have h1:=grown_set W b 0 x;have h2:=grown_set (W.setCell ⟨b,0,none⟩ x) b 1 y;have h3:=grown_set ((W.setCell ⟨b,0,none⟩ x).setCell ⟨b,1,none⟩ y) b 2 z;have h4:=grown_set (((W.setCell ⟨b,0,none⟩ x).setCell ⟨b,1,none⟩ y).setCell ⟨b,2,none⟩ z) b 3 u;exact⟨rfl,rfl,rfl,Nat.le_trans (Nat.le_trans (Nat.le_trans h1.size h2.size) h3.size) h4.size,fun k hk hne=>(((h4.block k (Nat.lt_of_lt_of_le hk (Nat.le_trans (Nat.le_trans h1.size h2.size) h3.size)) hne).trans (h3.block k (Nat.lt_of_lt_of_le hk (Nat.le_trans h1.size h2.size)) hne)).trans (h2.block k (Nat.lt_of_lt_of_le hk h1.size) hne)).trans (h1.block k hk hne)⟩
theorem TR.mono {e:TypeId}{w:World}{A B B':Nat}{v:Value}{vs:List SlT}{Ts:TsQ}(h:TR e w A B v vs Ts)(hB:B'≤B):TR e w A B' v vs Ts:=
 ⟨own_mono h.ov hB,h.lv,h.rv,fun i x h1 b h2 h3=>h.rz i x h1 b h2 (by omega)⟩
structure WB (W:World)(g:Nat)(S:Int)(v1 v2 v3:Value):Prop where
 c:NeBox W g S v1 v2 v3
 f:∀c,W.frozen? ⟨g,c,none⟩=false
section
variable {W W':World}{g:Nat}{S:Int}{v1 v2 v3:Value}
theorem WB.lt (h:WB W g S v1 v2 v3):g<W.heap.size:=bLQ W ⟨g,0,none⟩ h.c.1
theorem WB.grown {row:Option Nat}(h:WB W g S v1 v2 v3)(hg:W.grownBy W' row)(hne:some g≠row):WB W' g S v1 v2 v3:=
 ⟨h.c.grown hg hne,fun c=>(World.frozen?_of_block (hg.block g h.lt hne)).trans (h.f c)⟩
theorem WB.later (h:WB W g S v1 v2 v3)(hb:Below W.heap.size W W'):WB W' g S v1 v2 v3:=h.grown (grown_below hb) (by simp)
theorem wb_new (w:World)(S:Int)(v1 v2 v3:Value)(t:TypeId):WB (w.alloc (.cells #[.int i64 S,v1,v2,v3] t)) w.heap.size S v1 v2 v3:=by
 refine⟨nebox_new w S v1 v2 v3 t,fun c=>?_⟩;have h:=heap_alloc_new w (Obj.cells #[.int i64 S,v1,v2,v3] t);simp only[World.frozen?,h];simp
theorem WB.set1 (h:WB W g S v1 v2 v3)(x:Value):WB (W.setCell ⟨g,1,none⟩ x) g S x v2 v3:=
 ⟨⟨(World.cell?_setCell_other _ _ _ _ (by simp)).trans h.c.1,World.cell?_setCell_same _ _ _ h.c.2.1,(World.cell?_setCell_other _ _ _ _ (by simp)).trans h.c.2.2.1,(World.cell?_setCell_other _ _ _ _ (by simp)).trans h.c.2.2.2⟩,fun c=>by rw[World.frozen?_setCell];exact h.f c⟩
theorem WB.set2 (h:WB W g S v1 v2 v3)(x:Value):WB (W.setCell ⟨g,2,none⟩ x) g S v1 x v3:=
 ⟨⟨(World.cell?_setCell_other _ _ _ _ (by simp)).trans h.c.1,(World.cell?_setCell_other _ _ _ _ (by simp)).trans h.c.2.1,World.cell?_setCell_same _ _ _ h.c.2.2.1,(World.cell?_setCell_other _ _ _ _ (by simp)).trans h.c.2.2.2⟩,fun c=>by rw[World.frozen?_setCell];exact h.f c⟩
theorem WB.set3 (h:WB W g S v1 v2 v3)(x:Value):WB (W.setCell ⟨g,3,none⟩ x) g S v1 v2 x:=
 ⟨⟨(World.cell?_setCell_other _ _ _ _ (by simp)).trans h.c.1,(World.cell?_setCell_other _ _ _ _ (by simp)).trans h.c.2.1,(World.cell?_setCell_other _ _ _ _ (by simp)).trans h.c.2.2.1,World.cell?_setCell_same _ _ _ h.c.2.2.2⟩,fun c=>by rw[World.frozen?_setCell];exact h.f c⟩
theorem NeBox.off {b i:Nat}{x:Value}(h:NeBox W g S v1 v2 v3)(hne:b≠g):NeBox (W.setCell ⟨b,i,none⟩ x) g S v1 v2 v3:=h.grown (grown_set W b i x) (by simp;omega)
theorem WB.off {b i:Nat}{x:Value}(h:WB W g S v1 v2 v3)(hne:b≠g):WB (W.setCell ⟨b,i,none⟩ x) g S v1 v2 v3:=h.grown (grown_set W b i x) (by simp;omega)
end
structure FB (W:World)(B:Nat)(S:Int)(v1 v2 v3:Value)(s:Int)(u1 u2 u3:Value):Prop where
 n:NeBox W B S v1 v2 v3
 r:WB W (B+1) 0 (.slice none 0 0) (.slice none 0 0) (.slice none 0 0)
 o:WB W (B+1+1) s u1 u2 u3
section
variable {W W':World}{B:Nat}{S:Int}{v1 v2 v3:Value}{s:Int}{u1 u2 u3:Value}
theorem FB.lt (h:FB W B S v1 v2 v3 s u1 u2 u3):B+1+1<W.heap.size:=h.o.lt
theorem FB.grown {row:Option Nat}(h:FB W B S v1 v2 v3 s u1 u2 u3)(hg:W.grownBy W' row)(hr:∀g,row=some g→B+1+1+1≤g):FB W' B S v1 v2 v3 s u1 u2 u3:=
 ⟨h.n.grown hg (fun e=>by have:=hr _ e.symm;omega),h.r.grown hg (fun e=>by have:=hr _ e.symm;omega),h.o.grown hg (fun e=>by have:=hr _ e.symm;omega)⟩
theorem FB.later (h:FB W B S v1 v2 v3 s u1 u2 u3)(hb:Below W.heap.size W W'):FB W' B S v1 v2 v3 s u1 u2 u3:=h.grown (grown_below hb) (fun g hg=>by cases hg)
theorem FB.set1 (h:FB W B S v1 v2 v3 s u1 u2 u3)(x:Value):FB (W.setCell ⟨B+1+1,1,none⟩ x) B S v1 v2 v3 s x u2 u3:=⟨h.n.off (by omega),h.r.off (by omega),h.o.set1 x⟩
theorem FB.set2 (h:FB W B S v1 v2 v3 s u1 u2 u3)(x:Value):FB (W.setCell ⟨B+1+1,2,none⟩ x) B S v1 v2 v3 s u1 x u3:=⟨h.n.off (by omega),h.r.off (by omega),h.o.set2 x⟩
theorem FB.set3 (h:FB W B S v1 v2 v3 s u1 u2 u3)(x:Value):FB (W.setCell ⟨B+1+1,3,none⟩ x) B S v1 v2 v3 s u1 u2 x:=⟨h.n.off (by omega),h.r.off (by omega),h.o.set3 x⟩
theorem fb_new (w:World)(S:Int)(v1 v2 v3:Value)(t:TypeId):FB (((w.alloc (.cells #[.int i64 S,v1,v2,v3] t)).alloc (.cells #[.int i64 0,.slice none 0 0,.slice none 0 0,.slice none 0 0] t)).alloc (.cells #[.int i64 S,.slice none 0 0,.slice none 0 0,.slice none 0 0] t)) w.heap.size S v1 v2 v3 S (.slice none 0 0) (.slice none 0 0) (.slice none 0 0):=by
 obtain⟨h1,h2⟩:=nn_new w S v1 v2 v3 0 (.slice none 0 0) (.slice none 0 0) (.slice none 0 0) t;have r0:=wb_new (w.alloc (.cells #[.int i64 S,v1,v2,v3] t)) 0 (.slice none 0 0) (.slice none 0 0) (.slice none 0 0) t;rw[World.size_alloc] at r0;have o0:=wb_new ((w.alloc (.cells #[.int i64 S,v1,v2,v3] t)).alloc (.cells #[.int i64 0,.slice none 0 0,.slice none 0 0,.slice none 0 0] t)) S (.slice none 0 0) (.slice none 0 0) (.slice none 0 0) t;rw[World.size_alloc,World.size_alloc] at o0;exact⟨h1.later ((bRQ _ _).alloc (nLQ _) _),r0.later ((bRQ _ _).alloc (nLQ _) _),o0⟩
end
theorem lnkPt1 {W:World}{a1:AdQ}{n1 c1:Nat}{L1:LkQ}(t:TypeId)(h1:GS lnkE W (.slice a1 n1 c1) L1):lnkPt (W.alloc (.cells #[.slice a1 n1 c1] t)) W.heap.size 0 [L1]:=by
 have hb:Below W.heap.size W (W.alloc (.cells #[.slice a1 n1 c1] t)):=(bRQ _ _).alloc (nLQ _) _;intro i hi
 match i,hi with
 | 0,_=>exact⟨a1,n1,c1,by simp,h1.later hb⟩
theorem fdrew {w w':World}(hb:Below w.drew.heap.size w.drew w'):Below w.heap.size w w':=(Below.drew (bRQ _ _)).trans hb
theorem falloc {w w':World}{o:Obj}(hb:Below (w.drew.alloc o).heap.size (w.drew.alloc o) w'):Below w.heap.size w w':=((Below.drew (bRQ _ _)).alloc (nLQ _) o).trans (hb.mono (by simp))
theorem row_kept {w w1 w2:World}{B e s n:Nat}{v:Value}{xs:List Value}(h:w.ownsRow B e s v n xs)(hb:Below w.heap.size w w1){row:Option Nat}(hg:w1.grownBy w2 row)(hr:v.ownBlock=none∨v.ownBlock≠row){b i:Nat}{x:Value}(hB:b<B):(w2.setCell ⟨b,i,none⟩ x).ownsRow B e s v n xs:=
 ((h.kept (grown_below hb) (none_or _)).kept hg hr).kept (grown_set w2 b i x) (.inr fun e=>by have:=(h.lt b e).1;omega)
theorem vat_sl {W:World}{g q:Nat}{y:SlT}(h:W.cell? ⟨g,q,none⟩=some (slV y)):VAt W g q (slE.c y):=by
 intro j u hu;obtain rfl:j=0:=by
  have:=(List.getElem?_eq_some_iff.1 hu).1;have e:(slE.c y).length=1:=rfl;omega
 have e4:slV y=u:=Option.some.inj hu;rw[Nat.add_zero,←e4];exact h
theorem fresh_any (S:Int)(ao:AdQ)(n cap:Nat)(ao2:AdQ)(n2 cap2:Nat)(ao3:AdQ)(n3 cap3:Nat)(Ls:LkQ)(Hs:HoQ)(Ts:TsQ)(w:World)
 (hL:GS lnkE w (.slice ao n cap) Ls) (hH:GS hstE w (.slice ao2 n2 cap2) Hs) (hT:TS w (.slice ao3 n3 cap3) Ts) (hN:ntN S Ls Hs Ts=0):
 Calls prog 66 #[.agg #[.int i64 S,.slice ao n cap,.slice ao2 n2 cap2,.slice ao3 n3 cap3]] w fun e w'=>∃b1 k1 d1 b2 k2 d2 b3 k3 d3 vs,e=.returned (.agg #[.int i64 S,.slice b1 k1 d1,.slice b2 k2 d2,.slice b3 k3 d3])∧w'.ownsRow w.heap.size 124 4 (.slice b1 k1 d1) Ls.length (cellsG lnkE Ls)∧w'.ownsRow w.heap.size 77 3 (.slice b2 k2 d2) Hs.length (cellsG hstE Hs)∧TR 93 w' 0 w.heap.size (.slice b3 k3 d3) vs Ts∧Below w.heap.size w w':=by
 obtain⟨t1,t2,t3⟩:=nt_0 hN;have HTP:Hid (tpN S Ls Hs=0):=t1;obtain⟨htp1,⟨htp2,htp3⟩,_⟩:=tp_0 t1;have HLL:Hid ([Ls].flatten.length≤1000):=by
  show _≤_;simp only[List.flatten_cons,List.flatten_nil,List.append_nil];omega
 have HOK:Hid (∀k,k<Ts.length→(Ts.getD k []).length≤12):=fun k hk=>(tb_iff.1 (t3 k hk)).1
 have HFB:=fb_new w S (.slice ao n cap) (.slice ao2 n2 cap2) (.slice ao3 n3 cap3) 28;have hb3:Below w.heap.size w (((w.alloc (.cells #[.int i64 S,.slice ao n cap,.slice ao2 n2 cap2,.slice ao3 n3 cap3] 28)).alloc (.cells #[.int i64 0,.slice none 0 0,.slice none 0 0,.slice none 0 0] 28)).alloc (.cells #[.int i64 S,.slice none 0 0,.slice none 0 0,.slice none 0 0] 28)):=(((bRQ _ _).alloc (nLQ _) _).alloc (by simp) _).alloc (by simp;omega) _;obtain⟨_,_,_,e,gn,gn2,gn3,ga⟩:=hH.form;cases e;obtain⟨_,_,_,e,hn,hn2,hn3,ha⟩:=hT.form;cases e;have HN2:Hid (Hs.length=n2):=gn;have HA2:Hid (0<n2→∃g o,ao2=some ⟨g,o,none⟩∧GAt hstE w g o Hs∧cap2≤maxLen):=ga;have HN3:Hid (Ts.length=n3):=hn;have HA3:Hid (0<n3→∃g o,ao3=some ⟨g,o,none⟩∧TAt w g o Ts∧cap3≤maxLen):=ha;have h28:n2≤8:=by omega
 have h36:n3≤6:=by omega
 have HPT:Hid (lnkPt ((((w.alloc (.cells #[.int i64 S,.slice ao n cap,.slice ao2 n2 cap2,.slice ao3 n3 cap3] 28)).alloc (.cells #[.int i64 0,.slice none 0 0,.slice none 0 0,.slice none 0 0] 28)).alloc (.cells #[.int i64 S,.slice none 0 0,.slice none 0 0,.slice none 0 0] 28)).alloc (.cells #[.slice ao n cap] 22)) (w.heap.size+1+1+1) 0 [Ls]):=by
  have h:=lnkPt1 22 (hL.later hb3);simp only[World.size_alloc] at h;exact h
 have HB3:Hid (Below w.heap.size w (((w.alloc (.cells #[.int i64 S,.slice ao n cap,.slice ao2 n2 cap2,.slice ao3 n3 cap3] 28)).alloc (.cells #[.int i64 0,.slice none 0 0,.slice none 0 0,.slice none 0 0] 28)).alloc (.cells #[.int i64 S,.slice none 0 0,.slice none 0 0,.slice none 0 0] 28))):=hb3;have HFB0:Hid (FB _ w.heap.size S (.slice ao n cap) (.slice ao2 n2 cap2) (.slice ao3 n3 cap3) S (.slice none 0 0) (.slice none 0 0) (.slice none 0 0)):=HFB;clear hL hH hT hN t1 t2 t3 htp1 htp2 htp3 HFB hb3 gn gn2 gn3 ga hn hn2 hn3 ha;go_enter func66,ntmps66
 go_wp2_with fail
 refine (lnk_concat _ 0 1 1 [Ls] _ rfl (by omega) HPT.out HLL.out).mono ?_;rintro e w5 ⟨v,rfl,hown,hb⟩;have hbB:Below (w.heap.size+1+1+1) (((w.alloc (.cells #[.int i64 S,.slice ao n cap,.slice ao2 n2 cap2,.slice ao3 n3 cap3] 28)).alloc (.cells #[.int i64 0,.slice none 0 0,.slice none 0 0,.slice none 0 0] 28)).alloc (.cells #[.int i64 S,.slice none 0 0,.slice none 0 0,.slice none 0 0] 28)) w5:=((bRQ _ _).alloc (by simp) _).trans (hb.mono (by simp));have hown2:w5.ownsRow (w.heap.size+1+1+1) 124 4 v Ls.length (cellsG lnkE Ls):=by
  have h:=own_mono hown (B':=w.heap.size+1+1+1) (by simp);simp only[List.flatten_cons,List.flatten_nil,List.append_nil] at h;exact h
 obtain⟨b1,m1,d1,rfl⟩:∃b1 m1 d1,v=.slice b1 m1 d1:=by
  obtain⟨a,c,h⟩:=own_form hown2;exact⟨a,_,c,h⟩
 have HF5:FB w5 w.heap.size S (.slice ao n cap) (.slice ao2 n2 cap2) (.slice ao3 n3 cap3) S (.slice none 0 0) (.slice none 0 0) (.slice none 0 0):=HFB0.out.later (by have h:=hbB;simpa only[World.size_alloc] using h);have HB6:Hid (Below w.heap.size w (w5.setCell ⟨w.heap.size+1+1,1,none⟩ (.slice b1 m1 d1))):=(HB3.out.trans (hbB.mono (by omega))).setCell (p:=⟨w.heap.size+1+1,1,none⟩) (show w.heap.size≤w.heap.size+1+1 by omega) _;have HF6:Hid (FB (w5.setCell ⟨w.heap.size+1+1,1,none⟩ (.slice b1 m1 d1)) w.heap.size S (.slice ao n cap) (.slice ao2 n2 cap2) (.slice ao3 n3 cap3) S (.slice b1 m1 d1) (.slice none 0 0) (.slice none 0 0)):=HF5.set1 _;have HL6:Hid ((w5.setCell ⟨w.heap.size+1+1,1,none⟩ (.slice b1 m1 d1)).ownsRow (w.heap.size+1+1+1) 124 4 (.slice b1 m1 d1) Ls.length (cellsG lnkE Ls)):=hown2.kept (grown_set w5 _ _ _) (.inr fun e=>by have:=(hown2.lt _ e).1;omega);obtain⟨p0,p1,p2,p3⟩:=HF5.n;obtain⟨q0,q1,q2,q3⟩:=HF5.o.c;have hlt5:=HF5.lt;have hlt50:w.heap.size<w5.heap.size:=by omega
 have f1:=HF5.o.f 1;clear HPT HB3 HFB0 hown hb hbB hown2 HF5;go_wp2
 go_loopw [24] (fun i wr=>∃(k:Nat) (u2:Value),k≤n2∧i=.int i64 k∧FB wr w.heap.size S (.slice ao n cap) (.slice ao2 n2 cap2) (.slice ao3 n3 cap3) S (.slice b1 m1 d1) u2 (.slice none 0 0)∧wr.ownsRow (w.heap.size+1+1+1) 77 3 u2 (Hs.take k).length (cellsG hstE (Hs.take k))∧wr.ownsRow (w.heap.size+1+1+1) 124 4 (.slice b1 m1 d1) Ls.length (cellsG lnkE Ls)∧Below w.heap.size w wr) (fun i _=>n2-(intOf i).toNat)
 case atStart=>exact⟨0,_,by omega,rfl,HF6.out,World.ownsRow_nil _ _ _ _,HL6.out,HB6.out⟩
 case round =>
  obtain⟨k,u2,hk,rfl,hF,hO,hLk,hB⟩:=hrel;clear HF6 HL6 HB6 p0 p1 p2 p3 q0 q1 q2 q3 hlt5 hlt50 f1;obtain⟨a5,m5,c5,rfl⟩:∃b1 m1 d1,u2=.slice b1 m1 d1:=by
   obtain⟨a,c,h⟩:=own_form hO;exact⟨a,_,c,h⟩
  have HB:Hid (Below w.heap.size w wr):=hB;have HF:Hid (FB wr w.heap.size S (.slice ao n cap) (.slice ao2 n2 cap2) (.slice ao3 n3 cap3) S (.slice b1 m1 d1) (.slice a5 m5 c5) (.slice none 0 0)):=hF;have HO:Hid (wr.ownsRow (w.heap.size+1+1+1) 77 3 (.slice a5 m5 c5) (Hs.take k).length (cellsG hstE (Hs.take k))):=hO;have HLK:Hid (wr.ownsRow (w.heap.size+1+1+1) 124 4 (.slice b1 m1 d1) Ls.length (cellsG lnkE Ls)):=hLk;have hltB:=hF.lt;have HLT:Hid (w.heap.size+1+1<wr.heap.size):=hltB;clear hO hLk;by_cases hlt:k<n2
  ·obtain⟨g,og,hao,hc,_⟩:=HA2.out (by omega);subst hao;obtain⟨y0,y1,y2,hkl,hHk,r0,r1,r2⟩:=hst_at (hc.later hB) HN2.out hlt;have HSZ:Hid (y0.size≤1000000):=by
    show _≤_;have h:=(tp_0 HTP.out).2.2.2.2.1 Hs[k] (List.getElem_mem hkl);rw[hHk] at h;have h2:=h.1;simp only[nmB,Bool.and_eq_true,decide_eq_true_eq] at h2;omega
   have kb0:(0:Int)≤(k:Int):=by omega
   have kb1:(k:Int)<(n2:Int):=by omega
   have HTK:Hid (Hs.take (k+1)=Hs.take k++[(y0,(y1,y2))]):=by
    show _=_;rw[List.take_succ_eq_append_getElem hkl,hHk]
   obtain⟨q0,q1,q2,q3⟩:=hF.o.c;have f2:=hF.o.f 2;obtain⟨j1,hj,hy0,hy1,hy2⟩:=info_parts hst_info;have HI1:Hid (Tryz.prog.info? 77=some j1):=hj;have HI2:Hid (j1.zero=some (.agg #[.string ByteArray.empty,.int i64 0,.int i64 0])):=hy0;have HI3:Hid (j1.size=3):=hy1;have HI4:Hid (j1.bytes=32):=hy2;obtain⟨wi,hwi⟩:∃W,W=wr.alloc (.cells #[.string y0,.int i64 y1,.int i64 y2] 77):=⟨_,rfl⟩;have hbi:Below wr.heap.size wr wi:=by rw[hwi];exact (bRQ _ _).alloc (nLQ _) _
   have HWI:Hid (wi.heap.size=wr.heap.size+1):=by
    show _=_;rw[hwi,World.size_alloc]
   have HKH:Hid (∀W,Below wi.heap.size wi W→W.cell? ⟨wr.heap.size,0,none⟩=some (.string y0)∧W.cell? ⟨wr.heap.size,1,none⟩=some (.int i64 y1)∧W.cell? ⟨wr.heap.size,2,none⟩=some (.int i64 y2)):=fun W hW=>by
    have h:=hst_new wr y0 y1 y2 77;rw[←hwi] at h;have h2:=hst_cells (h.later hW);simpa only[Nat.zero_add] using h2
   have HKF:Hid (∀W,Below wi.heap.size wi W→FB W w.heap.size S (.slice ao n cap) (.slice (some ⟨g,og,none⟩) n2 cap2) (.slice ao3 n3 cap3) S (.slice b1 m1 d1) (.slice a5 m5 c5) (.slice none 0 0)):=fun W hW=>(HF.out.later hbi).later hW
   have HKO:Hid (∀W,Below wi.heap.size wi W→W.ownsRow (w.heap.size+1+1+1) 77 3 (.slice a5 m5 c5) (Hs.take k).length (cellsG hstE (Hs.take k))):=fun W hW=>own_below (own_below HO.out hbi) hW
   have HOB:Hid (∀b,(Value.slice a5 m5 c5).ownBlock=some b→w.heap.size+1+1+1≤b∧b<wr.heap.size):=fun b hb=>HO.out.lt b hb
   have HLV1:Hid ((Hs.take k).length+1≤maxLen):=by
    show _≤_;rw[List.length_take];unfold maxLen;omega
   have HLV2:Hid (((Hs.take k).length+1)*32≤140737488355328):=by
    show _≤_;rw[List.length_take];omega
   have HFIN:Hid (∀w' w2 v5,Below wi.heap.size wi w'→w'.grownBy w2 (Value.slice a5 m5 c5).ownBlock→w2.ownsRow (w.heap.size+1+1+1) 77 3 v5 (Hs.take (k+1)).length (cellsG hstE (Hs.take (k+1))) →
    FB (w2.setCell ⟨w.heap.size+1+1,2,none⟩ v5) w.heap.size S (.slice ao n cap) (.slice (some ⟨g,og,none⟩) n2 cap2) (.slice ao3 n3 cap3) S (.slice b1 m1 d1) v5 (.slice none 0 0)∧(w2.setCell ⟨w.heap.size+1+1,2,none⟩ v5).ownsRow (w.heap.size+1+1+1) 77 3 v5 (Hs.take (k+1)).length (cellsG hstE (Hs.take (k+1)))∧(w2.setCell ⟨w.heap.size+1+1,2,none⟩ v5).ownsRow (w.heap.size+1+1+1) 124 4 (.slice b1 m1 d1) Ls.length (cellsG lnkE Ls)∧Below w.heap.size w (w2.setCell ⟨w.heap.size+1+1,2,none⟩ v5)):=by
    intro w' w2 v5 h1 h2 h3;have hb1:Below wr.heap.size wr w':=hbi.trans (h1.mono hbi.size);refine⟨((HKF.out w' h1).grown h2 (fun b hb=>(HOB.out b hb).1)).set2 v5,h3.kept (grown_set _ _ _ _) (.inr fun e=>by have:=(h3.lt _ e).1;omega),row_kept HLK.out hb1 h2 (own_apart HLK.out HO.out (by decide)) (by omega),?_⟩;have hb2:Below w.heap.size w w':=HB.out.trans (hb1.mono HB.out.size);exact (hb2.grown h2 hb2.size (fun b hb=>by have:=(HOB.out b hb).1;omega)).setCell (p:=⟨w.heap.size+1+1,2,none⟩) (show w.heap.size≤w.heap.size+1+1 by omega) _
   clear hc hB hHk hF hj hy0 hy1 hy2;go_upto_region 7 with fail;rw[←hwi];have HDR:Hid (Below wi.heap.size wi wi.drew):=Below.drew (bRQ _ _);have k2:=(HKF.out wi (bRQ _ _)).o.c.2.2.1;have kf2:=(HKF.out wi (bRQ _ _)).o.f 2;clear hwi r0 r1 r2 q0 q1 q2 q3 f2;obtain⟨i0,i1,i2⟩:=HKH.out wi (bRQ _ _)
   go_region_law (first
    | ((refine step_append_blk (E:=hstE) _ (by rfl) _ _ 23 77 (by rfl) underlying23 j1 _ 32 HI1.out HI2.out HI3.out HI4.out hst_zero (w.heap.size+1+1+1) (.slice a5 m5 c5) (by rfl) (Hs.take k) (HKO.out _ HBY.out) w'.heap.size 0 1 (by rfl) (y0,(y1,y2)) (hst_new w' y0 y1 y2 77) HLV1.out HLV2.out ?_ ?_;(focus (have:=HBY.out.size;have:=HWI.out;have:=HLT.out;omega));intro v5 w5 ho5 hg5 hb5;rw[←HTK.out] at ho5;obtain⟨a6,m6,c6,rfl⟩:∃b1 m1 d1,v5=Value.slice b1 m1 d1:=(by obtain⟨a,c,h⟩:=own_form ho5;exact⟨a,_,c,h⟩);have HG:Hid _:=HFIN.out _ _ _ HBY.out hg5 ho5;have z2:=((HKF.out _ HBY.out).grown hg5 (fun b hb=>(HOB.out b hb).1)).o.c.2.2.1;have zf2:=((HKF.out _ HBY.out).grown hg5 (fun b hb=>(HOB.out b hb).1)).o.f 2;clear ho5 hg5 hb5))
    | (go_simp;go_at_call 95;refine (clone_any y0 _ HSZ.out).mono ?_;rintro e w' ⟨rfl,hb⟩;have HBX:Hid (Below wi.heap.size wi w'):=fdrew hb;have HBY:Hid (Below wi.heap.size wi (w'.alloc (.cells #[.string y0,.int i64 y1,.int i64 y2] 77))):=HBX.out.alloc HBX.out.size _;have x2:=(HKF.out w' HBX.out).o.c.2.2.1;have xlt:=(HKF.out w' HBX.out).o.lt;obtain⟨x4,x5,x6⟩:=HKH.out w' HBX.out;clear hb;dsimp only))
   all_goals (clear k2 kf2 i0 i1 i2;go_wp2)
   all_goals go_roundw
   all_goals first
    | (simp[intOf];omega)
    | exact⟨k+1,_,by omega,by go_num,HG.out⟩
  obtain rfl:k=n2:=by omega
  have HO2:Hid (wr.ownsRow (w.heap.size+1+1+1) 77 3 (.slice a5 m5 c5) Hs.length (cellsG hstE Hs)):=by
   have h:=HO.out;rw[←HN2.out,List.take_length] at h;exact h
  obtain⟨p0,p1,p2,p3⟩:=hF.n;have hlt0:w.heap.size<wr.heap.size:=by omega
  clear hF hB HO HA2 HN2 HTP h28;go_wp2
  go_loopw [45] (fun i wr=>∃(j:Nat) (u3:Value) (vs:List SlT),j≤n3∧i=.int i64 j∧FB wr w.heap.size S (.slice ao n cap) (.slice ao2 k cap2) (.slice ao3 n3 cap3) S (.slice b1 m1 d1) (.slice a5 m5 c5) u3∧TR 93 wr 0 (w.heap.size+1+1+1) u3 vs (Ts.take j)∧wr.ownsRow (w.heap.size+1+1+1) 77 3 (.slice a5 m5 c5) Hs.length (cellsG hstE Hs)∧wr.ownsRow (w.heap.size+1+1+1) 124 4 (.slice b1 m1 d1) Ls.length (cellsG lnkE Ls)∧Below w.heap.size w wr) (fun i _=>n3-(intOf i).toNat)
  case atStart=>exact⟨0,_,[],by omega,rfl,HF.out,tr_nil _ _ _ _,HO2.out,HLK.out,HB.out⟩
  case round =>
   obtain⟨j,u3,vs,hk,rfl,hF,hTR,hO,hLk,hB⟩:=hrel;clear HF HO2 HLK HB HLT p0 p1 p2 p3 hlt0 hltB;obtain⟨a7,m7,c7,rfl⟩:∃b1 m1 d1,u3=.slice b1 m1 d1:=by
    obtain⟨a,c,h⟩:=own_form hTR.ov;exact⟨a,_,c,h⟩
   have HB:Hid (Below w.heap.size w wr):=hB;have HF:Hid (FB wr w.heap.size S (.slice ao n cap) (.slice ao2 k cap2) (.slice ao3 n3 cap3) S (.slice b1 m1 d1) (.slice a5 m5 c5) (.slice a7 m7 c7)):=hF;have HO:Hid (wr.ownsRow (w.heap.size+1+1+1) 77 3 (.slice a5 m5 c5) Hs.length (cellsG hstE Hs)):=hO;have HLK:Hid (wr.ownsRow (w.heap.size+1+1+1) 124 4 (.slice b1 m1 d1) Ls.length (cellsG lnkE Ls)):=hLk;have HTR:Hid (TR 93 wr 0 (w.heap.size+1+1+1) (.slice a7 m7 c7) vs (Ts.take j)):=hTR;have hltB:=hF.lt;have HLT:Hid (w.heap.size+1+1<wr.heap.size):=hltB;clear hO hLk;by_cases hlt:j<n3
   ·obtain⟨g,og,hao,hc,_⟩:=HA3.out (by omega);subst hao;have hjl:j<Ts.length:=by rw[HN3.out];exact hlt
    obtain⟨a4,n4,c4,r0,hs⟩:=(hc.later hB) j hjl;have HSR:Hid (SR wr (.slice a4 n4 c4) Ts[j]):=hs;have HL12:Hid ([Ts[j]].flatten.length≤1000):=by
     have h:=HOK.out j hjl;rw[getT hjl] at h;show _≤_;simp only[List.flatten_cons,List.flatten_nil,List.append_nil];omega
    have HTK:Hid (Ts.take (j+1)=Ts.take j++[Ts[j]]):=List.take_succ_eq_append_getElem hjl;have kb0:(0:Int)≤(j:Int):=by omega
    have kb1:(j:Int)<(n3:Int):=by omega
    have q3:=hF.o.c.2.2.2;have f3:=hF.o.f 3;obtain⟨j1,hj,hy0,hy1,hy2⟩:=info_parts ta_info;have HI1:Hid (Tryz.prog.info? 93=some j1):=hj;have HI2:Hid (j1.zero=some (.slice none 0 0)):=hy0;have HI3:Hid (j1.size=1):=hy1;have HI4:Hid (j1.bytes=24):=hy2;have HVL:Hid (vs.length≤6):=by
     show _≤_;rw[hTR.lv,List.length_take];omega
    have HLV1:Hid (vs.length+1≤maxLen):=by
     have:=HVL.out;show _≤_;unfold maxLen;omega
    have HLV2:Hid ((vs.length+1)*24≤140737488355328):=by
     have:=HVL.out;show _≤_;omega
    have HKF:Hid (∀W,Below wr.heap.size wr W→FB W w.heap.size S (.slice ao n cap) (.slice ao2 k cap2) (.slice (some ⟨g,og,none⟩) n3 cap3) S (.slice b1 m1 d1) (.slice a5 m5 c5) (.slice a7 m7 c7)):=fun W hW=>HF.out.later hW
    have HKO:Hid (∀W,Below wr.heap.size wr W→W.ownsRow (w.heap.size+1+1+1) 93 1 (.slice a7 m7 c7) vs.length (cellsG slE vs)):=fun W hW=>own_below HTR.out.ov hW
    have HOB:Hid (∀b,(Value.slice a7 m7 c7).ownBlock=some b→w.heap.size+1+1+1≤b∧b<wr.heap.size):=fun b hb=>HTR.out.ov.lt b hb
    have HFIN:Hid (∀w' w2 v5 x,Below wr.heap.size wr w'→SR w' (slV x) Ts[j]→(∀b,b<wr.heap.size→offB x b)→w'.grownBy w2 (Value.slice a7 m7 c7).ownBlock→w2.ownsRow (w.heap.size+1+1+1) 93 1 v5 (vs++[x]).length (cellsG slE (vs++[x]))→(v5.ownBlock=(Value.slice a7 m7 c7).ownBlock∨v5.ownBlock=some w'.heap.size) →
     ∃(u3:Value) (vs:List SlT),FB (w2.setCell ⟨w.heap.size+1+1,3,none⟩ v5) w.heap.size S (.slice ao n cap) (.slice ao2 k cap2) (.slice (some ⟨g,og,none⟩) n3 cap3) S (.slice b1 m1 d1) (.slice a5 m5 c5) u3∧TR 93 (w2.setCell ⟨w.heap.size+1+1,3,none⟩ v5) 0 (w.heap.size+1+1+1) u3 vs (Ts.take (j+1))∧(w2.setCell ⟨w.heap.size+1+1,3,none⟩ v5).ownsRow (w.heap.size+1+1+1) 77 3 (.slice a5 m5 c5) Hs.length (cellsG hstE Hs)∧(w2.setCell ⟨w.heap.size+1+1,3,none⟩ v5).ownsRow (w.heap.size+1+1+1) 124 4 (.slice b1 m1 d1) Ls.length (cellsG lnkE Ls)∧Below w.heap.size w (w2.setCell ⟨w.heap.size+1+1,3,none⟩ v5)):=by
     intro w' w2 v5 x h1 hx hox h2 h3 h4;refine⟨v5,vs++[x],((HKF.out w' h1).grown h2 (fun b hb=>(HOB.out b hb).1)).set3 v5,?_,row_kept HO.out h1 h2 (own_apart HO.out HTR.out.ov (by decide)) (by omega),row_kept HLK.out h1 h2 (own_apart HLK.out HTR.out.ov (by decide)) (by omega),?_⟩
     ·have ht:=(HTR.out.later h1).push hx (fun b hb=>hox b (HOB.out b hb).2) (fun b _ hb=>hox b (by have:=HLT.out;omega)) h2 h3 h4;rw[HTK.out];exact ht.grown (grown_set w2 _ _ _) (Nat.zero_le _) (by omega)
     have hb2:Below w.heap.size w w':=HB.out.trans (h1.mono HB.out.size);exact (hb2.grown h2 hb2.size (fun b hb=>by have:=(HOB.out b hb).1;omega)).setCell (p:=⟨w.heap.size+1+1,3,none⟩) (show w.heap.size≤w.heap.size+1+1 by omega) _
    clear hc hB hF hj hy0 hy1 hy2 hs hTR;go_upto_region 12 with fail;clear r0
    go_region_law (first
     | ((refine step_append_blk (E:=slE) _ (by rfl) _ _ 26 93 (by rfl) underlying26 j1 _ 24 HI1.out HI2.out HI3.out HI4.out (by rfl) (w.heap.size+1+1+1) (.slice a7 m7 c7) (by rfl) vs (HKO.out _ HBY.out) w'.heap.size 0 1 (by rfl) (a6,n6,c6) HVA.out HLV1.out HLV2.out ?_ ?_;(focus (have:=HBY.out.size;have:=HLT.out;omega));intro v5 w5 ho5 hg5 hb5;have HG:Hid _:=HFIN.out _ _ _ _ HBY.out HSX.out HOFF.out hg5 ho5 hb5;have z2:=((HKF.out _ HBY.out).grown hg5 (fun b hb=>(HOB.out b hb).1)).o.c.2.2.2;have zf2:=((HKF.out _ HBY.out).grown hg5 (fun b hb=>(HOB.out b hb).1)).o.f 3;obtain⟨a8,m8,c8,rfl⟩:∃b1 m1 d1,v5=Value.slice b1 m1 d1:=(by obtain⟨a,c,h⟩:=own_form ho5;exact⟨a,_,c,h⟩);clear ho5 hg5 hb5))
     | (go_simp;go_at_call 104;refine (concat_any _ 0 1 1 [Ts[j]] _ rfl (by omega) (pat1 93 (HSR.out.later (Below.drew (bRQ _ _)))) HL12.out).mono ?_;rintro e w' ⟨u,rfl,hown,hb⟩;have HBX:Hid (Below wr.heap.size wr w'):=falloc hb;have hNR:NR w' wr.heap.size u Ts[j]:=(NR.of hown (by simp)).mono (by simp);obtain⟨⟨a6,n6,c6⟩,hx,hoff⟩:=hNR.sl;replace hx:u=Value.slice a6 n6 c6:=hx;subst hx;have HOFF:Hid (∀b,b<wr.heap.size→offB (a6,n6,c6) b):=hoff;have HBY:Hid (Below wr.heap.size wr (w'.alloc (.cells #[.slice a6 n6 c6] 93))):=HBX.out.alloc HBX.out.size _;have HSX:Hid (SR (w'.alloc (.cells #[.slice a6 n6 c6] 93)) (slV (a6,n6,c6)) Ts[j]):=hNR.sr.later ((bRQ _ _).alloc (nLQ _) _);have HVA:Hid (VAt (w'.alloc (.cells #[.slice a6 n6 c6] 93)) w'.heap.size 0 (slE.c (a6,n6,c6))):=vat_sl (by simp[slV]);have x2:=(HKF.out w' HBX.out).o.c.2.2.2;have xlt:=(HKF.out w' HBX.out).o.lt;clear hb hown hoff hNR;dsimp only))
    all_goals (clear q3 f3;go_wp2)
    all_goals go_roundw
    all_goals first
     | (simp[intOf];omega)
     | (obtain⟨u3,vs2,hG⟩:=HG.out;exact⟨j+1,u3,vs2,by omega,by go_num,hG⟩)
   obtain rfl:j=n3:=by omega
   have HTE:Hid (TR 93 wr 0 (w.heap.size+1+1+1) (.slice a7 m7 c7) vs Ts):=by
    have h:=HTR.out;rw[←HN3.out,List.take_length] at h;exact h
   obtain⟨q0,q1,q2,q3⟩:=hF.o.c;obtain⟨s0,s1,s2,s3⟩:=hF.r.c;have hlt1:=hF.r.lt;have f0:=hF.r.f 0;have f1:=hF.r.f 1;have f2:=hF.r.f 2;have f3:=hF.r.f 3;clear hF hTR hB;go_wp2;refine bodyPost_ret (v:=.agg #[.int i64 S,.slice b1 m1 d1,.slice a5 m5 c5,.slice a7 m7 c7]) (by simp[results,results66,go_sem, *]) rfl ?_;have hgp:=grown_put4 wr (w.heap.size+1) (.int i64 S) (.slice b1 m1 d1) (.slice a5 m5 c5) (.slice a7 m7 c7);exact⟨_,_,_,_,_,_,_,_,_,vs,rfl,own_mono (HLK.out.kept hgp (.inr fun e=>by have:=(HLK.out.lt _ e).1;omega)) (by omega),own_mono (HO.out.kept hgp (.inr fun e=>by have:=(HO.out.lt _ e).1;omega)) (by omega),(HTE.out.grown hgp (Nat.zero_le _) (by omega)).mono (by omega),below_pn4 HB.out (w.heap.size+1) (by omega) _ _ _ _⟩
structure LB (W:World)(B:Nat)(S:Int)(v1 v2 v3:Value)(O:Nat)(u1 u2 u3:Value)(Ls:LkQ)(Hs:HoQ)(vs:List SlT)(Ts:TsQ):Prop where
 ab:AB W B S v1 v2 v3
 o:NeBox W O S u1 u2 u3
 tr:TR 93 W 0 (B+2) u3 vs Ts
 ls:W.ownsRow (B+2) 124 4 u1 Ls.length (cellsG lnkE Ls)
 hs:W.ownsRow (B+2) 77 3 u2 Hs.length (cellsG hstE Hs)
 ro:u3.ownBlock≠some O
 bo:B+2≤O
theorem LB.later {W W':World}{B:Nat}{S:Int}{v1 v2 v3:Value}{O:Nat}{u1 u2 u3:Value}{Ls:LkQ}{Hs:HoQ}{vs:List SlT}{Ts:TsQ}(h:LB W B S v1 v2 v3 O u1 u2 u3 Ls Hs vs Ts)(hb:Below W.heap.size W W'):LB W' B S v1 v2 v3 O u1 u2 u3 Ls Hs vs Ts:=
 ⟨h.ab.later hb,h.o.later hb,h.tr.later hb,own_below h.ls hb,own_below h.hs hb,h.ro,h.bo⟩
theorem LB.put {W:World}{B:Nat}{S:Int}{v1 v2 v3:Value}{O:Nat}{u1 u2:Value}{g n cap i:Nat}{Ls:LkQ}{Hs:HoQ}{vs:List SlT}{Ts:TsQ}(h:LB W B S v1 v2 v3 O u1 u2 (.slice (some ⟨g,0,none⟩) n cap) Ls Hs vs Ts){x:SlT}{L:List Ru}(hx:SR W (slV x) L)(hox:offB x g)(hoz:∀b,b<B+2→offB x b):
 LB (W.setCell ⟨g,i,none⟩ (slV x)) B S v1 v2 v3 O u1 u2 (.slice (some ⟨g,0,none⟩) n cap) Ls Hs (vs.set i x) (Ts.set i L):=by
 have hg:=(h.tr.ov.lt g rfl).1;have hgs:=grown_set W g i (slV x);refine⟨h.ab.grown hgs (fun b hb=>by cases hb;exact hg),h.o.grown hgs (fun e=>h.ro e.symm),h.tr.put hx hox (fun b _ hb=>hoz b hb),h.ls.kept hgs ?_,h.hs.kept hgs ?_,h.ro,h.bo⟩
 ·exact own_apart h.ls h.tr.ov (by decide)
 exact own_apart h.hs h.tr.ov (by decide)
structure NA (W:World)(B:Nat)(v1 v2 v3:Value)(Ls:LkQ)(Hs:HoQ)(Ts:TsQ):Prop where
 l:W.ownsRow B 124 4 v1 Ls.length (cellsG lnkE Ls)
 h:W.ownsRow B 77 3 v2 Hs.length (cellsG hstE Hs)
 t:∃vs,TR 93 W 0 B v3 vs Ts
theorem NA.nil (W:World)(B:Nat):NA W B (.slice none 0 0) (.slice none 0 0) (.slice none 0 0) [] [] []:=⟨World.ownsRow_nil _ _ _ _,World.ownsRow_nil _ _ _ _,[],tr_nil _ _ _ _⟩
theorem NA.gs {W:World}{B:Nat}{v1 v2 v3:Value}{Ls:LkQ}{Hs:HoQ}{Ts:TsQ}(h:NA W B v1 v2 v3 Ls Hs Ts):GS lnkE W v1 Ls∧GS hstE W v2 Hs∧TS W v3 Ts:=by
 obtain⟨vs,ht⟩:=h.t;exact⟨own_GS (E:=lnkE) h.l,own_GS (E:=hstE) h.h,ht.ts⟩
theorem NA.put {W W':World}{B b:Nat}{v1 v2 v3:Value}{Ls:LkQ}{Hs:HoQ}{Ts:TsQ}(h:NA W B v1 v2 v3 Ls Hs Ts)(hg:W.grownBy W' (some b))(hb:b<B):NA W' B v1 v2 v3 Ls Hs Ts:=by
 obtain⟨vs,ht⟩:=h.t;exact⟨h.l.kept hg (.inr fun e=>by have:=(h.l.lt _ e).1;omega),h.h.kept hg (.inr fun e=>by have:=(h.h.lt _ e).1;omega),vs,ht.grown hg (Nat.zero_le _) hb⟩
theorem chApply_own (S:Int)(ao:AdQ)(n cap:Nat)(ao2:AdQ)(n2 cap2:Nat)(ao3:AdQ)(n3 cap3:Nat)(a4:AdQ)(n4 c4:Nat)(Ls:LkQ)(Hs:HoQ)(Ts:TsQ)(l:List Op8)(w:World)
 (hL:GS lnkE w (.slice ao n cap) Ls) (hH:GS hstE w (.slice ao2 n2 cap2) Hs) (hT:TS w (.slice ao3 n3 cap3) Ts) (hl:GS opE w (.slice a4 n4 c4) l):
 Calls prog 37 #[.agg #[.int i64 S,.slice ao n cap,.slice ao2 n2 cap2,.slice ao3 n3 cap3],.slice a4 n4 c4] w fun e w'=>∃b1 k1 d1 b2 k2 d2 b3 k3 d3,e=.returned (.tuple #[.agg #[.int i64 (nvS (cgN S Ls Hs Ts l) S),.slice b1 k1 d1,.slice b2 k2 d2,.slice b3 k3 d3],noV (cgN S Ls Hs Ts l)])∧NA w' w.heap.size (.slice b1 k1 d1) (.slice b2 k2 d2) (.slice b3 k3 d3) (nvL (cgN S Ls Hs Ts l) Ls) (nvL (cgN S Ls Hs Ts l) Hs) (nvL (cgN S Ls Hs Ts l) (caT Ts l))∧Below w.heap.size w w':=by
 have hb0:Below w.heap.size w ((w.alloc (.cells #[.int i64 S,.slice ao n cap,.slice ao2 n2 cap2,.slice ao3 n3 cap3] 28)).alloc (.cells #[.int i64 0,.slice none 0 0,.slice none 0 0,.slice none 0 0] 28)):=((bRQ _ _).alloc (nLQ _) _).alloc (by simp) _;have HAB0:=ab_new w S (.slice ao n cap) (.slice ao2 n2 cap2) (.slice ao3 n3 cap3) 28;have HB0:Hid (Below w.heap.size w ((w.alloc (.cells #[.int i64 S,.slice ao n cap,.slice ao2 n2 cap2,.slice ao3 n3 cap3] 28)).alloc (.cells #[.int i64 0,.slice none 0 0,.slice none 0 0,.slice none 0 0] 28))):=hb0;obtain⟨_,_,_,e,hn,hn2,hn3,ha⟩:=hl.form;cases e;have HN:Hid (l.length=n4):=hn;have HA:Hid (0<n4→∃g o,a4=some ⟨g,o,none⟩∧GAt opE w g o l∧c4≤maxLen):=ha;have HLW:Hid (∀W,Below w.heap.size w W→GS lnkE W (.slice ao n cap) Ls∧GS hstE W (.slice ao2 n2 cap2) Hs∧TS W (.slice ao3 n3 cap3) Ts):=fun W h=>⟨hL.later h,hH.later h,hT.later h⟩
 have n63:n4≤9223372036854775807:=by unfold maxLen at hn2;omega
 obtain⟨X,hX⟩:∃X,X=cgN S Ls Hs Ts l:=⟨_,rfl⟩;have HX:Hid (X=cgN S Ls Hs Ts l):=hX;rw[←hX];clear hL hH hT hl hn hn2 ha hb0 hX;go_enter func37,ntmps37
 go_wp2_with fail
 refine (ncheck_any S ao n cap ao2 n2 cap2 ao3 n3 cap3 Ls Hs Ts _ (HLW.out _ HB0.out).1 (HLW.out _ HB0.out).2.1 (HLW.out _ HB0.out).2.2).mono ?_;rintro e w1 ⟨rfl,hb1⟩;obtain⟨C,hC⟩:∃C,C=ntN S Ls Hs Ts:=⟨_,rfl⟩;have HC:Hid (C=ntN S Ls Hs Ts):=hC;rw[←hC];have HB1:Hid (Below w.heap.size w w1):=HB0.out.trans (hb1.mono HB0.out.size);have HAB1:Hid (AB w1 w.heap.size S (.slice ao n cap) (.slice ao2 n2 cap2) (.slice ao3 n3 cap3)):=HAB0.later hb1;clear hC hb1 HAB0 HB0;obtain⟨q0,q1,q2,q3⟩:=HAB1.out.r;obtain⟨p0,p1,p2,p3⟩:=HAB1.out.n;have hlt1:=HAB1.out.lt;have hlt0:w.heap.size<w1.heap.size:=by omega
 have f0:=HAB1.out.f 0;have f1:=HAB1.out.f 1;have f2:=HAB1.out.f 2;have f3:=HAB1.out.f 3;by_cases hC0:C=0
 ·subst hC0;rw[no_ok rfl];by_cases h200:200<n4
  ·have HX4:Hid (X=4):=by
    show _=_;rw[HX.out,cgN,if_pos HC.out.symm,if_pos (by rw[HN.out];exact h200)]
   have e4:decide ((200:Int)<(n4:Int))=true:=by simp;omega
   go_wp2;refine bodyPost_ret (v:=.tuple #[.agg #[.int i64 0,.slice none 0 0,.slice none 0 0,.slice none 0 0],.iface 68 (.int i64 4)]) (by simp[results,results37,go_sem, *]) rfl ?_;rw[HX4.out];exact⟨_,_,_,_,_,_,_,_,_,by rw[nvS,if_neg (by decide)];rfl,by rw[nvL,nvL,nvL,if_neg (by decide),if_neg (by decide),if_neg (by decide)];exact NA.nil _ _,below_pn4 HB1.out (w.heap.size+1) (by omega) _ _ _ _⟩
  have HXC:Hid (X=caN S Ts l):=by
   show _=_;rw[HX.out,cgN,if_pos HC.out.symm,if_neg (by rw[HN.out];exact h200)]
  have e4:decide ((200:Int)<(n4:Int))=false:=by simp;omega
  have HOK:Hid (tsOk Ts):=ok_ts (nt_0 HC.out.symm).2.2;have HSL:Hid ((Ts.length:Int)=S):=(nt_0 HC.out.symm).2.1;have hS6:1≤S∧S≤6:=(tp_0 (nt_0 HC.out.symm).1).1;clear h200
  go_wp2_with fail
  refine (fresh_any S ao n cap ao2 n2 cap2 ao3 n3 cap3 Ls Hs Ts w1 (HLW.out _ HB1.out).1 (HLW.out _ HB1.out).2.1 (HLW.out _ HB1.out).2.2 HC.out.symm).mono ?_;rintro e w2 ⟨b1,k1,d1,b2,k2,d2,b3,k3,d3,vs,rfl,ho1,ho2,hTR,hb2⟩;obtain⟨g,rfl,hk3⟩:∃g,b3=some ⟨g,0,none⟩∧k3=Ts.length:=by
   have hlv:=hTR.lv;have hts:=HSL.out
   rcases hTR.ov.2 with ⟨h,h0⟩ | ⟨g,cap',_,h,_⟩
   ·omega
   simp only[Value.slice.injEq] at h;exact⟨g,h.1,by omega⟩
  have HK3:Hid (k3=Ts.length):=hk3;have HKS:Hid ((k3:Int)=S):=by
   show _=_;rw[hk3];exact HSL.out
  have HO:Hid (w2.heap.size=w2.heap.size):=rfl;have hgl:=hTR.ov.lt g rfl;have HLB:Hid (LB (w2.alloc (.cells #[.int i64 S,.slice b1 k1 d1,.slice b2 k2 d2,.slice (some ⟨g,0,none⟩) k3 d3] 28)) w.heap.size S (.slice ao n cap) (.slice ao2 n2 cap2) (.slice ao3 n3 cap3) w2.heap.size (.slice b1 k1 d1) (.slice b2 k2 d2) (.slice (some ⟨g,0,none⟩) k3 d3) Ls Hs vs Ts):=by
   have hba:Below w2.heap.size w2 (w2.alloc (.cells #[.int i64 S,.slice b1 k1 d1,.slice b2 k2 d2,.slice (some ⟨g,0,none⟩) k3 d3] 28)):=(bRQ _ _).alloc (nLQ _) _;exact⟨(HAB1.out.later hb2).later hba,nebox_new w2 S _ _ _ 28,(hTR.mono hlt1).later hba,own_below (own_mono ho1 hlt1) hba,own_below (own_mono ho2 hlt1) hba,fun e=>by have e2:some g=some w2.heap.size:=e;simp at e2;omega,Nat.le_trans hlt1 hb2.size⟩
  have HBL:Hid (Below w.heap.size w (w2.alloc (.cells #[.int i64 S,.slice b1 k1 d1,.slice b2 k2 d2,.slice (some ⟨g,0,none⟩) k3 d3] 28))):=(HB1.out.trans (hb2.mono HB1.out.size)).alloc (Nat.le_trans HB1.out.size hb2.size) _;have hlt2:w.heap.size+1<w2.heap.size:=Nat.lt_of_lt_of_le hlt1 hb2.size;clear ho1 ho2 hTR hb2 hgl HB1 HAB1 q0 q1 q2 q3 p0 p1 p2 p3 f0 f1 f2 f3 hk3 hlt0 hlt1
  generalize hO:w2.heap.size=O at *
  go_wp2
  go_loopw [27] (fun i wr=>∃(k:Nat) (vs:List SlT),k≤n4∧i=.int i64 k∧caN S Ts (l.take k)=0∧LB wr w.heap.size S (.slice ao n cap) (.slice ao2 n2 cap2) (.slice ao3 n3 cap3) O (.slice b1 k1 d1) (.slice b2 k2 d2) (.slice (some ⟨g,0,none⟩) k3 d3) Ls Hs vs (caT Ts (l.take k))∧Below w.heap.size w wr) (fun i _=>n4-(intOf i).toNat)
  case atStart=>exact⟨0,vs,by omega,rfl,rfl,HLB.out,HBL.out⟩
  case round =>
   obtain⟨k,vs,hk,rfl,hca,hLB,hB⟩:=hrel;clear HLB HBL;have HB:Hid (Below w.heap.size w wr):=hB;have HCA:Hid (caN S Ts (l.take k)=0):=hca;obtain⟨Tk,hTk⟩:∃T,T=caT Ts (l.take k):=⟨_,rfl⟩;have HTK:Hid (Tk=caT Ts (l.take k)):=hTk;rw[←hTk] at hLB;have HLB:Hid (LB wr w.heap.size S (.slice ao n cap) (.slice ao2 n2 cap2) (.slice ao3 n3 cap3) O (.slice b1 k1 d1) (.slice b2 k2 d2) (.slice (some ⟨g,0,none⟩) k3 d3) Ls Hs vs Tk):=hLB;have HTkL:Hid (Tk.length=k3):=by
    show _=_;rw[hTk,ca_len,HK3.out]
   have HOKk:Hid (tsOk Tk):=by
    rw[hTk];exact ca_right HOK.out hca
   have hlt1:=hLB.ab.lt;have hlt0:w.heap.size<wr.heap.size:=by omega
   have hltO:O<wr.heap.size:=bLQ _ _ hLB.o.1;have hneO:O≠w.heap.size+1:=by have:=hLB.bo;omega
   obtain⟨o0,o1,o2,o3⟩:=hLB.o;obtain⟨q0,q1,q2,q3⟩:=hLB.ab.r;have f0:=hLB.ab.f 0;have f1:=hLB.ab.f 1;have f2:=hLB.ab.f 2;have f3:=hLB.ab.f 3;clear hca hTk hLB;by_cases hlt:k<n4
   ·obtain⟨gl,ol,hao,hc,_⟩:=HA.out (by omega);subst hao;obtain⟨y0,ya,p,m,b,q,s,v,hkl,hLk,r0,r1,r2,r3,r4,r5,r6,r7⟩:=op_at (hc.later hB) HN.out hlt;have HLK:Hid (l[k]=⟨y0,ya,⟨p,m,b,q,s,v⟩⟩):=hLk;have HCAT:Hid (caN S Ts l=caN S Tk (⟨y0,ya,⟨p,m,b,q,s,v⟩⟩ :: l.drop (k+1))):=by
     show _=_;rw[HTK.out,←hLk,ca_split hkl HCA.out]
    have kb0:(0:Int)≤(k:Int):=by omega
    have kb1:(k:Int)<(n4:Int):=by omega
    have HOB:=op_new wr y0 ya p m b q s v 90;have HBA:Hid (Below wr.heap.size wr (wr.alloc (.cells #[.int i64 y0,.bool ya,.int i64 p,.int i64 m,.int i64 b,.int i64 q,.int i64 s,.int i64 v] 90))):=(bRQ _ _).alloc (nLQ _) _;clear hLk hB hc
    go_wp2_with fail
    refine (isSwitch_any S y0 _).mono ?_;rintro e wx ⟨rfl,hbx⟩;have HBr:Hid (Below wr.heap.size wr wx):=HBA.out.trans (hbx.mono HBA.out.size);have HBX:Hid (Below w.heap.size w wx):=HB.out.trans (HBr.out.mono HB.out.size);have HLX:Hid (LB wx w.heap.size S (.slice ao n cap) (.slice ao2 n2 cap2) (.slice ao3 n3 cap3) O (.slice b1 k1 d1) (.slice b2 k2 d2) (.slice (some ⟨g,0,none⟩) k3 d3) Ls Hs vs Tk):=HLB.out.later HBr.out;have HOX:Hid (VAt wx wr.heap.size 0 (opE.c ⟨y0,ya,⟨p,m,b,q,s,v⟩⟩)):=HOB.later hbx;have hltw:wr.heap.size<wx.heap.size:=bLQ _ _ (op_cells HOX.out).1;clear hbx HBA HOB q0 q1 q2 q3 f0 f1 f2 f3 o0 o1 o2 o3 r0 r1 r2 r3 r4 r5 r6 r7 HLB HB hlt0 hlt1 hltO;have hlt1:=HLX.out.ab.lt;have hlt0:w.heap.size<wx.heap.size:=by omega
    have hltO:O<wx.heap.size:=bLQ _ _ HLX.out.o.1;obtain⟨o0,o1,o2,o3⟩:=HLX.out.o;obtain⟨q0,q1,q2,q3⟩:=HLX.out.ab.r;have f0:=HLX.out.ab.f 0;have f1:=HLX.out.ab.f 1;have f2:=HLX.out.ab.f 2;have f3:=HLX.out.ab.f 3;cases hsw:swB S y0
    ·have HX1:Hid (X=1):=by
      show _=_;rw[HXC.out,HCAT.out,caN,hsw];rfl
     go_wp2;refine bodyPost_ret (v:=.tuple #[.agg #[.int i64 0,.slice none 0 0,.slice none 0 0,.slice none 0 0],.iface 68 (.int i64 1)]) (by simp[results,results37,go_sem, *]) rfl ?_;rw[HX1.out];exact⟨_,_,_,_,_,_,_,_,_,by rw[nvS,if_neg (by decide)];rfl,by rw[nvL,nvL,nvL,if_neg (by decide),if_neg (by decide),if_neg (by decide)];exact NA.nil _ _,below_pn4 HBX.out (w.heap.size+1) (by omega) _ _ _ _⟩
    have hw:=sw_of.1 hsw;obtain⟨i,hi⟩:∃i:Nat,y0=(i:Int)+1:=⟨(y0-1).toNat,by omega⟩;have HI:Hid (y0=(i:Int)+1):=hi;have hiN:i<k3:=by have:=HKS.out;omega
    have iw:IntKind.i64.wrap (y0-1)=(i:Int):=by rw[IntKind.wrap_i64];omega
    have iw2:wrap64 (y0-1)=(i:Int):=by unfold wrap64;omega
    have ib0:(0:Int)≤(i:Int):=by omega
    have ib1:(i:Int)<(k3:Int):=by omega
    have HTA:Hid (taT Tk y0=Tk.getD i []):=by
     show _=_;rw[taT]
     congr 1
     omega
    have HXI:Hid (X=if doN (taT Tk y0) ya ⟨p,m,b,q,s,v⟩=0 then caN S (Tk.set i (doL (taT Tk y0) ya ⟨p,m,b,q,s,v⟩)) (l.drop (k+1)) else doN (taT Tk y0) ya ⟨p,m,b,q,s,v⟩):=by
     show _=_;have e7:(y0-1).toNat=i:=by have:=HI.out;omega
     rw[HXC.out,HCAT.out,caN,hsw,if_pos rfl,e7]
    obtain⟨x,hx1,hx2,hx3,hx0,hx4,hx5⟩:=HLX.out.tr.at (i:=i) (by rw[HTkL.out];exact hiN);clear hx0;obtain⟨a5,n5,c5⟩:=x;have HSR:Hid (SR wx (.slice a5 n5 c5) (taT Tk y0)):=by
     rw[HTA.out];exact hx2
    have hx1':wx.cell? ⟨g,i,none⟩=some (.slice a5 n5 c5):=hx1;have HDO:Hid (∀W,Below wx.heap.size wx W→Calls prog 68 #[.slice a5 n5 c5,.bool ya,.agg #[.int i64 p,.int i64 m,.int i64 b,.int i64 q,.int i64 s,.int i64 v]] W fun e w'=>∃u,e=.returned (.tuple #[u,noV (doN (taT Tk y0) ya ⟨p,m,b,q,s,v⟩)])∧NR w' wx.heap.size u (doL (taT Tk y0) ya ⟨p,m,b,q,s,v⟩)∧Below wx.heap.size wx w'):=fun W hW=>by
     refine (do_own a5 n5 c5 ya p m b q s v _ W (HSR.out.later hW)).mono ?_;rintro e w' ⟨u,h1,h2,h3⟩;exact⟨u,h1,h2.mono hW.size,hW.trans (h3.mono hW.size)⟩
    have HMK:Hid (∀W,Below wx.heap.size wx W→Below wx.heap.size wx W∧W.cell? ⟨O,3,none⟩=some (.slice (some ⟨g,0,none⟩) k3 d3)∧W.cell? ⟨g,i,none⟩=some (.slice a5 n5 c5)∧W.cell? ⟨wr.heap.size,0,none⟩=some (.int i64 y0)∧W.cell? ⟨wr.heap.size,1,none⟩=some (.bool ya)∧W.cell? ⟨wr.heap.size,2,none⟩=some (.int i64 p)∧W.cell? ⟨wr.heap.size,3,none⟩=some (.int i64 m)∧W.cell? ⟨wr.heap.size,4,none⟩=some (.int i64 b)∧W.cell? ⟨wr.heap.size,5,none⟩=some (.int i64 q)∧W.cell? ⟨wr.heap.size,6,none⟩=some (.int i64 s)∧W.cell? ⟨wr.heap.size,7,none⟩=some (.int i64 v)):=by
     intro W hW;obtain⟨c0,c1,c2,c3,c4,c5,c6,c7⟩:=op_cells (HOX.out.later hW);simp only[Nat.zero_add] at c0 c1 c2 c3 c4 c5 c6 c7;exact⟨hW,cell_later hW HLX.out.o.2.2.2,cell_later hW hx1',c0,c1,c2,c3,c4,c5,c6,c7⟩
    go_upto_region 12 with fail;clear q0 q1 q2 q3 f0 f1 f2 f3 o0 o1 o2 o3 hx1 hx2 hx3 hx4 hlt0 hlt1 hltO hsw hi hw
    go_cut [10,11,27] from 27 to 66 (fun t e ix w'=>ix=.int i64 (k:Int)∧e=noV (doN (taT Tk y0) ya ⟨p,m,b,q,s,v⟩)∧NR w' wx.heap.size t (doL (taT Tk y0) ya ⟨p,m,b,q,s,v⟩)∧Below wx.heap.size wx w')
    case first =>
     go_region_held3 (fun W=>Below wx.heap.size wx W∧W.cell? ⟨O,3,none⟩=some (.slice (some ⟨g,0,none⟩) k3 d3)∧W.cell? ⟨g,i,none⟩=some (.slice a5 n5 c5)∧W.cell? ⟨wr.heap.size,0,none⟩=some (.int i64 y0)∧W.cell? ⟨wr.heap.size,1,none⟩=some (.bool ya)∧W.cell? ⟨wr.heap.size,2,none⟩=some (.int i64 p)∧W.cell? ⟨wr.heap.size,3,none⟩=some (.int i64 m)∧W.cell? ⟨wr.heap.size,4,none⟩=some (.int i64 b)∧W.cell? ⟨wr.heap.size,5,none⟩=some (.int i64 q)∧W.cell? ⟨wr.heap.size,6,none⟩=some (.int i64 s)∧W.cell? ⟨wr.heap.size,7,none⟩=some (.int i64 v))
      (first | assumption | exact HMK.out _ (Below.drew (bRQ _ _)) | exact HMK.out _ HBD.out)
      (first | (go_at_call 68;refine (HDO.out _ (by first | exact Below.drew (bRQ _ _) | exact bRQ _ _)).mono ?_;rintro e w' ⟨u,rfl,hG,hb⟩;have HBD:Hid (Below wx.heap.size wx w'):=hb;have HGD:Hid (NR w' wx.heap.size u (doL (taT Tk y0) ya ⟨p,m,b,q,s,v⟩)):=hG;clear hb hG))
     all_goals (go_wp2_with fail;go_meet)
     all_goals exact⟨rfl,rfl,HGD.out,HBD.out⟩
    case rest =>
     obtain⟨rfl,rfl,hG,hb3⟩:=hcut;have HB3:Hid (Below w.heap.size w wc):=HBX.out.trans (hb3.mono HBX.out.size);have HL3:Hid (LB wc w.heap.size S (.slice ao n cap) (.slice ao2 n2 cap2) (.slice ao3 n3 cap3) O (.slice b1 k1 d1) (.slice b2 k2 d2) (.slice (some ⟨g,0,none⟩) k3 d3) Ls Hs vs Tk):=HLX.out.later hb3;obtain⟨_,_,_,d0,d1_,d2_,d3_,d4,d5,d6,d7⟩:=HMK.out wc hb3;have hltw3:wr.heap.size<wc.heap.size:=bLQ _ _ d0;obtain⟨⟨a6,n6,c6⟩,hx,hoff⟩:=hG.sl
     replace hx:_=Value.slice a6 n6 c6:=hx
     subst hx;have HG3:Hid (SR wc (slV (a6,n6,c6)) (doL (taT Tk y0) ya ⟨p,m,b,q,s,v⟩)):=hG.sr;have HOFF:Hid (∀b,b<wx.heap.size→offB (a6,n6,c6) b):=hoff;obtain⟨D,hD⟩:∃c,c=doN (taT Tk y0) ya ⟨p,m,b,q,s,v⟩:=⟨_,rfl⟩;have HD:Hid (D=doN (taT Tk y0) ya ⟨p,m,b,q,s,v⟩):=hD;rw[←hD];have HWX:Hid (w.heap.size+2≤wx.heap.size):=HLX.out.ab.lt;clear hb3 hG hD hoff HMK HDO HLX HBX;have hlt1:=HL3.out.ab.lt;have hlt0:w.heap.size<wc.heap.size:=by omega
     have hltO:O<wc.heap.size:=bLQ _ _ HL3.out.o.1;obtain⟨o0,o1,o2,o3⟩:=HL3.out.o;obtain⟨q0,q1,q2,q3⟩:=HL3.out.ab.r;have f0:=HL3.out.ab.f 0;have f1:=HL3.out.ab.f 1;have f2:=HL3.out.ab.f 2;have f3:=HL3.out.ab.f 3;by_cases h0:D=0
     ·subst h0;rw[no_ok rfl];obtain⟨yx,hy1,hy2,hy3,hy0,hy4,hy5⟩:=HL3.out.tr.at (i:=i) (by rw[HTkL.out];exact hiN);clear hy0 hy2;have HL4:Hid (LB (wc.setCell ⟨g,i,none⟩ (.slice a6 n6 c6)) w.heap.size S (.slice ao n cap) (.slice ao2 n2 cap2) (.slice ao3 n3 cap3) O (.slice b1 k1 d1) (.slice b2 k2 d2) (.slice (some ⟨g,0,none⟩) k3 d3) Ls Hs (vs.set i (a6,n6,c6)) (caT Ts (l.take (k+1)))):=by
       have:=HL3.out.put (i:=i) (x:=(a6,n6,c6)) HG3.out (HOFF.out g hx5) (fun b h2=>HOFF.out b (by have:=HWX.out;omega));rw[(cs_take hkl HCA.out).2,←HTK.out,HLK.out,caT,caT];have e7:(y0-1).toNat=i:=by have:=HI.out;omega
       rw[e7];exact this
      have HCA4:Hid (caN S Ts (l.take (k+1))=0):=by
       show _=_;rw[(cs_take hkl HCA.out).1,←HTK.out,HLK.out,caN];show (if swB S y0=true then (if doN (taT Tk y0) ya ⟨p,m,b,q,s,v⟩=0 then _ else _) else _)=_;rw[if_pos (sw_of.2 ⟨by have:=HI.out;omega,by have:=HI.out;have:=HKS.out;omega⟩),←HD.out,if_pos rfl,caN]
      have HB4:Hid (Below w.heap.size w (wc.setCell ⟨g,i,none⟩ (.slice a6 n6 c6))):=HB3.out.setCell (p:=⟨g,i,none⟩) (show w.heap.size≤g by omega) _;go_wp2;go_roundw
      case rel=>exact⟨k+1,vs.set i (a6,n6,c6),by omega,by go_num,HCA4.out,HL4.out,HB4.out⟩
      case measure=>simp[intOf];omega
     have HNZ:Hid (D≠0):=h0;have HXD:Hid (X=D):=by
      show _=_;rw[HXI.out,←HD.out,if_neg h0]
     rw[no_ne h0];clear h0;go_wp2;refine bodyPost_ret (v:=.tuple #[.agg #[.int i64 0,.slice none 0 0,.slice none 0 0,.slice none 0 0],.iface 68 (.int i64 D)]) (by simp[results,results37,go_sem, *]) rfl ?_;rw[HXD.out];exact⟨_,_,_,_,_,_,_,_,_,by rw[nvS,if_neg (HNZ.out),no_ne HNZ.out],by rw[nvL,nvL,nvL,if_neg (HNZ.out),if_neg (HNZ.out),if_neg (HNZ.out)];exact NA.nil _ _,below_pn4 HB3.out (w.heap.size+1) (by omega) _ _ _ _⟩
   obtain rfl:k=n4:=by omega
   have HX0:Hid (X=0):=by
    show _=_;have:=HCA.out;rw[←HN.out,List.take_length] at this;rw[HXC.out,this]
   have HTE:Hid (Tk=caT Ts l):=by
    show _=_;rw[HTK.out,←HN.out,List.take_length]
   clear hB;go_wp2;refine bodyPost_ret (v:=.tuple #[.agg #[.int i64 S,.slice b1 k1 d1,.slice b2 k2 d2,.slice (some ⟨g,0,none⟩) k3 d3],.nilIface]) (by simp[results,results37,go_sem, *]) rfl ?_;rw[HX0.out];have hgp:=grown_put4 wr (w.heap.size+1) (.int i64 S) (.slice b1 k1 d1) (.slice b2 k2 d2) (.slice (some ⟨g,0,none⟩) k3 d3);have hBE:=below_pn4 HB.out (w.heap.size+1) (by omega) (.int i64 S) (.slice b1 k1 d1) (.slice b2 k2 d2) (.slice (some ⟨g,0,none⟩) k3 d3);have hTE:=(HLB.out.tr.grown hgp (Nat.zero_le _) (by omega)).mono (B':=w.heap.size) (by omega);rw[HTE.out] at hTE;exact⟨_,_,_,_,_,_,_,_,_,rfl,⟨own_mono (HLB.out.ls.kept hgp (.inr fun e=>by have:=(HLB.out.ls.lt _ e).1;omega)) (by omega),own_mono (HLB.out.hs.kept hgp (.inr fun e=>by have:=(HLB.out.hs.lt _ e).1;omega)) (by omega),vs,hTE⟩,hBE⟩
 have HNZ:Hid (C≠0):=hC0;have HXC:Hid (X=C):=by
  show _=_;rw[HX.out,cgN,←HC.out,if_neg hC0]
 rw[no_ne hC0];clear hC0;go_wp2;refine bodyPost_ret (v:=.tuple #[.agg #[.int i64 0,.slice none 0 0,.slice none 0 0,.slice none 0 0],.iface 68 (.int i64 C)]) (by simp[results,results37,go_sem, *]) rfl ?_;rw[HXC.out];exact⟨_,_,_,_,_,_,_,_,_,by rw[nvS,if_neg (HNZ.out),no_ne HNZ.out],by rw[nvL,nvL,nvL,if_neg (HNZ.out),if_neg (HNZ.out),if_neg (HNZ.out)];exact NA.nil _ _,below_pn4 HB1.out (w.heap.size+1) (by omega) _ _ _ _⟩
theorem chApply_any (S:Int)(ao:AdQ)(n cap:Nat)(ao2:AdQ)(n2 cap2:Nat)(ao3:AdQ)(n3 cap3:Nat)(a4:AdQ)(n4 c4:Nat)(Ls:LkQ)(Hs:HoQ)(Ts:TsQ)(l:List Op8)(w:World)
 (hL:GS lnkE w (.slice ao n cap) Ls) (hH:GS hstE w (.slice ao2 n2 cap2) Hs) (hT:TS w (.slice ao3 n3 cap3) Ts) (hl:GS opE w (.slice a4 n4 c4) l):
 Calls prog 37 #[.agg #[.int i64 S,.slice ao n cap,.slice ao2 n2 cap2,.slice ao3 n3 cap3],.slice a4 n4 c4] w fun e w'=>∃b1 k1 d1 b2 k2 d2 b3 k3 d3,e=.returned (.tuple #[.agg #[.int i64 (nvS (cgN S Ls Hs Ts l) S),.slice b1 k1 d1,.slice b2 k2 d2,.slice b3 k3 d3],noV (cgN S Ls Hs Ts l)])∧GS lnkE w' (.slice b1 k1 d1) (nvL (cgN S Ls Hs Ts l) Ls)∧GS hstE w' (.slice b2 k2 d2) (nvL (cgN S Ls Hs Ts l) Hs)∧TS w' (.slice b3 k3 d3) (nvL (cgN S Ls Hs Ts l) (caT Ts l))∧Below w.heap.size w w':=
 (chApply_own S ao n cap ao2 n2 cap2 ao3 n3 cap3 a4 n4 c4 Ls Hs Ts l w hL hH hT hl).mono fun e w' ⟨b1,k1,d1,b2,k2,d2,b3,k3,d3,e1,e2,e3⟩=>⟨b1,k1,d1,b2,k2,d2,b3,k3,d3,e1,e2.gs.1,e2.gs.2.1,e2.gs.2.2,e3⟩
end
end Go.Proofs.YtiokpmlhmlcojaaGreatDoor
