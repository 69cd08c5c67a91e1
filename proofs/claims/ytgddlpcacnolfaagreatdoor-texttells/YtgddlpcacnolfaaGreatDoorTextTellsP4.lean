/- Contracts and facts on the way to TextTells, joined into one text: RuleTab2, NetCheck, StWish, Quiet, SlHost, HostHas, WishCon, WishCheck, TopoOf, StCube, StRule, NetOf, ChangeMem, RuleOwn, TableApp, TableConcat, TableDo, PlanMem, OwnTabs, RdMem, ItLaw, ItLaw3. -/
import Derived.Test.YtgddlpcacnolfaaGreatDoorTextTellsP3
namespace Go.Proofs.YtgddlpcacnolfaaGreatDoor
set_option linter.unusedSimpArgs false
set_option linter.unusedVariables false
set_option maxHeartbeats 16000000
set_option maxRecDepth 100000
open Go.Proofs.Tryz
open IntKind (i64)
section
open Go.RowKit
theorem tb_long {L:List Ru}(h:12<L.length):tbN L=4:=by simp[tbN,h]
theorem tb_at {L:List Ru}(h:L.length≤12){k:Nat}(hk:k<L.length){x:Int}(h1:tbTo L (k+1)=x)(h2:x≠0):tbN L=x:=by
 subst h1;rw[tbN,if_neg (by omega)];exact to_le h2 hk
theorem to_bad {L:List Ru}{k:Nat}{r:Ru}(hk:k<L.length)(hr:L[k]=r)(h:tbTo L k=0)(h2:r.n≠0):tbTo L (k+1)=r.n:=by
 rw[tbTo,if_pos h,getD_at hk,hr,if_neg h2]
theorem to_clash {L:List Ru}{k:Nat}{r:Ru}(hk:k<L.length)(hr:L[k]=r)(h:tbTo L k=0)(h2:r.n=0)(h3:(L.take k).any (fun a=>keyB a r)=true):tbTo L (k+1)=7:=by
 rw[tbTo,if_pos h,getD_at hk,hr,if_pos h2,h3];rfl
theorem to_next {L:List Ru}{k:Nat}{r:Ru}(hk:k<L.length)(hr:L[k]=r)(h:tbTo L k=0)(h2:r.n=0)(h3:(L.take k).any (fun a=>keyB a r)=false):tbTo L (k+1)=0:=by
 rw[tbTo,if_pos h,getD_at hk,hr,if_pos h2,h3];rfl
theorem table_some (g o cap n:Nat)(L:List Ru)(w:World)(hc:RAt w g o L)(hn:L.length=n)(hl:n≤12)(hcap:n≤cap)(hcap2:cap≤maxLen):
 Calls prog 66 #[.slice (some ⟨g,o,none⟩) n cap] w fun e w'=>e=.returned (noV (tbN L))∧Below w.heap.size w w':=by
 have HN:Hid (L.length=n):=hn;unfold maxLen at hcap2;clear hn;go_enter func66,ntmps66;go_wp2
 go_loopw [12] (fun i wr=>∃k:Nat,k≤n∧i=.int i64 k∧tbTo L k=0∧Below w.heap.size w wr) (fun i _=>n-(intOf i).toNat)
 case atStart=>exact⟨0,by omega,rfl,rfl,bRQ _ _⟩
 case round =>
  obtain⟨k,hk,rfl,hno,hB⟩:=hrel;have HB:Hid (Below w.heap.size w wr):=hB;have HNO:Hid (tbTo L k=0):=hno;clear hno;by_cases hlt:k<n
  ·obtain⟨p,m,b,q,s,v,hkl,hL,q0,q1,q2,q3,q4,q5⟩:=(hc.later hB).at HN.out hlt;have HL:Hid (L[k]=⟨p,m,b,q,s,v⟩):=hL;have HC6:=C6.new wr p m b q s v 64;have HRT:=((hc.later hB).later ((bRQ _ _).alloc (nLQ _) (Obj.cells #[.int i64 p,.int i64 m,.int i64 b,.int i64 q,.int i64 s,.int i64 v] 64))).take k;have HTL:Hid ((L.take k).length=k):=by show (L.take k).length=k;simp;omega
   have hk2:k≤cap:=by omega
   clear hL hB;by_cases ho:ruN p m b q s v=0
   ·go_wp2_with fail
    refine (ruCheck_any _ _ _ _ _ _ _).mono ?_;rintro e w1 ⟨rfl,hb1⟩;rw[no_ok ho];have HB1:=HB.out.trans (((bRQ _ _).alloc (nLQ _) _).trans (hb1.mono (by simp)) |>.mono HB.out.size);have HC7:=HC6.later hb1;have HR7:=HRT.later hb1;clear hb1 HC6 HRT;cases ho2:(L.take k).any (fun a=>keyB a ⟨p,m,b,q,s,v⟩)
    ·go_wp2_with fail
     refine (containsR_any _ _ _ k _ ⟨p,m,b,q,s,v⟩ (L.take k) _ HR7 HTL.out (by unfold maxLen;omega) (by unfold maxLen;omega) HC7).mono ?_;rintro e w2 ⟨rfl,hb2⟩;rw[ho2];have HB2:=HB1.trans (hb2.mono HB1.size);clear hb2;go_wp2;go_roundw
     case rel=>exact⟨k+1,by omega,by go_num,to_next hkl HL.out HNO.out ho ho2,HB2⟩
     case measure=>simp[intOf];omega
    go_wp2_with fail
    refine (containsR_any _ _ _ k _ ⟨p,m,b,q,s,v⟩ (L.take k) _ HR7 HTL.out (by unfold maxLen;omega) (by unfold maxLen;omega) HC7).mono ?_;rintro e w2 ⟨rfl,hb2⟩;rw[ho2];have HB2:=HB1.trans (hb2.mono HB1.size);clear hb2;go_wp2;go_ret;refine⟨?_,HB2⟩;rw[tb_at (by rw[HN.out];exact hl) hkl (to_clash hkl HL.out HNO.out ho ho2) (by decide)];rfl
   go_wp2_with fail
   refine (ruCheck_any _ _ _ _ _ _ _).mono ?_;rintro e w1 ⟨rfl,hb1⟩;rw[no_ne ho];have HB1:=HB.out.trans (((bRQ _ _).alloc (nLQ _) _).trans (hb1.mono (by simp)) |>.mono HB.out.size);clear hb1;go_wp2;go_ret;refine⟨?_,HB1⟩;rw[tb_at (by rw[HN.out];exact hl) hkl (to_bad hkl HL.out HNO.out ho) ho,no_ne (show Ru.n ⟨p,m,b,q,s,v⟩≠0 from ho)];rfl
  obtain rfl:k=n:=by omega
  go_wp2;go_ret;refine⟨?_,HB.out⟩;have e1:tbN L=0:=by
   rw[tbN,if_neg (by rw[HN.out];omega),HN.out];exact HNO.out
  rw[e1];rfl
theorem table_long (ao:AdQ)(cap n:Nat)(w:World)(hl:12<n):
 Calls prog 66 #[.slice ao n cap] w fun e w'=>e=.returned (.iface 72 (.int i64 4))∧Below w.heap.size w w':=by
 go_enter func66,ntmps66;go_wp2;go_ret;exact⟨rfl,bRQ _ _⟩
theorem table_nil (ao:AdQ)(cap:Nat)(w:World):
 Calls prog 66 #[.slice ao 0 cap] w fun e w'=>e=.returned .nilIface∧Below w.heap.size w w':=by
 go_enter func66,ntmps66;go_wp2
 go_loopw [12] (fun i wr=>i=.int i64 0∧wr=w) (fun i _=>0)
 case atStart=>exact⟨rfl,rfl⟩
 case round =>
  obtain⟨rfl,rfl⟩:=hrel;go_wp2;go_ret;exact⟨rfl,bRQ _ _⟩
theorem table_any (v:Value)(L:List Ru)(w:World)(h:SR w v L):
 Calls prog 66 #[v] w fun e w'=>e=.returned (noV (tbN L))∧Below w.heap.size w w':=by
 rcases h with ⟨ao,cap,rfl,rfl⟩ | ⟨g,o,cap,rfl,h1,h2,hc⟩
 ·exact table_nil ao cap w
 by_cases h12:12<L.length
 ·rw[tb_long h12];exact table_long _ _ _ _ h12
 exact table_some _ _ _ _ L w hc rfl (by omega) h1 h2
def TAt (w:World)(g o:Nat)(Ts:TsQ):Prop:=∀i (h:i<Ts.length),∃ao n cap,w.cell? ⟨g,o+i,none⟩=some (.slice ao n cap)∧SR w (.slice ao n cap) Ts[i]
theorem TAt.later {w w':World}{g o:Nat}{Ts:TsQ}(h:TAt w g o Ts)(hb:Below w.heap.size w w'):TAt w' g o Ts:=fun i hi=>by
 obtain⟨ao,n,cap,h1,h2⟩:=h i hi;exact⟨ao,n,cap,cell_later hb h1,h2.later hb⟩
def TS (w:World)(v:Value)(Ts:TsQ):Prop:=
 (∃ao cap,v=.slice ao 0 cap∧Ts=[])∨∃g o cap,v=.slice (some ⟨g,o,none⟩) Ts.length cap∧Ts.length≤cap∧cap≤maxLen∧TAt w g o Ts
theorem TS.later {w w':World}{v:Value}{Ts:TsQ}(h:TS w v Ts)(hb:Below w.heap.size w w'):TS w' v Ts:=by
 rcases h with h | ⟨g,o,cap,h1,h2,h3,h4⟩
 ·exact .inl h
 exact .inr ⟨g,o,cap,h1,h2,h3,h4.later hb⟩
theorem TS.form {w:World}{v:Value}{Ts:TsQ}(h:TS w v Ts):∃ao n cap,v=.slice ao n cap∧Ts.length=n∧n≤maxLen∧n≤cap∧(0<n→∃g o,ao=some ⟨g,o,none⟩∧TAt w g o Ts∧cap≤maxLen):=by
 rcases h with ⟨ao,cap,rfl,rfl⟩ | ⟨g,o,cap,rfl,h1,h2,h3⟩
 ·exact⟨ao,0,cap,rfl,rfl,Nat.zero_le _,Nat.zero_le _,fun h=>absurd h (by omega)⟩
 exact⟨_,_,cap,rfl,rfl,Nat.le_trans h1 h2,h1,fun _=>⟨g,o,rfl,h3,h2⟩⟩
theorem TS.len {w:World}{ao:AdQ}{n cap:Nat}{Ts:TsQ}(h:TS w (.slice ao n cap) Ts):Ts.length=n:=by
 rcases h with ⟨_,_,e,rfl⟩ | ⟨_,_,_,e,_⟩
 ·simp at e;simp[e]
 simp at e;exact e.2.1.symm
theorem getT {Ts:TsQ}{k:Nat}(hk:k<Ts.length):Ts.getD k []=Ts[k]:=by simp[List.getD,hk]
def NeBox (W:World)(g:Nat)(S:Int)(v1 v2 v3:Value):Prop:=W.cell? ⟨g,0,none⟩=some (.int i64 S)∧W.cell? ⟨g,1,none⟩=some v1∧W.cell? ⟨g,2,none⟩=some v2∧W.cell? ⟨g,3,none⟩=some v3
theorem nebox_new (w:World)(S:Int)(v1 v2 v3:Value)(t:TypeId):NeBox (w.alloc (.cells #[.int i64 S,v1,v2,v3] t)) w.heap.size S v1 v2 v3:=by
 refine⟨?_,?_,?_,?_⟩ <;> simp
theorem NeBox.later {W W':World}{g:Nat}{S:Int}{v1 v2 v3:Value}(h:NeBox W g S v1 v2 v3)(hb:Below W.heap.size W W'):NeBox W' g S v1 v2 v3:=
 ⟨cell_later hb h.1,cell_later hb h.2.1,cell_later hb h.2.2.1,cell_later hb h.2.2.2⟩
theorem ncheck_any (S:Int)(ao:AdQ)(n cap:Nat)(ao2:AdQ)(n2 cap2:Nat)(ao3:AdQ)(n3 cap3:Nat)(Ls:LkQ)(Hs:HoQ)(Ts:TsQ)(w:World)
 (hL:GS lnkE w (.slice ao n cap) Ls) (hH:GS hstE w (.slice ao2 n2 cap2) Hs) (hT:TS w (.slice ao3 n3 cap3) Ts):
 Calls prog 40 #[.agg #[.int i64 S,.slice ao n cap,.slice ao2 n2 cap2,.slice ao3 n3 cap3]] w fun e w'=>e=.returned (noV (ntN S Ls Hs Ts))∧Below w.heap.size w w':=by
 have hb1:Below w.heap.size w (w.alloc (.cells #[.int i64 S,.slice ao n cap,.slice ao2 n2 cap2,.slice ao3 n3 cap3] 28)):=(bRQ _ _).alloc (nLQ _) _;obtain⟨C,hC⟩:∃C,C=ntN S Ls Hs Ts:=⟨_,rfl⟩;have HC:Hid (C=ntN S Ls Hs Ts):=hC;rw[←hC];have HL2:Hid (GS lnkE (w.alloc (.cells #[.int i64 S,.slice ao n cap,.slice ao2 n2 cap2,.slice ao3 n3 cap3] 28)) (.slice ao n cap) Ls):=hL.later hb1;have HH2:Hid (GS hstE (w.alloc (.cells #[.int i64 S,.slice ao n cap,.slice ao2 n2 cap2,.slice ao3 n3 cap3] 28)) (.slice ao2 n2 cap2) Hs):=hH.later hb1;have HT2:Hid (TS (w.alloc (.cells #[.int i64 S,.slice ao n cap,.slice ao2 n2 cap2,.slice ao3 n3 cap3] 28)) (.slice ao3 n3 cap3) Ts):=hT.later hb1;have HB2:Hid (Below w.heap.size w (w.alloc (.cells #[.int i64 S,.slice ao n cap,.slice ao2 n2 cap2,.slice ao3 n3 cap3] 28))):=hb1;have HX:Hid (NeBox (w.alloc (.cells #[.int i64 S,.slice ao n cap,.slice ao2 n2 cap2,.slice ao3 n3 cap3] 28)) w.heap.size S (.slice ao n cap) (.slice ao2 n2 cap2) (.slice ao3 n3 cap3)):=nebox_new w S _ _ _ 28;clear hC hb1 hL hH hT;go_enter func40,ntmps40
 go_wp2_with fail
 refine (check_any S ao n cap ao2 n2 cap2 Ls Hs _ HL2.out HH2.out).mono ?_;rintro e w1 ⟨rfl,hb1⟩;obtain⟨T,hT⟩:∃T,T=tpN S Ls Hs:=⟨_,rfl⟩;have HT:Hid (T=tpN S Ls Hs):=hT;rw[←hT];have HB1:Hid (Below w.heap.size w w1):=HB2.out.trans (hb1.mono HB2.out.size);obtain⟨b0,b1,b2,b3⟩:=HX.out.later hb1;have HT1:Hid (TS w1 (.slice ao3 n3 cap3) Ts):=HT2.out.later hb1;clear hT hb1 HX HL2 HH2 HB2 HT2;by_cases h0:T=0
 ·subst h0;rw[no_ok rfl];obtain⟨_,_,_,e2,hTn,hTm,_,hTa⟩:=HT1.out.form;cases e2;have HTN:Hid (Ts.length=n3):=hTn;have HTM:Hid (n3≤maxLen):=hTm;have HTA:Hid (0<n3→∃g o,ao3=some ⟨g,o,none⟩∧TAt w1 g o Ts∧cap3≤maxLen):=hTa;have n63:n3≤9223372036854775807:=by unfold maxLen at hTm;omega
  clear hTn hTm hTa HT1;by_cases hS:(n3:Int)=S
  ·have HC2:Hid (C=tsTo Ts n3):=by
    show _=_;rw[HC.out,ntN,if_pos HT.out.symm,if_pos (by rw[HTN.out];exact hS),HTN.out]
   have e1:((n3:Int) != S)=false:=by simp[hS]
   clear hS HC;go_wp2
   go_loopw [24] (fun i wr=>∃k:Nat,k≤n3∧i=.int i64 k∧tsTo Ts k=0∧Below w1.heap.size w1 wr) (fun i _=>n3-(intOf i).toNat)
   case atStart=>exact⟨0,by omega,rfl,rfl,bRQ _ _⟩
   case round =>
    obtain⟨k,hk,rfl,hz,hB⟩:=hrel;have HZ:Hid (tsTo Ts k=0):=hz;have HB:Hid (Below w1.heap.size w1 wr):=hB;have HBw:Hid (Below w.heap.size w wr):=HB1.out.trans (hB.mono HB1.out.size);clear hz b0 b1 b2 b3;by_cases hlt:k<n3
    ·obtain⟨g,o,hao,hc,_⟩:=HTA.out (by omega);subst hao;obtain⟨a4,n4,c4,q0,hs⟩:=(hc.later hB) k (by rw[HTN.out];exact hlt);have HS4:Hid (SR wr (.slice a4 n4 c4) (Ts.getD k [])):=by
      show SR _ _ _;rw[getT (by rw[HTN.out];exact hlt)];exact hs
     clear hs hc hB
     go_wp2_with fail
     refine (table_any _ (Ts.getD k []) _ HS4.out).mono ?_;rintro e w2 ⟨rfl,hb2⟩;obtain⟨R,hR⟩:∃R,R=tbN (Ts.getD k []):=⟨_,rfl⟩;have HR:Hid (tsTo Ts (k+1)=R):=by
      show _=_;rw[tsTo,if_pos HZ.out,hR]
     rw[←hR];have HB3:Hid (Below w1.heap.size w1 w2):=HB.out.trans (hb2.mono HB.out.size);have HBw3:Hid (Below w.heap.size w w2):=HBw.out.trans (hb2.mono HBw.out.size);clear hR hb2 q0;by_cases hN:R=0
     ·subst hN;rw[no_ok rfl];go_wp2;go_roundw
      case rel=>exact⟨k+1,by omega,by go_num,HR.out,HB3.out⟩
      case measure=>simp[intOf];omega
     rw[no_ne hN];have HCR:Hid (C=R):=by
      show _=_;rw[HC2.out,ts_le (k:=k+1) (by rw[HR.out];exact hN) (by omega),HR.out]
     have HNN:Hid (R≠0):=hN;clear hN;go_wp2;go_ret;exact⟨by rw[HCR.out,no_ne HNN.out];rfl,HBw3.out⟩
    obtain rfl:k=n3:=by omega
    have HCR:Hid (C=0):=by
     show _=_;rw[HC2.out,HZ.out]
    clear hB;go_wp2;go_ret;exact⟨by rw[HCR.out];rfl,HBw.out⟩
  have HC2:Hid (C=3):=by
   show _=_;rw[HC.out,ntN,if_pos HT.out.symm,if_neg (by rw[HTN.out];exact hS)]
  have e1:((n3:Int) != S)=true:=by simpa using hS
  clear hS HC;go_wp2;go_ret;exact⟨by rw[HC2.out];rfl,HB1.out⟩
 rw[no_ne h0];have HC2:Hid (C=T):=by
  show _=_;rw[HC.out,ntN,←HT.out,if_neg h0]
 have HN0:Hid (T≠0):=h0;clear h0;go_wp2;go_ret;exact⟨by rw[HC2.out,no_ne HN0.out];rfl,HB1.out⟩
end
section
open Go.ChangeShapes Go.WideShapes Go.ChangeAt Go.RowKit Go.Joins
def wisE:Enc (Wi) where
 c:=fun x=>[.int i64 x.k,.string x.f,.string x.t,.int i64 x.v]
 n:=4
 len:=fun _=>rfl
 pos:=by decide
 one:=by
  intro x u hu;simp at hu
  rcases hu with rfl | rfl | rfl | rfl <;> rfl
theorem wis_cells {w:World}{g o:Nat}{x0:Int}{x1 x2:ByteArray}{x3:Int}(h:VAt w g o (wisE.c ⟨x0,x1,x2,x3⟩)):w.cell? ⟨g,o,none⟩=some (.int i64 x0)∧w.cell? ⟨g,o+1,none⟩=some (.string x1)∧w.cell? ⟨g,o+2,none⟩=some (.string x2)∧w.cell? ⟨g,o+3,none⟩=some (.int i64 x3):=
 ⟨h 0 _ rfl,h 1 _ rfl,h 2 _ rfl,h 3 _ rfl⟩
theorem wis_at {w:World}{g o:Nat}{L:List (Wi)}(h:GAt wisE w g o L){n k:Nat}(hn:L.length=n)(hk:k<n):
 ∃(x0:Int) (x1:ByteArray) (x2:ByteArray) (x3:Int) (hl:k<L.length),L[k]=⟨x0,x1,x2,x3⟩∧w.cell? ⟨g,o+k*4,none⟩=some (.int i64 x0)∧w.cell? ⟨g,o+k*4+1,none⟩=some (.string x1)∧w.cell? ⟨g,o+k*4+2,none⟩=some (.string x2)∧w.cell? ⟨g,o+k*4+3,none⟩=some (.int i64 x3):=
 have hl:k<L.length:=by omega
 ⟨_,_,_,_,hl,rfl,wis_cells (h k hl)⟩
theorem wis_new (w:World)(x0:Int)(x1 x2:ByteArray)(x3:Int)(t:TypeId):VAt (w.alloc (.cells #[.int i64 x0,.string x1,.string x2,.int i64 x3] t)) w.heap.size 0 (wisE.c ⟨x0,x1,x2,x3⟩):=vat_new w [.int i64 x0,.string x1,.string x2,.int i64 x3] t
def wisB (a b:Wi):Bool:=(a.k==b.k)&&((a.f==b.f)&&((a.t==b.t)&&((a.v==b.v))))
theorem wis_ways (x0:Int)(x1 x2:ByteArray)(x3 y0:Int)(y1 y2:ByteArray)(y3:Int):
 ((x0==y0)=false∧wisB ⟨x0,x1,x2,x3⟩ ⟨y0,y1,y2,y3⟩=false) ∨
 ((x0==y0)=true∧(x1.toList==y1.toList)=false∧wisB ⟨x0,x1,x2,x3⟩ ⟨y0,y1,y2,y3⟩=false) ∨
 ((x0==y0)=true∧(x1.toList==y1.toList)=true∧(x2.toList==y2.toList)=false∧wisB ⟨x0,x1,x2,x3⟩ ⟨y0,y1,y2,y3⟩=false) ∨
 ((x0==y0)=true∧(x1.toList==y1.toList)=true∧(x2.toList==y2.toList)=true∧(x3==y3)=false∧wisB ⟨x0,x1,x2,x3⟩ ⟨y0,y1,y2,y3⟩=false) ∨
 ((x0==y0)=true∧(x1.toList==y1.toList)=true∧(x2.toList==y2.toList)=true∧(x3==y3)=true∧wisB ⟨x0,x1,x2,x3⟩ ⟨y0,y1,y2,y3⟩=true):=by
 have e:wisB ⟨x0,x1,x2,x3⟩ ⟨y0,y1,y2,y3⟩=((x0==y0)&&((x1.toList==y1.toList)&&((x2.toList==y2.toList)&&((x3==y3))))):=by simp only[wisB,beq_toListBytes]
 rw[e];cases h0:(x0==y0)
 ·simp
 skip;cases h1:(x1.toList==y1.toList)
 ·simp
 skip;cases h2:(x2.toList==y2.toList)
 ·simp
 skip;cases h3:(x3==y3)
 ·simp
 skip;simp
theorem wis_eq (x0:Int)(x1 x2:ByteArray)(x3 y0:Int)(y1 y2:ByteArray)(y3:Int)(w:World):(Op.equal 50 (.agg #[.int i64 x0,.string x1,.string x2,.int i64 x3]) (.agg #[.int i64 y0,.string y1,.string y2,.int i64 y3])).run prog w=.ok (wisB ⟨x0,x1,x2,x3⟩ ⟨y0,y1,y2,y3⟩) w:=by
 unfold Op.equal Op.maxDepth;rw[run_equalIn_struct w 9999 _ _ _ (by kernel_rfl) (by kernel_rfl)]
 rcases wis_ways x0 x1 x2 x3 y0 y1 y2 y3 with ⟨e0,e⟩ | ⟨e0,e1,e⟩ | ⟨e0,e1,e2,e⟩ | ⟨e0,e1,e2,e3,e⟩ | ⟨e0,e1,e2,e3,e⟩
 all_goals
  rw[e];go_simp
theorem wis_info:(Tryz.prog.info? 50).map (fun i=>(i.zero,i.size,i.bytes))=some (some (.agg #[.int i64 0,.string ByteArray.empty,.string ByteArray.empty,.int i64 0]),4,48):=by kernel_rfl
theorem wis_zero:(Value.agg #[.int i64 0,.string ByteArray.empty,.string ByteArray.empty,.int i64 0]).cells.size=4:=by simp[Value.cells]
theorem wis_open {H:Type}{enc:TypeId×Value→H}{W:World}{n:Nat}{cs:List Value}{x:DataW H×List MemPlace}
 (h:DataW.trod enc prog W 0 (fun _=>true) true n 50 cs=some x):∃y,cs=wisE.c y:=by
 obtain⟨xs,k,_,_,hl,hlen,hf⟩:=DataW.trod_struct underlying50 h;have hC:Tryz.prog.cellsOf 50=4:=by kernel_rfl
 have hT0:Tryz.prog.cellsOf 3=1:=by kernel_rfl
 have hT1:Tryz.prog.cellsOf 9=1:=by kernel_rfl
 rw[hC] at hl
 match cs,hl with
 | [c0,c1,c2,c3],_ =>
   match xs,hlen with
   | [z0,z1,z2,z3],_ =>
     have g0:=hf 0 _ rfl;have g1:=hf 1 _ rfl;have g2:=hf 2 _ rfl;have g3:=hf 3 _ rfl;simp[hT0,hT1] at g0 g1 g2 g3;obtain⟨v0,e0,_,_⟩:=DataW.trod_int underlying3 g0;obtain⟨v1,e1,_,_⟩:=DataW.trod_string underlying9 g1;obtain⟨v2,e2,_,_⟩:=DataW.trod_string underlying9 g2;obtain⟨v3,e3,_,_⟩:=DataW.trod_int underlying3 g3;simp[] at e0 e1 e2 e3;refine⟨⟨v0,v1,v2,v3⟩,?_⟩;simp[wisE,e0,e1,e2,e3]
theorem wiss_of {H:Type}{enc:TypeId×Value→H}{W:World}{base:Nat}{v:Value}{d:DataW H}{p:List MemPlace}
 (hv:Value.okWide prog W .any base 29 v) (h:DataW.Trod enc prog W 0 (fun _=>true) true 29 v d p):∃L,GS wisE W v L:=
 gs_of (E:=wisE) 29 50 underlying29 (by kernel_rfl) ⟨0,ByteArray.empty,ByteArray.empty,0⟩ (fun _ _ _ h=>wis_open h) hv h
end
section
open Go.RowKit
theorem quiet_val {P:Program}{o:Oper}{a:Act}{C:World→Prop}{K:Act→Prop}{v:Value}
 (hy:∀w,C w→(execOp a.eval o).run P w=.ok (.value v) w) (h:K (a.put o.dst v)):o.quiet P a C K:=
 ⟨v,fun w hC=>by unfold Oper.quietAt;rw[hy w hC];exact⟨rfl,rfl⟩,h⟩
theorem qv {P:Program}{o:Oper}{a:Act}{C:World→Prop}{K:Act→Prop}(v:Value)(hy:∀w,C w→(execOp a.eval o).run P w=.ok (.value v) w)(h:K (a.put o.dst v)):o.quiet P a C K:=quiet_val hy h
theorem quiet_call {P:Program}{o:Oper}{a:Act}{C:World→Prop}{K:Act→Prop}{v:Value}{f:FuncId}{args:Array Value}
 (he:∀w,(execOp a.eval o).run P w=.ok (.enter f args) w) (hc:∀w,C w→Calls P f args w fun e w''=>e=.returned v∧C w'') (h:K (a.put o.dst v)):o.quiet P a C K:=
 ⟨v,fun w hC=>by unfold Oper.quietAt;rw[he w];exact⟨rfl,hc w hC⟩,h⟩
theorem exec_bin {P:Program}{o:Oper}{a:Act}{w:World}{op:BinOp}{t t2:TypeId}{x y:Operand}{v:Value}(ho:o.op=.binOp op t x y t2)(hg:(eqGuard op t x y (a.eval x) (a.eval y)).run P w=.ok () w)
 (h:(binOp op t (a.eval x) (a.eval y)).run P w=.ok v w):(execOp a.eval o).run P w=.ok (.value v) w:=by
 simp[execOp,ho,hg,h,Result.andThen]
theorem run_neq_of {P:Program}{w:World}{t:TypeId}{x y:Array Value}{b:Bool}(h:(Op.equal t (.agg x) (.agg y)).run P w=.ok b w):(binOp .neq t (.agg x) (.agg y)).run P w=.ok (.bool (!b)) w:=by
 simp[binOp,h]
def hstAsks (w:World)(f:FuncId)(c:Value)(P:ByteArray×(Int×Int)→Bool):Prop:=
 ∀(x0:ByteArray) (x1:Int) (x2:Int) (W:World),Below w.heap.size w W→Calls prog f #[.agg #[.string x0,.int i64 x1,.int i64 x2],c] W fun e w'=>e=.returned (.bool (P (x0,(x1,x2))))∧Below W.heap.size W w'
theorem hstAsks.later {w w':World}{f:FuncId}{c:Value}{P:ByteArray×(Int×Int)→Bool}(h:hstAsks w f c P)(hb:Below w.heap.size w w'):hstAsks w' f c P:=
 fun x0 x1 x2 W hW=>h x0 x1 x2 W (hb.trans (hW.mono hb.size))
theorem hst_idxF (ao:AdQ)(n cap:Nat)(f:FuncId)(c:Value)(P:ByteArray×(Int×Int)→Bool)(L:HoQ)(w:World)(hn:L.length=n)(hn2:n≤maxLen)(ha:0<n→∃g o,ao=some ⟨g,o,none⟩∧GAt hstE w g o L∧cap≤maxLen)(he:∀args w,(callFunc f args).run prog w=.ok (.enter f args) w)(hf:hstAsks w f c P):
 Calls prog 134 #[.slice ao n cap,.func (Fn.func f) #[] #[c]] w fun e w'=>e=.returned (.int i64 (ixG P L))∧Below w.heap.size w w':=by
 have HN:Hid (L.length=n):=hn;have HF:Hid (hstAsks w f c P):=hf;have HA:Hid (0<n→∃g o,ao=some ⟨g,o,none⟩∧GAt hstE w g o L∧cap≤maxLen):=ha;unfold maxLen at hn2;clear hn hf ha;go_enter func134,ntmps134;go_wp2
 go_loopw [8] (fun i wr=>∃k:Nat,k≤n∧i=.int i64 k∧(L.take k).any P=false∧Below w.heap.size w wr)
  (fun i _=>n-(intOf i).toNat)
 case atStart=>exact⟨0,by omega,rfl,by simp,bRQ _ _⟩
 case round =>
  obtain⟨k,hk,rfl,hno,hB⟩:=hrel;have HB:Hid (Below w.heap.size w wr):=hB;have HNO:Hid ((L.take k).any P=false):=hno;clear hno;by_cases hlt:k<n
  ·obtain⟨g,o,hao,hc,_⟩:=HA.out (by omega);subst hao;obtain⟨x0,x1,x2,hkl,hL,q0,q1,q2⟩:=hst_at (hc.later hB) HN.out hlt;have HL:Hid (L[k]=(x0,(x1,x2))):=hL;clear hL hB;cases ho:P (x0,(x1,x2))
   ·go_wp2_with fail
    refine (HF.out x0 x1 x2 _ HB.out).mono ?_;rintro e w1 ⟨rfl,hb1⟩;rw[ho];have HB1:=HB.out.trans (hb1.mono HB.out.size);clear hb1;go_wp2;go_roundw
    case rel=>exact⟨k+1,by omega,by go_num,any_nextG hkl HNO.out (by rw[HL.out];exact ho),HB1⟩
    case measure=>simp[intOf];omega
   go_wp2_with fail
   refine (HF.out x0 x1 x2 _ HB.out).mono ?_;rintro e w1 ⟨rfl,hb1⟩;rw[ho];go_wp2;go_ret;exact⟨by rw[ixG_hit hkl HNO.out (by rw[HL.out];exact ho)];rfl,HB.out.trans (hb1.mono HB.out.size)⟩
  obtain rfl:k=n:=by omega
  go_wp2;go_ret;exact⟨by have:=HNO.out;rw[←HN.out,List.take_length] at this;rw[ixG_no this];rfl,HB.out⟩
theorem hst_hasF (ao:AdQ)(n cap:Nat)(f:FuncId)(c:Value)(P:ByteArray×(Int×Int)→Bool)(L:HoQ)(w:World)(hn:L.length=n)(hn2:n≤maxLen)(ha:0<n→∃g o,ao=some ⟨g,o,none⟩∧GAt hstE w g o L∧cap≤maxLen)(he:∀args w,(callFunc f args).run prog w=.ok (.enter f args) w)(hf:hstAsks w f c P):
 Calls prog 120 #[.slice ao n cap,.func (Fn.func f) #[] #[c]] w fun e w'=>e=.returned (.bool (L.any P))∧Below w.heap.size w w':=by
 rw[←ixG_any];obtain⟨x,hx⟩:∃x,x=ixG P L:=⟨_,rfl⟩;have HX:Hid (x=ixG P L):=hx;rw[←hx];clear hx;go_enter func120,ntmps120
 go_wp2_with fail
 refine (hst_idxF ao n cap f c P L _ hn hn2 ha he hf).mono ?_;rintro e w1 ⟨rfl,hb1⟩;rw[←HX.out];go_wp2;go_ret;exact⟨rfl,hb1⟩
theorem emp_lst (s:ByteArray):s.toList.isEmpty=(s==ByteArray.empty):=by
 have e:ByteArray.empty.toList=[]:=by rw[Lib.toList_data];rfl
 rw[beq_toListBytes,e];cases h:s.toList with
 | nil=>rfl
 | cons a l=>rfl
def WiBox (W:World)(g:Nat)(k:Int)(f t:ByteArray)(v:Int):Prop:=W.cell? ⟨g,0,none⟩=some (.int i64 k)∧W.cell? ⟨g,1,none⟩=some (.string f)∧W.cell? ⟨g,2,none⟩=some (.string t)∧W.cell? ⟨g,3,none⟩=some (.int i64 v)
theorem wibox_new (w:World)(k:Int)(f t:ByteArray)(v:Int)(T:TypeId):WiBox (w.alloc (.cells #[.int i64 k,.string f,.string t,.int i64 v] T)) w.heap.size k f t v:=by
 refine⟨?_,?_,?_,?_⟩ <;> simp
theorem WiBox.later {W W':World}{g:Nat}{k:Int}{f t:ByteArray}{v:Int}(h:WiBox W g k f t v)(hb:Below W.heap.size W W'):WiBox W' g k f t v:=
 ⟨cell_later hb h.1,cell_later hb h.2.1,cell_later hb h.2.2.1,cell_later hb h.2.2.2⟩
theorem WiBox.lt {W:World}{g:Nat}{k:Int}{f t:ByteArray}{v:Int}(h:WiBox W g k f t v):g<W.heap.size:=bLQ _ _ h.1
theorem isWhat_any (k:Int)(w:World):
 Calls prog 73 #[.int i64 k] w fun e w'=>e=.returned (.bool (wkB k))∧Below w.heap.size w w':=by
 by_cases h1:1≤k
 ·by_cases h2:k≤4
  ·have e:wkB k=true:=by simp[wkB,h1,h2]
   rw[e];clear e;go_enter func73,ntmps73;go_wp2;go_ret;exact⟨rfl,bRQ _ _⟩
  have e:wkB k=false:=by simp[wkB,h2]
  rw[e];clear e;go_enter func73,ntmps73;go_wp2;go_ret;exact⟨rfl,bRQ _ _⟩
 have e:wkB k=false:=by simp[wkB,h1]
 rw[e];clear e;go_enter func73,ntmps73;go_wp2;go_ret;exact⟨rfl,bRQ _ _⟩
theorem isNameless_any (k:Int)(f t:ByteArray)(v:Int)(w:World):
 Calls prog 76 #[.agg #[.int i64 k,.string f,.string t,.int i64 v]] w fun e w'=>e=.returned (.bool (nlB ⟨k,f,t,v⟩))∧Below w.heap.size w w':=by
 have HB0:Hid (Below w.heap.size w (w.alloc (.cells #[.int i64 k,Value.string f,Value.string t,.int i64 v] 50))):=(bRQ _ _).alloc (nLQ _) _;cases hf:(f==ByteArray.empty)
 ·have e:nlB ⟨k,f,t,v⟩=false:=by simp[nlB,hf]
  rw[e];rw[←emp_lst] at hf;clear e;go_enter func76,ntmps76;go_wp2;go_ret;exact⟨rfl,HB0.out⟩
 have e:nlB ⟨k,f,t,v⟩=t.toList.isEmpty:=by simp[nlB,hf,emp_lst]
 rw[e];rw[←emp_lst] at hf;clear e;cases ht:t.toList.isEmpty
 ·go_enter func76,ntmps76;go_wp2;go_ret;exact⟨rfl,HB0.out⟩
 go_enter func76,ntmps76;go_wp2;go_ret;exact⟨rfl,HB0.out⟩
theorem isVia_any (k:Int)(f t:ByteArray)(v S:Int)(w:World):
 Calls prog 74 #[.agg #[.int i64 k,.string f,.string t,.int i64 v],.int i64 S] w fun e w'=>e=.returned (.bool (viB ⟨k,f,t,v⟩ S))∧Below w.heap.size w w':=by
 have HB0:Hid (Below w.heap.size w (w.alloc (.cells #[.int i64 k,Value.string f,Value.string t,.int i64 v] 50))):=(bRQ _ _).alloc (nLQ _) _;by_cases h:k=3
 ·subst h;rw[show viB ⟨3,f,t,v⟩ S=swB S v from rfl];go_enter func74,ntmps74
  go_wp2_with fail
  refine (isSwitch_any S v _).mono ?_;rintro e w1 ⟨rfl,hb1⟩;go_wp2;go_ret;exact⟨rfl,HB0.out.trans (hb1.mono HB0.out.size)⟩
 have e:viB ⟨k,f,t,v⟩ S=true:=by simp[viB,h]
 rw[e];clear e;go_enter func74,ntmps74;go_wp2;go_ret;exact⟨rfl,HB0.out⟩
theorem isHost1_any (n:ByteArray)(x0 x1:Int)(B:Nat)(m:ByteArray)(w:World)(h0:w.cell? ⟨B,0,none⟩=some (.string m)):
 Calls prog 121 #[.agg #[.string n,.int i64 x0,.int i64 x1],.pointer (some ⟨B,0,none⟩)] w fun e w'=>e=.returned (.bool (n==m))∧Below w.heap.size w w':=by
 have hlt:B<w.heap.size:=bLQ _ _ h0;have HB0:Hid (Below w.heap.size w (w.alloc (.cells #[Value.string n,.int i64 x0,.int i64 x1] 59))):=(bRQ _ _).alloc (nLQ _) _;rw[beq_toListBytes];go_enter func121,ntmps121;go_wp2;go_ret;exact⟨rfl,HB0.out⟩
theorem isHost1_asks (B:Nat)(m:ByteArray)(w:World)(h0:w.cell? ⟨B,0,none⟩=some (.string m)):hstAsks w 121 (.pointer (some ⟨B,0,none⟩)) (fun h=>h.1==m):=
 fun n x0 x1 W hW=>isHost1_any n x0 x1 B m W (cell_later hW h0)
theorem isHost_any (S:Int)(v1:Value)(ao2:AdQ)(n2 cap2:Nat)(Hs:HoQ)(m:ByteArray)(w:World)(hv1:v1.oneCell'=true)(hH:GS hstE w (.slice ao2 n2 cap2) Hs):
 Calls prog 97 #[.agg #[.int i64 S,v1,.slice ao2 n2 cap2],.string m] w fun e w'=>e=.returned (.bool (hoB Hs m))∧Below w.heap.size w w':=by
 have e1:(w.alloc (.cells #[.int i64 S,v1,.slice ao2 n2 cap2] 25)).heap.size=w.heap.size+1:=by simp
 have hb1:Below w.heap.size w (w.alloc (.cells #[.int i64 S,v1,.slice ao2 n2 cap2] 25)):=(bRQ _ _).alloc (nLQ _) _;have ht:=tbox_new w S v1 (.slice ao2 n2 cap2) 25;obtain⟨w0,hw0⟩:∃W,W=w.alloc (.cells #[.int i64 S,v1,.slice ao2 n2 cap2] 25):=⟨_,rfl⟩;rw[←hw0] at e1 hb1 ht;have hb2:Below w0.heap.size w0 (w0.alloc (.cells #[.string m] 9)):=(bRQ _ _).alloc (nLQ _) _;have hm:=vat_new w0 [.string m] 9;have ht2:=ht.later hb2;have hB2:=hb1.trans (hb2.mono hb1.size);obtain⟨w2,hw2⟩:∃W,W=w0.alloc (.cells #[.string m] 9):=⟨_,rfl⟩;have hm2:VAt w2 w0.heap.size 0 [.string m]:=by rw[hw2];exact hm
 rw[←hw2] at ht2 hB2;rw[e1] at hm2;have m0:w2.cell? ⟨w.heap.size+1,0,none⟩=some (.string m):=hm2 0 _ rfl;obtain⟨b0,b1,b2⟩:=ht2;have HW:Hid ((w.alloc (.cells #[.int i64 S,v1,.slice ao2 n2 cap2] 25)).alloc (.cells #[.string m] 9)=w2):=by
  show _=_;rw[hw2,hw0]
 have HB2:Hid (Below w.heap.size w w2):=hB2;obtain⟨_,_,_,eH,hHn,hHm,_,hHa⟩:=hH.form;cases eH;have HHN:Hid (Hs.length=n2):=hHn;have HHM:Hid (n2≤maxLen):=hHm;have HHA:Hid (0<n2→∃g o,ao2=some ⟨g,o,none⟩∧GAt hstE w2 g o Hs∧cap2≤maxLen):=fun h=>by
  obtain⟨g,o,k1,k2,k3⟩:=hHa h;exact⟨g,o,k1,k2.later hB2,k3⟩
 have HM0:Hid (w2.cell? ⟨w.heap.size+1,0,none⟩=some (.string m)):=m0;clear hb1 ht hw0 hb2 hm hw2 hm2 hB2 hHn hHm hHa hH e1 m0;go_enter func97,ntmps97;go_upto_region 1 with fail;rw[HW.out];clear HW
 go_wp2_with fail
 refine (hst_hasF ao2 n2 cap2 _ _ (fun h=>h.1==m) Hs _ HHN.out HHM.out HHA.out (enters_of func121 (by kernel_rfl) rfl) (isHost1_asks _ m _ HM0.out)).mono ?_;rintro e w3 ⟨rfl,hb3⟩;rw[show (Hs.any fun h=>h.1==m)=hoB Hs m from rfl];go_wp2;go_ret;exact⟨rfl,HB2.out.trans (hb3.mono HB2.out.size)⟩
structure CBox (w W:World)(S:Int)(v1 v2:Value)(k:Int)(f t:ByteArray)(v:Int):Prop where
 below:Below w.heap.size w W
 b:TBox W w.heap.size S v1 v2
 x:WiBox W (w.heap.size+1) k f t v
theorem cbox_new (w:World)(S:Int)(v1 v2:Value)(k:Int)(f t:ByteArray)(v:Int):CBox w ((w.alloc (.cells #[.int i64 S,v1,v2] 25)).alloc (.cells #[.int i64 k,.string f,.string t,.int i64 v] 50)) S v1 v2 k f t v:=by
 have e1:(w.alloc (.cells #[.int i64 S,v1,v2] 25)).heap.size=w.heap.size+1:=by simp
 have hb:∀(W:World) (o:Obj),Below W.heap.size W (W.alloc o):=fun W o=>(bRQ _ _).alloc (nLQ _) _
 have hn:=(tbox_new w S v1 v2 25).later (hb _ (Obj.cells #[.int i64 k,.string f,.string t,.int i64 v] 50));have hB:=((Below.refl w.heap.size w).alloc (nLQ _) (Obj.cells #[.int i64 S,v1,v2] 25)).alloc (by rw[e1];omega) (Obj.cells #[.int i64 k,.string f,.string t,.int i64 v] 50)
 generalize w.alloc (.cells #[.int i64 S,v1,v2] 25)=X at e1 hn hB
 have hr:=wibox_new X k f t v 50;rw[e1] at hr;exact⟨hB,hn,hr⟩
theorem CBox.later {w W W':World}{S:Int}{v1 v2:Value}{k:Int}{f t:ByteArray}{v:Int}(h:CBox w W S v1 v2 k f t v)(hb:Below W.heap.size W W'):CBox w W' S v1 v2 k f t v:=
 ⟨h.below.trans (hb.mono h.below.size),h.b.later hb,h.x.later hb⟩
theorem checkOne_any (S:Int)(ao:AdQ)(n cap:Nat)(ao2:AdQ)(n2 cap2:Nat)(Hs:HoQ)(k:Int)(f t:ByteArray)(v:Int)(w:World)(hH:GS hstE w (.slice ao2 n2 cap2) Hs):
 Calls prog 67 #[.agg #[.int i64 S,.slice ao n cap,.slice ao2 n2 cap2],.agg #[.int i64 k,.string f,.string t,.int i64 v]] w fun e w'=>e=.returned (noV (woN S Hs ⟨k,f,t,v⟩))∧Below w.heap.size w w':=by
 have hX:=cbox_new w S (.slice ao n cap) (.slice ao2 n2 cap2) k f t v;obtain⟨w0,hw0⟩:∃W,(w.alloc (.cells #[.int i64 S,.slice ao n cap,.slice ao2 n2 cap2] 25)).alloc (.cells #[.int i64 k,.string f,.string t,.int i64 v] 50)=W:=⟨_,rfl⟩;rw[hw0] at hX;have HX:Hid (CBox w w0 S (.slice ao n cap) (.slice ao2 n2 cap2) k f t v):=hX;have HW0:Hid ((w.alloc (.cells #[.int i64 S,.slice ao n cap,.slice ao2 n2 cap2] 25)).alloc (.cells #[.int i64 k,.string f,.string t,.int i64 v] 50)=w0):=hw0;have HH:Hid (∀W,Below w.heap.size w W→GS hstE W (.slice ao2 n2 cap2) Hs):=fun W hb=>hH.later hb
 obtain⟨R,hR⟩:∃R,R=woN S Hs ⟨k,f,t,v⟩:=⟨_,rfl⟩;rw[←hR];obtain⟨Q,hQ⟩:∃q,q=(!wkB k || (!viB ⟨k,f,t,v⟩ S || veB ⟨k,f,t,v⟩)):=⟨_,rfl⟩;have HR:Hid (R=if Q then 1 else if k=4 then (if nlB ⟨k,f,t,v⟩ then 0 else 3) else if hoB Hs f&&hoB Hs t then 0 else 5):=by
  show _=_;rw[hR,hQ];rfl
 have HQ:Hid ((!wkB k || (!viB ⟨k,f,t,v⟩ S || veB ⟨k,f,t,v⟩))=Q):=hQ.symm;clear hX hw0 hH hR hQ;go_enter func67,ntmps67;go_upto_region 1 with fail;rw[HW0.out];obtain⟨_,⟨b0,b1,b2⟩,x0,x1,x2,x3⟩:=HX.out;clear HW0
 go_cut [25] from 5 to 26 (fun c w'=>c=.bool Q∧Below w0.heap.size w0 w')
 case first =>
  go_wp2_with fail
  refine (isWhat_any k _).mono ?_;rintro e w1 ⟨rfl,hb1⟩;obtain⟨WK,hWK⟩:∃q,q=wkB k:=⟨_,rfl⟩;have HQ1:Hid ((!WK || (!viB ⟨k,f,t,v⟩ S || veB ⟨k,f,t,v⟩))=Q):=by
   show _=_;rw[hWK];exact HQ.out
  rw[←hWK];have HB1:Hid (Below w0.heap.size w0 w1):=hb1;have HX1:Hid (CBox w w1 S (.slice ao n cap) (.slice ao2 n2 cap2) k f t v):=HX.out.later hb1;clear hWK hb1 HQ b0 b1 b2 x0 x1 x2 x3;obtain⟨_,⟨b0,b1,b2⟩,x0,x1,x2,x3⟩:=HX1.out;cases WK with
  | false =>
    have hq:=HQ1.out;simp only[Bool.not_false,Bool.true_or] at hq;subst hq
    go_wp2_with fail
    go_meet
    exact⟨rfl,HB1.out⟩
  | true =>
    go_wp2_with fail
    refine (isVia_any k f t v S _).mono ?_;rintro e w2 ⟨rfl,hb2⟩;obtain⟨VI,hVI⟩:∃q,q=viB ⟨k,f,t,v⟩ S:=⟨_,rfl⟩;have HQ2:Hid ((!VI || veB ⟨k,f,t,v⟩)=Q):=by
     show _=_;rw[hVI];have:=HQ1.out;simpa using this
    rw[←hVI];have HB2:Hid (Below w0.heap.size w0 w2):=HB1.out.trans (hb2.mono HB1.out.size);have HX2:Hid (CBox w w2 S (.slice ao n cap) (.slice ao2 n2 cap2) k f t v):=HX1.out.later hb2;clear hVI hb2 HQ1 b0 b1 b2 x0 x1 x2 x3;obtain⟨_,⟨b0,b1,b2⟩,x0,x1,x2,x3⟩:=HX2.out;cases VI with
    | false =>
      have hq:=HQ2.out;simp only[Bool.not_false,Bool.true_or] at hq;subst hq
      go_wp2_with fail
      go_meet
      exact⟨rfl,HB2.out⟩
    | true =>
      by_cases k3:k=3
      ·subst k3;have hq:false=Q:=HQ2.out;subst hq
       go_wp2_with fail
       go_meet
       exact⟨rfl,HB2.out⟩
      have hq:(k != 3&&v != 0)=Q:=HQ2.out;subst hq
      go_wp2_with fail
      go_meet
      exact⟨rfl,HB2.out⟩
 case rest =>
 obtain⟨rfl,hbc⟩:=hcut;have HXc:Hid (CBox w wc S (.slice ao n cap) (.slice ao2 n2 cap2) k f t v):=HX.out.later hbc;clear hbc HX b0 b1 b2 x0 x1 x2 x3;obtain⟨hBc,⟨b0,b1,b2⟩,x0,x1,x2,x3⟩:=HXc.out;have HBc:Hid (Below w.heap.size w wc):=hBc;clear hBc;cases Q with
 | true =>
   have HR1:Hid (R=1):=by
    show _=_;rw[HR.out,if_pos rfl]
   go_wp2;go_ret;exact⟨by rw[HR1.out];rfl,HBc.out⟩
 | false =>
   by_cases k4:k=4
   ·subst k4;obtain⟨NL,hNL⟩:∃q,q=nlB ⟨4,f,t,v⟩:=⟨_,rfl⟩;have HR1:Hid (R=if NL then 0 else 3):=by
     show _=_;rw[HR.out,if_neg (by decide),if_pos rfl,hNL]
    have HNL:Hid (nlB ⟨4,f,t,v⟩=NL):=hNL.symm;clear hNL HR
    go_wp2_with fail
    refine (isNameless_any 4 f t v _).mono ?_;rintro e w2 ⟨rfl,hb2⟩;rw[HNL.out];have HB2:Hid (Below w.heap.size w w2):=HBc.out.trans (hb2.mono HBc.out.size);clear hb2;cases NL with
    | false =>
      go_wp2;go_ret;exact⟨by rw[HR1.out];rfl,HB2.out⟩
    | true =>
      go_wp2;go_ret;exact⟨by rw[HR1.out];rfl,HB2.out⟩
   obtain⟨HF,hHF⟩:∃q,q=hoB Hs f:=⟨_,rfl⟩;obtain⟨HT,hHT⟩:∃q,q=hoB Hs t:=⟨_,rfl⟩;have HR1:Hid (R=if HF&&HT then 0 else 5):=by
    show _=_;rw[HR.out,if_neg (by decide),if_neg k4,hHF,hHT]
   have HHF:Hid (hoB Hs f=HF):=hHF.symm;have HHT:Hid (hoB Hs t=HT):=hHT.symm;clear hHF hHT HR
   go_wp2_with fail
   refine (isHost_any S (.slice ao n cap) ao2 n2 cap2 Hs f _ rfl (HH.out _ HBc.out)).mono ?_;rintro e w2 ⟨rfl,hb2⟩;rw[HHF.out];have HX2:Hid (CBox w w2 S (.slice ao n cap) (.slice ao2 n2 cap2) k f t v):=HXc.out.later hb2;clear hb2 HHF HBc b0 b1 b2 x0 x1 x2 x3;obtain⟨hB2,⟨b0,b1,b2⟩,x0,x1,x2,x3⟩:=HX2.out;have HB2:Hid (Below w.heap.size w w2):=hB2;clear hB2;cases HF with
   | false =>
     go_wp2;go_ret;exact⟨by rw[HR1.out];rfl,HB2.out⟩
   | true =>
     go_wp2_with fail
     refine (isHost_any S (.slice ao n cap) ao2 n2 cap2 Hs t _ rfl (HH.out _ HB2.out)).mono ?_;rintro e w3 ⟨rfl,hb3⟩;rw[HHT.out];have HB3:Hid (Below w.heap.size w w3):=HB2.out.trans (hb3.mono HB2.out.size);clear hb3;cases HT with
     | false =>
       go_wp2;go_ret;exact⟨by rw[HR1.out];rfl,HB3.out⟩
     | true =>
       go_wp2;go_ret;exact⟨by rw[HR1.out];rfl,HB3.out⟩
theorem wcheck_any (S:Int)(ao:AdQ)(n cap:Nat)(ao2:AdQ)(n2 cap2:Nat)(a4:AdQ)(n4 c4:Nat)(Ls:LkQ)(Hs:HoQ)(l:List Wi)(w:World)
 (hL:GS lnkE w (.slice ao n cap) Ls) (hH:GS hstE w (.slice ao2 n2 cap2) Hs) (hl:GS wisE w (.slice a4 n4 c4) l):
 Calls prog 41 #[.agg #[.int i64 S,.slice ao n cap,.slice ao2 n2 cap2],.slice a4 n4 c4] w fun e w'=>e=.returned (noV (wsN S Ls Hs l))∧Below w.heap.size w w':=by
 have hX:=tbox_new w S (.slice ao n cap) (.slice ao2 n2 cap2) 25;have hB0:Below w.heap.size w (w.alloc (.cells #[.int i64 S,.slice ao n cap,.slice ao2 n2 cap2] 25)):=(bRQ _ _).alloc (nLQ _) _;obtain⟨w0,hw0⟩:∃W,w.alloc (.cells #[.int i64 S,.slice ao n cap,.slice ao2 n2 cap2] 25)=W:=⟨_,rfl⟩;rw[hw0] at hX hB0;have HX:Hid (TBox w0 w.heap.size S (.slice ao n cap) (.slice ao2 n2 cap2)):=hX;have HW0:Hid (w.alloc (.cells #[.int i64 S,.slice ao n cap,.slice ao2 n2 cap2] 25)=w0):=hw0;have HB0:Hid (Below w.heap.size w w0):=hB0;have HLW:Hid (∀W,Below w.heap.size w W→GS lnkE W (.slice ao n cap) Ls):=fun W hb=>hL.later hb
 have HHW:Hid (∀W,Below w.heap.size w W→GS hstE W (.slice ao2 n2 cap2) Hs):=fun W hb=>hH.later hb
 obtain⟨_,_,_,e5,hGn,hGm,_,hGa⟩:=hl.form;cases e5;have HGN:Hid (l.length=n4):=hGn;have HGA:Hid (0<n4→∃g o,a4=some ⟨g,o,none⟩∧GAt wisE w g o l∧c4≤maxLen):=hGa;obtain⟨R,hR⟩:∃R,R=wsN S Ls Hs l:=⟨_,rfl⟩;have HR:Hid (R=wsN S Ls Hs l):=hR;rw[←hR];have hn4:n4≤maxLen:=hGm;unfold maxLen at hn4;clear hX hB0 hw0 hL hH hl hGn hGm hGa hR;go_enter func41,ntmps41;go_upto_region 1 with fail;rw[HW0.out];obtain⟨b0,b1,b2⟩:=HX.out;clear HW0
 go_wp2_with fail
 refine (check_any S ao n cap ao2 n2 cap2 Ls Hs _ (HLW.out _ HB0.out) (HHW.out _ HB0.out)).mono ?_;rintro e w1 ⟨rfl,hb1⟩;obtain⟨T,hT⟩:∃T,T=tpN S Ls Hs:=⟨_,rfl⟩;have HT:Hid (T=tpN S Ls Hs):=hT;rw[←hT];have HB1:Hid (Below w.heap.size w w1):=HB0.out.trans (hb1.mono HB0.out.size);have HX1:Hid (TBox w1 w.heap.size S (.slice ao n cap) (.slice ao2 n2 cap2)):=HX.out.later hb1;clear hT hb1 b0 b1 b2 HX;by_cases h0:T=0
 ·have HR1:Hid (R=if 8<l.length then 4 else wsTo S Hs l l.length):=by
   show _=_;rw[HR.out,wsN,if_pos (HT.out.symm.trans h0)]
  subst h0;rw[no_ok rfl];by_cases h8:8<n4
  ·have HR2:Hid (R=4):=by
    show _=_;rw[HR1.out,if_pos (by rw[HGN.out];exact h8)]
   have h8':(8:Int)<(n4:Int):=by omega
   go_wp2;go_ret;exact⟨by rw[HR2.out];rfl,HB1.out⟩
  have HR2:Hid (R=wsTo S Hs l n4):=by
   show _=_;rw[HR1.out,if_neg (by rw[HGN.out];exact h8),HGN.out]
  have h8':¬(8:Int)<(n4:Int):=by omega
  clear HR HR1;go_wp2
  go_loopw [20] (fun i wr=>∃j:Nat,j≤n4∧i=.int i64 j∧wsTo S Hs l j=0∧Below w1.heap.size w1 wr) (fun i _=>n4-(intOf i).toNat)
  case atStart=>exact⟨0,by omega,rfl,rfl,bRQ _ _⟩
  case round =>
   obtain⟨j,hj,rfl,hno,hB⟩:=hrel;have HB:Hid (Below w1.heap.size w1 wr):=hB;have HBw:Hid (Below w.heap.size w wr):=HB1.out.trans (hB.mono HB1.out.size);have HNO:Hid (wsTo S Hs l j=0):=hno;have HXr:Hid (TBox wr w.heap.size S (.slice ao n cap) (.slice ao2 n2 cap2)):=HX1.out.later hB;clear hno hB;by_cases hlt:j<n4
   ·obtain⟨g,o,hao,hc,_⟩:=HGA.out (by omega);subst hao;obtain⟨y0,y1,y2,y3,hkl,hLk,q0,q1,q2,q3⟩:=wis_at (hc.later HBw.out) HGN.out hlt;obtain⟨N,hN⟩:∃q,q=woN S Hs ⟨y0,y1,y2,y3⟩:=⟨_,rfl⟩;have HN:Hid (woN S Hs ⟨y0,y1,y2,y3⟩=N):=hN.symm;have HST:Hid (wsTo S Hs l (j+1)=N):=by
     show _=_;rw[wsTo,if_pos HNO.out,getW hkl,hLk,←hN]
    have hba:Below wr.heap.size wr (wr.alloc (.cells #[.int i64 y0,Value.string y1,Value.string y2,.int i64 y3] 50)):=(bRQ _ _).alloc (nLQ _) _;have HBA:Hid (Below wr.heap.size wr (wr.alloc (.cells #[.int i64 y0,Value.string y1,Value.string y2,.int i64 y3] 50))):=hba;obtain⟨b0,b1,b2⟩:=HXr.out;have hlw:w.heap.size<wr.heap.size:=bLQ _ _ b0;clear hc hLk hN hba
    go_wp2_with fail
    refine (checkOne_any S ao n cap ao2 n2 cap2 Hs y0 y1 y2 y3 _ (HHW.out _ (HBw.out.trans (HBA.out.mono HBw.out.size)))).mono ?_;rintro e w3 ⟨rfl,hb3⟩;rw[HN.out];have HB3:Hid (Below w1.heap.size w1 w3):=(HB.out.trans (HBA.out.mono HB.out.size)).trans (hb3.mono (HB.out.trans (HBA.out.mono HB.out.size)).size);clear hb3 HBA b0 b1 b2 q0 q1 q2 q3 hlw HXr HB;by_cases hN0:N=0
    ·subst hN0;rw[no_ok rfl];go_wp2;go_roundw
     case rel=>exact⟨j+1,by omega,by go_num,HST.out,HB3.out⟩
     case measure=>simp[intOf];omega
    rw[no_ne hN0];have HR3:Hid (R=N):=by
     show _=_;rw[HR2.out,ws_le (k:=j+1) (by rw[HST.out];exact hN0) (by omega),HST.out]
    have HNN:Hid (N≠0):=hN0;clear hN0;go_wp2;go_ret;exact⟨by rw[HR3.out,no_ne HNN.out];rfl,HB1.out.trans (HB3.out.mono HB1.out.size)⟩
   obtain rfl:j=n4:=by omega
   have HR3:Hid (R=0):=by
    show _=_;rw[HR2.out,HNO.out]
   go_wp2;go_ret;exact⟨by rw[HR3.out,no_ok rfl];rfl,HBw.out⟩
 rw[no_ne h0];have HR1:Hid (R=T):=by
  show _=_;rw[HR.out,wsN,if_neg (by rw[←HT.out];exact h0),HT.out]
 have HNN:Hid (T≠0):=h0;clear h0;go_wp2;go_ret;exact⟨by rw[HR1.out,no_ne HNN.out];rfl,HB1.out⟩
end
section
open Go.ChangeShapes Go.WideShapes Go.ChangeAt Go.RowKit Go.Joins
section
variable {P:Program}{α:Type}{E:Enc α}
theorem gs_open {H:Type}{enc:TypeId×Value→H}{W:World}{fuel:Nat}{cs:List Value}{x:DataW H×List MemPlace}(ts te:TypeId)(hu:P.underlying ts=some (.slice te))(hC:P.cellsOf te=E.n)(x0:α)
 (hel:∀(n:Nat) (cs:List Value) (x:DataW H×List MemPlace),DataW.trod enc P W 0 (fun _=>true) true n te cs=some x→∃y,cs=E.c y)
 (hf2:DataW.trod enc P W 0 (fun _=>true) true fuel ts cs=some x):∃ao n cap L,cs=[.slice ao n cap]∧GS E W (.slice ao n cap) L:=by
 obtain⟨d,p⟩:=x
 rcases Go.Deep.open_slice hu hf2 with ⟨hc,hx⟩ | ⟨a,len0,cap,m,k,D,Pl,hc,_,hl,hm,hmm,hx,hall⟩
 ·exact⟨_,_,_,[],hc,.inl ⟨none,0,rfl,rfl⟩⟩
 simp only[if_true] at hmm;subst hmm
 rcases Nat.eq_zero_or_pos len0 with h0 | h0
 ·subst h0;exact⟨_,_,_,[],hc,.inl ⟨_,_,rfl,rfl⟩⟩
 have each:∀i,i<m→∃y:α,∀j,j<E.n→W.cell? (a.add (i*E.n+j))=(E.c y)[j]?:=by
  intro i hi;obtain⟨cs,h1,h2⟩:=hall i hi;rw[hC] at h1;obtain⟨_,hlen,hcell⟩:=World.cells?_some h1;obtain⟨y,rfl⟩:=hel _ _ _ h2;refine⟨y,fun j hj=>?_⟩;have:=hcell j (by omega);rw[Go.Deep.add_add] at this;exact this
 have iR:Inhabited α:=⟨x0⟩;obtain⟨R,hR⟩:=Go.Deep.choose_lt each;obtain⟨sb,so,spot⟩:=a;have hspot:spot=none:=by
  have h1:=hR 0 (by omega) 0 E.pos;have h2:(E.c (R 0))[0]?.isSome=true:=by
   rw[List.getElem?_eq_getElem (by rw[E.len];exact E.pos)];rfl
  obtain⟨u,hu2⟩:=Option.isSome_iff_exists.1 h2;rw[hu2] at h1;simpa[Addr.add] using World.cell?_spot h1
 subst hspot;have hadd:∀j,(⟨sb,so,none⟩:Addr).add j=⟨sb,so+j,none⟩:=by
  intro j;simp only[Addr.add]
  first
   | rfl
   | (split
      ·next h0=>rw[h0];rfl
      rfl)
 refine⟨_,_,_,(List.range len0).map R,hc,.inr ⟨sb,so,_,by simp,by simpa using hl,hm,fun i hi j u hu2=>?_⟩⟩;have hi2:i<len0:=by simpa using hi
 have e:((List.range len0).map R)[i]=R i:=by simp
 rw[e] at hu2;have hj:j<E.n:=by
  have:=(List.getElem?_eq_some_iff.1 hu2).1;rw[E.len] at this;exact this
 have hc:=hR i (by omega) j hj;rw[hadd,hu2,←Nat.add_assoc] at hc;exact hc
end
theorem topo_open {H:Type}{enc:TypeId×Value→H}{W:World}{n:Nat}{cs:List Value}{x:DataW H×List MemPlace}
 (h:DataW.trod enc prog W 0 (fun _=>true) true n 25 cs=some x):∃S ao n cap ao2 n2 cap2 Ls Hs,cs=[.int i64 S,.slice ao n cap,.slice ao2 n2 cap2]∧GS lnkE W (.slice ao n cap) Ls∧GS hstE W (.slice ao2 n2 cap2) Hs:=by
 obtain⟨xs,k,_,_,hl,hlen,hf⟩:=DataW.trod_struct underlying25 h;have hC:Tryz.prog.cellsOf 25=3:=by kernel_rfl
 have hT0:Tryz.prog.cellsOf 3=1:=by kernel_rfl
 have hT1:Tryz.prog.cellsOf 22=1:=by kernel_rfl
 have hT2:Tryz.prog.cellsOf 23=1:=by kernel_rfl
 rw[hC] at hl
 match cs,hl with
 | [c0,c1,c2],_ =>
   match xs,hlen with
   | [z0,z1,z2],_ =>
     have g0:=hf 0 _ rfl;have g1:=hf 1 _ rfl;have g2:=hf 2 _ rfl;simp[hT0,hT1,hT2] at g0 g1 g2;obtain⟨v0,e0,_,_⟩:=DataW.trod_int underlying3 g0;obtain⟨ao,n,cap,Ls,e1,hL⟩:=gs_open (E:=lnkE) 22 57 underlying22 (by kernel_rfl) ((0,0),(0,0)) (fun _ _ _ h=>lnk_open h) g1;obtain⟨ao2,n2,cap2,Hs,e2,hH⟩:=gs_open (E:=hstE) 23 59 underlying23 (by kernel_rfl) (ByteArray.empty,(0,0)) (fun _ _ _ h=>hst_open h) g2;simp at e0 e1 e2;exact⟨v0,ao,n,cap,ao2,n2,cap2,Ls,Hs,by simp[e0,e1,e2],hL,hH⟩
def cuE:Enc (Int×Int) where
 c:=fun x=>[.int i64 x.1,.int i64 x.2]
 n:=2
 len:=fun _=>rfl
 pos:=by decide
 one:=by
  intro x u hu;simp at hu
  rcases hu with rfl | rfl <;> rfl
theorem cu_open {H:Type}{enc:TypeId×Value→H}{W:World}{n:Nat}{cs:List Value}{x:DataW H×List MemPlace}
 (h:DataW.trod enc prog W 0 (fun _=>true) true n 62 cs=some x):∃y,cs=cuE.c y:=by
 obtain⟨xs,k,_,_,hl,hlen,hf⟩:=DataW.trod_struct underlying62 h;have hC:Tryz.prog.cellsOf 62=2:=by kernel_rfl
 have hT0:Tryz.prog.cellsOf 3=1:=by kernel_rfl
 rw[hC] at hl
 match cs,hl with
 | [c0,c1],_ =>
   match xs,hlen with
   | [z0,z1],_ =>
     have g0:=hf 0 _ rfl;have g1:=hf 1 _ rfl;simp[hT0] at g0 g1;obtain⟨v0,e0,_,_⟩:=DataW.trod_int underlying3 g0;obtain⟨v1,e1,_,_⟩:=DataW.trod_int underlying3 g1;simp[] at e0 e1;refine⟨(v0,v1),?_⟩;simp[cuE,e0,e1]
def rlE:Enc (Ru) where
 c:=fun x=>[.int i64 x.p,.int i64 x.m,.int i64 x.b,.int i64 x.o,.int i64 x.s,.int i64 x.v]
 n:=6
 len:=fun _=>rfl
 pos:=by decide
 one:=by
  intro x u hu;simp at hu
  rcases hu with rfl | rfl | rfl | rfl | rfl | rfl <;> rfl
theorem rl_cells {w:World}{g o:Nat}{x0 x1 x2 x3 x4 x5:Int}(h:VAt w g o (rlE.c ⟨x0,x1,x2,x3,x4,x5⟩)):w.cell? ⟨g,o,none⟩=some (.int i64 x0)∧w.cell? ⟨g,o+1,none⟩=some (.int i64 x1)∧w.cell? ⟨g,o+2,none⟩=some (.int i64 x2)∧w.cell? ⟨g,o+3,none⟩=some (.int i64 x3)∧w.cell? ⟨g,o+4,none⟩=some (.int i64 x4)∧w.cell? ⟨g,o+5,none⟩=some (.int i64 x5):=
 ⟨h 0 _ rfl,h 1 _ rfl,h 2 _ rfl,h 3 _ rfl,h 4 _ rfl,h 5 _ rfl⟩
theorem rl_new (w:World)(x0 x1 x2 x3 x4 x5:Int)(t:TypeId):VAt (w.alloc (.cells #[.int i64 x0,.int i64 x1,.int i64 x2,.int i64 x3,.int i64 x4,.int i64 x5] t)) w.heap.size 0 (rlE.c ⟨x0,x1,x2,x3,x4,x5⟩):=vat_new w [.int i64 x0,.int i64 x1,.int i64 x2,.int i64 x3,.int i64 x4,.int i64 x5] t
theorem rl_info:(Tryz.prog.info? 64).map (fun i=>(i.zero,i.size,i.bytes))=some (some (.agg #[.int i64 0,.int i64 0,.int i64 0,.int i64 0,.int i64 0,.int i64 0]),6,48):=by kernel_rfl
theorem rl_zero:(Value.agg #[.int i64 0,.int i64 0,.int i64 0,.int i64 0,.int i64 0,.int i64 0]).cells.size=6:=by simp[Value.cells]
theorem rl_open {H:Type}{enc:TypeId×Value→H}{W:World}{n:Nat}{cs:List Value}{x:DataW H×List MemPlace}
 (h:DataW.trod enc prog W 0 (fun _=>true) true n 64 cs=some x):∃y,cs=rlE.c y:=by
 obtain⟨xs,k,_,_,hl,hlen,hf⟩:=DataW.trod_struct underlying64 h;have hC:Tryz.prog.cellsOf 64=6:=by kernel_rfl
 have hT0:Tryz.prog.cellsOf 3=1:=by kernel_rfl
 have hT1:Tryz.prog.cellsOf 62=2:=by kernel_rfl
 rw[hC] at hl
 match cs,hl with
 | [c0,c1,c2,c3,c4,c5],_ =>
   match xs,hlen with
   | [z0,z1,z2,z3,z4],_ =>
     have g0:=hf 0 _ rfl;have g1:=hf 1 _ rfl;have g2:=hf 2 _ rfl;have g3:=hf 3 _ rfl;have g4:=hf 4 _ rfl;simp[hT0,hT1] at g0 g1 g2 g3 g4;obtain⟨v0,e0,_,_⟩:=DataW.trod_int underlying3 g0;obtain⟨s1,e1⟩:=cu_open g1;obtain⟨v3,e2,_,_⟩:=DataW.trod_int underlying3 g2;obtain⟨v4,e3,_,_⟩:=DataW.trod_int underlying3 g3;obtain⟨v5,e4,_,_⟩:=DataW.trod_int underlying3 g4;simp[cuE] at e0 e1 e2 e3 e4;refine⟨⟨v0,s1.1,s1.2,v3,v4,v5⟩,?_⟩;simp[rlE,e0,e1,e2,e3,e4]
theorem gs_SR {w:World}{v:Value}{L:List Ru}(h:GS rlE w v L):SR w v L:=by
 rcases h with h | ⟨g,o,cap,h1,h2,h3,h4⟩
 ·exact .inl h
 refine .inr ⟨g,o,cap,h1,h2,h3,fun i hi=>?_⟩;have hv:=h4 i hi
 generalize L[i]=r at hv
 obtain⟨p,m,b,q,s,x⟩:=r;obtain⟨q0,q1,q2,q3,q4,q5⟩:=rl_cells hv;exact⟨q0,q1,q2,q3,q4,q5⟩
theorem table_open {H:Type}{enc:TypeId×Value→H}{W:World}{fuel:Nat}{cs:List Value}{x:DataW H×List MemPlace}
 (h:DataW.trod enc prog W 0 (fun _=>true) true fuel 48 cs=some x):∃ao n cap L,cs=[.slice ao n cap]∧SR W (.slice ao n cap) L:=by
 obtain⟨ao,n,cap,L,e,hL⟩:=gs_open (E:=rlE) 48 64 underlying48 (by kernel_rfl) zeR (fun _ _ _ h=>rl_open h) h;exact⟨ao,n,cap,L,e,gs_SR hL⟩
theorem tables_open {H:Type}{enc:TypeId×Value→H}{W:World}{fuel:Nat}{cs:List Value}{x:DataW H×List MemPlace}
 (hf2:DataW.trod enc prog W 0 (fun _=>true) true fuel 26 cs=some x):∃ao n cap Ts,cs=[.slice ao n cap]∧TS W (.slice ao n cap) Ts:=by
 obtain⟨d,p⟩:=x;have hC:Tryz.prog.cellsOf 48=1:=by kernel_rfl
 rcases Go.Deep.open_slice underlying26 hf2 with ⟨hc,hx⟩ | ⟨a,len0,cap,m,k,D,Pl,hc,_,hl,hm,hmm,hx,hall⟩
 ·exact⟨_,_,_,[],hc,.inl ⟨none,0,rfl,rfl⟩⟩
 simp only[if_true] at hmm;subst hmm
 rcases Nat.eq_zero_or_pos len0 with h0 | h0
 ·subst h0;exact⟨_,_,_,[],hc,.inl ⟨_,_,rfl,rfl⟩⟩
 have each:∀i,i<m→∃L:List Ru,∃ao n cap,W.cell? (a.add i)=some (.slice ao n cap)∧SR W (.slice ao n cap) L:=by
  intro i hi;obtain⟨cs,h1,h2⟩:=hall i hi;rw[hC] at h1;obtain⟨_,hlen,hcell⟩:=World.cells?_some h1;obtain⟨ao,n,cap,L,rfl,hL⟩:=table_open h2;refine⟨L,ao,n,cap,?_,hL⟩;have:=hcell 0 (by simp);rw[Go.Deep.add_add] at this;simpa using this
 obtain⟨R,hR⟩:=Go.Deep.choose_lt each;obtain⟨sb,so,spot⟩:=a;have hspot:spot=none:=by
  obtain⟨ao,n,cap,h1,_⟩:=hR 0 (by omega);simpa[Addr.add] using World.cell?_spot h1
 subst hspot;have hadd:∀j,(⟨sb,so,none⟩:Addr).add j=⟨sb,so+j,none⟩:=by
  intro j;simp only[Addr.add]
  first
   | rfl
   | (split
      ·next h0=>rw[h0];rfl
      rfl)
 refine⟨_,_,_,(List.range len0).map R,hc,.inr ⟨sb,so,_,by simp,by simpa using hl,hm,fun i hi=>?_⟩⟩;have hi2:i<len0:=by simpa using hi
 have e:((List.range len0).map R)[i]=R i:=by simp
 rw[e];obtain⟨ao,n,cap,h1,h2⟩:=hR i (by omega);rw[hadd] at h1;exact⟨ao,n,cap,h1,h2⟩
theorem net_open {H:Type}{enc:TypeId×Value→H}{W:World}{n:Nat}{cs:List Value}{x:DataW H×List MemPlace}
 (h:DataW.trod enc prog W 0 (fun _=>true) true n 28 cs=some x):∃S ao n cap ao2 n2 cap2 ao3 n3 cap3 Ls Hs Ts,cs=[.int i64 S,.slice ao n cap,.slice ao2 n2 cap2,.slice ao3 n3 cap3]∧GS lnkE W (.slice ao n cap) Ls∧GS hstE W (.slice ao2 n2 cap2) Hs∧TS W (.slice ao3 n3 cap3) Ts:=by
 obtain⟨xs,k,_,_,hl,hlen,hf⟩:=DataW.trod_struct underlying28 h;have hC:Tryz.prog.cellsOf 28=4:=by kernel_rfl
 have hT0:Tryz.prog.cellsOf 25=3:=by kernel_rfl
 have hT1:Tryz.prog.cellsOf 26=1:=by kernel_rfl
 rw[hC] at hl
 match cs,hl with
 | [c0,c1,c2,c3],_ =>
   match xs,hlen with
   | [z0,z1],_ =>
     have g0:=hf 0 _ rfl;have g1:=hf 1 _ rfl;simp[hT0,hT1] at g0 g1;obtain⟨S,ao,n,cap,ao2,n2,cap2,Ls,Hs,e0,hL,hH⟩:=topo_open g0;obtain⟨ao3,n3,cap3,Ts,e1,hT⟩:=tables_open g1;simp at e0 e1;exact⟨S,ao,n,cap,ao2,n2,cap2,ao3,n3,cap3,Ls,Hs,Ts,by simp[e0,e1],hL,hH,hT⟩
theorem net_of {H:Type}{enc:TypeId×Value→H}{W:World}{base:Nat}{v:Value}{d:DataW H}{p:List MemPlace}
 (hv:Value.okWide prog W .any base 28 v) (h:DataW.Trod enc prog W 0 (fun _=>true) true 28 v d p):∃S ao n cap ao2 n2 cap2 ao3 n3 cap3 Ls Hs Ts,v=.agg #[.int i64 S,.slice ao n cap,.slice ao2 n2 cap2,.slice ao3 n3 cap3]∧GS lnkE W (.slice ao n cap) Ls∧GS hstE W (.slice ao2 n2 cap2) Hs∧TS W (.slice ao3 n3 cap3) Ts:=by
 obtain⟨cs,rfl,hsz⟩:=okWide_struct underlying28 hv;obtain⟨n,hn⟩:=h;obtain⟨S,ao,n,cap,ao2,n2,cap2,ao3,n3,cap3,Ls,Hs,Ts,e,h1,h2,h3⟩:=net_open hn;refine⟨S,ao,n,cap,ao2,n2,cap2,ao3,n3,cap3,Ls,Hs,Ts,?_,h1,h2,h3⟩;simp only[Value.cells] at e;rw[←Array.toArray_toList (xs:=cs),e]
end
section
open Go.RowKit
def offB (x:SlT)(b:Nat):Prop:=x.2.1=0∨∀a,x.1=some a→a.block≠b
theorem RAt.lt {w:World}{g o:Nat}{L:List Ru}(h:RAt w g o L)(h0:0<L.length):g<w.heap.size:=bLQ _ _ (h 0 h0).c0
theorem SR.off {w:World}{x:SlT}{L:List Ru}(h:SR w (slV x) L){b:Nat}(hb:w.heap.size≤b):offB x b:=by
 obtain⟨ao,n,cap⟩:=x
 rcases h with ⟨ao',cap',e,rfl⟩ | ⟨g,o,cap',e,h1,h2,h3⟩
 ·simp only[slV,Value.slice.injEq] at e;exact .inl e.2.1
 simp only[slV,Value.slice.injEq] at e;obtain⟨rfl,rfl,rfl⟩:=e;by_cases h0:L.length=0
 ·exact .inl h0
 refine .inr fun a ha=>?_
 cases ha;have:=h3.lt (by omega);show g≠b;omega
theorem SR.grown {w w':World}{x:SlT}{L:List Ru}{row:Option Nat}(h:SR w (slV x) L)(hg:w.grownBy w' row)(ho:∀b,row=some b→offB x b):SR w' (slV x) L:=by
 obtain⟨ao,n,cap⟩:=x
 rcases h with ⟨ao',cap',e,rfl⟩ | ⟨g,o,cap',e,h1,h2,h3⟩
 ·exact .inl ⟨ao',cap',e,rfl⟩
 simp only[slV,Value.slice.injEq] at e;obtain⟨rfl,rfl,rfl⟩:=e;by_cases h0:L.length=0
 ·exact .inl ⟨_,_,by rw[slV,h0],List.length_eq_zero_iff.1 h0⟩
 have hne:some g≠row:=by
  intro e
  rcases ho g e.symm with h4 | h4
  ·exact h0 h4
  exact h4 _ rfl rfl
 refine .inr ⟨g,o,cap,rfl,h1,h2,fun i hi=>?_⟩;obtain⟨c0,c1,c2,c3,c4,c5⟩:=h3 i hi;exact⟨hg.cell c0 hne,hg.cell c1 hne,hg.cell c2 hne,hg.cell c3 hne,hg.cell c4 hne,hg.cell c5 hne⟩
section
variable {e:TypeId}{w w':World}{A B:Nat}{v:Value}{vs:List SlT}{Ts:TsQ}
end
end
section
open Go.ChangeShapes Go.WideShapes Go.ChangeAt Go.RowKit
def cellsR (L:List Ru):List Value:=L.flatMap fun r=>[.int i64 r.p,.int i64 r.m,.int i64 r.b,.int i64 r.o,.int i64 r.s,.int i64 r.v]
theorem cellsR_len (L:List Ru):(cellsR L).length=L.length*6:=by
 induction L with
 | nil=>rfl
 | cons p r ih=>simp only[cellsR,List.flatMap_cons,List.length_append,List.length_cons,List.length_nil] at *;omega
theorem cellsR_at (L:List Ru)(i:Nat)(h:i<L.length):(cellsR L)[i*6]?=some (.int i64 (L[i]).p)∧(cellsR L)[i*6+1]?=some (.int i64 (L[i]).m)∧(cellsR L)[i*6+2]?=some (.int i64 (L[i]).b) ∧
 (cellsR L)[i*6+3]?=some (.int i64 (L[i]).o)∧(cellsR L)[i*6+4]?=some (.int i64 (L[i]).s)∧(cellsR L)[i*6+5]?=some (.int i64 (L[i]).v):=by
 induction L generalizing i with
 | nil=>simp at h
 | cons p r ih =>
   cases i with
   | zero=>simp[cellsR]
   | succ i =>
     have:=ih i (by simpa using h);have e1:(i+1)*6=i*6+1+1+1+1+1+1:=by omega
     simpa[cellsR,e1] using this
end
section
open Go.RowKit
theorem addr_add (g o j:Nat):(⟨g,o,none⟩:Addr).add j=⟨g,o+j,none⟩:=by
 simp only[Addr.add]
 first
  | rfl
  | (split
     ·next h0=>rw[h0];rfl
     rfl)
theorem RAt.cells {w:World}{g o:Nat}{M:List Ru}(h:RAt w g o M):∀j u,(cellsR M)[j]?=some u→w.cell? ((⟨g,o,none⟩:Addr).add j)=some u:=by
 intro j u hu;have hj:j<M.length*6:=by
  have:=(List.getElem?_eq_some_iff.1 hu).1;rw[cellsR_len] at this;exact this
 rw[addr_add];have hi:j / 6<M.length:=by omega
 obtain⟨c0,c1,c2,c3,c4,c5⟩:=h (j / 6) hi;obtain⟨a0,a1,a2,a3,a4,a5⟩:=cellsR_at M (j / 6) hi;have h6:j=j / 6*6∨j=j / 6*6+1∨j=j / 6*6+2∨j=j / 6*6+3∨j=j / 6*6+4∨j=j / 6*6+5:=by omega
 generalize j / 6=i at *
 rcases h6 with e | e | e | e | e | e
 ·subst e;rw[a0] at hu;cases hu;exact c0
 ·subst e;rw[a1] at hu;cases hu;rw[←Nat.add_assoc];exact c1
 ·subst e;rw[a2] at hu;cases hu;rw[←Nat.add_assoc];exact c2
 ·subst e;rw[a3] at hu;cases hu;rw[←Nat.add_assoc];exact c3
 ·subst e;rw[a4] at hu;cases hu;rw[←Nat.add_assoc];exact c4
 subst e;rw[a5] at hu;cases hu;rw[←Nat.add_assoc];exact c5
theorem SR.len {w:World}{ao:AdQ}{n cap:Nat}{L:List Ru}(h:SR w (.slice ao n cap) L):L.length=n:=by
 rcases h with ⟨_,_,e,rfl⟩ | ⟨_,_,_,e,_⟩
 ·simp at e;simp[e]
 simp at e;exact e.2.1.symm
theorem SR.nil (w:World):SR w (.slice none 0 0) []:=.inl ⟨none,0,rfl,rfl⟩
theorem RAt.drop {w:World}{g o:Nat}{L:List Ru}(h:RAt w g o L)(k:Nat):RAt w g (o+k*6) (L.drop k):=by
 intro i hi;have hi2:k+i<L.length:=by simp at hi;omega
 have:=h (k+i) hi2;rw[List.getElem_drop];have e:o+(k+i)*6=o+k*6+i*6:=by omega
 rw[←e];exact this
theorem GS.off {α:Type}{E:Enc α}{w:World}{x:SlT}{L:List α}(h:GS E w (slV x) L){b:Nat}(hb:w.heap.size≤b):offB x b:=by
 obtain⟨ao,n,cap⟩:=x
 rcases h with ⟨ao',cap',e,rfl⟩ | ⟨g,o,cap',e,h1,h2,h3⟩
 ·simp only[slV,Value.slice.injEq] at e;exact .inl e.2.1
 simp only[slV,Value.slice.injEq] at e;obtain⟨rfl,rfl,rfl⟩:=e;by_cases h0:L.length=0
 ·exact .inl h0
 refine .inr fun a ha=>?_
 cases ha;have hp:=E.pos;have hl:=E.len L[0];have hc:=h3 0 (by omega) 0 _ (List.getElem?_eq_getElem (by rw[hl];exact hp));have:=bLQ _ _ hc;show g≠b;have:g<w.heap.size:=this;omega
theorem GS.grown {α:Type}{E:Enc α}{w w':World}{x:SlT}{L:List α}{row:Option Nat}(h:GS E w (slV x) L)(hg:w.grownBy w' row)(ho:∀b,row=some b→offB x b):GS E w' (slV x) L:=by
 obtain⟨ao,n,cap⟩:=x
 rcases h with ⟨ao',cap',e,rfl⟩ | ⟨g,o,cap',e,h1,h2,h3⟩
 ·exact .inl ⟨ao',cap',e,rfl⟩
 simp only[slV,Value.slice.injEq] at e;obtain⟨rfl,rfl,rfl⟩:=e;by_cases h0:L.length=0
 ·exact .inl ⟨_,_,by rw[slV,h0],List.length_eq_zero_iff.1 h0⟩
 have hne:some g≠row:=by
  intro e
  rcases ho g e.symm with h4 | h4
  ·exact h0 h4
  exact h4 _ rfl rfl
 exact .inr ⟨g,o,cap,rfl,h1,h2,fun i hi j u hu=>hg.cell (h3 i hi j u hu) hne⟩
section
variable {w w':World}{B:Nat}{v:Value}{vs:List SlT}{Rs:List (List Op8)}
end
theorem oo_apart {w:World}{b1 e1 s1 n1 b2 e2 s2 n2:Nat}{v1 v2:Value}{x1 x2:List Value}(h1:w.ownsRow b1 e1 s1 v1 n1 x1)(h2:w.ownsRow b2 e2 s2 v2 n2 x2)(he:e1≠e2):v1.ownBlock=none∨v1.ownBlock≠v2.ownBlock:=by
 rcases h1.2 with ⟨rfl,_⟩ | ⟨g,cap,cur,rfl,_,hg,_⟩
 ·exact .inl rfl
 rcases h2.2 with ⟨rfl,_⟩ | ⟨g',cap',cur',rfl,_,hg',_⟩
 ·exact .inr (by intro e;cases e)
 refine .inr fun e=>he ?_
 have e':g=g':=by
  have:some g=some g':=e;cases this;rfl
 subst e';rw[hg] at hg';cases hg';rfl
section
variable {α:Type}{E:Enc α}{tO tI:TypeId}
structure OO (E:Enc α)(tO tI:TypeId)(w:World)(B:Nat)(v:Value)(vs:List SlT)(Ts:List (List α)):Prop where
 ov:w.ownsRow B tO slE.n v vs.length (cellsG slE vs)
 lv:vs.length=Ts.length
 rv:∀(i:Nat) (x:SlT) (L:List α),vs[i]?=some x→Ts[i]?=some L→w.ownsRow B tI E.n (slV x) L.length (cellsG E L)
 dv:∀(i j:Nat) (x y:SlT) (b:Nat),i≠j→vs[i]?=some x→vs[j]?=some y→(slV x).ownBlock=some b→(slV y).ownBlock≠some b
variable {w w':World}{B:Nat}{v:Value}{vs:List SlT}{Ts:List (List α)}
theorem oo_nil (w:World)(B:Nat):OO E tO tI w B (.slice none 0 0) [] []:=⟨World.ownsRow_nil w B _ slE.n,rfl,fun i x L h=>by simp at h,fun i j x y b _ h=>by simp at h⟩
theorem OO.kept (h:OO E tO tI w B v vs Ts){row:Option Nat}(hg:w.grownBy w' row)(ho:v.ownBlock=none∨v.ownBlock≠row)(hi:∀x∈vs,(slV x).ownBlock=none∨(slV x).ownBlock≠row):OO E tO tI w' B v vs Ts:=
 ⟨h.ov.kept hg ho,h.lv,fun i x L h1 h2=>(h.rv i x L h1 h2).kept hg (hi x (List.mem_of_getElem? h1)),h.dv⟩
theorem OO.later (h:OO E tO tI w B v vs Ts)(hb:Below w.heap.size w w'):OO E tO tI w' B v vs Ts:=h.kept (grown_below hb) (none_or _) fun _ _=>none_or _
theorem OO.low (h:OO E tO tI w B v vs Ts){g:Nat}(hg:w.grownBy w' (some g))(hB:g<B):OO E tO tI w' B v vs Ts:=by
 refine h.kept hg ?_ fun x hx=>?_
 ·cases e:v.ownBlock with
  | none=>exact .inl rfl
  | some b=>exact .inr fun e2=>by cases e2;have:=(h.ov.lt _ e).1;omega
 obtain⟨i,hi,e1⟩:=List.getElem_of_mem hx;have h1:vs[i]?=some x:=by rw[List.getElem?_eq_getElem hi,e1]
 have hi2:i<Ts.length:=by rw[←h.lv];exact hi
 have h2:Ts[i]?=some Ts[i]:=List.getElem?_eq_getElem hi2;cases e:(slV x).ownBlock with
 | none=>exact .inl rfl
 | some b=>exact .inr fun e2=>by cases e2;have:=((h.rv i x _ h1 h2).lt _ e).1;omega
theorem OO.push (ht:tO≠tI)(h:OO E tO tI w B v vs Ts){v':Value}(hg:w.grownBy w' v.ownBlock)(ho:w'.ownsRow B tO slE.n v' (vs++[((none,0,0):SlT)]).length (cellsG slE (vs++[((none,0,0):SlT)]))):OO E tO tI w' B v' (vs++[(none,0,0)]) (Ts++[[]]):=by
 have hlast:∀{i:Nat} {x:SlT},(vs++[((none,0,0):SlT)])[i]?=some x→(i<vs.length∧vs[i]?=some x)∨(i=vs.length∧x=(none,0,0)):=by
  intro i x h1;by_cases hi:i<vs.length
  ·rw[List.getElem?_append_left hi] at h1;exact .inl ⟨hi,h1⟩
  have hi2:i=vs.length:=by
   have:=(List.getElem?_eq_some_iff.1 h1).1;simp at this;omega
  subst hi2;simp at h1;exact .inr ⟨rfl,h1.symm⟩
 refine⟨ho,by simp[h.lv],fun i x L h1 h2=>?_,fun i j x y b hij h1 h2 e1 e2=>?_⟩
 ·rcases hlast h1 with ⟨hi,h1⟩ | ⟨rfl,rfl⟩
  ·rw[List.getElem?_append_left (by rw[←h.lv];exact hi)] at h2;have:=h.rv i x L h1 h2;exact this.kept hg (oo_apart this h.ov (fun e=>ht e.symm))
  rw[h.lv] at h2;simp at h2;subst h2;exact World.ownsRow_nil _ _ _ _
 rcases hlast h1 with ⟨_,h1⟩ | ⟨_,rfl⟩
 ·rcases hlast h2 with ⟨_,h2⟩ | ⟨_,rfl⟩
  ·exact h.dv i j x y b hij h1 h2 e1 e2
  cases e2
 cases e1
theorem OO.put (ht:tO≠tI){g n cap i:Nat}(h:OO E tO tI w B (.slice (some ⟨g,0,none⟩) n cap) vs Ts){x y:SlT}{L:List α}{r:α}(hx:vs[i]?=some x)(hL:Ts[i]?=some L){w1:World}
 (hg:w.grownBy w1 (slV x).ownBlock) (ho:w1.ownsRow B tI E.n (slV y) (L++[r]).length (cellsG E (L++[r]))) (hb:(slV y).ownBlock=(slV x).ownBlock∨(slV y).ownBlock=some w.heap.size):OO E tO tI (w1.setCell ⟨g,i,none⟩ (slV y)) B (.slice (some ⟨g,0,none⟩) n cap) (vs.set i y) (Ts.set i (L++[r])):=by
 have hrx:=h.rv i x L hx hL;have hov:=h.ov;have hn:n=vs.length:=by
  rcases hov.2 with ⟨h3,_⟩ | ⟨_,_,_,h3,_⟩
  ·cases h3
  simp only[Value.slice.injEq] at h3;exact h3.2.1
 have hov1:=hov.kept hg (oo_apart hov hrx ht);have hil:=(List.getElem?_eq_some_iff.1 hx).1;have hgw:w1.grownBy (w1.setCell ⟨g,i,none⟩ (slV y)) (some g):=grown_set w1 g i (slV y);have inner:∀{z:SlT} {M:List α},w1.ownsRow B tI E.n (slV z) M.length (cellsG E M)→(w1.setCell ⟨g,i,none⟩ (slV y)).ownsRow B tI E.n (slV z) M.length (cellsG E M):=fun hz=>hz.kept hgw (oo_apart hz hov1 (fun e=>ht e.symm))
 have hlt:∀(j:Nat) (z:SlT) (b:Nat),vs[j]?=some z→(slV z).ownBlock=some b→b<w.heap.size:=fun j z b h1 h2=>((h.rv j z _ h1 (List.getElem?_eq_getElem (by rw[←h.lv];exact (List.getElem?_eq_some_iff.1 h1).1))).lt b h2).2
 refine⟨?_,by simp[h.lv],fun j z M h1 h2=>?_,fun j k z z' b hjk h1 h2 e1 e2=>?_⟩
 ·rw[List.length_set,sl_cells,List.map_set];rw[sl_cells,←hn] at hov1;rw[←hn];exact (hov1.stored _ _).1
 ·by_cases e:j=i
  ·subst e;rw[List.getElem?_set_self hil] at h1;rw[List.getElem?_set_self (by rw[←h.lv];exact hil)] at h2;cases h1;cases h2;exact inner ho
  rw[List.getElem?_set_ne (fun e2=>e e2.symm)] at h1;rw[List.getElem?_set_ne (fun e2=>e e2.symm)] at h2;refine inner ((h.rv j z M h1 h2).kept hg ?_);cases eb:(slV z).ownBlock with
  | none=>exact .inl rfl
  | some b=>exact .inr fun e2=>h.dv j i z x b e h1 hx eb e2.symm
 by_cases ej:j=i
 ·subst ej;rw[List.getElem?_set_self hil] at h1;cases h1;rw[List.getElem?_set_ne hjk] at h2
  rcases hb with hb | hb
  ·rw[hb] at e1;exact h.dv j k x z' b hjk hx h2 e1 e2
  rw[hb] at e1;cases e1;have:=hlt k z' _ h2 e2;omega
 rw[List.getElem?_set_ne (fun e2=>ej e2.symm)] at h1;by_cases ek:k=i
 ·subst ek;rw[List.getElem?_set_self hil] at h2;cases h2
  rcases hb with hb | hb
  ·rw[hb] at e2;exact h.dv j k z x b hjk h1 hx e1 e2
  rw[hb] at e2;cases e2;have:=hlt j z _ h1 e1;omega
 rw[List.getElem?_set_ne (fun e2=>ek e2.symm)] at h2;exact h.dv j k z z' b hjk h1 h2 e1 e2
end
structure RdM (W:World)(gb B:Nat)(d:RdT)(v1 v2 v3 v7:Value)(vs:List SlT):Prop where
 gB:gb<B
 c:NeBox W gb d.S v1 v2 v3
 f:∀i,W.frozen? ⟨gb,i,none⟩=false
 l:W.ownsRow B 57 lnkE.n v1 d.Ls.length (cellsG lnkE d.Ls)
 h:W.ownsRow B 59 hstE.n v2 d.Hs.length (cellsG hstE d.Hs)
 t:OO rlE 48 64 W B v3 vs d.Ts
 w:W.ownsRow B 50 wisE.n v7 d.ws.length (cellsG wisE d.ws)
section
variable {W W':World}{gb B:Nat}{d:RdT}{v1 v2 v3 v7:Value}{vs:List SlT}
theorem RdM.lt (m:RdM W gb B d v1 v2 v3 v7 vs):gb<W.heap.size:=bLQ W ⟨gb,0,none⟩ m.c.1
theorem RdM.later (m:RdM W gb B d v1 v2 v3 v7 vs)(hb:Below W.heap.size W W'):RdM W' gb B d v1 v2 v3 v7 vs:=
 ⟨m.gB,m.c.later hb,fun i=>by rw[hb.frozen (p:=⟨gb,i,none⟩) m.lt];exact m.f i,m.l.kept (grown_below hb) (none_or _),m.h.kept (grown_below hb) (none_or _),m.t.later hb,m.w.kept (grown_below hb) (none_or _)⟩
theorem RdM.ph (m:RdM W gb B d v1 v2 v3 v7 vs)(p:Int):RdM W gb B { d with ph:=p } v1 v2 v3 v7 vs:=⟨m.gB,m.c,m.f,m.l,m.h,m.t,m.w⟩
theorem nb_grown {g:Nat}{S:Int}{a b c:Value}{row:Option Nat}(h:NeBox W g S a b c)(hg:W.grownBy W' row)(hne:some g≠row):NeBox W' g S a b c:=⟨hg.cell h.1 hne,hg.cell h.2.1 hne,hg.cell h.2.2.1 hne,hg.cell h.2.2.2 hne⟩
theorem fz_grown {g:Nat}{row:Option Nat}(hl:g<W.heap.size)(h:∀i,W.frozen? ⟨g,i,none⟩=false)(hg:W.grownBy W' row)(hne:some g≠row):∀i,W'.frozen? ⟨g,i,none⟩=false:=fun i=>by
 rw[World.frozen?_of_block (w:=W) (hg.block g hl hne)];exact h i
theorem row_ne {e s n:Nat}{v:Value}{xs:List Value}(h:W.ownsRow B e s v n xs)(hB:gb<B):some gb≠v.ownBlock:=fun e=>by
 have:=(h.lt gb e.symm).1;omega
theorem row_low {e s n j:Nat}{v u:Value}{xs:List Value}(h:W.ownsRow B e s v n xs)(hB:gb<B):(W.setCell ⟨gb,j,none⟩ u).ownsRow B e s v n xs:=h.kept (grown_set W gb j u) (by
 cases hb:v.ownBlock with
 | none=>exact .inl rfl
 | some b=>exact .inr fun e2=>by cases e2;have:=(h.lt _ hb).1;omega)
theorem RdM.setS (m:RdM W gb B d v1 v2 v3 v7 vs)(s:Int):RdM (W.setCell ⟨gb,0,none⟩ (.int i64 s)) gb B { d with S:=s } v1 v2 v3 v7 vs:=by
 obtain⟨c0,c1,c2,c3⟩:=m.c;refine⟨m.gB,⟨World.cell?_setCell_same _ _ _ c0,?_,?_,?_⟩,fun i=>by simpa using m.f i,row_low m.l m.gB,row_low m.h m.gB,m.t.low (grown_set W gb 0 _) m.gB,row_low m.w m.gB⟩
 ·rw[World.cell?_setCell_other _ _ _ _ (by simp)];exact c1
 ·rw[World.cell?_setCell_other _ _ _ _ (by simp)];exact c2
 rw[World.cell?_setCell_other _ _ _ _ (by simp)];exact c3
theorem RdM.addL (hT:57≠59∧57≠50∧57≠48∧57≠64)(m:RdM W gb B d v1 v2 v3 v7 vs){x:(Int×Int)×(Int×Int)}{u:Value}(hg:W.grownBy W' v1.ownBlock)(ho:W'.ownsRow B 57 lnkE.n u (d.Ls++[x]).length (cellsG lnkE (d.Ls++[x]))):
 RdM (W'.setCell ⟨gb,1,none⟩ u) gb B { d with Ls:=d.Ls++[x] } u v2 v3 v7 vs:=by
 have hne:=row_ne m.l m.gB;obtain⟨c0,c1,c2,c3⟩:=nb_grown m.c hg hne;have ht:OO rlE 48 64 W' B v3 vs d.Ts:=m.t.kept hg (oo_apart m.t.ov m.l (fun e=>hT.2.2.1 e.symm)) fun y hy=>by
  obtain⟨i,hi,e1⟩:=List.getElem_of_mem hy;have hi2:i<d.Ts.length:=by rw[←m.t.lv];exact hi
  exact oo_apart (m.t.rv i y _ (by rw[List.getElem?_eq_getElem hi,e1]) (List.getElem?_eq_getElem hi2)) m.l (fun e=>hT.2.2.2 e.symm)
 refine⟨m.gB,⟨?_,World.cell?_setCell_same _ _ _ c1,?_,?_⟩,fun i=>by simpa using fz_grown m.lt m.f hg hne i,row_low ho m.gB,row_low (m.h.kept hg (oo_apart m.h m.l (fun e=>hT.1 e.symm))) m.gB,ht.low (grown_set W' gb 1 _) m.gB,row_low (m.w.kept hg (oo_apart m.w m.l (fun e=>hT.2.1 e.symm))) m.gB⟩
 ·rw[World.cell?_setCell_other _ _ _ _ (by simp)];exact c0
 ·rw[World.cell?_setCell_other _ _ _ _ (by simp)];exact c2
 rw[World.cell?_setCell_other _ _ _ _ (by simp)];exact c3
theorem RdM.addH (hT:59≠57∧59≠50∧59≠48∧59≠64)(m:RdM W gb B d v1 v2 v3 v7 vs){x:ByteArray×(Int×Int)}{u:Value}(hg:W.grownBy W' v2.ownBlock)(ho:W'.ownsRow B 59 hstE.n u (d.Hs++[x]).length (cellsG hstE (d.Hs++[x]))):
 RdM (W'.setCell ⟨gb,2,none⟩ u) gb B { d with Hs:=d.Hs++[x] } v1 u v3 v7 vs:=by
 have hne:=row_ne m.h m.gB;obtain⟨c0,c1,c2,c3⟩:=nb_grown m.c hg hne;have ht:OO rlE 48 64 W' B v3 vs d.Ts:=m.t.kept hg (oo_apart m.t.ov m.h (fun e=>hT.2.2.1 e.symm)) fun y hy=>by
  obtain⟨i,hi,e1⟩:=List.getElem_of_mem hy;have hi2:i<d.Ts.length:=by rw[←m.t.lv];exact hi
  exact oo_apart (m.t.rv i y _ (by rw[List.getElem?_eq_getElem hi,e1]) (List.getElem?_eq_getElem hi2)) m.h (fun e=>hT.2.2.2 e.symm)
 refine⟨m.gB,⟨?_,?_,World.cell?_setCell_same _ _ _ c2,?_⟩,fun i=>by simpa using fz_grown m.lt m.f hg hne i,row_low (m.l.kept hg (oo_apart m.l m.h (fun e=>hT.1 e.symm))) m.gB,row_low ho m.gB,ht.low (grown_set W' gb 2 _) m.gB,row_low (m.w.kept hg (oo_apart m.w m.h (fun e=>hT.2.1 e.symm))) m.gB⟩
 ·rw[World.cell?_setCell_other _ _ _ _ (by simp)];exact c0
 ·rw[World.cell?_setCell_other _ _ _ _ (by simp)];exact c1
 rw[World.cell?_setCell_other _ _ _ _ (by simp)];exact c3
theorem RdM.addW (hT:50≠57∧50≠59∧50≠48∧50≠64)(m:RdM W gb B d v1 v2 v3 v7 vs){x:Wi}{u:Value}(hg:W.grownBy W' v7.ownBlock)(ho:W'.ownsRow B 50 wisE.n u (d.ws++[x]).length (cellsG wisE (d.ws++[x]))):
 RdM W' gb B { d with ws:=d.ws++[x] } v1 v2 v3 u vs:=by
 have hne:=row_ne m.w m.gB;have ht:OO rlE 48 64 W' B v3 vs d.Ts:=m.t.kept hg (oo_apart m.t.ov m.w (fun e=>hT.2.2.1 e.symm)) fun y hy=>by
  obtain⟨i,hi,e1⟩:=List.getElem_of_mem hy;have hi2:i<d.Ts.length:=by rw[←m.t.lv];exact hi
  exact oo_apart (m.t.rv i y _ (by rw[List.getElem?_eq_getElem hi,e1]) (List.getElem?_eq_getElem hi2)) m.w (fun e=>hT.2.2.2 e.symm)
 exact⟨m.gB,nb_grown m.c hg hne,fz_grown m.lt m.f hg hne,m.l.kept hg (oo_apart m.l m.w (fun e=>hT.1 e.symm)),m.h.kept hg (oo_apart m.h m.w (fun e=>hT.2.1 e.symm)),ht,ho⟩
theorem RdM.addT (hT:(48≠57∧48≠59∧48≠50)∧48≠64)(m:RdM W gb B d v1 v2 v3 v7 vs){u:Value}(hg:W.grownBy W' v3.ownBlock)(ho:W'.ownsRow B 48 slE.n u (vs++[((none,0,0):SlT)]).length (cellsG slE (vs++[((none,0,0):SlT)]))):
 RdM (W'.setCell ⟨gb,3,none⟩ u) gb B { d with Ts:=d.Ts++[[]] } v1 v2 u v7 (vs++[(none,0,0)]):=by
 have hne:=row_ne m.t.ov m.gB;obtain⟨c0,c1,c2,c3⟩:=nb_grown m.c hg hne;refine⟨m.gB,⟨?_,?_,?_,World.cell?_setCell_same _ _ _ c3⟩,fun i=>by simpa using fz_grown m.lt m.f hg hne i,row_low (m.l.kept hg (oo_apart m.l m.t.ov (fun e=>hT.1.1 e.symm))) m.gB,row_low (m.h.kept hg (oo_apart m.h m.t.ov (fun e=>hT.1.2.1 e.symm))) m.gB,(m.t.push hT.2 hg ho).low (grown_set W' gb 3 _) m.gB,row_low (m.w.kept hg (oo_apart m.w m.t.ov (fun e=>hT.1.2.2 e.symm))) m.gB⟩
 ·rw[World.cell?_setCell_other _ _ _ _ (by simp)];exact c0
 ·rw[World.cell?_setCell_other _ _ _ _ (by simp)];exact c1
 rw[World.cell?_setCell_other _ _ _ _ (by simp)];exact c2
theorem RdM.addR (hT:(64≠57∧64≠59∧64≠50)∧48≠64∧48≠57∧48≠59∧48≠50){g n cap i:Nat}(m:RdM W gb B d v1 v2 (.slice (some ⟨g,0,none⟩) n cap) v7 vs){x y:SlT}{L:List Ru}{r:Ru}(hx:vs[i]?=some x)(hL:d.Ts[i]?=some L)
 (hg:W.grownBy W' (slV x).ownBlock) (ho:W'.ownsRow B 64 rlE.n (slV y) (L++[r]).length (cellsG rlE (L++[r]))) (hb:(slV y).ownBlock=(slV x).ownBlock∨(slV y).ownBlock=some W.heap.size):
 RdM (W'.setCell ⟨g,i,none⟩ (slV y)) gb B { d with Ts:=d.Ts.set i (L++[r]) } v1 v2 (.slice (some ⟨g,0,none⟩) n cap) v7 (vs.set i y):=by
 have hrx:=m.t.rv i x L hx hL;have hne:=row_ne hrx m.gB;have hgw:W'.grownBy (W'.setCell ⟨g,i,none⟩ (slV y)) (some g):=grown_set W' g i (slV y);have hB:B≤g:=(m.t.ov.lt g rfl).1;have hne2:some gb≠some g:=fun e=>by
  cases e;have:=m.gB;omega
 have hov1:=m.t.ov.kept hg (oo_apart m.t.ov hrx hT.2.1);have key:∀{e s k:Nat} {v:Value} {xs:List Value},W.ownsRow B e s v k xs→e≠64→e≠48→(W'.setCell ⟨g,i,none⟩ (slV y)).ownsRow B e s v k xs:=fun hr h1 h2=>by
  have h3:=hr.kept hg (oo_apart hr hrx h1);exact h3.kept hgw (oo_apart h3 hov1 h2)
 have c1:=nb_grown m.c hg hne;have l1:gb<W'.heap.size:=Nat.lt_of_lt_of_le m.lt hg.size;exact⟨m.gB,nb_grown c1 hgw hne2,fz_grown l1 (fz_grown m.lt m.f hg hne) hgw hne2,key m.l (fun e=>hT.1.1 e.symm) (fun e=>hT.2.2.1 e.symm),key m.h (fun e=>hT.1.2.1 e.symm) (fun e=>hT.2.2.2.1 e.symm),m.t.put hT.2.1 hx hL hg ho hb,key m.w (fun e=>hT.1.2.2 e.symm) (fun e=>hT.2.2.2.2 e.symm)⟩
end
end
section
open Go.RowKit Go.Shelf
structure Kb (p:Nat→Prop)(w w':World):Prop where
 os:w'.os=w.os
 tape:w'.tape=w.tape
 output:w'.output=w.output
 size:w.heap.size≤w'.heap.size
 block:∀k,k<w.heap.size→p k→w'.heap[k]?=w.heap[k]?
theorem Kb.refl (p:Nat→Prop)(w:World):Kb p w w:=⟨rfl,rfl,rfl,nLQ _,fun _ _ _=>rfl⟩
theorem Kb.trans {p:Nat→Prop}{a b c:World}(h:Kb p a b)(k:Kb p b c):Kb p a c:=
 ⟨k.os.trans h.os,k.tape.trans h.tape,k.output.trans h.output,Nat.le_trans h.size k.size,fun i hi hx=>(k.block i (Nat.lt_of_lt_of_le hi h.size) hx).trans (h.block i hi hx)⟩
theorem Kb.mono {p q:Nat→Prop}{w w':World}(h:Kb p w w')(hq:∀b,b<w.heap.size→q b→p b):Kb q w w':=⟨h.os,h.tape,h.output,h.size,fun k hk hx=>h.block k hk (hq k hk hx)⟩
theorem Kb.of_below {p:Nat→Prop}{n₀:Nat}{w w':World}(h:Below n₀ w w')(hp:∀b,b<w.heap.size→p b→b<n₀):Kb p w w':=⟨h.os,h.tape,h.output,h.size,fun k hk hx=>h.block k (hp k hk hx)⟩
theorem Kb.below {p:Nat→Prop}{n₀:Nat}{w w':World}(h:Kb p w w')(hn:n₀≤w.heap.size)(hp:∀b,b<n₀→p b):Below n₀ w w':=⟨h.os,h.tape,h.output,h.size,fun k hk=>h.block k (by omega) (hp k hk)⟩
theorem Kb.drew {p:Nat→Prop}{a w:World}(h:Kb p a w):Kb p a w.drew:=⟨h.os,h.tape,h.output,h.size,h.block⟩
theorem Kb.alloc {p:Nat→Prop}{a w:World}(h:Kb p a w)(o:Obj):Kb p a (w.alloc o):=
 h.trans (Kb.of_below ((Below.refl w.heap.size w).alloc (nLQ _) o) (fun b hb _=>hb))
theorem Kb.setCell {p:Nat→Prop}{a w:World}(h:Kb p a w){q:Addr}(hq:q.block<a.heap.size→¬p q.block)(v:Value):Kb p a (w.setCell q v):=by
 refine⟨h.os,h.tape,h.output,?_,fun k hk hx=>(Below.heap_setCell w q v k ?_).trans (h.block k hk hx)⟩
 ·show a.heap.size≤(w.heap.modify _ _).size;rw[Array.size_modify];exact h.size
 intro e;subst e;exact hq hk hx
theorem Kb.putObj {p:Nat→Prop}{a w:World}(h:Kb p a w){l:Nat}(hl:l<a.heap.size→¬p l)(o:Obj):Kb p a (w.putObj l o):=by
 have hg:=grownBy_putObj' w l o;refine⟨hg.os.trans h.os,hg.tape.trans h.tape,hg.output.trans h.output,Nat.le_trans h.size hg.size,fun k hk hx=>(hg.block k (Nat.lt_of_lt_of_le hk h.size) (fun e=>?_)).trans (h.block k hk hx)⟩;cases e;exact hl hk hx
theorem Kb.grown {p:Nat→Prop}{a w w':World}{row:Option Nat}(h:Kb p a w)(hg:w.grownBy w' row)(hr:∀r,row=some r→r<a.heap.size→¬p r):Kb p a w':=
 ⟨hg.os.trans h.os,hg.tape.trans h.tape,hg.output.trans h.output,Nat.le_trans h.size hg.size,fun k hk hx=>(hg.block k (Nat.lt_of_lt_of_le hk h.size) (fun e=>hr k e.symm hk hx)).trans (h.block k hk hx)⟩
theorem Kb.cell {p:Nat→Prop}{w w':World}(h:Kb p w w'){q:Addr}(hl:q.block<w.heap.size)(hp:p q.block):w'.cell? q=w.cell? q:=World.cell?_of_block (w:=w) (h.block q.block hl hp)
theorem Kb.at {p:Nat→Prop}{w w':World}(h:Kb p w w'){q:Addr}{v:Value}(hc:w.cell? q=some v)(hp:p q.block):w'.cell? q=some v:=(h.cell (bLQ _ _ hc) hp).trans hc
theorem Kb.frozen {p:Nat→Prop}{w w':World}(h:Kb p w w'){q:Addr}(hl:q.block<w.heap.size)(hp:p q.block):w'.frozen? q=w.frozen? q:=by
 simp only[World.frozen?,h.block q.block hl hp]
theorem Kb.boxed {p:Nat→Prop}{w w':World}(h:Kb p w w'){b:Nat}{t:TypeId}{v:Value}(hb:Boxed w b t v)(hp:p b):Boxed w' b t v:=(h.block b hb.lt hp).trans hb
theorem room_none (k:Nat):Fence.wide.room k:=room_wide k
theorem round_any {m m':Nat}{P:Program}{l:Nat}{f:FuncId}{tmps:Array Value}{assign body:Code}{w:World}{R:Ending→World→Prop}(h:RoundIn Fence.wide m P l f tmps assign body w R):RoundIn Fence.wide m' P l f tmps assign body w R:=⟨h.1,fun c cs _=>h.2 c cs (room_none _)⟩
theorem yield_any {m m':Nat}{P:Program}{l:Nat}{args:Array Value}{W:World}{R:Ending→World→Prop}(h:YieldAt Fence.wide m P l args W R):YieldAt Fence.wide m' P l args W R:=by
 obtain⟨fn,tmps,assign,body,hy,hR⟩:=h;exact⟨fn,tmps,assign,body,hy,round_any hR⟩
def itPost (p:Nat→Prop)(I:World→Prop)(Ix:Code→World→Prop)(W:World):Exit→Act→World→Prop
 | .normal,_,W'=>Kb p W W'∧I W'
 | .ret,_,W'=>Kb p W W'∧Ix .ret W'
 | .exit id,_,W'=>Kb p W W'∧Ix (.exit id) W'
 | .goto t,_,W'=>Kb p W W'∧Ix (.goto t) W'
 | .panic _,_,_=>False
 | .outgrown,_,_=>False
def ItQ {α:Type}(P:Program)(g:Nat)(lb:Array Value)(Vl:World→Array Value→α→Prop)(st:World→Prop)(p:Nat→Prop)(L:List α):Prop:=
 ∀ (l:Nat) (J:Nat→(Nat→Prop)→World→Prop) (Jx:World→Prop) (W:World),st W →
   J 0 (fun _=>False) W →
   (∀k X A,J k X A→∀b,X b→b<A.heap.size) →
   (∀k X A A',J k X A→Kb (fun b=>b<W.heap.size∨X b) A A'→J k X A') →
   (∀A A',Jx A→Kb (fun _=>True) A A'→Jx A') →
   (∀k X A args x (Y:Nat→Prop),J k X A→L[k]?=some x→Vl A args x→W.heap.size≤A.heap.size→(∀b,Y b→W.heap.size≤b∧¬X b)→YieldAt Fence.wide 0 P l args A fun e A' =>
    (e=.returned (.bool true)∧(∃X',J (k+1) X' A'∧∀b,X' b→X b∨A.heap.size≤b)∧Kb (fun b=>p b∨Y b) A A')∨(e=.returned (.bool false)∧Jx A'∧Kb (fun b=>p b∨Y b) A A')) →
   Calls P g (#[.func (.yield l) #[] #[]]++lb) W fun e W'=>(∃v,e=.returned v)∧((∃X,J L.length X W')∨Jx W')
theorem wpIn_rangeFunc_itQ {P:Program}{n:Nat}{α:Type}{g:Operand}{ps:Array Tmp}{assign body:Code}{Q:Exit→Act→World→Prop}{a:Act}{w:World}
 (h1:1≤n) {gf:Nat} {lb:Array Value} (hg:a.eval g=.func (.func gf) #[] lb) (eg:∀args w,(callFunc gf args).run P w=.ok (.enter gf args) w)
 {Vl:World→Array Value→α→Prop} {st:World→Prop} {p:Nat→Prop} {L:List α} (hseq:ItQ P gf lb Vl st p L) (hst:∀W,Below w.heap.size w W→st W) (hpw:∀b,p b→b<w.heap.size) (hps:∀A args x,Vl A args x→args.size=ps.size)
 (I:Nat→(Nat→Prop)→World→Prop) (Ix:Code→World→Prop)
 (hlt:∀k X A,I k X A→∀b,X b→w.heap.size+2≤b∧b<A.heap.size)
 (hI:∀k X A A',I k X A→Kb (fun b=>b<w.heap.size∨X b) A A'→I k X A')
 (hIx:∀c A A',Ix c A→Kb (fun b=>b<w.heap.size∨w.heap.size+2≤b) A A'→Ix c A')
 (h0:I 0 (fun _=>False) w)
 (hround:∀(l k:Nat) (X Y:Nat→Prop) (x:α) (args:Array Value) (W:World),l=w.heap.size+1→w.heap.size+2≤W.heap.size→I k X W→L[k]?=some x→Vl W args x→(∀b,Y b→w.heap.size+2≤b∧¬X b)→(∀q:Addr,q.block=l→W.cell? q=none) →
  assign.wpIn (Fence.wide.inRound l) (n-1-1) P (Exit.then (fun a' Wa=>Kb (fun b=>p b∨b=w.heap.size∨b=l∨Y b) W Wa∧∀W2,Kb (fun b=>b≠l) Wa W2→body.wpIn (Fence.wide.inRound l) (n-1-1) P (itPost (fun b=>p b∨b=w.heap.size∨b=l∨Y b) (fun W'=>∃X',I (k+1) X' W'∧∀b,X' b→X b∨W.heap.size≤b) Ix W2) a' W2) (fun _ _ _=>False)) { tmps:=(ps.zip args).foldl (fun t (p,v)=>t.setIfInBounds p v) a.tmps,defers:=[] } W)
 (hdone:∀(X:Nat→Prop) (W:World),I L.length X W→W.heap[w.heap.size]?=some (.deferred (some []))→Q .normal { a with defers:={ target:=.collected w.heap.size,args:=#[] } :: a.defers } W)
 (hstop:∀(c:Code) (W:World),Ix c W→W.heap[w.heap.size]?=some (.deferred (some []))→c.wpIn Fence.wide n P Q { a with defers:={ target:=.collected w.heap.size,args:=#[] } :: a.defers } W):
 (Code.rangeFunc g ps assign body).wpIn Fence.wide n P Q a w:=by
 refine wpIn_rangeFunc ?_;intro fn hfn;rw[show Fence.wide.round=none from rfl];obtain⟨rec,hrec⟩:∃rec:LoopState→Option Code→Loop,rec=fun st pe=>{ state:=st,pending:=pe,fn,tmps:=a.tmps,params:=ps,assign,body,defers:=w.heap.size }:=⟨_,rfl⟩
 obtain⟨W1,hW1⟩:∃W1,(w.alloc (.deferred (some []))).alloc (.loop (rec .ready none))=W1:=⟨_,rfl⟩;have hL1:W1.heap[w.heap.size+1]?=some (.loop (rec .ready none)):=by
  rw[←hW1];have:=World.alloc_heap_new (w.alloc (.deferred (some []))) (.loop (rec .ready none));rwa [World.size_alloc] at this
 have hK1:W1.heap[w.heap.size]?=some (.deferred (some [])):=by
  rw[←hW1];exact (Below.heap_alloc _ _ _ (by simp)).trans (World.alloc_heap_new w _)
 have hS1:W1.heap.size=w.heap.size+2:=by rw[←hW1];simp
 have hB1:Below w.heap.size w W1:=by
  rw[←hW1];exact ((Below.refl _ w).alloc (nLQ _) _).alloc (by simp) _
 have hb1:st W1:=hst W1 hB1;refine⟨w.heap.size+1,[{ target:=.collected w.heap.size,args:=#[] }],W1,{ target:=.fn (.func gf) lb,args:=#[.func (.yield (w.heap.size+1)) #[] #[]] },W1,gf,
  #[.func (.yield (w.heap.size+1)) #[] #[]]++lb,W1,?_,?_,?_,?_,fun _=>h1,?_⟩
 ·rw[←hW1,hrec];exact run_enterLoop_outer _ _ _ _ _
 ·simp only[resolve,hg];simp[go_sem]
 ·intro f' hf';trivial
 ·simp[invoke,go_sem,eg]
 have hI1:∀{k:Nat} {X:Nat→Prop} {A:World} (o:Obj),I k X A→I k X (A.putObj (w.heap.size+1) o):=fun o h=>hI _ _ _ _ h ((Kb.refl _ _).putObj (fun _ hp=>hp.elim (fun h=>by omega) (fun hx=>by have:=(hlt _ _ _ h _ hx).1;omega)) o)
 refine (callsIn_wide.2 (hseq (w.heap.size+1)
  (fun k X W=>I k X W∧W.heap[w.heap.size+1]?=some (.loop (rec .ready none))∧W.heap[w.heap.size]?=some (.deferred (some [])))
  (fun W=>∃c,Ix c W∧W.heap[w.heap.size+1]?=some (.loop (rec .done (some c)))∧W.heap[w.heap.size]?=some (.deferred (some [])))
  W1 hb1 ?_ ?_ ?_ ?_ ?_)).mono ?_
 ·exact⟨hI _ _ _ _ h0 (Kb.of_below hB1 (fun b _ h=>h.elim id False.elim)),hL1,hK1⟩
 ·exact fun k X A h b hx=>(hlt _ _ _ h.1 b hx).2
 ·rintro k X A A' ⟨hi,hl,hd⟩ hk;rw[hS1] at hk;have hlt':w.heap.size+1<A.heap.size:=(Array.getElem?_eq_some_iff.1 hl).1;exact⟨hI k X A A' hi (hk.mono (fun b _ h=>h.imp (fun h=>by omega) id)),(hk.block _ hlt' (.inl (by omega))).trans hl,(hk.block _ (by omega) (.inl (by omega))).trans hd⟩
 ·rintro A A' ⟨c,hi,hl,hd⟩ hk;have hlt':w.heap.size+1<A.heap.size:=(Array.getElem?_eq_some_iff.1 hl).1;exact⟨c,hIx c A A' hi (hk.mono (fun _ _ _=>trivial)),(hk.block _ hlt' trivial).trans hl,(hk.block _ (by omega) trivial).trans hd⟩
 ·rintro k X W args x Y ⟨hi,hl,hd⟩ hx hv hWW hY;rw[hS1] at hY hWW;have hlt':w.heap.size+1<W.heap.size:=(Array.getElem?_eq_some_iff.1 hl).1;have hy:=run_yield (P:=P) (args:=args) hl (by rw[hrec];exact hps _ _ _ hv);rw[hrec] at hy;refine yield_any (m:=n-1-1) ⟨fn,_,assign,body,hy,roundIn_of_wpIn hfn (wpIn_mono (hround _ k X Y x args W rfl hWW hi hx hv hY (fun q hq=>by simp[World.cell?,hq,hl])) ?_)⟩;clear hy;intro e1 a' Wa hp;cases e1 with
  | normal =>
    obtain⟨hka,hbody⟩:=hp;have hl2:=(hka.block _ hlt' (.inr (.inr (.inl rfl)))).trans hl;have hd2:=(hka.block w.heap.size (by omega) (.inr (.inl rfl))).trans hd;have hlta:w.heap.size+1<Wa.heap.size:=(Array.getElem?_eq_some_iff.1 hl2).1;refine⟨_,run_beginRound hl2 (by rw[hrec]),?_⟩;have hkb:Kb (fun b=>b≠w.heap.size+1) Wa (Wa.putObj (w.heap.size+1) (.loop { rec .ready none with state:=.busy })):=(Kb.refl _ _).putObj (fun _ h=>h rfl) _;have hl3:(Wa.putObj (w.heap.size+1) (.loop { rec .ready none with state:=.busy })).heap[w.heap.size+1]?=some (.loop { rec .ready none with state:=.busy }):=World.putObj_heap_same hlta;have hd3:=(hkb.block w.heap.size (by omega) (by omega)).trans hd2;refine wpIn_mono (hbody _ hkb) ?_
    generalize Wa.putObj (w.heap.size+1) (.loop { rec .ready none with state:=.busy })=W2 at hkb hl3 hd3
    have hlt2:w.heap.size+1<W2.heap.size:=(Array.getElem?_eq_some_iff.1 hl3).1;have fin:∀(jump:Option Code) (W3:World),Kb (fun b=>p b∨b=w.heap.size∨b=w.heap.size+1∨Y b) W2 W3 →
     (Instr.endRound (w.heap.size+1) jump).run P W3=.ok (.bool jump.isNone) (W3.putObj (w.heap.size+1) (.loop (rec (if jump.isNone then .ready else .done) jump))) ∧
     W3.heap[w.heap.size+1]?=some (.loop { rec .ready none with state:=.busy }) ∧
     (W3.putObj (w.heap.size+1) (.loop (rec (if jump.isNone then .ready else .done) jump))).heap[w.heap.size+1]?=some (.loop (rec (if jump.isNone then .ready else .done) jump)) ∧
     (W3.putObj (w.heap.size+1) (.loop (rec (if jump.isNone then .ready else .done) jump))).heap[w.heap.size]?=some (.deferred (some [])):=fun jump W3 hk3=>by
     have hl4:=(hk3.block _ hlt2 (.inr (.inr (.inl rfl)))).trans hl3;have hd4:=(hk3.block w.heap.size (by omega) (.inr (.inl rfl))).trans hd3;have:=run_endRound (P:=P) jump hl4;rw[hrec] at this ⊢;exact⟨this,by rw[hrec] at hl4;exact hl4,World.putObj_heap_same (Array.getElem?_eq_some_iff.1 hl4).1,(World.putObj_heap_other (by omega)).trans hd4⟩
    rintro e a3 W3 hp;have hny:∀b,p b∨Y b→b≠w.heap.size+1:=fun b h e=>h.elim (fun h=>by have:=hpw b h;omega) (fun h=>by have:=(hY b h).1;omega)
    have hall:∀(W3:World) (o:Obj),Kb (fun b=>p b∨b=w.heap.size∨b=w.heap.size+1∨Y b) W2 W3→Kb (fun b=>p b∨Y b) W (W3.putObj (w.heap.size+1) o):=fun W3 o hk3=>(((hka.mono (fun b _ h=>h.imp id (fun h=>.inr (.inr h)))).trans ((hkb.mono (fun b _ h=>hny b h)).trans (hk3.mono (fun b _ h=>h.imp id (fun h=>.inr (.inr h)))))).trans ((Kb.refl _ _).putObj (fun _ h=>hny _ h rfl) _))
    cases e with
    | normal =>
      obtain⟨hk3,X',hi3,hX'⟩:=hp;obtain⟨hr,hl4,hl5,hd5⟩:=fin none W3 hk3;exact⟨_,_,hr,.inl ⟨rfl,⟨X',⟨hI1 _ hi3,hl5,hd5⟩,hX'⟩,hall _ _ hk3⟩⟩
    | ret =>
      obtain⟨hk3,hi3⟩:=hp;obtain⟨hr,hl4,hl5,hd5⟩:=fin (some .ret) W3 hk3;exact⟨_,_,hr,.inr ⟨rfl,⟨.ret,hIx _ W3 _ hi3 ((Kb.refl _ _).putObj (fun _ h=>by omega) _),hl5,hd5⟩,hall _ _ hk3⟩⟩
    | exit id =>
      obtain⟨hk3,hi3⟩:=hp;obtain⟨hr,hl4,hl5,hd5⟩:=fin (some (.exit id)) W3 hk3;exact⟨_,_,hr,.inr ⟨rfl,⟨.exit id,hIx _ W3 _ hi3 ((Kb.refl _ _).putObj (fun _ h=>by omega) _),hl5,hd5⟩,hall _ _ hk3⟩⟩
    | goto t =>
      obtain⟨hk3,hi3⟩:=hp;obtain⟨hr,hl4,hl5,hd5⟩:=fin (some (.goto t)) W3 hk3;exact⟨_,_,hr,.inr ⟨rfl,⟨.goto t,hIx _ W3 _ hi3 ((Kb.refl _ _).putObj (fun _ h=>by omega) _),hl5,hd5⟩,hall _ _ hk3⟩⟩
    | panic ch=>exact hp.elim
    | outgrown=>exact hp.elim
  | ret=>exact hp.elim
  | exit id=>exact hp.elim
  | goto t=>exact hp.elim
  | panic ch=>exact hp.elim
  | outgrown=>exact hp.elim
 rintro e W2 ⟨⟨v,rfl⟩,(⟨X,hi,hl,hd⟩ | ⟨c,hi,hl,hd⟩)⟩
 ·refine⟨none,_,by have:=run_endLoop (P:=P) hl (by rw[hrec];simp);rw[hrec] at this;exact this,?_⟩;exact hdone X _ (hI1 _ hi) ((World.putObj_heap_other (by omega)).trans hd)
 refine⟨some c,_,by have:=run_endLoop (P:=P) hl (by rw[hrec];simp);rw[hrec] at this;exact this,?_⟩;exact hstop c _ (hIx c W2 _ hi ((Kb.refl _ _).putObj (fun _ h=>by omega) _)) ((World.putObj_heap_other (by omega)).trans hd)
end
end Go.Proofs.YtgddlpcacnolfaaGreatDoor
