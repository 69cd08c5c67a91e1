/- Contracts and facts on the way to AgentPlays, joined into one text: RuleTab, RuleTab2, ChangeMem, ItLaw, AgentKb, OwnRow, OwnInts, RefAgMem, RefAgFind, RefIn, AlikeMath, Quiet, RuleOf, RuleOwn, TableApp, TableConcat, TableIdx, TableDo. -/
import Derived.Test.YtcbapfgohocghaaDoorAgentPlaysP1
namespace Go.Proofs.YtcbapfgohocghaaDoor
set_option linter.unusedSimpArgs false
set_option linter.unusedVariables false
set_option maxHeartbeats 16000000
set_option maxRecDepth 100000
open Go.Proofs.Tryd
open IntKind (i64)
section
open Go.RowKit
structure C6 (w:World)(g o:Nat)(r:Ru):Prop where
 c0:w.cell? ⟨g,o,none⟩=some (.int i64 r.p)
 c1:w.cell? ⟨g,o+1,none⟩=some (.int i64 r.m)
 c2:w.cell? ⟨g,o+2,none⟩=some (.int i64 r.b)
 c3:w.cell? ⟨g,o+3,none⟩=some (.int i64 r.o)
 c4:w.cell? ⟨g,o+4,none⟩=some (.int i64 r.s)
 c5:w.cell? ⟨g,o+5,none⟩=some (.int i64 r.v)
theorem C6.later {w w':World}{g o:Nat}{r:Ru}(h:C6 w g o r)(hb:Below w.heap.size w w'):C6 w' g o r:=
 ⟨cell_later hb h.c0,cell_later hb h.c1,cell_later hb h.c2,cell_later hb h.c3,cell_later hb h.c4,cell_later hb h.c5⟩
theorem C6.new (w:World)(p m b o s v:Int)(t:TypeId):C6 (w.alloc (.cells #[.int i64 p,.int i64 m,.int i64 b,.int i64 o,.int i64 s,.int i64 v] t)) w.heap.size 0 ⟨p,m,b,o,s,v⟩:=by
 refine⟨?_,?_,?_,?_,?_,?_⟩ <;> simp
def RAt (w:World)(g o:Nat)(L:List Ru):Prop:=∀i (h:i<L.length),C6 w g (o+i*6) L[i]
theorem RAt.later {w w':World}{g o:Nat}{L:List Ru}(h:RAt w g o L)(hb:Below w.heap.size w w'):RAt w' g o L:=fun i hi=>(h i hi).later hb
theorem RAt.take {w:World}{g o:Nat}{L:List Ru}(h:RAt w g o L)(k:Nat):RAt w g o (L.take k):=by
 intro i hi;rw[List.getElem_take];exact h i (by simp at hi;omega)
def SR (w:World)(v:Value)(L:List Ru):Prop:=
 (∃ao cap,v=.slice ao 0 cap∧L=[])∨∃g o cap,v=.slice (some ⟨g,o,none⟩) L.length cap∧L.length≤cap∧cap≤maxLen∧RAt w g o L
theorem SR.later {w w':World}{v:Value}{L:List Ru}(h:SR w v L)(hb:Below w.heap.size w w'):SR w' v L:=by
 rcases h with h | ⟨g,o,cap,h1,h2,h3,h4⟩
 ·exact .inl h
 exact .inr ⟨g,o,cap,h1,h2,h3,h4.later hb⟩
theorem RAt.at {w:World}{g o:Nat}{L:List Ru}(h:RAt w g o L){n k:Nat}(hn:L.length=n)(hk:k<n):
 ∃ (p m b q s v:Int) (hl:k<L.length),L[k]=⟨p,m,b,q,s,v⟩∧(w.cell? ⟨g,o+k*6,none⟩=some (.int i64 p)∧w.cell? ⟨g,o+k*6+1,none⟩=some (.int i64 m)∧w.cell? ⟨g,o+k*6+2,none⟩=some (.int i64 b) ∧
   w.cell? ⟨g,o+k*6+3,none⟩=some (.int i64 q)∧w.cell? ⟨g,o+k*6+4,none⟩=some (.int i64 s)∧w.cell? ⟨g,o+k*6+5,none⟩=some (.int i64 v)):=
 have hl:k<L.length:=by omega
 have c:=h k hl
 ⟨_,_,_,_,_,_,hl,rfl,c.c0,c.c1,c.c2,c.c3,c.c4,c.c5⟩
theorem key_ways (p m b o s v p' m' b' o' s' v':Int):
 ((p==p')=false∧keyB ⟨p,m,b,o,s,v⟩ ⟨p',m',b',o',s',v'⟩=false)∨((p==p')=true∧(m==m')=false∧keyB ⟨p,m,b,o,s,v⟩ ⟨p',m',b',o',s',v'⟩=false) ∨
 ((p==p')=true∧(m==m')=true∧(b==b')=false∧keyB ⟨p,m,b,o,s,v⟩ ⟨p',m',b',o',s',v'⟩=false)∨((p==p')=true∧(m==m')=true∧(b==b')=true∧keyB ⟨p,m,b,o,s,v⟩ ⟨p',m',b',o',s',v'⟩=true):=by
 rw[key_eq];by_cases h1:p=p' <;> by_cases h2:m=m' <;> by_cases h3:b=b' <;> simp[h1,h2,h3]
theorem clash_any (p m b o s v p' m' b' o' s' v':Int)(w:World):
 Calls prog 49 #[.agg #[.int i64 p,.int i64 m,.int i64 b,.int i64 o,.int i64 s,.int i64 v],.agg #[.int i64 p',.int i64 m',.int i64 b',.int i64 o',.int i64 s',.int i64 v']] w fun e w'=>e=.returned (.bool (keyB ⟨p,m,b,o,s,v⟩ ⟨p',m',b',o',s',v'⟩))∧Below w.heap.size w w':=by
 have HB:Hid (∀o1 o2,Below w.heap.size w ((w.alloc o1).alloc o2)):=fun o1 o2=>((bRQ _ _).alloc (nLQ _) o1).alloc (by simp) o2
 rcases key_ways p m b o s v p' m' b' o' s' v' with ⟨e1,e⟩ | ⟨e1,e2,e⟩ | ⟨e1,e2,e3,e⟩ | ⟨e1,e2,e3,e⟩
 all_goals
  rw[e];clear e;go_enter func49,ntmps49;go_wp2;go_ret;exact⟨rfl,HB.out _ _⟩
def Asks (w:World)(f:FuncId)(c:Value)(P:Ru→Bool):Prop:=
 ∀ (p m b o s v:Int) (W:World),Below w.heap.size w W →
   Calls prog f #[.agg #[.int i64 p,.int i64 m,.int i64 b,.int i64 o,.int i64 s,.int i64 v],c] W fun e w'=>e=.returned (.bool (P ⟨p,m,b,o,s,v⟩))∧Below W.heap.size W w'
theorem Asks.later {w w':World}{f:FuncId}{c:Value}{P:Ru→Bool}(h:Asks w f c P)(hb:Below w.heap.size w w'):Asks w' f c P:=
 fun p m b o s v W hW=>h p m b o s v W (hb.trans (hW.mono hb.size))
theorem table1_any (p m b o s v:Int)(r:Ru)(B:Nat)(w:World)(hc:C6 w B 0 r):
 Calls prog 48 #[.agg #[.int i64 p,.int i64 m,.int i64 b,.int i64 o,.int i64 s,.int i64 v],.pointer (some ⟨B,0,none⟩)] w fun e w'=>e=.returned (.bool (keyB ⟨p,m,b,o,s,v⟩ r))∧Below w.heap.size w w':=by
 obtain⟨p',m',b',o',s',v'⟩:=r;obtain⟨c0,c1,c2,c3,c4,c5⟩:=hc;simp only[Nat.zero_add] at c0 c1 c2 c3 c4 c5;have hlt:B<w.heap.size:=bLQ _ _ c0;go_enter func48,ntmps48
 go_wp2_with fail
 refine (clash_any _ _ _ _ _ _ _ _ _ _ _ _ _).mono ?_;rintro e w1 ⟨rfl,hb1⟩;go_wp2;go_ret;exact⟨rfl,((bRQ _ _).alloc (nLQ _) _).trans (hb1.mono (by simp))⟩
theorem table1_asks (r:Ru)(B:Nat)(w:World)(hc:C6 w B 0 r):Asks w 48 (.pointer (some ⟨B,0,none⟩)) (fun a=>keyB a r):=
 fun p m b o s v W hW=>table1_any p m b o s v r B W (hc.later hW)
theorem any_nextR {L:List Ru}{f:Ru→Bool}{k:Nat}(hk:k<L.length)(h:(L.take k).any f=false)(h2:f L[k]=false):(L.take (k+1)).any f=false:=by
 rw[List.take_succ_eq_append_getElem hk];simp only[List.any_append,h,List.any_cons,List.any_nil,h2,Bool.or_false]
theorem any_hitR {L:List Ru}{f:Ru→Bool}{k:Nat}(hk:k<L.length)(h2:f L[k]=true):L.any f=true:=List.any_eq_true.2 ⟨_,List.getElem_mem hk,h2⟩
def ixP (f:Ru→Bool)(L:List Ru):Int:=if L.any f then (L.findIdx f:Int) else -1
theorem ixP_hit {L:List Ru}{f:Ru→Bool}{k:Nat}(hk:k<L.length)(h:(L.take k).any f=false)(h2:f L[k]=true):ixP f L=k:=by
 rw[ixP,any_hitR hk h2,if_pos rfl]
 congr 1
 rw[List.findIdx_eq hk];refine⟨h2,fun j hj=>?_⟩;rw[List.any_eq_false] at h;have:=h L[j] (by rw[List.mem_take_iff_getElem];exact⟨j,by omega,rfl⟩);simpa using this
theorem ixP_no {L:List Ru}{f:Ru→Bool}(h:L.any f=false):ixP f L = -1:=by simp[ixP,h]
theorem ixP_any (L:List Ru)(f:Ru→Bool):decide (0≤ixP f L)=L.any f:=by
 unfold ixP;cases L.any f
 ·simp
 simp
theorem SR.form {w:World}{v:Value}{L:List Ru}(h:SR w v L):∃ao n cap,v=.slice ao n cap∧L.length=n∧n≤maxLen∧n≤cap∧(0<n→∃g o,ao=some ⟨g,o,none⟩∧RAt w g o L∧cap≤maxLen):=by
 rcases h with ⟨ao,cap,rfl,rfl⟩ | ⟨g,o,cap,rfl,h1,h2,h3⟩
 ·exact⟨ao,0,cap,rfl,rfl,Nat.zero_le _,Nat.zero_le _,fun h=>absurd h (by omega)⟩
 exact⟨_,_,cap,rfl,rfl,Nat.le_trans h1 h2,h1,fun _=>⟨g,o,rfl,h3,h2⟩⟩
theorem idxF (ao:AdQ)(n cap:Nat)(f:FuncId)(c:Value)(P:Ru→Bool)(L:List Ru)(w:World)(hn:L.length=n)(hn2:n≤maxLen)(ha:0<n→∃g o,ao=some ⟨g,o,none⟩∧RAt w g o L∧cap≤maxLen)(he:∀args w,(callFunc f args).run prog w=.ok (.enter f args) w)(hf:Asks w f c P):
 Calls prog 63 #[.slice ao n cap,.func (Fn.func f) #[] #[c]] w fun e w'=>e=.returned (.int i64 (ixP P L))∧Below w.heap.size w w':=by
 have HN:Hid (L.length=n):=hn;have HF:Hid (Asks w f c P):=hf;have HA:Hid (0<n→∃g o,ao=some ⟨g,o,none⟩∧RAt w g o L∧cap≤maxLen):=ha;unfold maxLen at hn2;clear hn hf ha;go_enter func63,ntmps63;go_wp2
 go_loopw [8] (fun i wr=>∃k:Nat,k≤n∧i=.int i64 k∧(L.take k).any P=false∧Below w.heap.size w wr)
  (fun i _=>n-(intOf i).toNat)
 case atStart=>exact⟨0,by omega,rfl,by simp,bRQ _ _⟩
 case round =>
  obtain⟨k,hk,rfl,hno,hB⟩:=hrel;have HB:Hid (Below w.heap.size w wr):=hB;have HNO:Hid ((L.take k).any P=false):=hno;clear hno;by_cases hlt:k<n
  ·obtain⟨g,o,hao,hc,_⟩:=HA.out (by omega);subst hao;obtain⟨p,m,b,q,s,v,hkl,hL,q0,q1,q2,q3,q4,q5⟩:=(hc.later hB).at HN.out hlt;have HL:Hid (L[k]=⟨p,m,b,q,s,v⟩):=hL;clear hL hB;cases ho:P ⟨p,m,b,q,s,v⟩
   ·go_wp2_with fail
    refine (HF.out p m b q s v _ HB.out).mono ?_;rintro e w1 ⟨rfl,hb1⟩;rw[ho];have HB1:=HB.out.trans (hb1.mono HB.out.size);clear hb1;go_wp2;go_roundw
    case rel=>exact⟨k+1,by omega,by go_num,any_nextR hkl HNO.out (by rw[HL.out];exact ho),HB1⟩
    case measure=>simp[intOf];omega
   go_wp2_with fail
   refine (HF.out p m b q s v _ HB.out).mono ?_;rintro e w1 ⟨rfl,hb1⟩;rw[ho];go_wp2;go_ret;exact⟨by rw[ixP_hit hkl HNO.out (by rw[HL.out];exact ho)];rfl,HB.out.trans (hb1.mono HB.out.size)⟩
  obtain rfl:k=n:=by omega
  go_wp2;go_ret;exact⟨by have:=HNO.out;rw[←HN.out,List.take_length] at this;rw[ixP_no this];rfl,HB.out⟩
theorem containsF (ao:AdQ)(n cap:Nat)(f:FuncId)(c:Value)(P:Ru→Bool)(L:List Ru)(w:World)(hn:L.length=n)(hn2:n≤maxLen)(ha:0<n→∃g o,ao=some ⟨g,o,none⟩∧RAt w g o L∧cap≤maxLen)(he:∀args w,(callFunc f args).run prog w=.ok (.enter f args) w)(hf:Asks w f c P):
 Calls prog 47 #[.slice ao n cap,.func (Fn.func f) #[] #[c]] w fun e w'=>e=.returned (.bool (L.any P))∧Below w.heap.size w w':=by
 rw[←ixP_any];obtain⟨x,hx⟩:∃x,x=ixP P L:=⟨_,rfl⟩;have HX:Hid (x=ixP P L):=hx;rw[←hx];clear hx;go_enter func47,ntmps47
 go_wp2_with fail
 refine (idxF ao n cap f c P L _ hn hn2 ha he hf).mono ?_;rintro e w1 ⟨rfl,hb1⟩;rw[←HX.out];go_wp2;go_ret;exact⟨rfl,hb1⟩
theorem containsR_any (g o cap n B:Nat)(r:Ru)(L:List Ru)(w:World)(hc:RAt w g o L)(hn:L.length=n)(hn2:n≤maxLen)(hcap:cap≤maxLen)(hr:C6 w B 0 r):
 Calls prog 47 #[.slice (some ⟨g,o,none⟩) n cap,.func (Fn.func 48) #[] #[.pointer (some ⟨B,0,none⟩)]] w fun e w'=>e=.returned (.bool (L.any (fun a=>keyB a r)))∧Below w.heap.size w w':=
 containsF _ n cap _ _ _ L w hn hn2 (fun _=>⟨g,o,rfl,hc,hcap⟩) (enters_of func48 (by kernel_rfl) rfl) (table1_asks r B w hr)
theorem tb_long {L:List Ru}(h:12<L.length):tbN L=4:=by simp[tbN,h]
theorem tb_at {L:List Ru}(h:L.length≤12){k:Nat}(hk:k<L.length){x:Int}(h1:tbTo L (k+1)=x)(h2:x≠0):tbN L=x:=by
 subst h1;rw[tbN,if_neg (by omega)];exact to_le h2 hk
theorem to_bad {L:List Ru}{k:Nat}{r:Ru}(hk:k<L.length)(hr:L[k]=r)(h:tbTo L k=0)(h2:r.n≠0):tbTo L (k+1)=r.n:=by
 rw[tbTo,if_pos h,getD_at hk,hr,if_neg h2]
theorem to_clash {L:List Ru}{k:Nat}{r:Ru}(hk:k<L.length)(hr:L[k]=r)(h:tbTo L k=0)(h2:r.n=0)(h3:(L.take k).any (fun a=>keyB a r)=true):tbTo L (k+1)=7:=by
 rw[tbTo,if_pos h,getD_at hk,hr,if_pos h2,h3];rfl
theorem to_next {L:List Ru}{k:Nat}{r:Ru}(hk:k<L.length)(hr:L[k]=r)(h:tbTo L k=0)(h2:r.n=0)(h3:(L.take k).any (fun a=>keyB a r)=false):tbTo L (k+1)=0:=by
 rw[tbTo,if_pos h,getD_at hk,hr,if_pos h2,h3];rfl
theorem table_some (g o cap n:Nat)(L:List Ru)(w:World)(hc:RAt w g o L)(hn:L.length=n)(hl:n≤12)(hcap:n≤cap)(hcap2:cap≤maxLen):
 Calls prog 25 #[.slice (some ⟨g,o,none⟩) n cap] w fun e w'=>e=.returned (noV (tbN L))∧Below w.heap.size w w':=by
 have HN:Hid (L.length=n):=hn;unfold maxLen at hcap2;clear hn;go_enter func25,ntmps25;go_wp2
 go_loopw [12] (fun i wr=>∃k:Nat,k≤n∧i=.int i64 k∧tbTo L k=0∧Below w.heap.size w wr) (fun i _=>n-(intOf i).toNat)
 case atStart=>exact⟨0,by omega,rfl,rfl,bRQ _ _⟩
 case round =>
  obtain⟨k,hk,rfl,hno,hB⟩:=hrel;have HB:Hid (Below w.heap.size w wr):=hB;have HNO:Hid (tbTo L k=0):=hno;clear hno;by_cases hlt:k<n
  ·obtain⟨p,m,b,q,s,v,hkl,hL,q0,q1,q2,q3,q4,q5⟩:=(hc.later hB).at HN.out hlt;have HL:Hid (L[k]=⟨p,m,b,q,s,v⟩):=hL;have HC6:=C6.new wr p m b q s v 41;have HRT:=((hc.later hB).later ((bRQ _ _).alloc (nLQ _) (Obj.cells #[.int i64 p,.int i64 m,.int i64 b,.int i64 q,.int i64 s,.int i64 v] 41))).take k;have HTL:Hid ((L.take k).length=k):=by show (L.take k).length=k;simp;omega
   have hk2:k≤cap:=by omega
   clear hL hB;by_cases ho:ruN p m b q s v=0
   ·go_wp2_with fail
    refine (ruCheck_any _ _ _ _ _ _ _).mono ?_;rintro e w1 ⟨rfl,hb1⟩;rw[no_ok ho];have HB1:=HB.out.trans (((bRQ _ _).alloc (nLQ _) _).trans (hb1.mono (by simp)) |>.mono HB.out.size);have HC7:=HC6.later hb1;have HR7:=HRT.later hb1;clear hb1 HC6 HRT;cases ho2:(L.take k).any (fun a=>keyB a ⟨p,m,b,q,s,v⟩)
    ·go_wp2_with fail
     refine (containsR_any _ _ _ k _ ⟨p,m,b,q,s,v⟩ (L.take k) _ HR7 HTL.out (by unfold maxLen;omega) (by unfold maxLen;omega) HC7).mono ?_;rintro e w2 ⟨rfl,hb2⟩;rw[ho2];have HB2:=HB1.trans (hb2.mono HB1.size);clear hb2;go_wp2;go_roundw
     case rel=>exact⟨k+1,by omega,by go_num,to_next hkl HL.out HNO.out ho ho2,HB2⟩
     case measure=>simp[intOf];omega
    go_wp2_with fail
    refine (containsR_any _ _ _ k _ ⟨p,m,b,q,s,v⟩ (L.take k) _ HR7 HTL.out (by unfold maxLen;omega) (by unfold maxLen;omega) HC7).mono ?_;rintro e w2 ⟨rfl,hb2⟩;rw[ho2];have HB2:=HB1.trans (hb2.mono HB1.size);clear hb2;go_wp2;go_ret;refine⟨?_,HB2⟩;rw[tb_at (by rw[HN.out];exact hl) hkl (to_clash hkl HL.out HNO.out ho ho2) (by decide)];rfl
   go_wp2_with fail
   refine (ruCheck_any _ _ _ _ _ _ _).mono ?_;rintro e w1 ⟨rfl,hb1⟩;rw[no_ne ho];have HB1:=HB.out.trans (((bRQ _ _).alloc (nLQ _) _).trans (hb1.mono (by simp)) |>.mono HB.out.size);clear hb1;go_wp2;go_ret;refine⟨?_,HB1⟩;rw[tb_at (by rw[HN.out];exact hl) hkl (to_bad hkl HL.out HNO.out ho) ho,no_ne (show Ru.n ⟨p,m,b,q,s,v⟩≠0 from ho)];rfl
  obtain rfl:k=n:=by omega
  go_wp2;go_ret;refine⟨?_,HB.out⟩;have e1:tbN L=0:=by
   rw[tbN,if_neg (by rw[HN.out];omega),HN.out];exact HNO.out
  rw[e1];rfl
theorem table_long (ao:AdQ)(cap n:Nat)(w:World)(hl:12<n):
 Calls prog 25 #[.slice ao n cap] w fun e w'=>e=.returned (.iface 73 (.int i64 4))∧Below w.heap.size w w':=by
 go_enter func25,ntmps25;go_wp2;go_ret;exact⟨rfl,bRQ _ _⟩
theorem table_nil (ao:AdQ)(cap:Nat)(w:World):
 Calls prog 25 #[.slice ao 0 cap] w fun e w'=>e=.returned .nilIface∧Below w.heap.size w w':=by
 go_enter func25,ntmps25;go_wp2
 go_loopw [12] (fun i wr=>i=.int i64 0∧wr=w) (fun i _=>0)
 case atStart=>exact⟨rfl,rfl⟩
 case round =>
  obtain⟨rfl,rfl⟩:=hrel;go_wp2;go_ret;exact⟨rfl,bRQ _ _⟩
theorem table_any (v:Value)(L:List Ru)(w:World)(h:SR w v L):
 Calls prog 25 #[v] w fun e w'=>e=.returned (noV (tbN L))∧Below w.heap.size w w':=by
 rcases h with ⟨ao,cap,rfl,rfl⟩ | ⟨g,o,cap,rfl,h1,h2,hc⟩
 ·exact table_nil ao cap w
 by_cases h12:12<L.length
 ·rw[tb_long h12];exact table_long _ _ _ _ h12
 exact table_some _ _ _ _ L w hc rfl (by omega) h1 h2
def offB (x:SlT)(b:Nat):Prop:=x.2.1=0∨∀a,x.1=some a→a.block≠b
theorem RAt.lt {w:World}{g o:Nat}{L:List Ru}(h:RAt w g o L)(h0:0<L.length):g<w.heap.size:=bLQ _ _ (h 0 h0).c0
theorem SR.off {w:World}{x:SlT}{L:List Ru}(h:SR w (slV x) L){b:Nat}(hb:w.heap.size≤b):offB x b:=by
 obtain⟨ao,n,cap⟩:=x
 rcases h with ⟨ao',cap',e,rfl⟩ | ⟨g,o,cap',e,h1,h2,h3⟩
 ·simp only[slV,Value.slice.injEq] at e;exact .inl e.2.1
 simp only[slV,Value.slice.injEq] at e;obtain⟨rfl,rfl,rfl⟩:=e;by_cases h0:L.length=0
 ·exact .inl h0
 refine .inr fun a ha=>?_
 cases ha;have:=h3.lt (by omega);show g≠b;omega
theorem SR.grown {w w':World}{x:SlT}{L:List Ru}{row:Option Nat}(h:SR w (slV x) L)(hg:w.grownBy w' row)(ho:∀b,row=some b→offB x b):SR w' (slV x) L:=by
 obtain⟨ao,n,cap⟩:=x
 rcases h with ⟨ao',cap',e,rfl⟩ | ⟨g,o,cap',e,h1,h2,h3⟩
 ·exact .inl ⟨ao',cap',e,rfl⟩
 simp only[slV,Value.slice.injEq] at e;obtain⟨rfl,rfl,rfl⟩:=e;by_cases h0:L.length=0
 ·exact .inl ⟨_,_,by rw[slV,h0],List.length_eq_zero_iff.1 h0⟩
 have hne:some g≠row:=by
  intro e
  rcases ho g e.symm with h4 | h4
  ·exact h0 h4
  exact h4 _ rfl rfl
 refine .inr ⟨g,o,cap,rfl,h1,h2,fun i hi=>?_⟩;obtain⟨c0,c1,c2,c3,c4,c5⟩:=h3 i hi;exact⟨hg.cell c0 hne,hg.cell c1 hne,hg.cell c2 hne,hg.cell c3 hne,hg.cell c4 hne,hg.cell c5 hne⟩
section
variable {e:TypeId}{w w':World}{A B:Nat}{v:Value}{vs:List SlT}{Ts:TsQ}
end
end
section
open Go.RowKit Go.Shelf
structure Kb (p:Nat→Prop)(w w':World):Prop where
 os:w'.os=w.os
 tape:w'.tape=w.tape
 output:w'.output=w.output
 size:w.heap.size≤w'.heap.size
 block:∀k,k<w.heap.size→p k→w'.heap[k]?=w.heap[k]?
theorem Kb.refl (p:Nat→Prop)(w:World):Kb p w w:=⟨rfl,rfl,rfl,nLQ _,fun _ _ _=>rfl⟩
theorem Kb.trans {p:Nat→Prop}{a b c:World}(h:Kb p a b)(k:Kb p b c):Kb p a c:=
 ⟨k.os.trans h.os,k.tape.trans h.tape,k.output.trans h.output,Nat.le_trans h.size k.size,fun i hi hx=>(k.block i (Nat.lt_of_lt_of_le hi h.size) hx).trans (h.block i hi hx)⟩
theorem Kb.mono {p q:Nat→Prop}{w w':World}(h:Kb p w w')(hq:∀b,b<w.heap.size→q b→p b):Kb q w w':=⟨h.os,h.tape,h.output,h.size,fun k hk hx=>h.block k hk (hq k hk hx)⟩
theorem Kb.of_below {p:Nat→Prop}{n₀:Nat}{w w':World}(h:Below n₀ w w')(hp:∀b,b<w.heap.size→p b→b<n₀):Kb p w w':=⟨h.os,h.tape,h.output,h.size,fun k hk hx=>h.block k (hp k hk hx)⟩
theorem Kb.below {p:Nat→Prop}{n₀:Nat}{w w':World}(h:Kb p w w')(hn:n₀≤w.heap.size)(hp:∀b,b<n₀→p b):Below n₀ w w':=⟨h.os,h.tape,h.output,h.size,fun k hk=>h.block k (by omega) (hp k hk)⟩
theorem Kb.drew {p:Nat→Prop}{a w:World}(h:Kb p a w):Kb p a w.drew:=⟨h.os,h.tape,h.output,h.size,h.block⟩
theorem Kb.alloc {p:Nat→Prop}{a w:World}(h:Kb p a w)(o:Obj):Kb p a (w.alloc o):=
 h.trans (Kb.of_below ((Below.refl w.heap.size w).alloc (nLQ _) o) (fun b hb _=>hb))
theorem Kb.setCell {p:Nat→Prop}{a w:World}(h:Kb p a w){q:Addr}(hq:q.block<a.heap.size→¬p q.block)(v:Value):Kb p a (w.setCell q v):=by
 refine⟨h.os,h.tape,h.output,?_,fun k hk hx=>(Below.heap_setCell w q v k ?_).trans (h.block k hk hx)⟩
 ·show a.heap.size≤(w.heap.modify _ _).size;rw[Array.size_modify];exact h.size
 intro e;subst e;exact hq hk hx
theorem Kb.grown {p:Nat→Prop}{a w w':World}{row:Option Nat}(h:Kb p a w)(hg:w.grownBy w' row)(hr:∀r,row=some r→r<a.heap.size→¬p r):Kb p a w':=
 ⟨hg.os.trans h.os,hg.tape.trans h.tape,hg.output.trans h.output,Nat.le_trans h.size hg.size,fun k hk hx=>(hg.block k (Nat.lt_of_lt_of_le hk h.size) (fun e=>hr k e.symm hk hx)).trans (h.block k hk hx)⟩
theorem Kb.cell {p:Nat→Prop}{w w':World}(h:Kb p w w'){q:Addr}(hl:q.block<w.heap.size)(hp:p q.block):w'.cell? q=w.cell? q:=World.cell?_of_block (w:=w) (h.block q.block hl hp)
theorem Kb.at {p:Nat→Prop}{w w':World}(h:Kb p w w'){q:Addr}{v:Value}(hc:w.cell? q=some v)(hp:p q.block):w'.cell? q=some v:=(h.cell (bLQ _ _ hc) hp).trans hc
theorem Kb.frozen {p:Nat→Prop}{w w':World}(h:Kb p w w'){q:Addr}(hl:q.block<w.heap.size)(hp:p q.block):w'.frozen? q=w.frozen? q:=by
 simp only[World.frozen?,h.block q.block hl hp]
end
section
open Go.RowKit
theorem own_kb {w w':World}{base e size n:Nat}{v:Value}{xs:List Value}{p:Nat→Prop}(h:w.ownsRow base e size v n xs)(hk:Kb p w w')(hp:∀b,v.ownBlock=some b→p b):w'.ownsRow base e size v n xs:=by
 refine⟨h.1,?_⟩;have hl:=h.lt
 rcases h.2 with hn | ⟨g,cap,cur,rfl,hb,hg,rest⟩
 ·exact .inl hn
 exact .inr ⟨g,cap,cur,rfl,hb,(hk.block g (hl g rfl).2 (hp g rfl)).trans hg,rest⟩
theorem SR.kb {w w':World}{x:SlT}{L:List Ru}{p:Nat→Prop}(h:SR w (slV x) L)(hk:Kb p w w')(hp:x.2.1=0∨∀ad,x.1=some ad→p ad.block):SR w' (slV x) L:=by
 obtain⟨ao,n,cap⟩:=x
 rcases h with ⟨ao',cap',e,rfl⟩ | ⟨g,o,cap',e,h1,h2,h3⟩
 ·exact .inl ⟨ao',cap',e,rfl⟩
 simp only[slV,Value.slice.injEq] at e;obtain⟨rfl,rfl,rfl⟩:=e;by_cases h0:L.length=0
 ·exact .inl ⟨_,_,by rw[slV,h0],List.length_eq_zero_iff.1 h0⟩
 have hq:p g:=by
  rcases hp with h4 | h4
  ·exact absurd h4 h0
  exact h4 _ rfl
 refine .inr ⟨g,o,cap,rfl,h1,h2,fun i hi=>?_⟩;obtain⟨c0,c1,c2,c3,c4,c5⟩:=h3 i hi;exact⟨hk.at c0 hq,hk.at c1 hq,hk.at c2 hq,hk.at c3 hq,hk.at c4 hq,hk.at c5 hq⟩
theorem own_below {w w':World}{B e size n:Nat}{v:Value}{xs:List Value}(h:w.ownsRow B e size v n xs)(hb:Below w.heap.size w w'):w'.ownsRow B e size v n xs:=by
 obtain⟨h1,h2 | ⟨g,cap,cur,hv,hB,hg,h3⟩⟩:=h
 ·exact⟨h1,.inl h2⟩
 have hlt:g<w.heap.size:=by
  rcases Nat.lt_or_ge g w.heap.size with h | h
  ·exact h
  rw[Array.getElem?_eq_none h] at hg;cases hg
 exact⟨h1,.inr ⟨g,cap,cur,hv,hB,(hb.block g hlt).trans hg,h3⟩⟩
theorem infoInt:(Tryd.prog.info? 3).map (fun i=>(i.zero,i.size,i.bytes))=some (some (.int i64 0),1,8):=by kernel_rfl
theorem own_form {w:World}{B e size n:Nat}{v:Value}{xs:List Value}(h:w.ownsRow B e size v n xs):∃ao cap,v=.slice ao n cap:=by
 rcases h.2 with ⟨rfl,rfl⟩ | ⟨g,cap,cur,rfl,_⟩
 ·exact⟨none,0,rfl⟩
 exact⟨_,cap,rfl⟩
theorem cells_in (L:List Int):cellsG inE L=L.map (Value.int i64):=by
 induction L with
 | nil=>rfl
 | cons x l ih =>
   have:cellsG inE (x :: l)=Value.int i64 x :: cellsG inE l:=rfl;rw[this,ih];rfl
theorem cells_in_set (L:List Int)(r:Nat)(i:Int):cellsG inE (L.set r i)=(cellsG inE L).set r (.int i64 i):=by
 rw[cells_in,cells_in,List.map_set]
def AgO (p:Nat)(vl vm vd:Value)(b:Nat):Prop:=b=p∨vl.ownBlock=some b∨vm.ownBlock=some b∨vd.ownBlock=some b
structure RfA (W:World)(p B0:Nat)(O:Nat→Prop)(n:Int)(a:AgT)(x:SlT)(vl vm vd:Value):Prop where
 c0:W.cell? ⟨p,0,none⟩=some (.int i64 n)
 c1:W.cell? ⟨p,1,none⟩=some (slV x)
 c2:W.cell? ⟨p,2,none⟩=some vl
 c3:W.cell? ⟨p,3,none⟩=some vm
 c4:W.cell? ⟨p,4,none⟩=some vd
 f:∀i,W.frozen? ⟨p,i,none⟩=false
 t:SR W (slV x) a.t
 tx:∀b,AgO p vl vm vd b→offB x b
 tr:x.2.1=0∨∀ad,x.1=some ad→ad.block<B0∨O ad.block
 l:W.ownsRow (p+1) 104 kptE.n vl a.l.length (cellsG kptE a.l)
 m:W.ownsRow (p+1) 3 inE.n vm a.m.length (cellsG inE a.m)
 d:W.ownsRow (p+1) 3 inE.n vd a.d.length (cellsG inE a.d)
 md:vm.ownBlock=none∨vm.ownBlock≠vd.ownBlock
 ob:∀b,AgO p vl vm vd b→O b
 lt:∀b,O b→B0≤b∧b<W.heap.size
section
variable {W W':World}{p B0:Nat}{O:Nat→Prop}{n:Int}{a:AgT}{x:SlT}{vl vm vd:Value}
theorem RfA.pO (h:RfA W p B0 O n a x vl vm vd):O p:=h.ob p (.inl rfl)
theorem RfA.pl (h:RfA W p B0 O n a x vl vm vd):p<W.heap.size:=(h.lt p h.pO).2
theorem RfA.kb (h:RfA W p B0 O n a x vl vm vd)(hk:Kb (fun b=>b<B0∨O b) W W'):RfA W' p B0 O n a x vl vm vd:=by
 have hp:(p<B0∨O p):=.inr h.pO;refine⟨hk.at h.c0 hp,hk.at h.c1 hp,hk.at h.c2 hp,hk.at h.c3 hp,hk.at h.c4 hp,fun i=>(hk.frozen (q:=⟨p,i,none⟩) h.pl hp).trans (h.f i),h.t.kb hk h.tr,h.tx,h.tr,?_,?_,?_,h.md,h.ob,fun b hb=>⟨(h.lt b hb).1,Nat.lt_of_lt_of_le (h.lt b hb).2 hk.size⟩⟩
 ·exact own_kb h.l hk fun b hb=>.inr (h.ob b (.inr (.inl hb)))
 ·exact own_kb h.m hk fun b hb=>.inr (h.ob b (.inr (.inr (.inl hb))))
 exact own_kb h.d hk fun b hb=>.inr (h.ob b (.inr (.inr (.inr hb))))
theorem RfA.later (h:RfA W p B0 O n a x vl vm vd)(hb:Below W.heap.size W W'):RfA W' p B0 O n a x vl vm vd:=h.kb (Kb.of_below hb fun b hl _=>hl)
theorem kept_int:(104:Nat)≠3:=by decide
theorem RfA.lm (h:RfA W p B0 O n a x vl vm vd):vl.ownBlock=none∨vl.ownBlock≠vm.ownBlock:=own_rows2 h.l h.m kept_int
theorem RfA.ld (h:RfA W p B0 O n a x vl vm vd):vl.ownBlock=none∨vl.ownBlock≠vd.ownBlock:=own_rows2 h.l h.d kept_int
theorem apart_sy {o q:Option Nat}(h:o=none∨o≠q):q=none∨q≠o:=by
 rcases h with rfl | h
 ·cases q with
  | none=>exact .inl rfl
  | some b=>exact .inr (by simp)
 exact .inr (Ne.symm h)
theorem RfA.pne {v:Value}{e s k:Nat}{xs:List Value}(h:W.ownsRow (p+1) e s v k xs):some p≠v.ownBlock:=fun e=>by
 have:=(h.lt p e.symm).1;omega
theorem RfA.low {v u:Value}{e s k j:Nat}{xs:List Value}(h:W.ownsRow (p+1) e s v k xs):(W.setCell ⟨p,j,none⟩ u).ownsRow (p+1) e s v k xs:=h.kept (grown_set W p j u) (by
 cases hb:v.ownBlock with
 | none=>exact .inl rfl
 | some b=>exact .inr fun e2=>by cases e2;have:=(h.lt _ hb).1;omega)
theorem RfA.setM {g N c:Nat}(h:RfA W p B0 O n a x vl (.slice (some ⟨g,0,none⟩) N c) vd)(r:Nat)(i:Int):RfA (W.setCell ⟨g,r,none⟩ (.int i64 i)) p B0 O n { a with m:=a.m.set r i } x vl (.slice (some ⟨g,0,none⟩) N c) vd:=by
 have hg:W.grownBy (W.setCell ⟨g,r,none⟩ (.int i64 i)) (some g):=grown_set W g r _;have hne:some p≠some g:=RfA.pne h.m;have hN:N=a.m.length:=by
  rcases h.m.2 with ⟨e,_⟩ | ⟨_,_,_,e,_⟩
  ·cases e
  cases e;rfl
 subst hN;have hm:=(h.m.stored r (.int i64 i)).1;have hx:offB x g:=h.tx g (.inr (.inr (.inl rfl)));refine⟨hg.cell h.c0 hne,hg.cell h.c1 hne,hg.cell h.c2 hne,hg.cell h.c3 hne,hg.cell h.c4 hne,fun j=>?_,h.t.grown hg fun b hb=>?_,h.tx,h.tr,h.l.kept hg h.lm,?_,h.d.kept hg (apart_sy h.md),h.md,h.ob,fun b hb=>⟨(h.lt b hb).1,Nat.lt_of_lt_of_le (h.lt b hb).2 hg.size⟩⟩
 ·rw[World.frozen?_of_block (w:=W) (hg.block p h.pl hne)];exact h.f j
 ·cases hb;exact hx
 have e1:(a.m.set r i).length=a.m.length:=by simp
 show (W.setCell ⟨g,r,none⟩ (.int i64 i)).ownsRow (p+1) 3 inE.n _ (a.m.set r i).length (cellsG inE (a.m.set r i));rw[e1,cells_in_set];exact hm
theorem RfA.addK (h:RfA W p B0 O n a x vl vm vd){k:Kp}{u:Value}(hg:W.grownBy W' vl.ownBlock)(ho:W'.ownsRow (p+1) 104 kptE.n u (a.l++[k]).length (cellsG kptE (a.l++[k])))(hb:u.ownBlock=vl.ownBlock∨u.ownBlock=some W.heap.size):
 RfA (W'.setCell ⟨p,2,none⟩ u) p B0 (fun b=>O b∨u.ownBlock=some b) n { a with l:=a.l++[k] } x u vm vd:=by
 have hne:some p≠vl.ownBlock:=RfA.pne h.l;have hx:∀b,AgO p u vm vd b→offB x b:=by
  rintro b (rfl | hb1 | hb1 | hb1)
  ·exact h.tx _ (.inl rfl)
  ·rcases hb with hb | hb
   ·exact h.tx b (.inr (.inl (by rw[←hb];exact hb1)))
   rw[hb] at hb1;cases hb1;exact h.t.off (nLQ _)
  ·exact h.tx b (.inr (.inr (.inl hb1)))
  exact h.tx b (.inr (.inr (.inr hb1)))
 have hp2:p<W'.heap.size:=Nat.lt_of_lt_of_le h.pl hg.size;refine⟨?_,?_,World.cell?_setCell_same _ _ _ (hg.cell h.c2 hne),?_,?_,fun j=>?_,?_,hx,?_,RfA.low ho,RfA.low (h.m.kept hg (apart_sy h.lm)),RfA.low (h.d.kept hg (apart_sy h.ld)),h.md,?_,?_⟩
 ·rw[World.cell?_setCell_other _ _ _ _ (by simp)];exact hg.cell h.c0 hne
 ·rw[World.cell?_setCell_other _ _ _ _ (by simp)];exact hg.cell h.c1 hne
 ·rw[World.cell?_setCell_other _ _ _ _ (by simp)];exact hg.cell h.c3 hne
 ·rw[World.cell?_setCell_other _ _ _ _ (by simp)];exact hg.cell h.c4 hne
 ·rw[World.frozen?_setCell,World.frozen?_of_block (w:=W) (hg.block p h.pl hne)];exact h.f j
 ·have h1:SR W' (slV x) a.t:=h.t.grown hg fun b hb=>h.tx b (.inr (.inl hb))
  exact h1.grown (grown_set W' p 2 u) fun b hb=>by cases hb;exact h.tx _ (.inl rfl)
 ·rcases h.tr with h1 | h1
  ·exact .inl h1
  exact .inr fun ad ha=>(h1 ad ha).imp id .inl
 ·rintro b (rfl | hb1 | hb1 | hb1)
  ·exact .inl h.pO
  ·exact .inr hb1
  ·exact .inl (h.ob b (.inr (.inr (.inl hb1))))
  exact .inl (h.ob b (.inr (.inr (.inr hb1))))
 have hs:(W'.setCell ⟨p,2,none⟩ u).heap.size=W'.heap.size:=by simp[World.setCell]
 rintro b (hb1 | hb1)
 ·rw[hs];exact⟨(h.lt b hb1).1,Nat.lt_of_lt_of_le (h.lt b hb1).2 hg.size⟩
 have h1:=ho.lt b hb1;have h2:=(h.lt p h.pO).1;rw[hs];exact⟨by omega,h1.2⟩
theorem RfA.addD (h:RfA W p B0 O n a x vl vm vd){k:Int}{u:Value}(hg:W.grownBy W' vd.ownBlock)(ho:W'.ownsRow (p+1) 3 inE.n u (a.d++[k]).length (cellsG inE (a.d++[k])))(hb:u.ownBlock=vd.ownBlock∨u.ownBlock=some W.heap.size):
 RfA (W'.setCell ⟨p,4,none⟩ u) p B0 (fun b=>O b∨u.ownBlock=some b) n { a with d:=a.d++[k] } x vl vm u:=by
 have hne:some p≠vd.ownBlock:=RfA.pne h.d;have hx:∀b,AgO p vl vm u b→offB x b:=by
  rintro b (rfl | hb1 | hb1 | hb1)
  ·exact h.tx _ (.inl rfl)
  ·exact h.tx b (.inr (.inl hb1))
  ·exact h.tx b (.inr (.inr (.inl hb1)))
  rcases hb with hb | hb
  ·exact h.tx b (.inr (.inr (.inr (by rw[←hb];exact hb1))))
  rw[hb] at hb1;cases hb1;exact h.t.off (nLQ _)
 have hp2:p<W'.heap.size:=Nat.lt_of_lt_of_le h.pl hg.size;refine⟨?_,?_,?_,?_,World.cell?_setCell_same _ _ _ (hg.cell h.c4 hne),fun j=>?_,?_,hx,?_,RfA.low (h.l.kept hg h.ld),RfA.low (h.m.kept hg h.md),RfA.low ho,?_,?_,?_⟩
 ·rw[World.cell?_setCell_other _ _ _ _ (by simp)];exact hg.cell h.c0 hne
 ·rw[World.cell?_setCell_other _ _ _ _ (by simp)];exact hg.cell h.c1 hne
 ·rw[World.cell?_setCell_other _ _ _ _ (by simp)];exact hg.cell h.c2 hne
 ·rw[World.cell?_setCell_other _ _ _ _ (by simp)];exact hg.cell h.c3 hne
 ·rw[World.frozen?_setCell,World.frozen?_of_block (w:=W) (hg.block p h.pl hne)];exact h.f j
 ·have h1:SR W' (slV x) a.t:=h.t.grown hg fun b hb=>h.tx b (.inr (.inr (.inr hb)))
  exact h1.grown (grown_set W' p 4 u) fun b hb=>by cases hb;exact h.tx _ (.inl rfl)
 ·rcases h.tr with h1 | h1
  ·exact .inl h1
  exact .inr fun ad ha=>(h1 ad ha).imp id .inl
 ·rcases hb with hb | hb
  ·rw[hb];exact h.md
  cases hm:vm.ownBlock with
  | none=>exact .inl rfl
  | some b =>
    refine .inr fun e=>?_
    rw[hb] at e;cases e;have:=(h.m.lt _ hm).2;omega
 ·rintro b (rfl | hb1 | hb1 | hb1)
  ·exact .inl h.pO
  ·exact .inl (h.ob b (.inr (.inl hb1)))
  ·exact .inl (h.ob b (.inr (.inr (.inl hb1))))
  exact .inr hb1
 have hs:(W'.setCell ⟨p,4,none⟩ u).heap.size=W'.heap.size:=by simp[World.setCell]
 rintro b (hb1 | hb1)
 ·rw[hs];exact⟨(h.lt b hb1).1,Nat.lt_of_lt_of_le (h.lt b hb1).2 hg.size⟩
 have h1:=ho.lt b hb1;have h2:=(h.lt p h.pO).1;rw[hs];exact⟨by omega,h1.2⟩
theorem RfA.setT (h:RfA W p B0 O n a x vl vm vd){y:SlT}{t':List Ru}(hy:SR W (slV y) t')(hx:∀b,AgO p vl vm vd b→offB y b):
 RfA (W.setCell ⟨p,1,none⟩ (slV y)) p B0 (fun b=>O b∨∃ad,y.2.1≠0∧y.1=some ad∧B0≤ad.block∧ad.block<W.heap.size∧b=ad.block) n { a with t:=t' } y vl vm vd:=by
 have hy2:y.2.1=0∨∀ad,y.1=some ad→ad.block<W.heap.size:=by
  obtain⟨ao,k,c⟩:=y
  rcases hy with ⟨ao',cap',e,rfl⟩ | ⟨g,o,cap',e,h1,h2,h3⟩
  ·simp only[slV,Value.slice.injEq] at e;exact .inl e.2.1
  simp only[slV,Value.slice.injEq] at e;obtain⟨rfl,rfl,rfl⟩:=e;by_cases h0:t'.length=0
  ·exact .inl h0
  refine .inr fun ad ha=>?_
  cases ha;exact h3.lt (by omega)
 refine⟨?_,World.cell?_setCell_same _ _ _ h.c1,?_,?_,?_,fun j=>?_,?_,hx,?_,RfA.low h.l,RfA.low h.m,RfA.low h.d,h.md,fun b hb=>.inl (h.ob b hb),?_⟩
 ·rw[World.cell?_setCell_other _ _ _ _ (by simp)];exact h.c0
 ·rw[World.cell?_setCell_other _ _ _ _ (by simp)];exact h.c2
 ·rw[World.cell?_setCell_other _ _ _ _ (by simp)];exact h.c3
 ·rw[World.cell?_setCell_other _ _ _ _ (by simp)];exact h.c4
 ·rw[World.frozen?_setCell];exact h.f j
 ·exact hy.grown (grown_set W p 1 _) fun b hb=>by cases hb;exact hx _ (.inl rfl)
 ·by_cases h0:y.2.1=0
  ·exact .inl h0
  refine .inr fun ad ha=>?_
  by_cases h1:ad.block<B0
  ·exact .inl h1
  rcases hy2 with h2 | h2
  ·exact absurd h2 h0
  exact .inr (.inr ⟨ad,h0,ha,by omega,h2 ad ha,rfl⟩)
 have hs:(W.setCell ⟨p,1,none⟩ (slV y)).heap.size=W.heap.size:=by simp[World.setCell]
 rw[hs];rintro b (hb1 | ⟨ad,_,_,h1,h2,rfl⟩)
 ·exact h.lt b hb1
 exact⟨h1,h2⟩
end
def AgR (W:World)(p B0:Nat)(O:Nat→Prop)(n:Int)(a:AgT):Prop:=∃x vl vm vd,RfA W p B0 O n a x vl vm vd
theorem AgR.kb {W W':World}{p B0:Nat}{O:Nat→Prop}{n:Int}{a:AgT}(h:AgR W p B0 O n a)(hk:Kb (fun b=>b<B0∨O b) W W'):AgR W' p B0 O n a:=by
 obtain⟨x,vl,vm,vd,h⟩:=h;exact⟨x,vl,vm,vd,h.kb hk⟩
theorem kp_ways (r q:Int)(k:Kp):((k.r==r)=false∧kpB r q k=false)∨((k.r==r)=true∧(k.i==q)=false∧kpB r q k=false)∨((k.r==r)=true∧(k.i==q)=true∧kpB r q k=true):=by
 have e:kpB r q k=((k.r==r)&&(k.i==q)):=rfl;rw[e];cases (k.r==r) <;> cases (k.i==q) <;> simp
theorem rfind_any {p B0:Nat}{O:Nat→Prop}{N:Int}{a:AgT}{x:SlT}{vl vm vd:Value}(r q:Int)(w:World)(h:RfA w p B0 O N a x vl vm vd):
 Calls prog 44 #[.pointer (some ⟨p,0,none⟩),.int i64 r,.int i64 q] w fun e w'=>e=.returned (.int i64 (ixG (kpB r q) a.l))∧w'=w:=by
 obtain⟨L,hL⟩:∃L,L=a.l:=⟨_,rfl⟩;obtain⟨ao,cap,e0⟩:=own_form h.l;have hG:GS kptE w vl a.l:=own_GS h.l;have h2:=h.c2;rw[e0] at h2 hG;rw[←hL] at h2 hG ⊢;obtain⟨_,_,_,e1,hn,hn2,_,ha⟩:=hG.form;cases e1;obtain⟨n,hnn⟩:∃n,n=L.length:=⟨_,rfl⟩;rw[←hnn] at h2 hn2 ha;have HN:Hid (L.length=n):=hnn.symm;have HA:Hid (0<n→∃g o,ao=some ⟨g,o,none⟩∧GAt kptE w g o L∧cap≤maxLen):=ha;unfold maxLen at hn2;obtain⟨R,hR⟩:∃R,R=ixG (kpB r q) L:=⟨_,rfl⟩;have HR:Hid (R=ixG (kpB r q) L):=hR;rw[←hR];clear h ha hR hG e0 hnn hL;go_enter func44,ntmps44;go_wp2
 go_loopw [7] (fun i wr=>∃k:Nat,k≤n∧i=.int i64 k∧(L.take k).any (kpB r q)=false∧wr=w) (fun i _=>n-(intOf i).toNat)
 case atStart=>exact⟨0,by omega,rfl,rfl,rfl⟩
 case round =>
  obtain⟨k,hk,rfl,hno,hwz⟩:=hrel;have hwy:=hwz.symm;subst hwy;have HNO:Hid ((L.take k).any (kpB r q)=false):=hno;clear hwz hno;by_cases hlt:k<n
  ·obtain⟨g,o,hao,hGA,_⟩:=HA.out (by omega);subst hao;obtain⟨x0,x1,x2,x3,x4,x5,x6,x7,x8,x9,hkl,hLk,c0,c1,_⟩:=kpt_at hGA HN.out hlt;have kb0:(0:Int)≤(k:Int):=by omega
   have kb1:(k:Int)<(n:Int):=by omega
   have hw:=kp_ways r q L[k];rw[hLk] at hw;have HK:Hid (L[k]=⟨x0,x1,⟨x2,x3,⟨x4,x5,x6,x7,x8,x9⟩⟩⟩):=hLk;clear hGA hLk;simp only at hw
   rcases hw with ⟨f0,hy⟩ | ⟨f0,f1,hy⟩ | ⟨f0,f1,hy⟩
   ·have HN2:Hid ((L.take (k+1)).any (kpB r q)=false):=any_nextG hkl HNO.out (by rw[HK.out];exact hy);clear hy HK;go_wp2;go_roundw
    case rel=>exact⟨k+1,by omega,by go_num,HN2.out,by first | rfl | trivial⟩
    case measure=>simp[intOf];omega
   ·have HN2:Hid ((L.take (k+1)).any (kpB r q)=false):=any_nextG hkl HNO.out (by rw[HK.out];exact hy);clear hy HK;go_wp2;go_roundw
    case rel=>exact⟨k+1,by omega,by go_num,HN2.out,by first | rfl | trivial⟩
    case measure=>simp[intOf];omega
   have HT:Hid (R=(k:Int)):=by
    show R=_;rw[HR.out];exact ixG_hit hkl HNO.out (by rw[HK.out];exact hy)
   clear hy HK;go_wp2;go_ret;exact⟨by rw[HT.out];rfl,rfl⟩
  obtain rfl:k=n:=by omega
  have HF:Hid (R = -1):=by
   show R=_;rw[HR.out];have:=HNO.out;rw[←HN.out,List.take_length] at this;exact ixG_no this
  go_wp2;go_ret;exact⟨by rw[HF.out];rfl,rfl⟩
theorem hd_next {L:List Kp}{r:Int}{k:Nat}(hk:k<L.length){x:Kp}(hx:L[k]=x):hdN (L.take (k+1)) r=hdN (L.take k) r+if (x.r==r)=true then 1 else 0:=by
 rw[List.take_succ_eq_append_getElem hk,hdN,hdN,List.countP_append,hx,List.countP_singleton]
theorem rheard_any {p B0:Nat}{O:Nat→Prop}{N:Int}{a:AgT}{x:SlT}{vl vm vd:Value}(r:Int)(w:World)(h:RfA w p B0 O N a x vl vm vd):
 Calls prog 23 #[.pointer (some ⟨p,0,none⟩),.int i64 r] w fun e w'=>e=.returned (.int i64 (hdN a.l r:Nat))∧w'=w:=by
 obtain⟨L,hL⟩:∃L,L=a.l:=⟨_,rfl⟩;obtain⟨ao,cap,e0⟩:=own_form h.l;have hG:GS kptE w vl a.l:=own_GS h.l;have h2:=h.c2;rw[e0] at h2 hG;rw[←hL] at h2 hG ⊢;obtain⟨_,_,_,e1,hn,hn2,_,ha⟩:=hG.form;cases e1;obtain⟨n,hnn⟩:∃n,n=L.length:=⟨_,rfl⟩;rw[←hnn] at h2 hn2 ha;have HN:Hid (L.length=n):=hnn.symm;have HA:Hid (0<n→∃g o,ao=some ⟨g,o,none⟩∧GAt kptE w g o L∧cap≤maxLen):=ha;unfold maxLen at hn2;obtain⟨R,hR⟩:∃R,R=hdN L r:=⟨_,rfl⟩;have HR:Hid (R=hdN L r):=hR;rw[←hR];clear h ha hR hG e0 hnn hL;go_enter func23,ntmps23;go_wp2
 go_loopw [5,6] (fun c i wr=>∃k d:Nat,k≤n∧i=.int i64 k∧c=.int i64 d∧hdN (L.take k) r=d∧d≤k∧wr=w) (fun _ i _=>n-(intOf i).toNat)
 case atStart=>exact⟨0,0,by omega,rfl,rfl,rfl,nLQ _,rfl⟩
 case round =>
  obtain⟨k,d,hk,rfl,rfl,hd,hdk,hwz⟩:=hrel;have hwy:=hwz.symm;subst hwy;have HD:Hid (hdN (L.take k) r=d):=hd;clear hwz hd;by_cases hlt:k<n
  ·obtain⟨g,o,hao,hGA,_⟩:=HA.out (by omega);subst hao;obtain⟨x0,x1,x2,x3,x4,x5,x6,x7,x8,x9,hkl,hLk,c0,c1,_⟩:=kpt_at hGA HN.out hlt;have kb0:(0:Int)≤(k:Int):=by omega
   have kb1:(k:Int)<(n:Int):=by omega
   have HX:Hid (hdN (L.take (k+1)) r=d+if (x0==r)=true then 1 else 0):=by
    show _=_;rw[hd_next hkl hLk,HD.out]
   clear hGA hLk;cases f0:(x0==r)
   ·have HN2:Hid (hdN (L.take (k+1)) r=d):=by
     show _=_;rw[HX.out,f0];rfl
    go_wp2;go_roundw
    case rel=>exact⟨k+1,d,by omega,by go_num,rfl,HN2.out,by omega,by first | rfl | trivial⟩
    case measure=>simp[intOf];omega
   have HN2:Hid (hdN (L.take (k+1)) r=d+1):=by
    show _=_;rw[HX.out,f0];rfl
   go_wp2;go_roundw
   case rel=>exact⟨k+1,d+1,by omega,by go_num,by go_num,HN2.out,by omega,by first | rfl | trivial⟩
   case measure=>simp[intOf];omega
  obtain rfl:k=n:=by omega
  have HF:Hid (R=d):=by
   show R=_;rw[HR.out,←HD.out,←HN.out,List.take_length]
  go_wp2;go_ret;exact⟨by rw[HF.out];rfl,rfl⟩
theorem in_any (ao:AdQ)(n cap:Nat)(L:List Int)(x:Int)(w:World)(h:GS inE w (.slice ao n cap) L):
 Calls prog 43 #[.slice ao n cap,.int i64 x] w fun e w'=>e=.returned (.bool (L.any fun y=>y==x))∧w'=w:=by
 obtain⟨_,_,_,e1,hn,hn2,_,ha⟩:=h.form;cases e1;have HN:Hid (L.length=n):=hn;have HA:Hid (0<n→∃g o,ao=some ⟨g,o,none⟩∧GAt inE w g o L∧cap≤maxLen):=ha;unfold maxLen at hn2;obtain⟨R,hR⟩:∃R,R=L.any fun y=>y==x:=⟨_,rfl⟩
 have HR:Hid (R=L.any fun y=>y==x):=hR;rw[←hR];clear h hn ha hR;go_enter func43,ntmps43;go_wp2
 go_loopw [5] (fun i wr=>∃k:Nat,k≤n∧i=.int i64 k∧(L.take k).any (fun y=>y==x)=false∧wr=w) (fun i _=>n-(intOf i).toNat)
 case atStart=>exact⟨0,by omega,rfl,rfl,rfl⟩
 case round =>
  obtain⟨k,hk,rfl,hno,hwz⟩:=hrel;have hwy:=hwz.symm;subst hwy;have HNO:Hid ((L.take k).any (fun y=>y==x)=false):=hno;clear hwz hno;by_cases hlt:k<n
  ·obtain⟨g,o,hao,hG,_⟩:=HA.out (by omega);subst hao;obtain⟨y,hkl,hLk,c0⟩:=in_at hG HN.out hlt;have kb0:(0:Int)≤(k:Int):=by omega
   have kb1:(k:Int)<(n:Int):=by omega
   clear hG;cases hy:(y==x)
   ·have HN2:Hid ((L.take (k+1)).any (fun y=>y==x)=false):=any_nextG hkl HNO.out (by rw[hLk];exact hy);go_wp2;go_roundw
    case rel=>exact⟨k+1,by omega,by go_num,HN2.out,by first | rfl | trivial⟩
    case measure=>simp[intOf];omega
   have HT:Hid (R=true):=by
    show R=true;rw[HR.out];exact any_hitG hkl (by rw[hLk];exact hy)
   go_wp2;go_ret;exact⟨by rw[HT.out];rfl,rfl⟩
  obtain rfl:k=n:=by omega
  have HF:Hid (R=false):=by
   show R=false;rw[HR.out];have:=HNO.out
   rwa [←HN.out,List.take_length] at this
  go_wp2;go_ret;exact⟨by rw[HF.out];rfl,rfl⟩
def HC (w:World)(B:Nat)(S S':Int)(a1 a2 b1 b2:Value)(g o:Nat)(x0:ByteArray)(x1 x2:Int)(g' o':Nat)(y0:ByteArray)(y1 y2:Int)(w':World):Prop:=
 Below w.heap.size w w'∧TBox w' B S a1 a2∧TBox w' (B+1) S' b1 b2∧(w'.cell? ⟨g,o,none⟩=some (.string x0)∧w'.cell? ⟨g,o+1,none⟩=some (.int i64 x1)∧w'.cell? ⟨g,o+2,none⟩=some (.int i64 x2)) ∧
  w'.cell? ⟨g',o',none⟩=some (.string y0)∧w'.cell? ⟨g',o'+1,none⟩=some (.int i64 y1)∧w'.cell? ⟨g',o'+2,none⟩=some (.int i64 y2)
theorem HC.later {w W W':World}{B:Nat}{S S':Int}{a1 a2 b1 b2:Value}{g o:Nat}{x0:ByteArray}{x1 x2:Int}{g' o':Nat}{y0:ByteArray}{y1 y2:Int}(hb:Below W.heap.size W W')(h:HC w B S S' a1 a2 b1 b2 g o x0 x1 x2 g' o' y0 y1 y2 W):HC w B S S' a1 a2 b1 b2 g o x0 x1 x2 g' o' y0 y1 y2 W':=by
 obtain⟨h0,t1,t2,⟨h1,h2,h3⟩,k1,k2,k3⟩:=h;exact⟨h0.trans (hb.mono h0.size),t1.later hb,t2.later hb,⟨cell_later hb h1,cell_later hb h2,cell_later hb h3⟩,cell_later hb k1,cell_later hb k2,cell_later hb k3⟩
theorem quiet_val {P:Program}{o:Oper}{a:Act}{C:World→Prop}{K:Act→Prop}{v:Value}
 (hy:∀w,C w→(execOp a.eval o).run P w=.ok (.value v) w) (h:K (a.put o.dst v)):o.quiet P a C K:=
 ⟨v,fun w hC=>by unfold Oper.quietAt;rw[hy w hC];exact⟨rfl,rfl⟩,h⟩
theorem qv {P:Program}{o:Oper}{a:Act}{C:World→Prop}{K:Act→Prop}(v:Value)(hy:∀w,C w→(execOp a.eval o).run P w=.ok (.value v) w)(h:K (a.put o.dst v)):o.quiet P a C K:=quiet_val hy h
theorem quiet_call {P:Program}{o:Oper}{a:Act}{C:World→Prop}{K:Act→Prop}{v:Value}{f:FuncId}{args:Array Value}
 (he:∀w,(execOp a.eval o).run P w=.ok (.enter f args) w) (hc:∀w,C w→Calls P f args w fun e w''=>e=.returned v∧C w'') (h:K (a.put o.dst v)):o.quiet P a C K:=
 ⟨v,fun w hC=>by unfold Oper.quietAt;rw[he w];exact⟨rfl,hc w hC⟩,h⟩
theorem exec_bin {P:Program}{o:Oper}{a:Act}{w:World}{op:BinOp}{t t2:TypeId}{x y:Operand}{v:Value}(ho:o.op=.binOp op t x y t2)(hg:(eqGuard op t x y (a.eval x) (a.eval y)).run P w=.ok () w)
 (h:(binOp op t (a.eval x) (a.eval y)).run P w=.ok v w):(execOp a.eval o).run P w=.ok (.value v) w:=by
 simp[execOp,ho,hg,h,Result.andThen]
theorem run_neq_of {P:Program}{w:World}{t:TypeId}{x y:Array Value}{b:Bool}(h:(Op.equal t (.agg x) (.agg y)).run P w=.ok b w):(binOp .neq t (.agg x) (.agg y)).run P w=.ok (.bool (!b)) w:=by
 simp[binOp,h]
end
section
open Go.ChangeShapes Go.WideShapes Go.ChangeAt Go.RowKit Go.Joins
theorem array6 {α:Type}{cs:Array α}(h:cs.size=6):∃c0 c1 c2 c3 c4 c5,cs=#[c0,c1,c2,c3,c4,c5]:=by
 obtain⟨l⟩:=cs
 match l,h with
 | [c0,c1,c2,c3,c4,c5],_=>exact⟨c0,c1,c2,c3,c4,c5,rfl⟩
theorem rule_cells {H:Type}{enc:TypeId×Value→H}{W:World}{n:Nat}{cs:List Value}{x:DataW H×List MemPlace}
 (h:DataW.trod enc prog W 0 (fun _=>true) true n 41 cs=some x):∃p m b o s v:Int,cs=[.int i64 p,.int i64 m,.int i64 b,.int i64 o,.int i64 s,.int i64 v]:=by
 obtain⟨xs,k,_,_,hl,hlen,hf⟩:=DataW.trod_struct underlying41 h;have hC:Tryd.prog.cellsOf 41=6:=by kernel_rfl
 have hI:Tryd.prog.cellsOf 3=1:=by kernel_rfl
 have hK:Tryd.prog.cellsOf 39=2:=by kernel_rfl
 rw[hC] at hl;obtain⟨c0,c1,c2,c3,c4,c5,e⟩:=array6 (cs:=cs.toArray) (by simpa using hl);have e':cs=[c0,c1,c2,c3,c4,c5]:=by simpa using congrArg Array.toList e
 subst e'
 match xs,hlen with
 | [y0,y1,y2,y3,y4],_ =>
   have g0:=hf 0 _ rfl;have g1:=hf 1 _ rfl;have g2:=hf 2 _ rfl;have g3:=hf 3 _ rfl;have g4:=hf 4 _ rfl;simp[hI,hK] at g0 g1 g2 g3 g4;obtain⟨p,e0,_,_⟩:=DataW.trod_int underlying3 g0;obtain⟨z0,z1,k1,_,_,f0,f1⟩:=trod_struct2 underlying39 g1;simp[hI] at f0 f1;obtain⟨m,e1,_,_⟩:=DataW.trod_int underlying3 f0;obtain⟨b,e2,_,_⟩:=DataW.trod_int underlying3 f1;obtain⟨o,e3,_,_⟩:=DataW.trod_int underlying3 g2;obtain⟨s,e4,_,_⟩:=DataW.trod_int underlying3 g3;obtain⟨v,e5,_,_⟩:=DataW.trod_int underlying3 g4;simp at e0 e1 e2 e3 e4 e5;subst e0 e1 e2 e3 e4 e5;exact⟨p,m,b,o,s,v,rfl⟩
end
section
open Go.ChangeShapes Go.WideShapes Go.ChangeAt Go.RowKit
def cellsR (L:List Ru):List Value:=L.flatMap fun r=>[.int i64 r.p,.int i64 r.m,.int i64 r.b,.int i64 r.o,.int i64 r.s,.int i64 r.v]
theorem cellsR_len (L:List Ru):(cellsR L).length=L.length*6:=by
 induction L with
 | nil=>rfl
 | cons p r ih=>simp only[cellsR,List.flatMap_cons,List.length_append,List.length_cons,List.length_nil] at *;omega
theorem cellsR_app (L M:List Ru):cellsR (L++M)=cellsR L++cellsR M:=by simp[cellsR]
theorem cellsR_at (L:List Ru)(i:Nat)(h:i<L.length):(cellsR L)[i*6]?=some (.int i64 (L[i]).p)∧(cellsR L)[i*6+1]?=some (.int i64 (L[i]).m)∧(cellsR L)[i*6+2]?=some (.int i64 (L[i]).b) ∧
 (cellsR L)[i*6+3]?=some (.int i64 (L[i]).o)∧(cellsR L)[i*6+4]?=some (.int i64 (L[i]).s)∧(cellsR L)[i*6+5]?=some (.int i64 (L[i]).v):=by
 induction L generalizing i with
 | nil=>simp at h
 | cons p r ih =>
   cases i with
   | zero=>simp[cellsR]
   | succ i =>
     have:=ih i (by simpa using h);have e1:(i+1)*6=i*6+1+1+1+1+1+1:=by omega
     simpa[cellsR,e1] using this
theorem cellsR_one (L:List Ru):∀u∈cellsR L,u.oneCell'=true:=by
 intro u hu;simp only[cellsR,List.mem_flatMap] at hu;obtain⟨p,_,hp⟩:=hu;simp at hp
 rcases hp with rfl | rfl | rfl | rfl | rfl | rfl <;> rfl
theorem own_SR {w:World}{B e:Nat}{v:Value}{L:List Ru}(h:w.ownsRow B e 6 v L.length (cellsR L)):SR w v L:=by
 rcases h.2 with ⟨rfl,h0⟩ | ⟨g,cap,cur,rfl,_,_,h1,h2,_⟩
 ·exact .inl ⟨none,0,rfl,List.length_eq_zero_iff.1 h0⟩
 refine .inr ⟨g,0,cap,rfl,h1,h2,fun i hi=>?_⟩;obtain⟨a0,a1,a2,a3,a4,a5⟩:=cellsR_at L i hi;refine⟨?_,?_,?_,?_,?_,?_⟩
 ·have:=h.cellAt (i*6) (by omega);rw[a0] at this;simpa using this
 ·have:=h.cellAt (i*6+1) (by omega);rw[a1] at this;simpa using this
 ·have:=h.cellAt (i*6+2) (by omega);rw[a2] at this;simpa using this
 ·have:=h.cellAt (i*6+3) (by omega);rw[a3] at this;simpa using this
 ·have:=h.cellAt (i*6+4) (by omega);rw[a4] at this;simpa using this
 have:=h.cellAt (i*6+5) (by omega);rw[a5] at this;simpa using this
theorem infoRule:(Tryd.prog.info? 41).map (fun i=>(i.zero,i.size,i.bytes))=some (some (.agg #[.int i64 0,.int i64 0,.int i64 0,.int i64 0,.int i64 0,.int i64 0]),6,48):=by kernel_rfl
theorem sixCells:(Value.agg #[.int i64 0,.int i64 0,.int i64 0,.int i64 0,.int i64 0,.int i64 0]).cells.size=6:=by simp[Value.cells]
theorem rules_of {H:Type}{enc:TypeId×Value→H}{W:World}{base:Nat}{v:Value}{d:DataW H}{p:List MemPlace}
 (hv:Value.okWide prog W .any base 23 v) (h:DataW.Trod enc prog W 0 (fun _=>true) true 23 v d p):∃L,SR W v L:=by
 obtain⟨a0,len0,cap0,rfl⟩:=okWide_slice underlying23 hv;obtain⟨fuel,hf⟩:=h;have hf2:DataW.trod enc prog W 0 (fun _=>true) true fuel 23 [.slice a0 len0 cap0]=some (d,p):=hf
 rcases Go.Deep.open_slice underlying23 hf2 with ⟨hc,hx⟩ | ⟨a,len,cap,m,k,D,Pl,hc,_,hl,hm,hmm,hx,hall⟩
 ·simp only[List.cons.injEq,and_true,Value.slice.injEq] at hc;obtain⟨rfl,rfl,rfl⟩:=hc;exact⟨[],.inl ⟨none,0,rfl,rfl⟩⟩
 simp only[List.cons.injEq,and_true,Value.slice.injEq] at hc;obtain⟨rfl,rfl,rfl⟩:=hc;simp only[if_true] at hmm;subst hmm;have hC:Tryd.prog.cellsOf 41=6:=by kernel_rfl
 rcases Nat.eq_zero_or_pos len0 with h0 | h0
 ·subst h0;exact⟨[],.inl ⟨_,_,rfl,rfl⟩⟩
 have each:∀i,i<m→∃r:Ru,∀j,j<6→W.cell? (a.add (i*6+j))=(cellsR [r])[j]?:=by
  intro i hi;obtain⟨cs,h1,h2⟩:=hall i hi;rw[hC] at h1;obtain⟨_,hlen,hcell⟩:=World.cells?_some h1;obtain⟨q,n,b,o,s,x,rfl⟩:=rule_cells h2;refine⟨⟨q,n,b,o,s,x⟩,fun j hj=>?_⟩;have:=hcell j (by omega);rw[Go.Deep.add_add] at this;rw[this]
  rcases (by omega:j=0∨j=1∨j=2∨j=3∨j=4∨j=5) with rfl | rfl | rfl | rfl | rfl | rfl <;> simp[cellsR]
 have iR:Inhabited Ru:=⟨zeR⟩;obtain⟨R,hR⟩:=Go.Deep.choose_lt each;obtain⟨sb,so,spot⟩:=a;have hspot:spot=none:=by
  have:=hR 0 (by omega) 0 (by omega);have h2:W.cell? ((⟨sb,so,spot⟩:Addr).add (0*6+0))=some (.int i64 (R 0).p):=by rw[this];simp[cellsR]
  simpa[Addr.add] using World.cell?_spot h2
 subst hspot;have hadd:∀j,(⟨sb,so,none⟩:Addr).add j=⟨sb,so+j,none⟩:=by
  intro j;simp only[Addr.add]
  first
   | rfl
   | (split
      ·next h0=>rw[h0];rfl
      rfl)
 refine⟨(List.range len0).map R,.inr ⟨sb,so,_,by simp,by simpa using hl,hm,fun i hi=>?_⟩⟩;have hi2:i<len0:=by simpa using hi
 have hc:=hR i (by omega);simp only[hadd] at hc;have e:((List.range len0).map R)[i]=R i:=by simp
 rw[e];refine⟨?_,?_,?_,?_,?_,?_⟩
 ·have:=hc 0 (by omega);simpa[cellsR] using this
 ·have:=hc 1 (by omega);simpa[cellsR,Nat.add_assoc] using this
 ·have:=hc 2 (by omega);simpa[cellsR,Nat.add_assoc] using this
 ·have:=hc 3 (by omega);simpa[cellsR,Nat.add_assoc] using this
 ·have:=hc 4 (by omega);simpa[cellsR,Nat.add_assoc] using this
 have:=hc 5 (by omega);simpa[cellsR,Nat.add_assoc] using this
end
section
open Go.RowKit
theorem addr_add (g o j:Nat):(⟨g,o,none⟩:Addr).add j=⟨g,o+j,none⟩:=by
 simp only[Addr.add]
 first
  | rfl
  | (split
     ·next h0=>rw[h0];rfl
     rfl)
theorem RAt.cells {w:World}{g o:Nat}{M:List Ru}(h:RAt w g o M):∀j u,(cellsR M)[j]?=some u→w.cell? ((⟨g,o,none⟩:Addr).add j)=some u:=by
 intro j u hu;have hj:j<M.length*6:=by
  have:=(List.getElem?_eq_some_iff.1 hu).1;rw[cellsR_len] at this;exact this
 rw[addr_add];have hi:j / 6<M.length:=by omega
 obtain⟨c0,c1,c2,c3,c4,c5⟩:=h (j / 6) hi;obtain⟨a0,a1,a2,a3,a4,a5⟩:=cellsR_at M (j / 6) hi;have h6:j=j / 6*6∨j=j / 6*6+1∨j=j / 6*6+2∨j=j / 6*6+3∨j=j / 6*6+4∨j=j / 6*6+5:=by omega
 generalize j / 6=i at *
 rcases h6 with e | e | e | e | e | e
 ·subst e;rw[a0] at hu;cases hu;exact c0
 ·subst e;rw[a1] at hu;cases hu;rw[←Nat.add_assoc];exact c1
 ·subst e;rw[a2] at hu;cases hu;rw[←Nat.add_assoc];exact c2
 ·subst e;rw[a3] at hu;cases hu;rw[←Nat.add_assoc];exact c3
 ·subst e;rw[a4] at hu;cases hu;rw[←Nat.add_assoc];exact c4
 subst e;rw[a5] at hu;cases hu;rw[←Nat.add_assoc];exact c5
theorem run_append_own_none {w:World}(base:Nat)(t ty e:TypeId)(i:TypeInfo)(size cap2:Nat)(ht:Tryd.prog.underlying t=some (.slice e))(hi:Tryd.prog.info? e=some i)
 (v:Value) (n:Nat) (xs:List Value) (hown:w.ownsRow base e size v n xs):
 (Builtin.append_ #[t,t] ty #[v,.slice none 0 cap2]).run prog w=.ok v w:=by
 rcases hown.2 with ⟨rfl,rfl⟩ | ⟨g,cap,cur,rfl,_,_,hnc,_⟩
 ·simp[Builtin.append_,run_underlying ht,sizeOf,typeInfo,hi,Builtin.lenOf,Builtin.firstCells]
 simp[Builtin.append_,run_underlying ht,sizeOf,typeInfo,hi,Builtin.lenOf,Builtin.firstCells,hnc,storeCells]
theorem wpList_append_SR (w:World){ops:Array Oper}{rest:List Oper}{o:Oper}{a:Act}{Q:Exit→Act→World→Prop}(hgd:o.guard=none)(s x:Operand)(t:TypeId)
 (ho:o.op=.call { callee:=.builtin .append,args:=#[s,x],argTypes:=#[t,t] }) (ht:Tryd.prog.underlying t=some (.slice 41)) (base:Nat)
 (v:Value) (hs:a.eval s=v) (L:List Ru) (hown:w.ownsRow base 41 6 v L.length (cellsR L)) (u:Value) (hx:a.eval x=u) (M:List Ru) (hM:SR w u M)
 (h100:L.length+M.length≤1000) (hbase:base≤w.heap.size)
 (h:∀v' w',w'.ownsRow base 41 6 v' (L++M).length (cellsR (L++M))→w.grownBy w' v.ownBlock→wpList prog ops Q rest (a.put o.dst v') w'):wpList prog ops Q (o :: rest) a w:=by
 obtain⟨i0,hi,hz0,hz1,hz2⟩:=info_parts infoRule;have key:∀(ad:Addr) (m c:Nat) (news:List Value),a.eval x=.slice (some ad) m c→news.length=m*6→(∀j u,news[j]?=some u→w.cell? (ad.add j)=some u)→(∀u∈news,u.oneCell'=true)→m=M.length→news=cellsR M→wpList prog ops Q (o :: rest) a w:=by
  intro ad m c news e1 e2 e3 e4 e5 e6;refine wpList_append_own w hgd s x t ho base 41 i0 (.agg #[.int i64 0,.int i64 0,.int i64 0,.int i64 0,.int i64 0,.int i64 0]) 6 48 ht hi hz0 hz1 hz2 sixCells (by decide) v _ _ hs hown ad m c news e1 e2 e3 e4 (by unfold maxLen;omega) (by omega) hbase ?_;intro v' w' h1 h2 _;refine h v' w' ?_ h2;rw[List.length_append,cellsR_app,←e5,←e6];exact h1
 rcases hM with ⟨ao,cap,rfl,rfl⟩ | ⟨g,q,cap,rfl,h1,h2,h3⟩
 ·cases ao with
  | none =>
    refine wpList_plain hgd fun K hK=>?_
    have hrun:=run_append_own_none (w:=w) base t o.type 41 i0 6 cap ht hi v _ _ hown;unfold Oper.wp;simp[execOp,ho,resolve,invoke,builtin,hs,hx,hrun,Result.andThen];exact hK _ _ (h v w (by rw[List.append_nil];exact hown) ⟨rfl,rfl,rfl,nLQ _,fun _ _ _=>rfl⟩)
  | some ad=>exact key ad 0 cap [] hx rfl (by intro j u hu;simp at hu) (by intro u hu;cases hu) rfl rfl
 exact key ⟨g,q,none⟩ M.length cap (cellsR M) hx (cellsR_len M) h3.cells (cellsR_one M) rfl rfl
theorem grow_nil (n:Nat)(w:World)(hn:n≤1000):
 Calls prog 50 #[.slice none 0 0,.int i64 n] w fun e w'=>∃v,e=.returned v∧w'.ownsRow w.heap.size 41 6 v 0 []∧Below w.heap.size w w':=by
 have h1:¬((n:Int)<0):=by omega
 by_cases h0:n=0
 ·subst h0;go_enter func50,ntmps50;go_wp2;go_ret;exact⟨_,rfl,World.ownsRow_nil _ _ _ _,bRQ _ _⟩
 obtain⟨i0,hi,hz0,hz1,hz2⟩:=info_parts infoRule;have h3:wrap64 ((n:Int)-0)=(n:Int):=by unfold wrap64;omega
 have h4:(n:Int) > 0:=by omega
 have hrz:∀ty,(Builtin.append_ #[23,3] ty #[.slice none 0 0,.int i64 n]).run prog w =
  .ok (.slice (some ⟨w.heap.size,0,none⟩) n (grownCap w n 0 41)) (w.drew.alloc (.cells (Builtin.zeroCells (Value.agg #[.int i64 0,.int i64 0,.int i64 0,.int i64 0,.int i64 0,.int i64 0]).cells n++Builtin.zeroCells (Value.agg #[.int i64 0,.int i64 0,.int i64 0,.int i64 0,.int i64 0,.int i64 0]).cells (grownCap w n 0 41-n)) 41)):=fun ty =>
  Lib.run_append_nil_zeros w 23 3 ty 41 i0 _ .i64 .i64 underlying23 underlying3 hi hz0 n (by omega) (by rw[hz1];decide) (by omega) (by rw[hz2];omega)
 have hGn:n≤grownCap w n 0 41:=grownCap_ge w _ _ _;have hGm:grownCap w n 0 41≤maxLen:=grownCap_le_maxLen w n 0 41 (by unfold maxLen;omega)
 generalize grownCap w n 0 41=G at *
 have HM:Hid (G≤maxLen):=hGm;have hG63:G≤9223372036854775807:=by unfold maxLen at hGm;omega
 have HO:Hid ((w.drew.alloc (.cells (Builtin.zeroCells (Value.agg #[.int i64 0,.int i64 0,.int i64 0,.int i64 0,.int i64 0,.int i64 0]).cells n++Builtin.zeroCells (Value.agg #[.int i64 0,.int i64 0,.int i64 0,.int i64 0,.int i64 0,.int i64 0]).cells (G-n)) 41)).ownsRow w.heap.size 41 6 (.slice (some ⟨w.heap.size,0,none⟩) 0 G) 0 []):=
  World.ownsRow_made w.drew _ G (nLQ _) HM.out (by
   simp only[Array.size_append,size_zeroCells,sixCells,←Nat.add_mul]
   congr 1
   omega)
 clear hGm;go_enter func50,ntmps50
 go_wp2_with (at_builtin;refine Lib.wpList_append_run _ rfl _ _ _ _ rfl _ _ rfl rfl _ _ (hrz _) ?_)
 all_goals (go_ret;exact⟨_,rfl,HO.out,((bRQ _ _).drew).alloc (nLQ _) _⟩)
def PAt (w:World)(g o:Nat)(Ls:TsQ):Prop:=∀i (h:i<Ls.length),∃ao n cap,w.cell? ⟨g,o+i,none⟩=some (.slice ao n cap)∧SR w (.slice ao n cap) Ls[i]
theorem PAt.later {w w':World}{g o:Nat}{Ls:TsQ}(h:PAt w g o Ls)(hb:Below w.heap.size w w'):PAt w' g o Ls:=fun i hi=>by
 obtain⟨ao,n,cap,h1,h2⟩:=h i hi;exact⟨ao,n,cap,cell_later hb h1,h2.later hb⟩
theorem SR.len {w:World}{ao:AdQ}{n cap:Nat}{L:List Ru}(h:SR w (.slice ao n cap) L):L.length=n:=by
 rcases h with ⟨_,_,e,rfl⟩ | ⟨_,_,_,e,_⟩
 ·simp at e;simp[e]
 simp at e;exact e.2.1.symm
theorem flat_next {Ls:TsQ}{k:Nat}(hk:k<Ls.length):(Ls.take (k+1)).flatten=(Ls.take k).flatten++Ls[k]:=by
 rw[List.take_succ_eq_append_getElem hk];simp only[List.flatten_append,List.flatten_cons,List.flatten_nil,List.append_nil]
theorem flat_le {Ls:TsQ}(k:Nat):(Ls.take k).flatten.length≤Ls.flatten.length:=by
 have:Ls.flatten=(Ls.take k).flatten++(Ls.drop k).flatten:=by rw[←List.flatten_append,List.take_append_drop]
 rw[this,List.length_append];omega
theorem concat_any (g o m cap:Nat)(Ls:TsQ)(w:World)(hm:Ls.length=m)(hm2:m≤1000)(hc:PAt w g o Ls)(hs:Ls.flatten.length≤1000):
 Calls prog 26 #[.slice (some ⟨g,o,none⟩) m cap] w fun e w'=>∃v,e=.returned v∧w'.ownsRow w.heap.size 41 6 v Ls.flatten.length (cellsR Ls.flatten)∧Below w.heap.size w w':=by
 have HM:Hid (Ls.length=m):=hm;have HC:Hid (PAt w g o Ls):=hc;have HS:Hid (Ls.flatten.length≤1000):=hs;obtain⟨N,hN⟩:∃N,N=Ls.flatten.length:=⟨_,rfl⟩;have HN:Hid (N=Ls.flatten.length):=hN;have hN2:N≤1000:=by omega
 clear hm hc hs hN;go_enter func26,ntmps26
 go_upto_block 0 with fail
 go_cut [3] from 3 (fun z w'=>z=.int i64 (N:Int)∧w'=w)
 case first =>
  go_wp2
  go_loopw [3,11] (fun z i wr=>∃k:Nat,k≤m∧i=.int i64 k∧z=.int i64 ((Ls.take k).flatten.length:Int)∧wr=w) (fun _ i _=>m-(intOf i).toNat)
  case atStart=>exact⟨0,by omega,rfl,rfl,rfl⟩
  case round =>
   obtain⟨k,hk,rfl,rfl,rfl⟩:=hrel;by_cases hlt:k<m
   ·have hkl:k<Ls.length:=by rw[HM.out];exact hlt
    obtain⟨ao,n,cap2,q0,hsr⟩:=HC.out k hkl;have HT:Hid ((Ls.take (k+1)).flatten.length=(Ls.take k).flatten.length+n):=by
     show _=_;rw[flat_next hkl,List.length_append,hsr.len]
    have hb1:(Ls.take k).flatten.length+n≤1000:=by
     have h1:=flat_le (Ls:=Ls) (k+1);have h2:=HS.out;have h3:=HT.out;omega
    generalize (Ls.take k).flatten.length=z at *
    clear hsr;go_wp2;go_roundw
    case rel=>exact⟨k+1,by omega,by go_num,by rw[HT.out];go_num,by simp⟩
    case measure=>simp[intOf];omega
   obtain rfl:k=m:=by omega
   go_wp2_with fail
   go_meet
   case rel=>exact⟨by rw[←HM.out,List.take_length,HN.out],rfl⟩
 case rest =>
  obtain⟨rfl,rfl⟩:=hcut
  go_wp2_with fail
  refine (grow_nil N _ hN2).mono ?_;rintro e w1 ⟨v,rfl,hown,hB⟩;have HO:Hid (w1.ownsRow wc.heap.size 41 6 v 0 []):=hown;have HB:Hid (Below wc.heap.size wc w1):=hB;clear hown hB;go_wp2
  go_loopw [6,27] (fun u i wr=>∃k:Nat,k≤m∧i=.int i64 k∧wr.ownsRow wc.heap.size 41 6 u (Ls.take k).flatten.length (cellsR (Ls.take k).flatten)∧Below wc.heap.size wc wr) (fun _ i _=>m-(intOf i).toNat)
  case atStart=>exact⟨0,by omega,rfl,HO.out,HB.out⟩
  case round =>
   obtain⟨k,hk,rfl,hown,hB⟩:=hrel;have HOW:Hid (wr.ownsRow wc.heap.size 41 6 u6 (Ls.take k).flatten.length (cellsR (Ls.take k).flatten)):=hown;have HBW:Hid (Below wc.heap.size wc wr):=hB;clear hown;by_cases hlt:k<m
   ·have hkl:k<Ls.length:=by rw[HM.out];exact hlt
    obtain⟨ao,n,cap2,q0,hsr⟩:=(HC.out.later hB) k hkl;have HSR:Hid (SR wr (.slice ao n cap2) Ls[k]):=hsr;have HL1:Hid ((Ls.take k).flatten.length+Ls[k].length≤1000):=by
     have h1:=flat_le (Ls:=Ls) (k+1);rw[flat_next hkl,List.length_append] at h1;have h2:=HS.out;show _≤_;omega
    clear hsr hB
    go_wp2_with (at_builtin;refine wpList_append_SR _ rfl _ _ 23 rfl underlying23 wc.heap.size _ rfl _ HOW.out _ rfl _ HSR.out HL1.out HBW.out.size ?_)
    intro v' w3 hown3 hgrow;have HO5:Hid (w3.ownsRow wc.heap.size 41 6 v' (Ls.take (k+1)).flatten.length (cellsR (Ls.take (k+1)).flatten)):=by
     show w3.ownsRow _ _ _ _ _ _;rw[flat_next hkl,show ((Ls.take k).flatten++Ls[k]).length=(List.take k (List.map List.length Ls)).sum+Ls[k].length by simp];exact hown3
    have HB5:Hid (Below wc.heap.size wc w3):=HBW.out.grown hgrow HBW.out.size (fun g hg=>(HOW.out.lt g hg).1);clear hown3 hgrow q0;go_wp2;go_roundw
    case rel=>exact⟨k+1,by omega,by go_num,HO5.out,HB5.out⟩
    case measure=>simp[intOf];omega
   obtain rfl:k=m:=by omega
   go_wp2;go_ret;refine⟨_,rfl,?_,HBW.out⟩;have:=HOW.out;rw[←HM.out,List.take_length] at this;exact this
theorem eq_ways (p m b o s v p' m' b' o' s' v':Int):
 ((p==p')=false∧eqR ⟨p,m,b,o,s,v⟩ ⟨p',m',b',o',s',v'⟩=false) ∨
 ((p==p')=true∧(m==m')=false∧eqR ⟨p,m,b,o,s,v⟩ ⟨p',m',b',o',s',v'⟩=false) ∨
 ((p==p')=true∧(m==m')=true∧(b==b')=false∧eqR ⟨p,m,b,o,s,v⟩ ⟨p',m',b',o',s',v'⟩=false) ∨
 ((p==p')=true∧(m==m')=true∧(b==b')=true∧(o==o')=false∧eqR ⟨p,m,b,o,s,v⟩ ⟨p',m',b',o',s',v'⟩=false) ∨
 ((p==p')=true∧(m==m')=true∧(b==b')=true∧(o==o')=true∧(s==s')=false∧eqR ⟨p,m,b,o,s,v⟩ ⟨p',m',b',o',s',v'⟩=false) ∨
 ((p==p')=true∧(m==m')=true∧(b==b')=true∧(o==o')=true∧(s==s')=true∧(v==v')=false∧eqR ⟨p,m,b,o,s,v⟩ ⟨p',m',b',o',s',v'⟩=false) ∨
 ((p==p')=true∧(m==m')=true∧(b==b')=true∧(o==o')=true∧(s==s')=true∧(v==v')=true∧eqR ⟨p,m,b,o,s,v⟩ ⟨p',m',b',o',s',v'⟩=true):=by
 unfold eqR;by_cases h1:p=p'
 ·by_cases h2:m=m'
  ·by_cases h3:b=b'
   ·by_cases h4:o=o'
    ·by_cases h5:s=s'
     ·by_cases h6:v=v'
      ·simp[h1,h2,h3,h4,h5,h6]
      simp[h1,h2,h3,h4,h5,h6]
     simp[h1,h2,h3,h4,h5]
    simp[h1,h2,h3,h4]
   simp[h1,h2,h3]
  simp[h1,h2]
 simp[h1]
theorem run_eqlR (p m b o s v p' m' b' o' s' v':Int)(w:World):(binOp .eql 41 (.agg #[.int i64 p,.int i64 m,.int i64 b,.int i64 o,.int i64 s,.int i64 v]) (.agg #[.int i64 p',.int i64 m',.int i64 b',.int i64 o',.int i64 s',.int i64 v'])).run prog w=.ok (.bool (eqR ⟨p,m,b,o,s,v⟩ ⟨p',m',b',o',s',v'⟩)) w:=by
 rcases eq_ways p m b o s v p' m' b' o' s' v' with ⟨e1,e⟩ | ⟨e1,e2,e⟩ | ⟨e1,e2,e3,e⟩ | ⟨e1,e2,e3,e4,e⟩ | ⟨e1,e2,e3,e4,e5,e⟩ | ⟨e1,e2,e3,e4,e5,e6,e⟩ | ⟨e1,e2,e3,e4,e5,e6,e⟩
 all_goals
  rw[e];go_simp
def CI (w:World)(B:Nat)(p m b q s v:Int)(g o:Nat)(p' m' b' q' s' v':Int)(w':World):Prop:=
 Below w.heap.size w w'∧(w'.cell? ⟨B,0,none⟩=some (.int i64 p)∧w'.cell? ⟨B,1,none⟩=some (.int i64 m)∧w'.cell? ⟨B,2,none⟩=some (.int i64 b) ∧
  w'.cell? ⟨B,3,none⟩=some (.int i64 q)∧w'.cell? ⟨B,4,none⟩=some (.int i64 s)∧w'.cell? ⟨B,5,none⟩=some (.int i64 v)) ∧
 w'.cell? ⟨g,o,none⟩=some (.int i64 p')∧w'.cell? ⟨g,o+1,none⟩=some (.int i64 m')∧w'.cell? ⟨g,o+2,none⟩=some (.int i64 b') ∧
  w'.cell? ⟨g,o+3,none⟩=some (.int i64 q')∧w'.cell? ⟨g,o+4,none⟩=some (.int i64 s')∧w'.cell? ⟨g,o+5,none⟩=some (.int i64 v')
theorem CI.later {w W W':World}{B:Nat}{p m b q s v:Int}{g o:Nat}{p' m' b' q' s' v':Int}(hb:Below W.heap.size W W')(h:CI w B p m b q s v g o p' m' b' q' s' v' W):CI w B p m b q s v g o p' m' b' q' s' v' W':=by
 obtain⟨h0,⟨h1,h2,h3,h4,h5,h6⟩,k1,k2,k3,k4,k5,k6⟩:=h;exact⟨h0.trans (hb.mono h0.size),⟨cell_later hb h1,cell_later hb h2,cell_later hb h3,cell_later hb h4,cell_later hb h5,cell_later hb h6⟩,cell_later hb k1,cell_later hb k2,cell_later hb k3,cell_later hb k4,cell_later hb k5,cell_later hb k6⟩
theorem index_any (ao:AdQ)(n cap:Nat)(p m b o s v:Int)(L:List Ru)(w:World)(hn:L.length=n)(hn2:n≤maxLen)(ha:0<n→∃g o,ao=some ⟨g,o,none⟩∧RAt w g o L∧cap≤maxLen):
 Calls prog 69 #[.slice ao n cap,.agg #[.int i64 p,.int i64 m,.int i64 b,.int i64 o,.int i64 s,.int i64 v]] w fun e w'=>e=.returned (.int i64 (ixP (fun a=>eqR ⟨p,m,b,o,s,v⟩ a) L))∧Below w.heap.size w w':=by
 have HN:Hid (L.length=n):=hn;have HA:Hid (0<n→∃g o,ao=some ⟨g,o,none⟩∧RAt w g o L∧cap≤maxLen):=ha;have HC0:=C6.new w p m b o s v 41;have HB0:Hid (Below w.heap.size w (w.alloc (.cells #[.int i64 p,.int i64 m,.int i64 b,.int i64 o,.int i64 s,.int i64 v] 41))):=(bRQ _ _).alloc (nLQ _) _;unfold maxLen at hn2;clear hn ha;go_enter func69,ntmps69;go_wp2
 go_loopw [8] (fun i wr=>∃k:Nat,k≤n∧i=.int i64 k∧(L.take k).any (fun a=>eqR ⟨p,m,b,o,s,v⟩ a)=false∧Below w.heap.size w wr∧C6 wr w.heap.size 0 ⟨p,m,b,o,s,v⟩)
  (fun i _=>n-(intOf i).toNat)
 case atStart=>exact⟨0,by omega,rfl,by simp,HB0.out,HC0⟩
 case round =>
  obtain⟨k,hk,rfl,hno,hB,hC⟩:=hrel;have HB:Hid (Below w.heap.size w wr):=hB;have HC:Hid (C6 wr w.heap.size 0 ⟨p,m,b,o,s,v⟩):=hC;have HNO:Hid ((L.take k).any (fun a=>eqR ⟨p,m,b,o,s,v⟩ a)=false):=hno;clear hno HC0 HB0;by_cases hlt:k<n
  ·obtain⟨g,og,hao,hc,_⟩:=HA.out (by omega);subst hao;obtain⟨p',m',b',o',s',v',hkl,hL,q0,q1,q2,q3,q4,q5⟩:=(hc.later hB).at HN.out hlt;have HL:Hid (L[k]=⟨p',m',b',o',s',v'⟩):=hL;obtain⟨r0,r1,r2,r3,r4,r5⟩:=hC;simp only[Nat.zero_add] at r0 r1 r2 r3 r4 r5;have HCE:Hid (CI wr w.heap.size p m b o s v g (og+k*6) p' m' b' o' s' v' wr):=⟨bRQ _ _,⟨r0,r1,r2,r3,r4,r5⟩,q0,q1,q2,q3,q4,q5⟩;clear hL hB HA q0 q1 q2 q3 q4 q5 r0 r1 r2 r3 r4 r5;go_upto_region 4 with fail;have kb0:(0:Int)≤(k:Int):=by omega
   have kb1:(k:Int)<(n:Int):=by omega
   go_cut [16] from 9 to 18 (fun c w'=>c=.bool (eqR ⟨p,m,b,o,s,v⟩ ⟨p',m',b',o',s',v'⟩)∧Below wr.heap.size wr w')
   case first =>
    as_aux_lemma =>
     refine wp_region_quiet (C:=CI wr w.heap.size p m b o s v g (og+k*6) p' m' b' o' s' v') (by kernel_rfl) (by kernel_rfl) (CI.later (W:=wr) (Below.drew (bRQ _ _)) HCE.out) ?_;simp only[List.toList_toArray];go_big_quiet_want;refine qv (.agg #[.int i64 p,.int i64 m,.int i64 b,.int i64 o,.int i64 s,.int i64 v]) ?_ ?_
     ·rintro w' ⟨z0,⟨z1,z2,z3,z4,z5,z6⟩,y1,y2,y3,y4,y5,y6⟩;go_simp
     simp only[Act.put,AP];go_big_quiet_on;go_big_quiet_want;refine qv (.slice (some ⟨g,og,none⟩) n cap) ?_ ?_
     ·rintro w' ⟨z0,⟨z1,z2,z3,z4,z5,z6⟩,y1,y2,y3,y4,y5,y6⟩;go_simp
     simp only[Act.put,AP];go_big_quiet_on;go_big_quiet_want;refine qv (.int i64 (k:Int)) ?_ ?_
     ·rintro w' ⟨z0,⟨z1,z2,z3,z4,z5,z6⟩,y1,y2,y3,y4,y5,y6⟩;go_simp
     simp only[Act.put,AP];go_big_quiet_on;go_big_quiet_want;refine qv (.pointer (some ⟨g,og+k*6,none⟩)) ?_ ?_
     ·rintro w' ⟨z0,⟨z1,z2,z3,z4,z5,z6⟩,y1,y2,y3,y4,y5,y6⟩;go_simp
     simp only[Act.put,AP];go_big_quiet_on;go_big_quiet_want;refine qv (.agg #[.int i64 p',.int i64 m',.int i64 b',.int i64 o',.int i64 s',.int i64 v']) ?_ ?_
     ·rintro w' ⟨z0,⟨z1,z2,z3,z4,z5,z6⟩,y1,y2,y3,y4,y5,y6⟩;go_simp
     simp only[Act.put,AP];go_big_quiet_on;go_big_quiet_want;refine quiet_val (v:=.bool (eqR ⟨p,m,b,o,s,v⟩ ⟨p',m',b',o',s',v'⟩)) (fun w' hC=>exec_bin rfl (by go_simp) (run_eqlR p m b o s v p' m' b' o' s' v' w')) ?_;simp only[Act.put,AP];go_big_quiet_on;refine wpQuiet_nil ?_;intro w' hC
     go_wp2_with fail
     go_meet
     case rel=>exact⟨rfl,hC.1⟩
   case rest =>
    obtain⟨rfl,hB2⟩:=hcut;have HB2:Hid (Below w.heap.size w wc):=HB.out.trans (hB2.mono HB.out.size);have HC2:Hid (C6 wc w.heap.size 0 ⟨p,m,b,o,s,v⟩):=HC.out.later hB2;clear hB2;cases ho:eqR ⟨p,m,b,o,s,v⟩ ⟨p',m',b',o',s',v'⟩
    ·go_wp2;go_roundw
     case rel=>exact⟨k+1,by omega,by go_num,any_nextR hkl HNO.out (by rw[HL.out];exact ho),HB2.out,HC2.out⟩
     case measure=>simp[intOf];omega
    go_wp2;go_ret;exact⟨by rw[ixP_hit hkl HNO.out (by rw[HL.out];exact ho)];rfl,HB2.out⟩
  obtain rfl:k=n:=by omega
  go_wp2;go_ret;exact⟨by have:=HNO.out;rw[←HN.out,List.take_length] at this;rw[ixP_no this];rfl,HB.out⟩
theorem with1_any (p m b o s v:Int)(r:Ru)(B:Nat)(w:World)(hc:C6 w B 0 r):
 Calls prog 68 #[.agg #[.int i64 p,.int i64 m,.int i64 b,.int i64 o,.int i64 s,.int i64 v],.pointer (some ⟨B,0,none⟩)] w fun e w'=>e=.returned (.bool (keyB ⟨p,m,b,o,s,v⟩ r))∧Below w.heap.size w w':=by
 obtain⟨p',m',b',o',s',v'⟩:=r;obtain⟨c0,c1,c2,c3,c4,c5⟩:=hc;simp only[Nat.zero_add] at c0 c1 c2 c3 c4 c5;have hlt:B<w.heap.size:=bLQ _ _ c0;go_enter func68,ntmps68
 go_wp2_with fail
 refine (clash_any _ _ _ _ _ _ _ _ _ _ _ _ _).mono ?_;rintro e w1 ⟨rfl,hb1⟩;go_wp2;go_ret;exact⟨rfl,((bRQ _ _).alloc (nLQ _) _).trans (hb1.mono (by simp))⟩
theorem with1_asks (r:Ru)(B:Nat)(w:World)(hc:C6 w B 0 r):Asks w 68 (.pointer (some ⟨B,0,none⟩)) (fun a=>keyB a r):=
 fun p m b o s v W hW=>with1_any p m b o s v r B W (hc.later hW)
theorem SR.nil (w:World):SR w (.slice none 0 0) []:=.inl ⟨none,0,rfl,rfl⟩
def NR (w:World)(B:Nat)(v:Value)(L:List Ru):Prop:=w.ownsRow B 41 6 v L.length (cellsR L)
theorem NR.sr {w:World}{B:Nat}{v:Value}{L:List Ru}(h:NR w B v L):SR w v L:=own_SR h
theorem NR.nil (w:World)(B:Nat):NR w B (.slice none 0 0) []:=World.ownsRow_nil w B _ 6
theorem NR.mono {w:World}{B B':Nat}{v:Value}{L:List Ru}(h:NR w B v L)(hB:B'≤B):NR w B' v L:=by
 obtain⟨h1,h2 | ⟨g,cap,cur,hv,hb,h3⟩⟩:=h
 ·exact⟨h1,.inl h2⟩
 exact⟨h1,.inr ⟨g,cap,cur,hv,Nat.le_trans hB hb,h3⟩⟩
theorem NR.later {w w':World}{B:Nat}{v:Value}{L:List Ru}(h:NR w B v L)(hb:Below w.heap.size w w'):NR w' B v L:=h.kept ⟨hb.os,hb.tape,hb.output,hb.size,fun k hk _=>hb.block k hk⟩ (Classical.em _)
theorem NR.of {w:World}{B:Nat}{v:Value}{L M:List Ru}(h:w.ownsRow B 41 6 v L.length (cellsR L))(e:L=M):NR w B v M:=by subst e;exact h
theorem sr_one (w:World)(p m b o s v:Int)(t:TypeId):SR (w.alloc (.cells #[.int i64 p,.int i64 m,.int i64 b,.int i64 o,.int i64 s,.int i64 v] t)) (.slice (some ⟨w.heap.size,0,none⟩) 1 1) [⟨p,m,b,o,s,v⟩]:=by
 refine .inr ⟨w.heap.size,0,1,rfl,nLQ _,by unfold maxLen;omega,fun i hi=>?_⟩;obtain rfl:i=0:=by simp at hi;omega
 have h:=C6.new w p m b o s v t;simp only[Nat.zero_mul,Nat.add_zero,List.getElem_cons_zero];exact h
theorem pat2 {W:World}{a1 a2:AdQ}{n1 c1 n2 c2:Nat}{L1 L2:List Ru}(t:TypeId)(h1:SR W (.slice a1 n1 c1) L1)(h2:SR W (.slice a2 n2 c2) L2):
 PAt (W.alloc (.cells #[.slice a1 n1 c1,.slice a2 n2 c2] t)) W.heap.size 0 [L1,L2]:=by
 have hb:Below W.heap.size W (W.alloc (.cells #[.slice a1 n1 c1,.slice a2 n2 c2] t)):=(bRQ _ _).alloc (nLQ _) _;intro i hi
 match i,hi with
 | 0,_=>exact⟨a1,n1,c1,by simp,h1.later hb⟩
 | 1,_=>exact⟨a2,n2,c2,by simp,h2.later hb⟩
theorem RAt.drop {w:World}{g o:Nat}{L:List Ru}(h:RAt w g o L)(k:Nat):RAt w g (o+k*6) (L.drop k):=by
 intro i hi;have hi2:k+i<L.length:=by simp at hi;omega
 have:=h (k+i) hi2;rw[List.getElem_drop];have e:o+(k+i)*6=o+k*6+i*6:=by omega
 rw[←e];exact this
theorem ch_hit {L:List Ru}{r:Ru}(h:hitB L r=true):chN L true r=7:=by simp[chN,h]
theorem ch_full {L:List Ru}{r:Ru}(h:hitB L r=false)(h2:12≤L.length):chN L true r=4:=by simp[chN,h,h2]
theorem ch_add {L:List Ru}{r:Ru}(h:hitB L r=false)(h2:¬12≤L.length):chN L true r=0:=by simp[chN,h,h2]
theorem chL_ne {L:List Ru}{a:Bool}{r:Ru}(h:chN L a r≠0):chL L a r=[]:=by simp[chL,h]
theorem chL_add {L:List Ru}{r:Ru}(h:chN L true r=0):chL L true r=L++[r]:=by simp[chL,h]
theorem ch_none {L:List Ru}{r:Ru}(h:inB L r=false):chN L false r=5:=by simp[chN,h]
theorem ch_take {L:List Ru}{r:Ru}(h:inB L r=true):chN L false r=0:=by simp[chN,h]
theorem chL_take {L:List Ru}{r:Ru}(h:chN L false r=0):chL L false r=L.take (ixN L r)++L.drop (ixN L r+1):=by simp[chL,h]
theorem with_any (ao:AdQ)(n cap:Nat)(p m b o s v:Int)(L:List Ru)(w:World)(hs:SR w (.slice ao n cap) L):
 Calls prog 54 #[.slice ao n cap,.agg #[.int i64 p,.int i64 m,.int i64 b,.int i64 o,.int i64 s,.int i64 v]] w fun e w'=>∃u,e=.returned (.tuple #[u,noV (chN L true ⟨p,m,b,o,s,v⟩)])∧NR w' w.heap.size u (chL L true ⟨p,m,b,o,s,v⟩)∧Below w.heap.size w w':=by
 obtain⟨ao',n',cap',e,hn,hn2,hn3,ha⟩:=hs.form;cases e;have HN:Hid (L.length=n):=hn;have HC0:=C6.new w p m b o s v 41;have hB0:Below w.heap.size w (w.alloc (.cells #[.int i64 p,.int i64 m,.int i64 b,.int i64 o,.int i64 s,.int i64 v] 41)):=(bRQ _ _).alloc (nLQ _) _;have HS0:Hid (SR (w.alloc (.cells #[.int i64 p,.int i64 m,.int i64 b,.int i64 o,.int i64 s,.int i64 v] 41)) (.slice ao n cap) L):=hs.later hB0;have HA:Hid (0<n→∃g o,ao=some ⟨g,o,none⟩∧RAt w g o L∧cap≤maxLen):=ha;have HB0:Hid (Below w.heap.size w (w.alloc (.cells #[.int i64 p,.int i64 m,.int i64 b,.int i64 o,.int i64 s,.int i64 v] 41))):=hB0;have HM:Hid (n≤maxLen):=hn2;have hn63:n≤9223372036854775807:=by unfold maxLen at hn2;omega
 clear hn ha hs hn2 hB0;cases hh:hitB L ⟨p,m,b,o,s,v⟩
 ·have HH:Hid (L.any (fun a=>keyB a ⟨p,m,b,o,s,v⟩)=false):=hh;by_cases h12:12≤n
  ·rw[ch_full hh (by rw[HN.out];exact h12),chL_ne (by rw[ch_full hh (by rw[HN.out];exact h12)];decide)];clear hh;go_enter func54,ntmps54
   go_wp2_with fail
   refine (containsF ao n cap _ _ _ L _ HN.out HM.out (fun h=>by obtain⟨g,o,e1,e2,e3⟩:=HA.out h;exact⟨g,o,e1,e2.later HB0.out,e3⟩) (enters_of func68 (by kernel_rfl) rfl) (with1_asks ⟨p,m,b,o,s,v⟩ _ _ HC0)).mono ?_;rintro e w1 ⟨rfl,hb1⟩;rw[HH.out];have HB1:Hid (Below w.heap.size w w1):=HB0.out.trans (hb1.mono HB0.out.size);clear hb1;go_wp2;refine bodyPost_ret (v:=.tuple #[.slice none 0 0,.iface 73 (.int i64 4)]) (by simp[results,results54,go_sem]) rfl ⟨_,rfl,NR.nil _ _,HB1.out⟩
  rw[ch_add hh (by rw[HN.out];exact h12),chL_add (ch_add hh (by rw[HN.out];exact h12))];clear hh;go_enter func54,ntmps54
  go_wp2_with fail
  refine (containsF ao n cap _ _ _ L _ HN.out HM.out (fun h=>by obtain⟨g,o,e1,e2,e3⟩:=HA.out h;exact⟨g,o,e1,e2.later HB0.out,e3⟩) (enters_of func68 (by kernel_rfl) rfl) (with1_asks ⟨p,m,b,o,s,v⟩ _ _ HC0)).mono ?_;rintro e w1 ⟨rfl,hb1⟩;rw[HH.out];have HB1:Hid (Below w.heap.size w w1):=HB0.out.trans (hb1.mono HB0.out.size);have HS1:Hid (SR w1 (.slice ao n cap) L):=HS0.out.later hb1;obtain⟨c0,c1,c2,c3,c4,c5⟩:=HC0.later hb1;simp only[Nat.zero_add] at c0 c1 c2 c3 c4 c5;have hlt:w.heap.size<w1.heap.size:=bLQ _ _ c0;clear hb1
  go_wp2_with fail
  have hB2:Below w1.heap.size w1 (w1.alloc (.cells #[.int i64 p,.int i64 m,.int i64 b,.int i64 o,.int i64 s,.int i64 v] 41)):=(bRQ _ _).alloc (nLQ _) _;have hp:=pat2 23 (HS1.out.later hB2) (sr_one w1 p m b o s v 41);have hB3:=hB2.trans (((bRQ _ _).alloc (nLQ _) (.cells #[.slice ao n cap,.slice (some ⟨w1.heap.size,0,none⟩) 1 1] 23)).mono hB2.size);simp only[World.size_alloc] at hp;refine (concat_any _ 0 2 2 [L,[⟨p,m,b,o,s,v⟩]] _ rfl (by omega) hp (by simp[HN.out];omega)).mono ?_;rintro e w2 ⟨u,rfl,hown,hb2⟩;have HB2:Hid (Below w.heap.size w w2):=HB1.out.trans ((hB3.trans (hb2.mono hB3.size)).mono HB1.out.size);have HO:Hid (NR w2 w.heap.size u (L++[⟨p,m,b,o,s,v⟩])):=(NR.of hown (by simp)).mono (by have:=HB1.out.size;simp;omega);clear hb2 hown hp hB2 hB3;go_wp2;refine bodyPost_ret (v:=.tuple #[u,.nilIface]) (by simp[results,results54,go_sem]) rfl ⟨_,rfl,HO.out,HB2.out⟩
 have HH:Hid (L.any (fun a=>keyB a ⟨p,m,b,o,s,v⟩)=true):=hh;rw[ch_hit hh,chL_ne (by rw[ch_hit hh];decide)];clear hh;go_enter func54,ntmps54
 go_wp2_with fail
 refine (containsF ao n cap _ _ _ L _ HN.out HM.out (fun h=>by obtain⟨g,o,e1,e2,e3⟩:=HA.out h;exact⟨g,o,e1,e2.later HB0.out,e3⟩) (enters_of func68 (by kernel_rfl) rfl) (with1_asks ⟨p,m,b,o,s,v⟩ _ _ HC0)).mono ?_;rintro e w1 ⟨rfl,hb1⟩;rw[HH.out];have HB1:Hid (Below w.heap.size w w1):=HB0.out.trans (hb1.mono HB0.out.size);clear hb1;go_wp2;refine bodyPost_ret (v:=.tuple #[.slice none 0 0,.iface 73 (.int i64 7)]) (by simp[results,results54,go_sem]) rfl ⟨_,rfl,NR.nil _ _,HB1.out⟩
theorem keepQ {w1 W W':World}(hb:Below W.heap.size W W')(h:Below w1.heap.size w1 W):Below w1.heap.size w1 W':=h.trans (hb.mono h.size)
theorem ix_no {L:List Ru}{r:Ru}(h:inB L r=false):ixP (fun a=>eqR r a) L = -1:=ixP_no h
theorem ix_yes {L:List Ru}{r:Ru}(h:inB L r=true):ixP (fun a=>eqR r a) L=(ixN L r:Int):=by
 unfold ixP;rw[if_pos (show L.any (fun a=>eqR r a)=true from h)];rfl
theorem ix_lt {L:List Ru}{r:Ru}(h:inB L r=true):ixN L r<L.length:=by
 unfold ixN;rw[List.findIdx_lt_length];simpa[inB] using h
theorem without_any (ao:AdQ)(n cap:Nat)(p m b o s v:Int)(L:List Ru)(w:World)(hs:SR w (.slice ao n cap) L)(h1000:n≤1000):
 Calls prog 55 #[.slice ao n cap,.agg #[.int i64 p,.int i64 m,.int i64 b,.int i64 o,.int i64 s,.int i64 v]] w fun e w'=>∃u,e=.returned (.tuple #[u,noV (chN L false ⟨p,m,b,o,s,v⟩)])∧NR w' w.heap.size u (chL L false ⟨p,m,b,o,s,v⟩)∧Below w.heap.size w w':=by
 obtain⟨ao',n',cap',e,hn,hn2,hn3,ha⟩:=hs.form;cases e;have HN:Hid (L.length=n):=hn;have hB0:Below w.heap.size w (w.alloc (.cells #[.int i64 p,.int i64 m,.int i64 b,.int i64 o,.int i64 s,.int i64 v] 41)):=(bRQ _ _).alloc (nLQ _) _;have HA:Hid (0<n→∃g o,ao=some ⟨g,o,none⟩∧RAt w g o L∧cap≤maxLen):=ha;have HB0:Hid (Below w.heap.size w (w.alloc (.cells #[.int i64 p,.int i64 m,.int i64 b,.int i64 o,.int i64 s,.int i64 v] 41))):=hB0;have HM:Hid (n≤maxLen):=hn2;clear hn ha hs hn2 hB0;cases hh:inB L ⟨p,m,b,o,s,v⟩
 ·rw[ch_none hh,chL_ne (by rw[ch_none hh];decide)];have HH:Hid (ixP (fun a=>eqR ⟨p,m,b,o,s,v⟩ a) L = -1):=ix_no hh;clear hh;go_enter func55,ntmps55
  go_wp2_with fail
  refine (index_any ao n cap p m b o s v L _ HN.out HM.out (fun h=>by obtain⟨g,o,e1,e2,e3⟩:=HA.out h;exact⟨g,o,e1,e2.later HB0.out,e3⟩)).mono ?_;rintro e w1 ⟨rfl,hb1⟩;rw[HH.out];have HB1:Hid (Below w.heap.size w w1):=HB0.out.trans (hb1.mono HB0.out.size);clear hb1;go_wp2;refine bodyPost_ret (v:=.tuple #[.slice none 0 0,.iface 73 (.int i64 5)]) (by simp[results,results55,go_sem]) rfl ⟨_,rfl,NR.nil _ _,HB1.out⟩
 rw[ch_take hh,chL_take (ch_take hh)];have HH:Hid (ixP (fun a=>eqR ⟨p,m,b,o,s,v⟩ a) L=(ixN L ⟨p,m,b,o,s,v⟩:Int)):=ix_yes hh;have hi:ixN L ⟨p,m,b,o,s,v⟩<n:=by
  have:=ix_lt hh;rw[HN.out] at this;exact this
 obtain⟨g,og,hao,hRA,hcm⟩:=HA.out (by omega);subst hao
 generalize ixN L ⟨p,m,b,o,s,v⟩=i at *
 have HRA:Hid (RAt w g og L):=hRA;have HCM:Hid (cap≤maxLen):=hcm;have hc63:(cap:Int)≤9223372036854775807:=by unfold maxLen at hcm;omega
 clear hh hRA hcm HA;go_enter func55,ntmps55
 go_wp2_with fail
 refine (index_any _ n cap p m b o s v L _ HN.out HM.out (fun h=>⟨g,og,rfl,HRA.out.later HB0.out,HCM.out⟩)).mono ?_;rintro e w1 ⟨rfl,hb1⟩;rw[HH.out];have HB1:Hid (Below w.heap.size w w1):=HB0.out.trans (hb1.mono HB0.out.size);have HR1:Hid (RAt w1 g og L):=(HRA.out.later HB0.out).later hb1;clear hb1;have i0:¬((i:Int)<0):=by omega
 have i01:(0:Int)≤(i:Int):=by omega
 have i1:(i:Int)≤(cap:Int):=by omega
 have i2:((i+1:Nat):Int)≤(n:Int):=by omega
 have i21:(0:Int)≤((i+1:Nat):Int):=by omega
 have i3:IntKind.i64.wrap ((i:Int)+1)=((i+1:Nat):Int):=by rw[IntKind.wrap_i64];omega
 have HT1:Hid (SR w1 (.slice (some ⟨g,og,none⟩) i cap) (L.take i)):=by
  have e1:(L.take i).length=i:=by rw[List.length_take,HN.out];omega
  exact .inr ⟨g,og,cap,by rw[e1],by rw[e1];omega,HCM.out,HR1.out.take i⟩
 have HLEN:Hid ([L.take i,L.drop (i+1)].flatten.length≤1000):=by
  show _≤1000;simp only[List.flatten_cons,List.flatten_nil,List.append_nil,List.length_append,List.length_take,List.length_drop,HN.out];omega
 by_cases hcj:cap=i+1
 ·have HT2:Hid (SR w1 (.slice (some ⟨g,og,none⟩) 0 0) (L.drop (i+1))):=.inl ⟨_,_,rfl,List.drop_eq_nil_of_le (by rw[HN.out];omega)⟩
  generalize hj:i+1=j at i2 i21 i3 hcj
  subst hcj;go_wp2
  go_region_held3 (fun w'=>Below w1.heap.size w1 w') (first | assumption | exact Below.drew (bRQ _ _) | exact keepQ (by assumption) (by assumption) | exact keepQ (Below.drew (bRQ _ _)) (by assumption) | exact keepQ (Below.alloc (bRQ _ _) (nLQ _) _) (by assumption))
   (first | (go_at_call 26;refine (concat_any _ 0 2 2 [L.take i,L.drop (i+1)] _ rfl (by omega) ((pat2 _ HT1.out HT2.out).later (Below.drew (bRQ _ _))) HLEN.out).mono ?_;rintro e w' ⟨u,rfl,hown,hb⟩))
  have HO:Hid (NR w' w.heap.size u (L.take i++L.drop (i+1))):=(NR.of hown (by simp)).mono (by have:=HB1.out.size;simp;omega);have HB2:Hid (Below w.heap.size w w'):=HB1.out.trans ((‹Below w1.heap.size w1 w'›).mono HB1.out.size);clear hown;go_wp2;refine bodyPost_ret (v:=.tuple #[u,.nilIface]) (by simp[results,results55,go_sem]) rfl ⟨_,rfl,HO.out,HB2.out⟩
 have HT2:Hid (SR w1 (.slice (some ⟨g,og+(i+1)*6,none⟩) (n-(i+1)) (cap-(i+1))) (L.drop (i+1))):=by
  have e1:(L.drop (i+1)).length=n-(i+1):=by rw[List.length_drop,HN.out]
  exact .inr ⟨g,og+(i+1)*6,cap-(i+1),by rw[e1],by rw[e1];omega,Nat.le_trans (Nat.sub_le _ _) HCM.out,HR1.out.drop (i+1)⟩
 generalize hj:i+1=j at i2 i21 i3 hcj HT2 HLEN
 go_wp2
 go_region_held3 (fun w'=>Below w1.heap.size w1 w') (first | assumption | exact Below.drew (bRQ _ _) | exact keepQ (by assumption) (by assumption) | exact keepQ (Below.drew (bRQ _ _)) (by assumption) | exact keepQ (Below.alloc (bRQ _ _) (nLQ _) _) (by assumption))
  (first | (go_at_call 26;refine (concat_any _ 0 2 2 [L.take i,L.drop j] _ rfl (by omega) ((pat2 _ HT1.out HT2.out).later (Below.drew (bRQ _ _))) HLEN.out).mono ?_;rintro e w' ⟨u,rfl,hown,hb⟩))
 have HO:Hid (NR w' w.heap.size u (L.take i++L.drop (i+1))):=(NR.of hown (by rw[hj];simp)).mono (by have:=HB1.out.size;simp;omega);have HB2:Hid (Below w.heap.size w w'):=HB1.out.trans ((‹Below w1.heap.size w1 w'›).mono HB1.out.size);clear hown;go_wp2;refine bodyPost_ret (v:=.tuple #[u,.nilIface]) (by simp[results,results55,go_sem]) rfl ⟨_,rfl,HO.out,HB2.out⟩
end
end Go.Proofs.YtcbapfgohocghaaDoor
