/- Contracts and facts on the way to TextBack, joined into one text: WishMath, WishText, TextMath, TableMath, TextBackMath, TextReadMath, TextSpec, TextSize, ClassMem, ClassTwo, OwnInts, TextJoin, TextPrint1, TopoCon, SpotKey, StSpot, StLink. -/
import Derived.Test.YtpbgocfinpbpgaaGreatDoorTextBackP2
namespace Go.Proofs.YtpbgocfinpbpgaaGreatDoor
set_option linter.unusedSimpArgs false
set_option linter.unusedVariables false
set_option maxHeartbeats 16000000
set_option maxRecDepth 100000
open Go.Proofs.Tryz
open IntKind (i64)
section
open Go.RowKit
structure Wi where
 k:Int
 f:ByteArray
 t:ByteArray
 v:Int
def zeW:Wi:=⟨0,ByteArray.empty,ByteArray.empty,0⟩
def wkB (k:Int):Bool:=decide (1≤k)&&decide (k≤4)
def viB (w:Wi)(S:Int):Bool:=(w.k != 3) || swB S w.v
def nlB (w:Wi):Bool:=(w.f==ByteArray.empty)&&(w.t==ByteArray.empty)
def hoB (Hs:HoQ)(n:ByteArray):Bool:=Hs.any fun h=>h.1==n
def veB (w:Wi):Bool:=(w.k != 3)&&(w.v != 0)
def woN (S:Int)(Hs:HoQ)(w:Wi):Int:=
 if !wkB w.k || (!viB w S || veB w) then 1 else if w.k=4 then (if nlB w then 0 else 3) else if hoB Hs w.f&&hoB Hs w.t then 0 else 5
def wsTo (S:Int)(Hs:HoQ)(l:List Wi):Nat→Int
 | 0=>0
 | k+1=>if wsTo S Hs l k=0 then woN S Hs (l.getD k zeW) else wsTo S Hs l k
def wsN (S:Int)(Ls:LkQ)(Hs:HoQ)(l:List Wi):Int:=
 if tpN S Ls Hs=0 then (if 8<l.length then 4 else wsTo S Hs l l.length) else tpN S Ls Hs
theorem ws_le {S:Int}{Hs:HoQ}{l:List Wi}{k:Nat}(h:wsTo S Hs l k≠0):∀{n:Nat},k≤n→wsTo S Hs l n=wsTo S Hs l k
 | 0,hn=>by
   obtain rfl:k=0:=by omega
   rfl
 | n+1,hn=>by
   by_cases e:k=n+1
   ·subst e;rfl
   have:=ws_le h (show k≤n by omega);rw[wsTo,if_neg (by rw[this];exact h),this]
theorem ws_0 {S:Int}{Hs:HoQ}{l:List Wi}:∀{n:Nat},wsTo S Hs l n=0→∀k,k<n→woN S Hs (l.getD k zeW)=0
 | 0,_,k,hk=>by omega
 | n+1,h,k,hk=>by
   unfold wsTo at h;by_cases e:wsTo S Hs l n=0
   ·rw[if_pos e] at h;by_cases ek:k=n
    ·subst ek;exact h
    exact ws_0 e k (by omega)
   rw[if_neg e] at h;exact absurd h e
theorem getW {l:List Wi}{k:Nat}(hk:k<l.length):l.getD k zeW=l[k]:=by simp[List.getD,hk]
section
variable (Ls:LkQ)(Hs:HoQ)(Ts:TsQ)
end
section
variable {Ls:LkQ}{Hs:HoQ}{Ts:TsQ}
variable {Xs:HoQ}
variable {l:List Wi}
end
theorem wa_ext {a b:ByteArray}(h:a.data.toList=b.data.toList):a=b:=by
 obtain⟨⟨l⟩⟩:=a;obtain⟨⟨r⟩⟩:=b;simp at h;rw[h]
theorem wa_app (a b:ByteArray):(a++b).data.toList=a.data.toList++b.data.toList:=by simp[ByteArray.data_append]
theorem wa_as (a b c:ByteArray):a++(b++c)=a++b++c:=ByteArray.append_assoc.symm
def blW:ByteArray:=⟨#[32]⟩
theorem blW_lst:blW.data.toList=[32]:=rfl
def reaS:ByteArray:=⟨#[114,101,97,99,104]⟩
def apaS:ByteArray:=⟨#[97,112,97,114,116]⟩
def wayS:ByteArray:=⟨#[119,97,121]⟩
def looS:ByteArray:=⟨#[108,111,111,112,115]⟩
def woW (k:Int):ByteArray:=if k=1 then reaS else if k=2 then apaS else if k=3 then wayS else if k=4 then looS else ByteArray.empty
def whW (a:ByteArray):Int:=if a==ByteArray.empty then 0 else if a==reaS then 1 else if a==apaS then 2 else if a==wayS then 3 else if a==looS then 4 else 0
def shN (w:Wi):Int:=
 if !wkB w.k || !viB w 6 then 1 else if (w.k != 4) && !(nmB w.f&&nmB w.t) then 2 else if veB w || ((w.k==4) && !nlB w) then 3 else 0
def shT (w:Wi):ByteArray:=
 if w.k=4 then looS else if w.k=3 then woW w.k++(blW++(w.f++(blW++(w.t++(blW++dgS w.v))))) else woW w.k++(blW++(w.f++(blW++w.t)))
def shV (w:Wi):ByteArray:=if shN w=0 then shT w else ByteArray.empty
theorem jx_none:∀{l:List UInt8},32 ∉ l→Lib.indexByte l 32 = -1
 | [],_=>rfl
 | a :: l,h=>by
   have h1:(a==32)=false:=by
    rw[beq_eq_false_iff_ne];exact fun e=>h (by rw[e];exact List.mem_cons_self)
   rw[Lib.indexByte,h1,jx_none (fun e=>h (List.mem_cons_of_mem _ e))];rfl
theorem jx_some:∀{l r:List UInt8},32 ∉ l→Lib.indexByte (l++32 :: r) 32=(l.length:Nat)
 | [],_,_=>rfl
 | a :: l,r,h=>by
   have h1:(a==32)=false:=by
    rw[beq_eq_false_iff_ne];exact fun e=>h (by rw[e];exact List.mem_cons_self)
   rw[List.cons_append,Lib.indexByte,h1,jx_some (fun e=>h (List.mem_cons_of_mem _ e))];have:¬(((l.length:Nat):Int) == -1)=true:=by simp
   simp only[Bool.false_eq_true,if_false,this,List.length_cons];simp
theorem wut_one {a:ByteArray}(k:Nat)(h:32 ∉ a.data.toList):cutB k a=[a]:=cut_miss k (jx_none h)
theorem wut_at {a r:ByteArray}(h:32 ∉ a.data.toList):blAt (a++(blW++r))=(a.size:Nat)∧(a++(blW++r)).extract 0 a.size=a∧(a++(blW++r)).extract (a.size+1) (a++(blW++r)).size=r:=by
 have e:(a++(blW++r)).data.toList=a.data.toList++32 :: r.data.toList:=by rw[wa_app,wa_app,blW_lst];rfl
 refine⟨by rw[blAt,e,jx_some h,Lib.size_eq],wa_ext (by rw[Lib.extract_data,e,Lib.size_eq];simp),wa_ext (by
  rw[Lib.extract_to_end,e,Lib.size_eq];rw[List.drop_append,List.drop_eq_nil_of_le (by omega)];simp)⟩
theorem wut_word {a r:ByteArray}(k:Nat)(h:32 ∉ a.data.toList):cutB (k+1) (a++(blW++r))=a :: cutB k r:=by
 obtain⟨h1,h2,h3⟩:=wut_at (r:=r) h;rw[cut_hit k h1,h2,h3]
theorem wutA_word {a r:ByteArray}(h:32 ∉ a.data.toList):cutA (a++(blW++r))=a :: cutA r:=by
 obtain⟨h1,h2,h3⟩:=wut_at (r:=r) h;rw[cutA_hit h1,h2,h3]
theorem wutA_one {a:ByteArray}(h:32 ∉ a.data.toList):cutA a=[a]:=cutA_miss (jx_none h)
def jnW:List ByteArray→ByteArray
 | []=>ByteArray.empty
 | [a]=>a
 | a :: b :: r=>a++(blW++jnW (b :: r))
theorem wut_ne (k:Nat)(s:ByteArray):∃a r,cutB k s=a :: r:=by
 match h:cutB k s with
 | []=>have:=(cut_len k s).2;rw[h] at this;simp at this
 | a :: r=>exact⟨a,r,rfl⟩
theorem wut_join:∀(k:Nat) (s:ByteArray),jnW (cutB k s)=s
 | 0,_=>rfl
 | k+1,s=>by
   rcases bl_cases s with h | ⟨i,h,hi⟩
   ·rw[cut_miss _ h];rfl
   rw[cut_hit _ h];obtain⟨a,r,e⟩:=wut_ne k (s.extract (i+1) s.size);have ih:=wut_join k (s.extract (i+1) s.size);rw[e] at ih ⊢;rw[jnW,ih]
   apply wa_ext
   rw[wa_app,wa_app,blW_lst,Lib.extract_data,Lib.extract_to_end];have hg:=(Lib.indexByte_some h).1;have hlt:i<s.data.toList.length:=by rw[←Lib.size_eq];exact hi
   have hd:s.data.toList.drop i=32 :: s.data.toList.drop (i+1):=by
    rw[List.drop_eq_getElem_cons hlt];rw[List.getElem?_eq_getElem hlt] at hg;rw[Option.some.inj hg]
   simp only[Nat.sub_zero,List.drop_zero];rw[List.singleton_append,←hd,List.take_append_drop]
theorem nm_bl {a:ByteArray}(h:nmB a=true):32 ∉ a.data.toList:=by
 simp only[nmB,Bool.and_eq_true,List.all_eq_true] at h;intro hm;have:=h.2.2 _ hm;simp at this
theorem via_fin:∀k:Fin 7,(dcOk (dgS ((k:Nat):Int))&&(dcN (dgS ((k:Nat):Int))==((k:Nat):Int) && !((dgS ((k:Nat):Int)).data.toList.contains 32)))=true:=by decide +kernel
theorem via_back {p:Int}(h:0≤p∧p≤6):dcOk (dgS p)=true∧dcN (dgS p)=p∧32 ∉ (dgS p).data.toList:=by
 obtain⟨k,rfl⟩:∃k:Fin 7,p=((k:Nat):Int):=⟨⟨p.toNat,by omega⟩,by simp;omega⟩;have:=via_fin k;simp only[Bool.and_eq_true,beq_iff_eq] at this;exact⟨this.1,this.2.1,by simpa using this.2.2⟩
theorem via_big {s:ByteArray}(h0:byteN s 0≠48):∀{k:Nat},dgTo s (k+1)=true→10 ^ k≤dcTo s (k+1)
 | 0,h=>by
   simp only[dgTo,Bool.and_eq_true] at h;have:=dig_of h.2;simp[dcTo];omega
 | k+1,h=>by
   simp only[dgTo,Bool.and_eq_true] at h;have h1:=via_big h0 (k:=k) (by simp only[dgTo,Bool.and_eq_true];exact h.1);have h2:=dig_of h.2;have e:dcTo s (k+1+1)=10*dcTo s (k+1)+((byteN s (k+1):Nat)-48):=rfl;rw[e,Int.pow_succ];omega
theorem via1_fin:∀i:Fin 10,(dgS (dcN ⟨#[UInt8.ofNat (48+i)]⟩)).data.toList=[UInt8.ofNat (48+i)]:=by decide +kernel
theorem via_byte {c:UInt8}(h:digB c.toNat=true):∃i:Fin 10,c=UInt8.ofNat (48+i):=by
 have h1:=dig_of h;refine⟨⟨c.toNat-48,by omega⟩,?_⟩
 apply UInt8.toNat_inj.1
 simp only[UInt8.toNat_ofNat'];omega
theorem via_read {a:ByteArray}(h:dcOk a=true)(h2:dcN a≤9):dgS (dcN a)=a:=by
 simp only[dcOk,Bool.and_eq_true] at h;obtain⟨hh,hd⟩:=h;have hN:dcN a=dcTo a a.size:=by simp[dcN,dcOk,hh,hd]
 simp only[dcHd,Bool.and_eq_true,decide_eq_true_eq] at hh;obtain⟨z1,z9,z0⟩:=hh;have hs:a.size=1:=by
  by_cases hs:a.size=1
  ·exact hs
  exfalso
  have h0:byteN a 0≠48:=by
   simp[hs] at z0;exact z0
  obtain⟨k,hk⟩:∃k,a.size=k+1:=⟨a.size-1,by omega⟩;rw[hk] at hd hN;have hb:=via_big h0 hd
  rcases (by omega:k=1∨k=2∨k=3∨k=4∨k=5∨k=6∨k=7∨k=8) with rfl | rfl | rfl | rfl | rfl | rfl | rfl | rfl <;> simp at hb hN <;> omega
 have hl:a.data.toList.length=1:=by rw[←Lib.size_eq];exact hs
 match hq:a.data.toList,hl with
 | [c],_ =>
   have hb:byteN a 0=c.toNat:=by simp[byteN,hq]
   obtain⟨i,rfl⟩:=via_byte (c:=c) (by rw[←hb];exact dg_le (n:=a.size) (by omega) hd);have e:a=⟨#[UInt8.ofNat (48+i)]⟩:=wa_ext hq;exact wa_ext (by rw[hq,e];exact via1_fin i)
theorem shw_0 {w:Wi}(h:shN w=0):(w.k=4∧w.f=ByteArray.empty∧w.t=ByteArray.empty∧w.v=0)∨((w.k=1∨w.k=2)∧nmB w.f=true∧nmB w.t=true∧w.v=0)∨(w.k=3∧nmB w.f=true∧nmB w.t=true∧1≤w.v∧w.v≤6):=by
 unfold shN at h
 split at h
 ·cases h
 next h1 =>
 split at h
 ·cases h
 next h2 =>
 split at h
 ·cases h
 next h3 =>
 simp only[wkB,viB,swB,Bool.or_eq_true,Bool.not_eq_true',Bool.and_eq_false_iff,Bool.or_eq_false_iff,decide_eq_false_iff_not,bne_eq_false_iff_eq,not_or,not_and] at h1;simp only[Bool.and_eq_true,bne_iff_ne,Bool.not_eq_true',Bool.and_eq_false_iff,not_and,not_or,Bool.not_eq_false] at h2;simp only[veB,nlB,Bool.or_eq_true,Bool.and_eq_true,bne_iff_ne,beq_iff_eq,Bool.not_eq_true',Bool.and_eq_false_iff,not_or,not_and,Bool.not_eq_false,ne_eq,Decidable.not_not,ba_eq] at h3;obtain⟨⟨a1,a2⟩,a3⟩:=h1
 rcases (by omega:w.k=4∨w.k=3∨(w.k=1∨w.k=2)) with e | e | e
 ·exact .inl ⟨e,(h3.2 e).1,(h3.2 e).2,h3.1 (by omega)⟩
 ·have:=h2 (by omega);have:=a3 e;exact .inr (.inr ⟨e,(h2 (by omega)).1,(h2 (by omega)).2,by omega,by omega⟩)
 exact .inr (.inl ⟨e,(h2 (by omega)).1,(h2 (by omega)).2,h3.1 (by omega)⟩)
theorem sh_mk4:shN ⟨4,ByteArray.empty,ByteArray.empty,0⟩=0:=by decide +kernel
def wrK (a:ByteArray):Int:=if a==wayS then 3 else if a==apaS then 2 else if a==reaS then 1 else 0
def okW (w:Wi):Option Wi:=if shN w=0 then some w else none
def rdL:List ByteArray→Option Wi
 | [a,b,c]=>okW ⟨wrK a,b,c,0⟩
 | [a,b,c,d]=>if dcOk d&&((a==wayS) && !(dcN d==0)) then okW ⟨wrK a,b,c,dcN d⟩ else none
 | _=>none
def rdO (s:ByteArray):Option Wi:=if s==looS then some ⟨4,ByteArray.empty,ByteArray.empty,0⟩ else rdL (cutA s)
theorem ok_some {w x:Wi}(h:okW w=some x):w=x∧shN w=0:=by
 unfold okW at h
 split at h
 ·next e=>cases h;exact⟨rfl,e⟩
 cases h
theorem rea_bl:32 ∉ reaS.data.toList:=by decide
theorem apa_bl:32 ∉ apaS.data.toList:=by decide
theorem way_bl:32 ∉ wayS.data.toList:=by decide
theorem loo_bl:32 ∉ looS.data.toList:=by decide
theorem wrK_c (a:ByteArray):(a=wayS∧wrK a=3)∨(a=apaS∧wrK a=2)∨(a=reaS∧wrK a=1)∨wrK a=0:=by
 unfold wrK
 split
 ·next e=>exact .inl ⟨ba_eq.1 e,rfl⟩
 split
 ·next e=>exact .inr (.inl ⟨ba_eq.1 e,rfl⟩)
 split
 ·next e=>exact .inr (.inr (.inl ⟨ba_eq.1 e,rfl⟩))
 exact .inr (.inr (.inr rfl))
theorem sh_no {f t:ByteArray}{v:Int}:shN ⟨0,f,t,v⟩≠0:=by simp[shN,wkB]
theorem sh_no3 {f t:ByteArray}:shN ⟨3,f,t,0⟩≠0:=by simp[shN,wkB,viB,swB]
theorem rd_text {s:ByteArray}{w:Wi}(h:rdO s=some w):shN w=0∧shT w=s:=by
 unfold rdO at h
 split at h
 ·next e =>
  cases h;exact⟨sh_mk4,(ba_eq.1 e).symm⟩
 have hj:=wut_join s.size s;rw[show cutB s.size s=cutA s from rfl] at hj;unfold rdL at h
 split at h
 ·next a b c e =>
  rw[e] at hj;obtain⟨h1,h2⟩:=ok_some h;subst h1;refine⟨h2,?_⟩;have hj:a++(blW++(b++(blW++c)))=s:=hj
  rcases wrK_c a with ⟨rfl,e1⟩ | ⟨rfl,e1⟩ | ⟨rfl,e1⟩ | e1
  ·rw[e1] at h2;exact absurd h2 sh_no3
  ·rw[e1,←hj];rfl
  ·rw[e1,←hj];rfl
  rw[e1] at h2;exact absurd h2 sh_no
 ·next a b c d e =>
  rw[e] at hj
  split at h
  ·next hd =>
   obtain⟨h1,h2⟩:=ok_some h;subst h1;refine⟨h2,?_⟩;simp only[Bool.and_eq_true,ba_eq] at hd;obtain⟨d1,rfl,d2⟩:=hd;have hj:wayS++(blW++(b++(blW++(c++(blW++d)))))=s:=hj;have e1:wrK wayS=3:=rfl;rw[e1] at h2 ⊢
   rcases shw_0 h2 with ⟨k,_⟩ | ⟨k,_⟩ | ⟨_,_,_,_,k6⟩
   ·simp at k
   ·simp at k
   have:=via_read d1 (by simp only at k6;omega);rw[←hj];show wayS++(blW++(b++(blW++(c++(blW++dgS (dcN d))))))=_;rw[this]
  cases h
 cases h
theorem ne_loo {a r:ByteArray}(h:32 ∉ a.data.toList):(a++(blW++r)==looS)=false:=by
 cases e:(a++(blW++r)==looS) with
 | false=>rfl
 | true =>
   exfalso
   have e2:=ba_eq.1 e;have:32∈(a++(blW++r)).data.toList:=by rw[wa_app,wa_app,blW_lst];simp
   rw[e2] at this;exact loo_bl this
theorem text_rd {w:Wi}(h:shN w=0):rdO (shT w)=some w:=by
 have hh:=h;obtain⟨k,f,t,v⟩:=w
 rcases shw_0 h with ⟨e,e1,e2,e3⟩ | ⟨e,e1,e2,e3⟩ | ⟨e,e1,e2,e3,e4⟩
 ·simp only at e e1 e2 e3;subst e e1 e2 e3;show rdO looS=_;rw[rdO,if_pos (ba_eq.2 rfl)]
 ·simp only at e e1 e2 e3;subst e3
  rcases e with rfl | rfl
  ·show rdO (reaS++(blW++(f++(blW++t))))=_;rw[rdO,ne_loo rea_bl,wutA_word rea_bl,wutA_word (nm_bl e1),wutA_one (nm_bl e2)];show okW ⟨wrK reaS,f,t,0⟩=_;rw[show wrK reaS=1 from rfl,okW,if_pos hh]
  show rdO (apaS++(blW++(f++(blW++t))))=_;rw[rdO,ne_loo apa_bl,wutA_word apa_bl,wutA_word (nm_bl e1),wutA_one (nm_bl e2)];show okW ⟨wrK apaS,f,t,0⟩=_;rw[show wrK apaS=2 from rfl,okW,if_pos hh]
 simp only at e e1 e2 e3 e4;subst e;obtain⟨b1,b2,b3⟩:=via_back (p:=v) ⟨by omega,e4⟩;show rdO (wayS++(blW++(f++(blW++(t++(blW++dgS v))))))=_;rw[rdO,ne_loo way_bl,wutA_word way_bl,wutA_word (nm_bl e1),wutA_word (nm_bl e2),wutA_one b3];show (if dcOk (dgS v)&&((wayS==wayS) && !(dcN (dgS v)==0)) then okW ⟨wrK wayS,f,t,dcN (dgS v)⟩ else none)=_;rw[b1,b2,ba_eq.2 rfl,show wrK wayS=3 from rfl,if_pos (by simp;omega),okW,if_pos hh]
def wkW (c:List ByteArray)(V:Int):Wi:=⟨whW (c.getD 0 ByteArray.empty),if 2<c.length then c.getD 1 ByteArray.empty else ByteArray.empty,if 2<c.length then c.getD 2 ByteArray.empty else ByteArray.empty,if 3<c.length then V else 0⟩
theorem text_wk {w:Wi}(h:shN w=0){V:Int}(hV:∀d,cutB 3 (shT w)=[d,w.f,w.t,dgS w.v]→V=w.v):wkW (cutB 3 (shT w)) V=w:=by
 obtain⟨k,f,t,v⟩:=w
 rcases shw_0 h with ⟨e,e1,e2,e3⟩ | ⟨e,e1,e2,e3⟩ | ⟨e,e1,e2,e3,e4⟩
 ·simp only at e e1 e2 e3;subst e e1 e2 e3;have:cutB 3 (shT ⟨4,ByteArray.empty,ByteArray.empty,0⟩)=[looS]:=wut_one 3 loo_bl;rw[this];rfl
 ·simp only at e e1 e2 e3;subst e3
  rcases e with rfl | rfl
  ·have:cutB 3 (shT ⟨1,f,t,0⟩)=[reaS,f,t]:=by
    show cutB 3 (reaS++(blW++(f++(blW++t))))=_;rw[wut_word 2 rea_bl,wut_word 1 (nm_bl e1),wut_one 1 (nm_bl e2)]
   rw[this];rfl
  have:cutB 3 (shT ⟨2,f,t,0⟩)=[apaS,f,t]:=by
   show cutB 3 (apaS++(blW++(f++(blW++t))))=_;rw[wut_word 2 apa_bl,wut_word 1 (nm_bl e1),wut_one 1 (nm_bl e2)]
  rw[this];rfl
 simp only at e e1 e2 e3 e4;subst e;obtain⟨b1,b2,b3⟩:=via_back (p:=v) ⟨by omega,e4⟩;have:cutB 3 (shT ⟨3,f,t,v⟩)=[wayS,f,t,dgS v]:=by
  show cutB 3 (wayS++(blW++(f++(blW++(t++(blW++dgS v))))))=_;rw[wut_word 2 way_bl,wut_word 1 (nm_bl e1),wut_word 0 (nm_bl e2)];rfl
 rw[this,hV _ this];rfl
theorem wk_rd (s:ByteArray){V:Int}(hV:∀p:Int,1≤p→p≤6→(cutB 3 s).getD 3 ByteArray.empty=dgS p→V=p):
 (shN (wkW (cutB 3 s) V)=0∧shT (wkW (cutB 3 s) V)=s→rdO s=some (wkW (cutB 3 s) V))∧(¬(shN (wkW (cutB 3 s) V)=0∧shT (wkW (cutB 3 s) V)=s)→rdO s=none):=by
 constructor
 ·rintro⟨h1,h2⟩;have:=text_rd h1;rw[h2] at this;exact this
 intro hn;cases e:rdO s with
 | none=>rfl
 | some w =>
   exfalso
   obtain⟨h1,h2⟩:=rd_text e;have hw:wkW (cutB 3 s) V=w:=by
    rw[←h2];refine text_wk h1 (fun d hd=>?_)
    rcases shw_0 h1 with ⟨e,_⟩ | ⟨e,_⟩ | ⟨e,e1,e2,e3,e4⟩
    ·exfalso
     have hx:shT w=looS:=by rw[shT,if_pos e]
     rw[hx,wut_one 3 loo_bl] at hd;simp at hd
    ·exfalso
     rcases shw_0 h1 with ⟨k,_⟩ | ⟨_,e1,e2,_⟩ | ⟨k,_⟩
     ·omega
     ·have h32:32 ∉ (woW w.k).data.toList:=by
       rcases e with e | e
       ·rw[e];exact rea_bl
       rw[e];exact apa_bl
      have hx:shT w=woW w.k++(blW++(w.f++(blW++w.t))):=by rw[shT,if_neg (by omega),if_neg (by omega)]
      rw[hx,wut_word 2 h32,wut_word 1 (nm_bl e1),wut_one 1 (nm_bl e2)] at hd;simp at hd
     omega
    refine hV w.v e3 e4 ?_;rw[←h2,hd];rfl
   rw[hw] at hn;exact hn ⟨h1,h2⟩
def chW (c:UInt8):ByteArray:=⟨#[c]⟩
theorem chW_lst (c:UInt8):(chW c).data.toList=[c]:=rfl
section
variable {c:UInt8}
theorem ixc_none:∀{l:List UInt8},c ∉ l→Lib.indexByte l c = -1
 | [],_=>rfl
 | a :: l,h=>by
   have h1:(a==c)=false:=by
    rw[beq_eq_false_iff_ne];exact fun e=>h (by rw[e];exact List.mem_cons_self)
   rw[Lib.indexByte,h1,ixc_none (fun e=>h (List.mem_cons_of_mem _ e))];rfl
theorem ixc_some:∀{l r:List UInt8},c ∉ l→Lib.indexByte (l++c :: r) c=(l.length:Nat)
 | [],r,_=>by simp[Lib.indexByte]
 | a :: l,r,h=>by
   have h1:(a==c)=false:=by
    rw[beq_eq_false_iff_ne];exact fun e=>h (by rw[e];exact List.mem_cons_self)
   rw[List.cons_append,Lib.indexByte,h1,ixc_some (fun e=>h (List.mem_cons_of_mem _ e))];have:¬(((l.length:Nat):Int) == -1)=true:=by simp
   simp only[Bool.false_eq_true,if_false,this,List.length_cons];simp
theorem ccut_at {a r:ByteArray}(h:c ∉ a.data.toList):ixQ c (a++(chW c++r))=(a.size:Nat)∧(a++(chW c++r)).extract 0 a.size=a∧(a++(chW c++r)).extract (a.size+1) (a++(chW c++r)).size=r:=by
 have e:(a++(chW c++r)).data.toList=a.data.toList++c :: r.data.toList:=by rw[wa_app,wa_app,chW_lst];rfl
 refine⟨by rw[ixQ,e,ixc_some h,Lib.size_eq],wa_ext (by rw[Lib.extract_data,e,Lib.size_eq];simp),wa_ext (by
  rw[Lib.extract_to_end,e,Lib.size_eq];rw[List.drop_append,List.drop_eq_nil_of_le (by omega)];simp)⟩
theorem ccut_word {a r:ByteArray}(h:c ∉ a.data.toList):cutC c (a++(chW c++r))=a :: cutC c r:=by
 obtain⟨h1,h2,h3⟩:=ccut_at (r:=r) h;rw[cc_hit h1,h2,h3]
theorem ccut_one {a:ByteArray}(h:c ∉ a.data.toList):cutC c a=[a]:=cc_miss (ixc_none h)
def jnC (c:UInt8):List ByteArray→ByteArray
 | []=>ByteArray.empty
 | [a]=>a
 | a :: b :: r=>a++(chW c++jnC c (b :: r))
theorem ck_ne (k:Nat)(s:ByteArray):∃a r,cutK c k s=a :: r:=by
 match h:cutK c k s with
 | []=>have:=(ck_len c k s).2;rw[h] at this;simp at this
 | a :: r=>exact⟨a,r,rfl⟩
theorem ck_join:∀(k:Nat) (s:ByteArray),jnC c (cutK c k s)=s
 | 0,_=>rfl
 | k+1,s=>by
   rcases ixq_cases c s with h | ⟨i,h,hi⟩
   ·rw[ck_miss _ h];rfl
   rw[ck_hit _ h];obtain⟨a,r,e⟩:=ck_ne (c:=c) k (s.extract (i+1) s.size);have ih:=ck_join k (s.extract (i+1) s.size);rw[e] at ih ⊢;rw[jnC,ih]
   apply wa_ext
   rw[wa_app,wa_app,chW_lst,Lib.extract_data,Lib.extract_to_end];have hg:=(Lib.indexByte_some h).1;have hlt:i<s.data.toList.length:=by rw[←Lib.size_eq];exact hi
   have hd:s.data.toList.drop i=c :: s.data.toList.drop (i+1):=by
    rw[List.drop_eq_getElem_cons hlt];rw[List.getElem?_eq_getElem hlt] at hg;rw[Option.some.inj hg]
   simp only[Nat.sub_zero,List.drop_zero];rw[List.singleton_append,←hd,List.take_append_drop]
theorem cc_join (s:ByteArray):jnC c (cutC c s)=s:=ck_join _ s
def nlT (c:UInt8):List ByteArray→ByteArray
 | []=>ByteArray.empty
 | a :: r=>a++(chW c++nlT c r)
theorem nl_cut:∀{l:List ByteArray},(∀a∈l,c ∉ a.data.toList)→cutC c (nlT c l)=l++[ByteArray.empty]
 | [],_=>ccut_one (by intro h;have h':c∈([]:List UInt8):=h;cases h')
 | a :: l,h=>by
   rw[nlT,ccut_word (h a (List.mem_cons_self ..)),nl_cut fun x hx=>h x (List.mem_cons_of_mem _ hx)];rfl
theorem nl_join:∀(l:List ByteArray),jnC c (l++[ByteArray.empty])=nlT c l
 | []=>rfl
 | [a]=>rfl
 | a :: b :: l=>by
   have:=nl_join (b :: l);show a++(chW c++jnC c (b :: l++[ByteArray.empty]))=a++(chW c++nlT c (b :: l));rw[this]
end
def swcS:ByteArray:=⟨#[115,119,105,116,99,104,101,115]⟩
def lnkS:ByteArray:=⟨#[108,105,110,107]⟩
def hosS:ByteArray:=⟨#[104,111,115,116]⟩
def rulS:ByteArray:=⟨#[114,117,108,101]⟩
def spT (p:Int×Int):ByteArray:=dgS p.1++(chW 46++dgS p.2)
def swT (S:Int):ByteArray:=swcS++(blW++dgS S)
def lnT (l:(Int×Int)×(Int×Int)):ByteArray:=lnkS++(blW++(spT l.1++(blW++spT l.2)))
def hoT (h:ByteArray×(Int×Int)):ByteArray:=hosS++(blW++(h.1++(blW++spT h.2)))
def rlT (k:Int)(r:Ru):ByteArray:=rulS++(blW++(dgS k++(blW++rsS r.p r.m r.b r.o r.s r.v)))
def tbT:Nat→TsQ→List ByteArray
 | _,[]=>[]
 | k,T :: Ts=>T.map (rlT ((k+1:Nat):Int))++tbT (k+1) Ts
def linesT (S:Int)(Ls:LkQ)(Hs:HoQ)(Ts:TsQ)(ws:List Wi):List ByteArray:=swT S :: (Ls.map lnT++(Hs.map hoT++(tbT 0 Ts++ws.map shT)))
def textT (S:Int)(Ls:LkQ)(Hs:HoQ)(Ts:TsQ)(ws:List Wi):ByteArray:=nlT 10 (linesT S Ls Hs Ts ws)
structure RdT where
 S:Int
 Ls:LkQ
 Hs:HoQ
 Ts:TsQ
 ws:List Wi
 ph:Int
def spO (s:ByteArray):Option (Int×Int):=match cutC 46 s with
 | [a,b]=>if (dcOk a&&dcOk b)=true then some (dcN a,dcN b) else none
 | _=>none
def rlO (ws:List ByteArray):Option Ru:=if paN ws=0 then some ⟨rP ws,rM ws,rB ws,rO ws,rS ws,rV ws⟩ else none
def tbP (Ts:TsQ)(m:Nat)(r:Ru):TsQ:=((Ts++List.replicate (m-Ts.length) []).set (m-1) ((Ts++List.replicate (m-Ts.length) []).getD (m-1) []++[r]))
def phB (d:RdT)(k:Int):Bool:=decide (0≤d.ph)&&decide (d.ph≤k)
def lnO (d:RdT)(s:ByteArray):Option RdT:=match cutA s with
 | []=>none
 | w :: p =>
   if w=swcS then (match p with
    | [a]=>if (decide (d.ph<0)&&dcOk a)=true then some { d with S:=dcN a,ph:=0 } else none
    | _=>none)
   else if w=lnkS then (match p with
    | [a,b]=>(match spO a,spO b with
      | some x,some y=>if phB d 1=true then some { d with Ls:=d.Ls++[(x,y)],ph:=1 } else none
      | _,_=>none)
    | _=>none)
   else if w=hosS then (match p with
    | [a,b]=>(match spO b with
      | some y=>if phB d 2=true then some { d with Hs:=d.Hs++[(a,y)],ph:=2 } else none
      | none=>none)
    | _=>none)
   else if w=rulS then (match p with
    | a :: r=>if (dcOk a&&(decide (1≤dcN a)&&(decide (dcN a≤6)&&(decide ((d.Ts.length:Int)≤dcN a)&&phB d 3))))=true then (match rlO r with
      | some x=>some { d with Ts:=tbP d.Ts (dcN a).toNat x,ph:=3 }
      | none=>none) else none
    | _=>none)
   else (match rdO s with
    | some x=>if phB d 4=true then some { d with ws:=d.ws++[x],ph:=4 } else none
    | none=>none)
def lsO:RdT→List ByteArray→RdT ⊕ Nat
 | d,[]=>.inl d
 | d,s :: l=>match lnO d s with
   | some e=>(match lsO e l with | .inl x=>.inl x | .inr k=>.inr (k+1))
   | none=>.inr 0
def rd0:RdT:=⟨0,[],[],[],[],-1⟩
def fiT (S:Int)(Ts:TsQ):TsQ:=if S≤6 then Ts++List.replicate (S.toNat-Ts.length) [] else Ts
theorem ls_app:∀(l m:List ByteArray) (d:RdT),lsO d (l++m)=match lsO d l with | .inl e=>(match lsO e m with | .inl x=>.inl x | .inr k=>.inr (l.length+k)) | .inr k=>.inr k
 | [],m,d=>by
   rw[List.nil_append,show lsO d []=.inl d from rfl];cases h:lsO d m <;> simp[h]
 | s :: l,m,d=>by
   rw[List.cons_append,lsO,lsO];cases h:lnO d s with
   | none=>rfl
   | some e =>
     simp only;rw[ls_app l m e];cases lsO e l with
     | inr k=>rfl
     | inl x =>
       simp only;cases lsO x m with
       | inl y=>rfl
       | inr k=>simp only[List.length_cons];congr 1;omega
structure Op8 where
 w:Int
 a:Bool
 r:Ru
theorem tb_iff {L:List Ru}:tbN L=0↔L.length≤12∧(∀r∈L,r.ok=true)∧L.Pairwise (fun a b=>keyB a b=false):=by
 rw[tb_0,cl_no,okR,List.all_eq_true,List.pairwise_iff_getElem];refine and_congr Iff.rfl (and_congr Iff.rfl ⟨fun h i j hi hj hij=>?_,fun h i j hij hj=>?_⟩)
 ·have:=h i j hij hj;rw[getD_at hi,getD_at hj] at this;exact this
 rw[getD_at (by omega),getD_at hj];exact h i j (by omega) hj hij
theorem dg6_fin:∀k:Fin 7,((dgS ((k:Nat):Int)).data.toList.all fun c=>decide (46<c.toNat)&&decide (c.toNat≤57))=true:=by decide +kernel
theorem dg_by {p:Int}(h:0≤p∧p≤6):∀c∈(dgS p).data.toList,46<c.toNat∧c.toNat≤57:=by
 obtain⟨k,rfl⟩:∃k:Fin 7,p=((k:Nat):Int):=⟨⟨p.toNat,by omega⟩,by simp;omega⟩;intro c hc;have:=List.all_eq_true.1 (dg6_fin k) c hc;simpa using this
theorem ch_no {l:List UInt8}{c:UInt8}{P:Nat→Prop}(h:∀x∈l,P x.toNat)(hc:¬P c.toNat):c ∉ l:=fun hm=>hc (h c hm)
def smP (p:Int×Int):Prop:=(0≤p.1∧p.1≤6)∧(0≤p.2∧p.2≤6)
theorem sp_by {p:Int×Int}(h:smP p):∀c∈(spT p).data.toList,46≤c.toNat∧c.toNat≤57:=by
 intro c hc;rw[spT,wa_app,wa_app,chW_lst,List.mem_append,List.mem_append] at hc
 rcases hc with hc | hc | hc
 ·have:=dg_by h.1 c hc;omega
 ·rw[List.mem_singleton] at hc;subst hc;decide
 have:=dg_by h.2 c hc;omega
theorem sp_back {p:Int×Int}(h:smP p):spO (spT p)=some p:=by
 have n1:(46:UInt8) ∉ (dgS p.1).data.toList:=ch_no (P:=fun n=>46<n∧n≤57) (dg_by h.1) (by decide);have n2:(46:UInt8) ∉ (dgS p.2).data.toList:=ch_no (P:=fun n=>46<n∧n≤57) (dg_by h.2) (by decide);obtain⟨a1,a2,_⟩:=via_back h.1;obtain⟨b1,b2,_⟩:=via_back h.2;rw[spO,spT,ccut_word n1,ccut_one n2];simp[a1,a2,b1,b2]
theorem sp_bl {p:Int×Int}(h:smP p):(32:UInt8) ∉ (spT p).data.toList:=ch_no (P:=fun n=>46≤n∧n≤57) (sp_by h) (by decide)
theorem sp_sm {S:Int}{x:Int×Int}(hS:S≤6)(h:spB S x=true):smP x:=by
 simp only[spB,Bool.and_eq_true,decide_eq_true_eq] at h;exact⟨by omega,by omega⟩
theorem swc_bl:(32:UInt8) ∉ swcS.data.toList:=by decide
theorem lnk_bl:(32:UInt8) ∉ lnkS.data.toList:=by decide
theorem hos_bl:(32:UInt8) ∉ hosS.data.toList:=by decide
theorem rul_bl:(32:UInt8) ∉ rulS.data.toList:=by decide
theorem kw_ne:lnkS≠swcS∧hosS≠swcS∧hosS≠lnkS∧rulS≠swcS∧rulS≠lnkS∧rulS≠hosS:=by decide
theorem wi_ne:∀a∈[reaS,apaS,wayS,looS],a≠swcS∧a≠lnkS∧a≠hosS∧a≠rulS:=by decide
theorem ln_sw {d:RdT}{S:Int}(hd:d.ph<0)(hS:0≤S∧S≤6):lnO d (swT S)=some { d with S:=S,ph:=0 }:=by
 obtain⟨a1,a2,a3⟩:=via_back hS;rw[lnO,swT,wutA_word swc_bl,wutA_one a3];simp[a1,a2,hd]
theorem ln_lk {d:RdT}{l:(Int×Int)×(Int×Int)}(hd:phB d 1=true)(h1:smP l.1)(h2:smP l.2):lnO d (lnT l)=some { d with Ls:=d.Ls++[l],ph:=1 }:=by
 rw[lnO,lnT,wutA_word lnk_bl,wutA_word (sp_bl h1),wutA_one (sp_bl h2)];simp[kw_ne.1,sp_back h1,sp_back h2,hd]
theorem ln_ho {d:RdT}{h:ByteArray×(Int×Int)}(hd:phB d 2=true)(h1:nmB h.1=true)(h2:smP h.2):lnO d (hoT h)=some { d with Hs:=d.Hs++[h],ph:=2 }:=by
 rw[lnO,hoT,wutA_word hos_bl,wutA_word (nm_bl h1),wutA_one (sp_bl h2)];simp[kw_ne.2.1,kw_ne.2.2.1,sp_back h2,hd]
theorem rl_back {r:Ru}(h:r.ok=true):rlO (cutA (rsS r.p r.m r.b r.o r.s r.v))=some r:=by
 obtain⟨h1,h2⟩:=rule_back (p:=r.p) (m:=r.m) (b:=r.b) (o:=r.o) (s:=r.s) (v:=r.v) h;obtain⟨e1,e2⟩:=pa_cut (rsS r.p r.m r.b r.o r.s r.v);rw[e1] at h1;rw[e2,paV_yes h1] at h2;have h3:(rP (cutA (rsS r.p r.m r.b r.o r.s r.v))=r.p∧rM (cutA (rsS r.p r.m r.b r.o r.s r.v))=r.m∧rB (cutA (rsS r.p r.m r.b r.o r.s r.v))=r.b∧rO (cutA (rsS r.p r.m r.b r.o r.s r.v))=r.o∧rS (cutA (rsS r.p r.m r.b r.o r.s r.v))=r.s∧rV (cutA (rsS r.p r.m r.b r.o r.s r.v))=r.v):=by simpa using h2
 rw[rlO,if_pos h1,h3.1,h3.2.1,h3.2.2.1,h3.2.2.2.1,h3.2.2.2.2.1,h3.2.2.2.2.2]
theorem ln_rl {d:RdT}{k:Nat}{r:Ru}(hd:phB d 3=true)(h1:1≤k)(h6:k≤6)(hT:d.Ts.length≤k)(hr:r.ok=true):lnO d (rlT (k:Int) r)=some { d with Ts:=tbP d.Ts k r,ph:=3 }:=by
 obtain⟨a1,a2,a3⟩:=via_back (p:=(k:Int)) ⟨by omega,by omega⟩;rw[lnO,rlT,wutA_word rul_bl,wutA_word a3];simp[kw_ne.2.2.2.1,kw_ne.2.2.2.2.1,kw_ne.2.2.2.2.2,a1,a2,hd,rl_back hr];omega
theorem wi_first {w:Wi}(h:shN w=0):∃a p,cutA (shT w)=a :: p∧a∈[reaS,apaS,wayS,looS]:=by
 rcases shw_0 h with ⟨h1,_⟩ | ⟨h1,_⟩ | ⟨h1,_⟩
 ·refine⟨looS,[],?_,by simp⟩;rw[shT,if_pos h1];exact wutA_one loo_bl
 ·rcases h1 with h1 | h1
  ·refine⟨reaS,cutA (w.f++(blW++w.t)),?_,by simp⟩;rw[shT,if_neg (by omega),if_neg (by omega),show woW w.k=reaS by rw[h1];rfl];exact wutA_word rea_bl
  refine⟨apaS,cutA (w.f++(blW++w.t)),?_,by simp⟩;rw[shT,if_neg (by omega),if_neg (by omega),show woW w.k=apaS by rw[h1];rfl];exact wutA_word apa_bl
 refine⟨wayS,cutA (w.f++(blW++(w.t++(blW++dgS w.v)))),?_,by simp⟩;rw[shT,if_neg (by omega),if_pos h1,show woW w.k=wayS by rw[h1];rfl];exact wutA_word way_bl
theorem ln_wi {d:RdT}{w:Wi}(hd:phB d 4=true)(h:shN w=0):lnO d (shT w)=some { d with ws:=d.ws++[w],ph:=4 }:=by
 obtain⟨a,p,e,ha⟩:=wi_first h;obtain⟨n1,n2,n3,n4⟩:=wi_ne a ha;rw[lnO,e];simp[n1,n2,n3,n4,text_rd h,hd]
theorem ph_of {d:RdT}{k:Int}(h0:0≤d.ph)(h1:d.ph≤k):phB d k=true:=by simp[phB,h0,h1]
theorem lso_one {d e:RdT}{s:ByteArray}{l:List ByteArray}(h:lnO d s=some e):lsO d (s :: l)=match lsO e l with | .inl x=>.inl x | .inr k=>.inr (k+1):=by
 first | (rw[lsO,h];done) | (rw[lsO,h];rfl)
theorem lso_then {d e x:RdT}{l m:List ByteArray}(h1:lsO d l=.inl e)(h2:lsO e m=.inl x):lsO d (l++m)=.inl x:=by
 rw[ls_app,h1];simp only;rw[h2]
theorem lso_cons {d e x:RdT}{s:ByteArray}{l:List ByteArray}(h1:lnO d s=some e)(h2:lsO e l=.inl x):lsO d (s :: l)=.inl x:=by rw[lso_one h1,h2]
theorem ls_lk:∀(Ls:LkQ) (d:RdT),0≤d.ph→d.ph≤1→(∀l∈Ls,smP l.1∧smP l.2)→∃ph,lsO d (Ls.map lnT)=.inl { d with Ls:=d.Ls++Ls,ph:=ph }∧0≤ph∧ph≤1
 | [],d,h0,h1,_=>⟨d.ph,by simp[lsO],h0,h1⟩
 | l :: Ls,d,h0,h1,h=>by
   obtain⟨a,b⟩:=h l (List.mem_cons_self ..);obtain⟨ph,e,i⟩:=ls_lk Ls { d with Ls:=d.Ls++[l],ph:=1 } (show (0:Int)≤1 by decide) (Int.le_refl _) fun x hx=>h x (List.mem_cons_of_mem _ hx)
   refine⟨ph,?_,i⟩;rw[List.map_cons,lso_one (ln_lk (ph_of h0 h1) a b),e];simp
theorem ls_ho:∀(Hs:HoQ) (d:RdT),0≤d.ph→d.ph≤2→(∀h∈Hs,nmB h.1=true∧smP h.2)→∃ph,lsO d (Hs.map hoT)=.inl { d with Hs:=d.Hs++Hs,ph:=ph }∧0≤ph∧ph≤2
 | [],d,h0,h1,_=>⟨d.ph,by simp[lsO],h0,h1⟩
 | l :: Ls,d,h0,h1,h=>by
   obtain⟨a,b⟩:=h l (List.mem_cons_self ..);obtain⟨ph,e,i⟩:=ls_ho Ls { d with Hs:=d.Hs++[l],ph:=2 } (show (0:Int)≤2 by decide) (Int.le_refl _) fun x hx=>h x (List.mem_cons_of_mem _ hx)
   refine⟨ph,?_,i⟩;rw[List.map_cons,lso_one (ln_ho (ph_of h0 h1) a b),e];simp
theorem ls_wi:∀(ws:List Wi) (d:RdT),0≤d.ph→d.ph≤4→(∀w∈ws,shN w=0)→∃ph,lsO d (ws.map shT)=.inl { d with ws:=d.ws++ws,ph:=ph }∧0≤ph∧ph≤4
 | [],d,h0,h1,_=>⟨d.ph,by simp[lsO],h0,h1⟩
 | l :: Ls,d,h0,h1,h=>by
   have a:=h l (List.mem_cons_self ..);obtain⟨ph,e,i⟩:=ls_wi Ls { d with ws:=d.ws++[l],ph:=4 } (show (0:Int)≤4 by decide) (Int.le_refl _) fun x hx=>h x (List.mem_cons_of_mem _ hx)
   refine⟨ph,?_,i⟩;rw[List.map_cons,lso_one (ln_wi (ph_of h0 h1) a),e];simp
def padT (k:Nat)(Ts:TsQ):TsQ:=Ts++List.replicate (k-Ts.length) []
theorem pad_len {k:Nat}{Ts:TsQ}(h:Ts.length≤k):(padT k Ts).length=k:=by simp[padT];omega
theorem tb_pad (Ts:TsQ)(m:Nat)(r:Ru):tbP Ts m r=(padT m Ts).set (m-1) ((padT m Ts).getD (m-1) []++[r]):=rfl
theorem pad_full {k:Nat}{Ts:TsQ}(h:Ts.length=k):padT k Ts=Ts:=by simp[padT,h]
theorem set_set {α:Type}(l:List α)(i:Nat)(a b:α):(l.set i a).set i b=l.set i b:=by simp
theorem ls_rl (k:Nat)(h1:1≤k)(h6:k≤6):∀(T:List Ru) (d:RdT),0≤d.ph→d.ph≤3→d.Ts.length≤k→(∀r∈T,r.ok=true) →
 ∃ph T',lsO d (T.map (rlT (k:Int)))=.inl { d with Ts:=T',ph:=ph }∧(0≤ph∧ph≤3)∧T'.length≤k∧padT k T'=(padT k d.Ts).set (k-1) ((padT k d.Ts).getD (k-1) []++T)
 | [],d,h0,hp,hT,_=>by
   refine⟨d.ph,d.Ts,by simp[lsO],⟨h0,hp⟩,hT,?_⟩;have hl:=pad_len hT;rw[List.append_nil];have:(padT k d.Ts).getD (k-1) []=(padT k d.Ts)[k-1]'(by omega):=by simp[List.getD,show k-1<(padT k d.Ts).length by omega]
   rw[this];simp
 | r :: T,d,h0,hp,hT,h=>by
   have hl:=pad_len hT;have hk:k-1<(padT k d.Ts).length:=by omega
   have hlen:(tbP d.Ts k r).length=k:=by rw[tb_pad,List.length_set];exact hl
   obtain⟨ph,T',e,i1,i2,i3⟩:=ls_rl k h1 h6 T { d with Ts:=tbP d.Ts k r,ph:=3 } (show (0:Int)≤3 by decide) (Int.le_refl _) (by show (tbP d.Ts k r).length≤k;omega) fun x hx=>h x (List.mem_cons_of_mem _ hx)
   refine⟨ph,T',?_,i1,i2,?_⟩
   ·rw[List.map_cons,lso_one (ln_rl (ph_of h0 hp) h1 h6 hT (h r (List.mem_cons_self ..))),e]
   rw[i3];show (padT k (tbP d.Ts k r)).set (k-1) ((padT k (tbP d.Ts k r)).getD (k-1) []++T)=_;rw[pad_full hlen,tb_pad];have e2:((padT k d.Ts).set (k-1) ((padT k d.Ts).getD (k-1) []++[r])).getD (k-1) []=(padT k d.Ts).getD (k-1) []++[r]:=by
    rw[List.getD_eq_getElem?_getD,List.getElem?_set_self hk];rfl
   rw[e2,set_set,List.append_assoc];rfl
theorem pad_next {k:Nat}{Ts:TsQ}(h:Ts.length≤k):padT (k+1) Ts=padT k Ts++[[]]:=by
 rw[padT,padT,List.append_assoc,show k+1-Ts.length=(k-Ts.length)+1 by omega,List.replicate_succ']
theorem ls_tb:∀(Ts:TsQ) (k:Nat) (d:RdT),k+Ts.length≤6→0≤d.ph→d.ph≤3→d.Ts.length≤k→(∀T∈Ts,∀r∈T,r.ok=true) →
 ∃ph T',lsO d (tbT k Ts)=.inl { d with Ts:=T',ph:=ph }∧(0≤ph∧ph≤3)∧T'.length≤k+Ts.length∧padT (k+Ts.length) T'=padT k d.Ts++Ts
 | [],k,d,_,h0,hp,hT,_=>⟨d.ph,d.Ts,by simp[tbT,lsO],⟨h0,hp⟩,hT,by simp⟩
 | T :: Ts,k,d,h6,h0,hp,hT,h=>by
   simp only[List.length_cons] at h6;obtain⟨ph,T1,e1,i1,i2,i3⟩:=ls_rl (k+1) (by omega) (by omega) T d h0 hp (by omega) (h T (List.mem_cons_self ..));obtain⟨ph2,T2,e2,j1,j2,j3⟩:=ls_tb Ts (k+1) { d with Ts:=T1,ph:=ph } (by omega) i1.1 i1.2 i2 fun x hx=>h x (List.mem_cons_of_mem _ hx)
   refine⟨ph2,T2,?_,j1,by simp only[List.length_cons];omega,?_⟩
   ·rw[tbT,ls_app,e1];simp only;rw[e2]
   have hl:=pad_len hT;rw[show k+(T :: Ts).length=k+1+Ts.length by simp only[List.length_cons];omega,j3];show padT (k+1) T1++Ts=_;rw[i3,pad_next hT];have e3:(padT k d.Ts++[[]]).getD (k+1-1) []=[]:=by
    rw[List.getD_eq_getElem?_getD,show k+1-1=(padT k d.Ts).length by omega];simp
   have e4:∀X:List Ru,(padT k d.Ts++[[]]).set (k+1-1) X=padT k d.Ts++[X]:=fun X=>by
    rw[show k+1-1=(padT k d.Ts).length by omega,List.set_append_right _ _ (nLQ _)];simp
   rw[e3,e4,List.nil_append,List.append_assoc];rfl
theorem wo_sh {S:Int}{Hs:HoQ}{w:Wi}(s6:S≤6)(hnm:∀n,hoB Hs n=true→nmB n=true)(h:woN S Hs w=0):shN w=0:=by
 unfold woN at h;by_cases c:(!wkB w.k || (!viB w S || veB w))=true
 ·rw[if_pos c] at h;cases h
 rw[if_neg c] at h;simp only[Bool.or_eq_true,Bool.not_eq_true',not_or,Bool.not_eq_false,Bool.not_eq_true] at c;obtain⟨c1,c2,c3⟩:=c;have c4:viB w 6=true:=by
  unfold viB at c2 ⊢;cases e:(w.k != 3)
  ·rw[e] at c2;simp only[Bool.false_or,swB,Bool.and_eq_true,decide_eq_true_eq] at c2 ⊢;omega
  rfl
 unfold shN;rw[if_neg (by simp[c1,c4])];by_cases k4:w.k=4
 ·rw[if_pos k4] at h;cases n:nlB w
  ·rw[n] at h;cases h
  rw[if_neg (by simp[k4]),if_neg (by simp[c3])]
 rw[if_neg k4] at h;by_cases n:(hoB Hs w.f&&hoB Hs w.t)=true
 ·simp only[Bool.and_eq_true] at n;rw[if_neg (by simp[hnm _ n.1,hnm _ n.2]),if_neg (by simp[c3,k4])]
 rw[if_neg n] at h;cases h
theorem ws_sh {S:Int}{Ls:LkQ}{Hs:HoQ}{ws:List Wi}(h:wsN S Ls Hs ws=0):∀w∈ws,shN w=0:=by
 unfold wsN at h;by_cases ht:tpN S Ls Hs=0
 ·rw[if_pos ht] at h;obtain⟨⟨s1,s6⟩,_,_,_,hh,_⟩:=tp_0 ht;have hnm:∀n,hoB Hs n=true→nmB n=true:=fun n hn=>by
   obtain⟨x,hx,e⟩:=List.any_eq_true.1 hn;rw[←ba_eq.1 e];exact (hh x hx).1
  by_cases h8:8<ws.length
  ·rw[if_pos h8] at h;cases h
  rw[if_neg h8] at h;intro w hw;obtain⟨k,hk,e⟩:=List.getElem_of_mem hw;have h1:=ws_0 h k hk;rw[show ws.getD k zeW=w by simp[List.getD,hk,e]] at h1;exact wo_sh s6 hnm h1
 rw[if_neg ht] at h;exact absurd h ht
theorem lines_back {S:Int}{Ls:LkQ}{Hs:HoQ}{Ts:TsQ}{ws:List Wi}(hn:ntN S Ls Hs Ts=0)(hw:wsN S Ls Hs ws=0):
 ∃ph T',lsO rd0 (linesT S Ls Hs Ts ws)=.inl ⟨S,Ls,Hs,T',ws,ph⟩∧fiT S T'=Ts:=by
 obtain⟨ht,hS,hT⟩:=nt_0 hn;obtain⟨⟨s1,s6⟩,_,hl,_,hh,_⟩:=tp_0 ht;obtain⟨p1,e1,i1⟩:=ls_lk Ls ⟨S,[],[],[],[],0⟩ (Int.le_refl _) (show (0:Int)≤1 by decide) fun l hm=>⟨sp_sm s6 (hl l.1 (List.mem_flatMap.2 ⟨l,hm,by simp⟩)),sp_sm s6 (hl l.2 (List.mem_flatMap.2 ⟨l,hm,by simp⟩))⟩
 obtain⟨p2,e2,i2⟩:=ls_ho Hs ⟨S,Ls,[],[],[],p1⟩ i1.1 (by show p1≤2;omega) fun x hx=>⟨(hh x hx).1,sp_sm s6 (hh x hx).2⟩
 obtain⟨p3,T',e3,i3,j1,j2⟩:=ls_tb Ts 0 ⟨S,Ls,Hs,[],[],p2⟩ (by omega) i2.1 (by show p2≤3;omega) (nLQ _) fun T hm r hr=>by
  obtain⟨k,hk,e⟩:=List.getElem_of_mem hm;have h1:=hT k hk;rw[show Ts.getD k []=T by simp[List.getD,hk,e]] at h1;exact (tb_iff.1 h1).2.1 r hr
 obtain⟨p4,e4,i4⟩:=ls_wi ws ⟨S,Ls,Hs,T',[],p3⟩ i3.1 (by show p3≤4;omega) (ws_sh hw);refine⟨p4,T',?_,?_⟩
 ·exact lso_cons (ln_sw (d:=rd0) (show (-1:Int)<0 by decide) ⟨by omega,s6⟩) (lso_then e1 (lso_then e2 (lso_then e3 e4)))
 rw[fiT,if_pos s6,show S.toNat=0+Ts.length by omega];have:=j2;rw[padT] at this;rw[this];simp[padT]
theorem by_no {l:List UInt8}(h:∀x∈l,32≤x.toNat):(10:UInt8) ∉ l:=fun hm=>by
 have:=h 10 hm;simp at this
theorem by_app {a b:ByteArray}(h1:∀x∈a.data.toList,32≤x.toNat)(h2:∀x∈b.data.toList,32≤x.toNat):∀x∈(a++b).data.toList,32≤x.toNat:=fun x hx=>by
 rw[wa_app,List.mem_append] at hx
 rcases hx with hx | hx
 ·exact h1 x hx
 exact h2 x hx
theorem dg100_fin:∀k:Fin 100,((dgS ((k:Nat):Int)).data.toList.all fun c=>decide (32≤c.toNat))=true:=by decide +kernel
theorem dg_hi {p:Int}(h:0≤p∧p<100):∀c∈(dgS p).data.toList,32≤c.toNat:=by
 obtain⟨k,rfl⟩:∃k:Fin 100,p=((k:Nat):Int):=⟨⟨p.toNat,by omega⟩,by simp;omega⟩;intro c hc;have:=List.all_eq_true.1 (dg100_fin k) c hc;simpa using this
theorem pr_hi (m b:Int):∀c∈(prS m b).data.toList,32≤c.toNat:=by
 intro c hc;rw[prS,strOfNums_data] at hc;obtain⟨n,hn,rfl⟩:=List.mem_map.1 hc;have h:42≤n∧n≤49:=by
  simp only[List.mem_cons,List.not_mem_nil,or_false] at hn
  rcases hn with rfl | rfl | rfl | rfl <;> exact ltr_bd _ _ _
 rw[UInt8.toNat_ofNat'];omega
theorem sp_hi {p:Int×Int}(h:smP p):∀c∈(spT p).data.toList,32≤c.toNat:=fun c hc=>by have:=sp_by h c hc;omega
theorem bl_hi:∀c∈blW.data.toList,32≤c.toNat:=by decide
theorem kw_hi:(∀c∈swcS.data.toList,32≤c.toNat)∧(∀c∈lnkS.data.toList,32≤c.toNat)∧(∀c∈hosS.data.toList,32≤c.toNat)∧(∀c∈rulS.data.toList,32≤c.toNat):=by decide
theorem rs_hi {r:Ru}(h:r.ok=true):∀c∈(rsS r.p r.m r.b r.o r.s r.v).data.toList,32≤c.toNat:=by
 obtain⟨g1,_⟩:=ru_ok (p:=r.p) (m:=r.m) (b:=r.b) (o:=r.o) (s:=r.s) (v:=r.v) h;obtain⟨⟨hp,ho⟩,_,_⟩:=ru_in g1;have hH:∀c∈(rsH r.p r.m r.b).data.toList,32≤c.toNat:=by_app (by_app (dg_hi ⟨hp.1,by omega⟩) (by decide)) (pr_hi _ _);have hO:∀c∈(rsO r.p r.m r.b r.o).data.toList,32≤c.toNat:=by_app hH (by_app (by decide) (dg_hi ⟨ho.1,by omega⟩));unfold rsS;by_cases e:r.o=0
 ·rw[if_pos e];exact by_app hH (by decide)
 rw[if_neg e];by_cases e2:r.s=0
 ·rw[if_pos e2];exact hO
 rw[if_neg e2];exact by_app hO (by_app (by decide) (pr_hi _ _))
theorem nm_hi {a:ByteArray}(h:nmB a=true):∀c∈a.data.toList,32≤c.toNat:=fun c hc=>by
 simp only[nmB,Bool.and_eq_true,List.all_eq_true] at h;have:=h.2.2 c hc;simp at this;omega
theorem sh_hi {w:Wi}(h:shN w=0):∀c∈(shT w).data.toList,32≤c.toNat:=by
 have hw:∀k:Int,∀c∈(woW k).data.toList,32≤c.toNat:=fun k=>by
  unfold woW;by_cases h1:k=1
  ·rw[if_pos h1];decide
  rw[if_neg h1];by_cases h2:k=2
  ·rw[if_pos h2];decide
  rw[if_neg h2];by_cases h3:k=3
  ·rw[if_pos h3];decide
  rw[if_neg h3];by_cases h4:k=4
  ·rw[if_pos h4];decide
  rw[if_neg h4];decide
 rcases shw_0 h with ⟨h1,_⟩ | ⟨h1,hf,ht,_⟩ | ⟨h1,hf,ht,hv⟩
 ·rw[shT,if_pos h1];decide
 ·rw[shT,if_neg (by omega),if_neg (by omega)];exact by_app (hw _) (by_app bl_hi (by_app (nm_hi hf) (by_app bl_hi (nm_hi ht))))
 rw[shT,if_neg (by omega),if_pos h1];exact by_app (hw _) (by_app bl_hi (by_app (nm_hi hf) (by_app bl_hi (by_app (nm_hi ht) (by_app bl_hi (dg_hi ⟨by omega,by omega⟩))))))
theorem tb_hi:∀{Ts:TsQ} {k:Nat},k+Ts.length≤6→(∀T∈Ts,∀r∈T,r.ok=true)→∀s∈tbT k Ts,∀c∈s.data.toList,32≤c.toNat
 | [],k,_,_,s,hs=>by cases hs
 | T :: Ts,k,h6,h,s,hs=>by
   simp only[List.length_cons] at h6;rw[tbT,List.mem_append] at hs
   rcases hs with hs | hs
   ·obtain⟨r,hr,rfl⟩:=List.mem_map.1 hs;exact by_app kw_hi.2.2.2 (by_app bl_hi (by_app (dg_hi ⟨by omega,by omega⟩) (by_app bl_hi (rs_hi (h T (List.mem_cons_self ..) r hr)))))
   exact tb_hi (k:=k+1) (by omega) (fun x hx=>h x (List.mem_cons_of_mem _ hx)) s hs
theorem lines_cut {S:Int}{Ls:LkQ}{Hs:HoQ}{Ts:TsQ}{ws:List Wi}(hn:ntN S Ls Hs Ts=0)(hw:wsN S Ls Hs ws=0):
 cutC 10 (textT S Ls Hs Ts ws)=linesT S Ls Hs Ts ws++[ByteArray.empty]:=by
 obtain⟨ht,hS,hT⟩:=nt_0 hn;obtain⟨⟨s1,s6⟩,_,hl,_,hh,_⟩:=tp_0 ht;refine nl_cut fun a ha=>by_no ?_
 rw[linesT] at ha
 rcases List.mem_cons.1 ha with e | ha
 ·rw[e];exact by_app kw_hi.1 (by_app bl_hi (dg_hi ⟨by omega,by omega⟩))
 rcases List.mem_append.1 ha with ha | ha
 ·obtain⟨l,hm,rfl⟩:=List.mem_map.1 ha;exact by_app kw_hi.2.1 (by_app bl_hi (by_app (sp_hi (sp_sm s6 (hl l.1 (List.mem_flatMap.2 ⟨l,hm,by simp⟩)))) (by_app bl_hi (sp_hi (sp_sm s6 (hl l.2 (List.mem_flatMap.2 ⟨l,hm,by simp⟩)))))))
 rcases List.mem_append.1 ha with ha | ha
 ·obtain⟨x,hm,rfl⟩:=List.mem_map.1 ha;exact by_app kw_hi.2.2.1 (by_app bl_hi (by_app (nm_hi (hh x hm).1) (by_app bl_hi (sp_hi (sp_sm s6 (hh x hm).2)))))
 rcases List.mem_append.1 ha with ha | ha
 ·refine tb_hi (k:=0) (by omega) (fun T hm r hr=>?_) a ha;obtain⟨k,hk,e⟩:=List.getElem_of_mem hm;have h1:=hT k hk;rw[show Ts.getD k []=T by simp[List.getD,hk,e]] at h1;exact (tb_iff.1 h1).2.1 r hr
 obtain⟨x,hm,rfl⟩:=List.mem_map.1 ha;exact sh_hi (ws_sh hw x hm)
theorem bl_split {s:ByteArray}{i:Nat}(h:blAt s=i):s.extract 0 i++(blW++s.extract (i+1) s.size)=s:=by
 have hi:=bl_len s h
 apply wa_ext
 rw[wa_app,wa_app,blW_lst,Lib.extract_data,Lib.extract_to_end];have hg:=(Lib.indexByte_some h).1;have hlt:i<s.data.toList.length:=by rw[←Lib.size_eq];exact hi
 have hd:s.data.toList.drop i=32 :: s.data.toList.drop (i+1):=by
  rw[List.drop_eq_getElem_cons hlt];rw[List.getElem?_eq_getElem hlt] at hg;rw[Option.some.inj hg]
 simp only[Nat.sub_zero,List.drop_zero];rw[List.singleton_append,←hd,List.take_append_drop]
theorem cut_parts {s w:ByteArray}{p:List ByteArray}(h:cutA s=w :: p):(p=[]∧s=w)∨∃t,p=cutA t∧s=w++(blW++t):=by
 rcases bl_cases s with e | ⟨i,e,hi⟩
 ·rw[cutA_miss e] at h;cases h;exact .inl ⟨rfl,rfl⟩
 rw[cutA_hit e] at h;cases h;exact .inr ⟨_,rfl,(bl_split e).symm⟩
theorem cut_1 {s a:ByteArray}(h:cutA s=[a]):s=a:=by
 rcases cut_parts h with ⟨_,e⟩ | ⟨t,e,_⟩
 ·exact e
 have:=(cutA_len t).1;rw[←e] at this;simp at this
theorem cut_2 {s a b:ByteArray}(h:cutA s=[a,b]):s=a++(blW++b):=by
 rcases cut_parts h with ⟨e,_⟩ | ⟨t,e,e2⟩
 ·cases e
 rw[e2,cut_1 e.symm]
theorem cut_3 {s a b c:ByteArray}(h:cutA s=[a,b,c]):s=a++(blW++(b++(blW++c))):=by
 rcases cut_parts h with ⟨e,_⟩ | ⟨t,e,e2⟩
 ·cases e
 rw[e2,cut_2 e.symm]
def sm9 (p:Int×Int):Prop:=p.1≤9∧p.2≤9
theorem sp_read {s:ByteArray}{p:Int×Int}(h:spO s=some p)(h9:sm9 p):spT p=s:=by
 unfold spO at h;have hj:=cc_join (c:=46) s
 split at h
 ·rename_i a b e
  split at h
  ·rename_i hc
   simp only[Bool.and_eq_true] at hc;cases h;rw[e] at hj;rw[spT,via_read hc.1 h9.1,via_read hc.2 h9.2];exact hj
  cases h
 cases h
theorem rl_read {t:ByteArray}{x:Ru}(h:rlO (cutA t)=some x):x.ok=true∧rsS x.p x.m x.b x.o x.s x.v=t:=by
 unfold rlO at h;by_cases h0:paN (cutA t)=0
 ·rw[if_pos h0] at h;obtain⟨e1,e2⟩:=pa_cut t;have h1:paN (cutB 6 t)=0:=e1.trans h0;obtain⟨r1,r2⟩:=rule_read h1;rw[paV_yes h1,paV_yes h0] at e2;have h3:(rP (cutB 6 t)=rP (cutA t)∧rM (cutB 6 t)=rM (cutA t)∧rB (cutB 6 t)=rB (cutA t)∧rO (cutB 6 t)=rO (cutA t)∧rS (cutB 6 t)=rS (cutA t)∧rV (cutB 6 t)=rV (cutA t)):=by simpa using e2
  rw[h3.1,h3.2.1,h3.2.2.1,h3.2.2.2.1,h3.2.2.2.2.1,h3.2.2.2.2.2] at r1 r2;cases h;exact⟨r1,r2⟩
 rw[if_neg h0] at h;cases h
theorem tb_app:∀(A B:TsQ) (k:Nat),tbT k (A++B)=tbT k A++tbT (k+A.length) B
 | [],B,k=>rfl
 | T :: A,B,k=>by
   rw[List.cons_append,tbT,tbT,tb_app A B (k+1),List.append_assoc,List.length_cons,show k+1+A.length=k+(A.length+1) by omega]
theorem tb_none:∀(n k:Nat),tbT k (List.replicate n [])=[]
 | 0,k=>rfl
 | n+1,k=>by rw[List.replicate_succ,tbT,tb_none n (k+1)];rfl
theorem tb_padded (m:Nat)(Ts:TsQ):tbT 0 (padT m Ts)=tbT 0 Ts:=by rw[padT,tb_app,tb_none,List.append_nil]
theorem tb_push {Ts:TsQ}{m:Nat}{r:Ru}(h1:1≤m)(hT:Ts.length≤m):tbT 0 (tbP Ts m r)=tbT 0 Ts++[rlT (m:Int) r]:=by
 have hl:=pad_len hT;rw[tb_pad,←tb_padded m Ts]
 generalize padT m Ts=P at *
 obtain⟨P',x,rfl⟩:∃P' x,P=P'++[x]:=by
  have hne:P≠[]:=by
   intro e;rw[e] at hl;simp at hl;omega
  exact⟨P.dropLast,P.getLast hne,(List.dropLast_concat_getLast hne).symm⟩
 have hl':P'.length=m-1:=by
  simp at hl;omega
 have e1:(P'++[x]).getD (m-1) []=x:=by rw[List.getD_eq_getElem?_getD,←hl'];simp
 have e2:∀X:List Ru,(P'++[x]).set (m-1) X=P'++[X]:=fun X=>by
  rw[←hl',List.set_append_right _ _ (nLQ _)];simp
 have e3:0+P'.length+1=m:=by omega
 rw[e1,e2,tb_app,tb_app,tbT,tbT,List.map_append,e3];simp[tbT];intro a _;rw[show ((P'.length:Int)+1)=(m:Int) by omega]
def IvT (d:RdT):Prop:=(d.ph<0→d.Ls=[])∧(d.ph≤1→d.Hs=[])∧(d.ph≤2→d.Ts=[])∧(d.ph≤3→d.ws=[])
def VdT (d:RdT):Prop:=d.S≤9∧(∀l∈d.Ls,sm9 l.1∧sm9 l.2)∧∀h∈d.Hs,sm9 h.2
def linesD (d:RdT):List ByteArray:=if d.ph<0 then [] else linesT d.S d.Ls d.Hs d.Ts d.ws
theorem ph_parts {d:RdT}{k:Int}(h:phB d k=true):0≤d.ph∧d.ph≤k:=by simpa[phB] using h
theorem ln_parts {d e:RdT}{s:ByteArray}(h:lnO d s=some e)(hi:IvT d):IvT e∧0≤e.ph∧(VdT e→(0≤d.ph→VdT d)∧linesD e=linesD d++[s]):=by
 obtain⟨i1,i2,i3,i4⟩:=hi;unfold lnO at h
 split at h
 ·cases h
 rename_i w p hc
 by_cases k1:w=swcS
 ·rw[if_pos k1] at h;subst k1
  split at h
  ·rename_i a
   split at h
   ·rename_i hb
    simp only[Bool.and_eq_true,decide_eq_true_eq] at hb;cases h;have j1:=i1 hb.1;have j2:=i2 (by omega);have j3:=i3 (by omega);have j4:=i4 (by omega);refine⟨⟨fun h=>absurd h (by simp),fun _=>j2,fun _=>j3,fun _=>j4⟩,Int.le_refl _,fun hv=>⟨fun h=>by omega,?_⟩⟩;have hv1:dcN a≤9:=hv.1;rw[linesD,linesD,if_neg (by simp),if_pos hb.1];show linesT (dcN a) d.Ls d.Hs d.Ts d.ws=_;rw[j1,j2,j3,j4,cut_2 hc,linesT,swT,via_read hb.2 hv1];rfl
   cases h
  cases h
 rw[if_neg k1] at h;by_cases k2:w=lnkS
 ·rw[if_pos k2] at h;subst k2
  split at h
  ·rename_i a b
   split at h
   ·rename_i x y hx hy
    split at h
    ·rename_i hb
     have hp:=ph_parts hb;cases h;have j2:=i2 (by omega);have j3:=i3 (by omega);have j4:=i4 (by omega);refine⟨⟨fun h=>absurd h (by simp),fun _=>j2,fun _=>j3,fun _=>j4⟩,(by decide:(0:Int)≤1),fun hv=>?_⟩;have hv2:=hv.2.1 (x,y) (by simp);refine⟨fun _=>⟨hv.1,fun l hl=>hv.2.1 l (by simp[hl]),hv.2.2⟩,?_⟩;rw[linesD,linesD,if_neg (by simp),if_neg (by omega)];show linesT d.S (d.Ls++[(x,y)]) d.Hs d.Ts d.ws=_;rw[j2,j3,j4,cut_3 hc,linesT,linesT,←sp_read hx hv2.1,←sp_read hy hv2.2];simp[tbT,lnT]
    cases h
   cases h
  cases h
 rw[if_neg k2] at h;by_cases k3:w=hosS
 ·rw[if_pos k3] at h;subst k3
  split at h
  ·rename_i a b
   split at h
   ·rename_i y hy
    split at h
    ·rename_i hb
     have hp:=ph_parts hb;cases h;have j3:=i3 (by omega);have j4:=i4 (by omega);refine⟨⟨fun h=>absurd h (by simp),fun h=>absurd h (by simp),fun _=>j3,fun _=>j4⟩,(by decide:(0:Int)≤2),fun hv=>?_⟩;have hv2:=hv.2.2 (a,y) (by simp);refine⟨fun _=>⟨hv.1,hv.2.1,fun l hl=>hv.2.2 l (by simp[hl])⟩,?_⟩;rw[linesD,linesD,if_neg (by simp),if_neg (by omega)];show linesT d.S d.Ls (d.Hs++[(a,y)]) d.Ts d.ws=_;rw[j3,j4,cut_3 hc,linesT,linesT,←sp_read hy hv2];simp[tbT,hoT]
    cases h
   cases h
  cases h
 rw[if_neg k3] at h;by_cases k4:w=rulS
 ·rw[if_pos k4] at h;subst k4
  split at h
  ·rename_i a r
   split at h
   ·rename_i hb
    simp only[Bool.and_eq_true,decide_eq_true_eq] at hb;obtain⟨b1,b2,b3,b4,b5⟩:=hb;have hp:=ph_parts b5
    split at h
    ·rename_i x hx
     cases h;have j4:=i4 (by omega);refine⟨⟨fun h=>absurd h (by simp),fun h=>absurd h (by simp),fun h=>absurd h (by simp),fun _=>j4⟩,(by decide:(0:Int)≤3),fun hv=>⟨fun _=>⟨hv.1,hv.2.1,hv.2.2⟩,?_⟩⟩;rw[linesD,linesD,if_neg (by simp),if_neg (by omega)];show linesT d.S d.Ls d.Hs (tbP d.Ts (dcN a).toNat x) d.ws=_
     rcases cut_parts hc with ⟨e,_⟩ | ⟨t,e,e2⟩
     ·cases e
     rcases cut_parts e.symm with ⟨e3,_⟩ | ⟨t2,e3,e4⟩
     ·rw[e3] at hx;exact absurd hx (by simp[rlO,paN,rdW])
     rw[e3] at hx;obtain⟨_,r2⟩:=rl_read hx;rw[j4,linesT,linesT,tb_push (by omega) (by omega),rlT,show (((dcN a).toNat:Nat):Int)=dcN a by omega,via_read b1 (by omega),r2,e2,e4];simp
    cases h
   cases h
  cases h
 rw[if_neg k4] at h
 split at h
 ·rename_i x hx
  split at h
  ·rename_i hb
   have hp:=ph_parts hb;cases h;refine⟨⟨fun h=>absurd h (by simp),fun h=>absurd h (by simp),fun h=>absurd h (by simp),fun h=>absurd h (by simp)⟩,(by decide:(0:Int)≤4),fun hv=>⟨fun _=>⟨hv.1,hv.2.1,hv.2.2⟩,?_⟩⟩;rw[linesD,linesD,if_neg (by simp),if_neg (by omega)];show linesT d.S d.Ls d.Hs d.Ts (d.ws++[x])=_;rw[linesT,linesT,List.map_append,List.map_cons,(rd_text hx).2];simp
  cases h
 cases h
theorem ls_parts:∀(l:List ByteArray) {d e:RdT},lsO d l=.inl e→IvT d→IvT e∧(VdT e→(0≤d.ph→VdT d)∧linesD e=linesD d++l)
 | [],d,e,h,hi=>by
   have:d=e:=by
    have h':Sum.inl d=(Sum.inl e:RdT ⊕ Nat):=h;cases h';rfl
   subst this;exact⟨hi,fun hv=>⟨fun _=>hv,by simp⟩⟩
 | s :: l,d,e,h,hi=>by
   rw[lsO] at h;cases h1:lnO d s with
   | none=>rw[h1] at h;cases h
   | some d1 =>
     rw[h1] at h;simp only at h;cases h2:lsO d1 l with
     | inr k=>rw[h2] at h;cases h
     | inl e1 =>
       rw[h2] at h;cases h;obtain⟨a1,a2,a3⟩:=ln_parts h1 hi;obtain⟨b1,b2⟩:=ls_parts l h2 a1;refine⟨b1,fun hv=>?_⟩;obtain⟨c1,c2⟩:=b2 hv;obtain⟨d1',d2⟩:=a3 (c1 a2);exact⟨d1',by rw[c2,d2];simp⟩
theorem iv_0:IvT rd0:=⟨fun _=>rfl,fun _=>rfl,fun _=>rfl,fun _=>rfl⟩
theorem text_read {s:ByteArray}{l:List ByteArray}{e:RdT}(hc:cutC 10 s=l++[ByteArray.empty])(hs:s≠ByteArray.empty)(h:lsO rd0 l=.inl e)(ht:tpN e.S e.Ls e.Hs=0):textT e.S e.Ls e.Hs (fiT e.S e.Ts) e.ws=s:=by
 obtain⟨⟨s1,s6⟩,_,hl,_,hh,_⟩:=tp_0 ht;have hv:VdT e:=by
  have hx:∀x,spB e.S x=true→sm9 x:=fun x hx=>by
   have:=sp_sm s6 hx;exact⟨by have:=this.1;omega,by have:=this.2;omega⟩
  exact⟨by omega,fun l hm=>⟨hx _ (hl l.1 (List.mem_flatMap.2 ⟨l,hm,by simp⟩)),hx _ (hl l.2 (List.mem_flatMap.2 ⟨l,hm,by simp⟩))⟩,fun x hm=>hx _ (hh x hm).2⟩
 obtain⟨_,h2⟩:=ls_parts l h iv_0;have h3:=(h2 hv).2;rw[show linesD rd0=[] from rfl,List.nil_append] at h3;have hj:=cc_join (c:=10) s;rw[hc,nl_join] at hj;unfold linesD at h3;by_cases hp:e.ph<0
 ·rw[if_pos hp] at h3;rw[←h3] at hj;exact absurd hj.symm hs
 rw[if_neg hp] at h3;rw[textT,←hj,←h3,linesT,linesT,show tbT 0 (fiT e.S e.Ts)=tbT 0 e.Ts by rw[fiT,if_pos s6];exact tb_padded _ _]
def rtL (s:ByteArray):List ByteArray:=(cutC 10 s).dropLast
def rtZ (s:ByteArray):ByteArray:=(cutC 10 s).getLastD ByteArray.empty
def rtC (e:RdT):Int:=if ntN e.S e.Ls e.Hs (fiT e.S e.Ts)=0 then wsN e.S e.Ls e.Hs e.ws else ntN e.S e.Ls e.Hs (fiT e.S e.Ts)
def rtN (s:ByteArray):Int:=if 3000<s.size then 4 else if s.size=0 then 2 else match lsO rd0 (rtL s) with
 | .inr _=>2
 | .inl e=>if (rtZ s).size=0 then rtC e else 2
def rtK (s:ByteArray):Nat:=if 3000<s.size then 0 else if s.size=0 then 0 else match lsO rd0 (rtL s) with
 | .inr k=>k
 | .inl e=>if (rtZ s).size=0 then 0 else (rtL s).length
def rtE (s:ByteArray):RdT:=match lsO rd0 (rtL s) with
 | .inr _=>rd0
 | .inl e=>e
theorem sz_0 {s:ByteArray}(h:s.size=0):s=ByteArray.empty:=by
 apply wa_ext
 have:s.data.toList=[]:=by
  rw[←List.length_eq_zero_iff,←Lib.size_eq];exact h
 rw[this];rfl
theorem rt_cut (s:ByteArray):cutC 10 s=rtL s++[rtZ s]:=by
 have hne:cutC 10 s≠[]:=by
  intro e;have:=(cc_len 10 s).1;rw[e] at this;simp at this
 rw[rtL,rtZ,List.getLastD_eq_getLast?,List.getLast?_eq_some_getLast hne,Option.getD_some,List.dropLast_concat_getLast]
theorem rt_0 {s:ByteArray}(h:rtN s=0):s.size≤3000∧s≠ByteArray.empty∧lsO rd0 (rtL s)=.inl (rtE s)∧rtZ s=ByteArray.empty∧ntN (rtE s).S (rtE s).Ls (rtE s).Hs (fiT (rtE s).S (rtE s).Ts)=0∧wsN (rtE s).S (rtE s).Ls (rtE s).Hs (rtE s).ws=0:=by
 unfold rtN at h;by_cases h1:3000<s.size
 ·rw[if_pos h1] at h;cases h
 rw[if_neg h1] at h;by_cases h2:s.size=0
 ·rw[if_pos h2] at h;cases h
 rw[if_neg h2] at h;cases e:lsO rd0 (rtL s) with
 | inr k=>rw[e] at h;cases h
 | inl d =>
   rw[e] at h;simp only at h;by_cases h3:(rtZ s).size=0
   ·rw[if_pos h3] at h;have hE:rtE s=d:=by rw[rtE,e]
    unfold rtC at h;by_cases h4:ntN d.S d.Ls d.Hs (fiT d.S d.Ts)=0
    ·rw[if_pos h4] at h;rw[hE];exact⟨by omega,fun e=>h2 (by rw[e];rfl),rfl,sz_0 h3,h4,h⟩
    rw[if_neg h4] at h;exact absurd h h4
   rw[if_neg h3] at h;cases h
theorem rt_text {s:ByteArray}(h:rtN s=0):textT (rtE s).S (rtE s).Ls (rtE s).Hs (fiT (rtE s).S (rtE s).Ts) (rtE s).ws=s:=by
 obtain⟨_,h2,h3,h4,h5,_⟩:=rt_0 h;exact text_read (l:=rtL s) (by rw[←h4];exact rt_cut s) h2 h3 (nt_0 h5).1
theorem text_rt {S:Int}{Ls:LkQ}{Hs:HoQ}{Ts:TsQ}{ws:List Wi}(hn:ntN S Ls Hs Ts=0)(hw:wsN S Ls Hs ws=0)(hl:(textT S Ls Hs Ts ws).size≤3000):
 rtN (textT S Ls Hs Ts ws)=0∧rtK (textT S Ls Hs Ts ws)=0∧(rtE (textT S Ls Hs Ts ws)).S=S∧(rtE (textT S Ls Hs Ts ws)).Ls=Ls∧(rtE (textT S Ls Hs Ts ws)).Hs=Hs∧fiT S (rtE (textT S Ls Hs Ts ws)).Ts=Ts∧(rtE (textT S Ls Hs Ts ws)).ws=ws:=by
 obtain⟨ph,T',e1,e2⟩:=lines_back hn hw;have hc:=lines_cut hn hw;have hL:rtL (textT S Ls Hs Ts ws)=linesT S Ls Hs Ts ws:=by rw[rtL,hc];simp
 have hZ:rtZ (textT S Ls Hs Ts ws)=ByteArray.empty:=by rw[rtZ,hc];simp
 have hE:rtE (textT S Ls Hs Ts ws)=⟨S,Ls,Hs,T',ws,ph⟩:=by rw[rtE,hL,e1]
 have hs:(textT S Ls Hs Ts ws).size≠0:=by
  intro h0;have:=sz_0 h0;rw[this,show cutC 10 ByteArray.empty=[ByteArray.empty] from ccut_one (by intro h;have h':(10:UInt8)∈([]:List UInt8):=h;cases h')] at hc;have h1:=congrArg List.length hc;simp[linesT] at h1
 have hC:rtC ⟨S,Ls,Hs,T',ws,ph⟩=0:=by
  unfold rtC;show (if ntN S Ls Hs (fiT S T')=0 then wsN S Ls Hs ws else ntN S Ls Hs (fiT S T'))=0;rw[e2,if_pos hn,hw]
 refine⟨?_,?_,by rw[hE],by rw[hE],by rw[hE],by rw[hE];exact e2,by rw[hE]⟩
 ·rw[rtN,if_neg (by omega),if_neg hs,hL,e1];simp only;rw[hZ,if_pos (show ByteArray.empty.size=0 from rfl),hC]
 rw[rtK,if_neg (by omega),if_neg hs,hL,e1];simp only;rw[hZ,if_pos (show ByteArray.empty.size=0 from rfl)]
theorem sz_app (a b:ByteArray):(a++b).size=a.size+b.size:=ByteArray.size_append ..
theorem sp_size (p:Int×Int):(spT p).size≤5:=by
 have h1:=dg_size p.1;have h2:=dg_size p.2;rw[spT,sz_app,sz_app,show (chW 46).size=1 from rfl];omega
theorem nmt_size {a:ByteArray}(h:nmB a=true):a.size≤6:=by
 simp only[nmB,Bool.and_eq_true,decide_eq_true_eq] at h;exact h.2.1
theorem rs_size (r:Ru):(rsS r.p r.m r.b r.o r.s r.v).size≤25:=by
 have h1:=dg_size r.p;have h2:=dg_size r.o;have h3:=pr_size r.m r.b;have h4:=pr_size r.s r.v;unfold rsS rsO rsH;by_cases e:r.o=0
 ·rw[if_pos e];simp only[sz_app,show (⟨#[32]⟩:ByteArray).size=1 from rfl,show (⟨#[32,100,114,111,112]⟩:ByteArray).size=5 from rfl];omega
 rw[if_neg e];by_cases e2:r.s=0
 ·rw[if_pos e2];simp only[sz_app,show (⟨#[32]⟩:ByteArray).size=1 from rfl,show (⟨#[32,111,117,116,32]⟩:ByteArray).size=5 from rfl];omega
 rw[if_neg e2];simp only[sz_app,show (⟨#[32]⟩:ByteArray).size=1 from rfl,show (⟨#[32,111,117,116,32]⟩:ByteArray).size=5 from rfl,show (⟨#[32,115,101,116,32]⟩:ByteArray).size=5 from rfl];omega
theorem sh_size {w:Wi}(h:shN w=0):(shT w).size≤30:=by
 have hw:∀k:Int,(woW k).size≤5:=fun k=>by
  unfold woW;by_cases h1:k=1
  ·rw[if_pos h1];decide
  rw[if_neg h1];by_cases h2:k=2
  ·rw[if_pos h2];decide
  rw[if_neg h2];by_cases h3:k=3
  ·rw[if_pos h3];decide
  rw[if_neg h3];by_cases h4:k=4
  ·rw[if_pos h4];decide
  rw[if_neg h4];decide
 have hk:=hw w.k
 rcases shw_0 h with ⟨h1,_⟩ | ⟨h1,hf,ht,_⟩ | ⟨h1,hf,ht,hv⟩
 ·rw[shT,if_pos h1];decide
 ·rw[shT,if_neg (by omega),if_neg (by omega)];have a:=nmt_size hf;have b:=nmt_size ht;simp only[sz_app,show blW.size=1 from rfl];omega
 rw[shT,if_neg (by omega),if_pos h1];have a:=nmt_size hf;have b:=nmt_size ht;have c:=dg_size w.v;simp only[sz_app,show blW.size=1 from rfl];omega
theorem tb_snoc:∀(Ts:TsQ) (T:List Ru) (k:Nat),tbT k (Ts++[T])=tbT k Ts++T.map (rlT ((k+Ts.length+1:Nat):Int))
 | [],T,k=>by simp[tbT]
 | X :: Ts,T,k=>by
   rw[List.cons_append,tbT,tbT,tb_snoc Ts T (k+1),List.append_assoc,List.length_cons,show k+1+Ts.length+1=k+(Ts.length+1)+1 by omega]
theorem tb_few:∀{Ts:TsQ} {k:Nat},(∀T∈Ts,T.length≤12)→(tbT k Ts).length≤12*Ts.length
 | [],k,_=>by simp[tbT]
 | T :: Ts,k,h=>by
   have h1:=h T (List.mem_cons_self ..);have h2:=tb_few (k:=k+1) fun x hx=>h x (List.mem_cons_of_mem _ hx)
   rw[tbT,List.length_append,List.length_map,List.length_cons];omega
abbrev SlT:Type:=AdQ×Nat×Nat
def slV (x:SlT):Value:=.slice x.1 x.2.1 x.2.2
def slE:Enc SlT where
 c:=fun x=>[slV x]
 n:=1
 len:=fun _=>rfl
 pos:=by decide
 one:=by
  intro x u hu;simp at hu;subst hu;rfl
theorem sl_cells (L:List SlT):cellsG slE L=L.map slV:=by
 induction L with
 | nil=>rfl
 | cons x r ih =>
   simp only[cellsG,List.flatMap_cons,List.map_cons] at *;rw[ih];rfl
theorem grown_below {w w':World}(hb:Below w.heap.size w w'):w.grownBy w' none:=⟨hb.os,hb.tape,hb.output,hb.size,fun k hk _=>hb.block k hk⟩
theorem grown_set (w:World)(b i:Nat)(v:Value):w.grownBy (w.setCell ⟨b,i,none⟩ v) (some b):=
 ⟨rfl,rfl,rfl,by simp[World.setCell],fun k _ hk=>Below.heap_setCell _ _ _ _ (fun e=>hk (by simp[e]))⟩
theorem none_or (o:Option Nat):o=none∨o≠none:=by cases o <;> simp
theorem run_append_blk {P:Program}{w:World}{base:Nat}(t ty e:TypeId)(i:TypeInfo)(z:Value)(ht:P.underlying t=some (.slice e))(hi:P.info? e=some i)(hz:i.zero=some z)
 (v:Value) (n:Nat) (xs:List Value) (hown:w.ownsRow base e i.size v n xs)
 (a:Addr) (c:Nat) (news:List Value) (hl:news.length=1*i.size) (hnews:∀j u,news[j]?=some u→w.cell? (a.add j)=some u) (h1:∀u∈news,u.oneCell'=true)
 (h63:n+1≤maxLen) (hbytes:(n+1)*i.bytes≤140737488355328) {v':Value} {w':World} (hr:(Builtin.append_ #[t,t] ty #[v,.slice (some a) 1 c]).run P w=.ok v' w'):v'.ownBlock=v.ownBlock∨v'.ownBlock=some w.heap.size:=by
 have hm:n+1≤9223372036854775807:=by simp only[maxLen] at h63;omega
 rcases hown.2 with ⟨rfl,rfl⟩ | ⟨g,cap,cur,rfl,hbg,hg,hnc,hcm,hcs,htake⟩
 ·rw[run_append_nil (P:=P) w t ty e i z ht hi hz a 1 c news hl hnews (by omega) (by omega) (by have hb:=hbytes;simp only[Nat.zero_add] at hb;omega)] at hr;cases hr;exact .inr rfl
 by_cases hroom:n+1≤cap
 ·have hfit:n*i.size+news.length≤cur.size:=by rw[hl,hcs,←Nat.add_mul];exact Nat.mul_le_mul_right _ hroom
  rw[run_append_room (P:=P) w t ty e i ht hi g n cap cur hg a 1 c news hl hnews h1 hroom hfit] at hr;cases hr;exact .inl rfl
 rw[run_append_grow (P:=P) w t ty e i z ht hi hz ⟨g,0,none⟩ n cap xs hown.1 (hown.cells (g:=g) rfl) a 1 c news hl hnews (by omega) (by omega) (growslice_fits (by omega) hbytes)] at hr;cases hr;exact .inr rfl
theorem wpList_append_blk {P:Program}{α:Type}{E:Enc α}(w:World){ops:Array Oper}{rest:List Oper}{o:Oper}{a:Act}{Q:Exit→Act→World→Prop}(hgd:o.guard=none)(s x:Operand)(t e:TypeId)
 (ho:o.op=.call { callee:=.builtin .append,args:=#[s,x],argTypes:=#[t,t] }) (ht:P.underlying t=some (.slice e)) (i:TypeInfo) (z:Value) (bytes:Nat) (hi:P.info? e=some i) (hz:i.zero=some z)
 (hsize:i.size=E.n) (hby:i.bytes=bytes) (hzs:z.cells.size=E.n) (base:Nat)
 (v:Value) (hs:a.eval s=v) (L:List α) (hown:w.ownsRow base e E.n v L.length (cellsG E L)) (g q c:Nat) (hx:a.eval x=.slice (some ⟨g,q,none⟩) 1 c) (y:α) (hM:VAt w g q (E.c y))
 (h63:L.length+1≤maxLen) (hbytes:(L.length+1)*bytes≤140737488355328) (hbase:base≤w.heap.size)
 (h:∀v' w',w'.ownsRow base e E.n v' (L++[y]).length (cellsG E (L++[y]))→w.grownBy w' v.ownBlock→v'.ownBlock=v.ownBlock∨v'.ownBlock=some w.heap.size→wpList P ops Q rest (a.put o.dst v') w'):wpList P ops Q (o :: rest) a w:=by
 have hG:GAt E w g q [y]:=by
  intro k hk;obtain rfl:k=0:=by simp at hk;omega
  simpa using hM
 have hc:=hG.cells;rw[cellsG_one] at hc;have hl:(E.c y).length=1*E.n:=by rw[E.len];omega
 obtain⟨v',w',hr,h2,h3,_⟩:=run_append_own (P:=P) w base t o.type e i z E.n bytes ht hi hz hsize hby hzs E.pos v _ _ hown ⟨g,q,none⟩ 1 c (E.c y) hl hc (E.one y) h63 hbytes hbase;have hb:=run_append_blk (P:=P) t o.type e i z ht hi hz v _ _ (by rw[hsize];exact hown) ⟨g,q,none⟩ c (E.c y) (by rw[hsize];exact hl) hc (E.one y) h63 (by rw[hby];exact hbytes) hr;refine wpList_plain hgd fun K hK=>?_
 unfold Oper.wp execOp;simp only[ho,resolve,invoke,builtin,Sem.run_bind,Sem.run_pure,Result.andThen_ok,List.map_toArray,List.map_cons,List.map_nil,hs,hx,hr];exact hK _ _ (h v' w' (by rw[List.length_append,cellsG_app,cellsG_one];exact h2) h3 hb)
section
variable {e1 e2:TypeId}{w w':World}{B:Nat}{v u:Value}{vs us:List SlT}{Cs Ps:List (List Int)}
end
theorem step_append_blk {P:Program}{α:Type}{E:Enc α}(w:World){ops:Array Oper}{o:Oper}{a:Act}{K:Act→World→Prop}{Q:Exit→Act→World→Prop}{X:Prop}(hgd:o.guard=none)(s x:Operand)(t e:TypeId)
 (ho:o.op=.call { callee:=.builtin .append,args:=#[s,x],argTypes:=#[t,t] }) (ht:P.underlying t=some (.slice e)) (i:TypeInfo) (z:Value) (bytes:Nat) (hi:P.info? e=some i) (hz:i.zero=some z)
 (hsize:i.size=E.n) (hby:i.bytes=bytes) (hzs:z.cells.size=E.n) (base:Nat)
 (v:Value) (hs:a.eval s=v) (L:List α) (hown:w.ownsRow base e E.n v L.length (cellsG E L)) (g q c:Nat) (hx:a.eval x=.slice (some ⟨g,q,none⟩) 1 c) (y:α) (hM:VAt w g q (E.c y))
 (h63:L.length+1≤maxLen) (hbytes:(L.length+1)*bytes≤140737488355328) (hbase:base≤w.heap.size)
 (h:∀v' w',w'.ownsRow base e E.n v' (L++[y]).length (cellsG E (L++[y]))→w.grownBy w' v.ownBlock→v'.ownBlock=v.ownBlock∨v'.ownBlock=some w.heap.size→K (a.put o.dst v') w'):
 if Region.wanted o (yielded ops a.tmps)=true then Oper.wp P o a w K Q else X:=by
 have hw:Region.wanted o (yielded ops a.tmps)=true:=by simp[Region.wanted,hgd]
 rw[if_pos hw];have hG:GAt E w g q [y]:=by
  intro k hk;obtain rfl:k=0:=by simp at hk;omega
  simpa using hM
 have hc:=hG.cells;rw[cellsG_one] at hc;have hl:(E.c y).length=1*E.n:=by rw[E.len];omega
 obtain⟨v',w',hr,h2,h3,_⟩:=run_append_own (P:=P) w base t o.type e i z E.n bytes ht hi hz hsize hby hzs E.pos v _ _ hown ⟨g,q,none⟩ 1 c (E.c y) hl hc (E.one y) h63 hbytes hbase;have hb:=run_append_blk (P:=P) t o.type e i z ht hi hz v _ _ (by rw[hsize];exact hown) ⟨g,q,none⟩ c (E.c y) (by rw[hsize];exact hl) hc (E.one y) h63 (by rw[hby];exact hbytes) hr;unfold Oper.wp execOp;simp only[ho,resolve,invoke,builtin,Sem.run_bind,Sem.run_pure,Result.andThen_ok,List.map_toArray,List.map_cons,List.map_nil,hs,hx,hr];exact h v' w' (by rw[List.length_append,cellsG_app,cellsG_one];exact h2) h3 hb
section
variable {e1 e2:TypeId}{w W1 W1' W2 W2' Wf:World}{B:Nat}{v u v' u':Value}{vs us:List SlT}{Cs Ps:List (List Int)}
end
theorem own_form {w:World}{B e size n:Nat}{v:Value}{xs:List Value}(h:w.ownsRow B e size v n xs):∃ao cap,v=.slice ao n cap:=by
 rcases h.2 with ⟨rfl,rfl⟩ | ⟨g,cap,cur,rfl,_⟩
 ·exact⟨none,0,rfl⟩
 exact⟨_,cap,rfl⟩
end
section
open Go.Shelf
def lays156_ren:Go.Shelf.Ren:=⟨fun | 156=>26 | 165=>47 | 166=>48 | 169=>49 | 240=>78 | 241=>79 | 276=>105 | 277=>106 | n=>n,fun | 31=>68 | 9=>9 | 3=>3 | 4=>4 | 0=>0 | 20=>20 | 72=>104 | 76=>106 | 70=>101 | 37=>102 | 75=>34 | 127=>134 | 164=>135 | 5=>5 | 80=>108 | n=>n,fun | n=>n⟩
theorem lays156:Go.Proofs.Lays.n156 prog lays156_ren:={
 mixed:=by kernel_rfl
 f156:=func26.trans (congrArg some (by kernel_rfl))
 f165:=func47.trans (congrArg some (by kernel_rfl))
 f166:=func48.trans (congrArg some (by kernel_rfl))
 f169:=func49.trans (congrArg some (by kernel_rfl))
 f240:=func78.trans (congrArg some (by kernel_rfl))
 f241:=func79.trans (congrArg some (by kernel_rfl))
 f276:=func105.trans (congrArg some (by kernel_rfl))
 f277:=func106.trans (congrArg some (by kernel_rfl))
 t0:=underlying0
 a0:=Tryz.isAgg0
 z0:=Tryz.sizeOf0
 v0:=Tryz.zeroValue0
 t3:=underlying3
 a3:=Tryz.isAgg3
 z3:=Tryz.sizeOf3
 v3:=Tryz.zeroValue3
 t4:=underlying4
 a4:=Tryz.isAgg4
 z4:=Tryz.sizeOf4
 v4:=Tryz.zeroValue4
 t9:=underlying9
 a9:=Tryz.isAgg9
 z9:=Tryz.sizeOf9
 v9:=Tryz.zeroValue9
 t20:=underlying20
 a20:=Tryz.isAgg20
 z20:=Tryz.sizeOf20
 v20:=Tryz.zeroValue20
 t31:=underlying68
 a31:=Tryz.isAgg68
 z31:=Tryz.sizeOf68
 v31:=Tryz.zeroValue68
 t37:=underlying102
 a37:=Tryz.isAgg102
 z37:=Tryz.sizeOf102
 v37:=Tryz.zeroValue102
 t70:=underlying101
 a70:=Tryz.isAgg101
 z70:=Tryz.sizeOf101
 v70:=Tryz.zeroValue101
 t72:=underlying104
 a72:=Tryz.isAgg104
 z72:=Tryz.sizeOf104
 v72:=Tryz.zeroValue104
 t75:=underlying34
 a75:=Tryz.isAgg34
 z75:=Tryz.sizeOf34
 v75:=Tryz.zeroValue34
 t76:=underlying106
 a76:=Tryz.isAgg106
 z76:=Tryz.sizeOf106
 v76:=Tryz.zeroValue106
 t127:=underlying134
 a127:=Tryz.isAgg134
 z127:=Tryz.sizeOf134
 v127:=Tryz.zeroValue134
 t164:=underlying135
 a164:=Tryz.isAgg135
 z164:=Tryz.sizeOf135
 v164:=Tryz.zeroValue135 }
theorem Builder_Extra_156:Builder.Extra prog lays156_ren:={
 sizeBuilder:=by kernel_rfl
 liesBuilder:=by kernel_rfl
 t5:=underlying5
 a5:=Tryz.isAgg5
 z5:=Tryz.sizeOf5
 v5:=Tryz.zeroValue5
 infoByte:=by kernel_rfl
 cellsByte:=by kernel_rfl
 sizeByte:=by kernel_rfl
 neB5:=by decide }
open Go.RowKit in
theorem strings_Join (bk o c:Nat)(xs:List ByteArray)(sep:ByteArray)(w:World)(hcells:∀(j:Nat) x,xs[j]?=some x→w.cell? ⟨bk,o+j,none⟩=some (.string x))(hbk:bk<w.heap.size)(hN:xs.length≤140737488355328)(hcap:xs.length≤c)(hlen:(Lib.join (xs.map (·.data.toList)) sep.data.toList).length≤140737488355328):
 Calls prog 26 #[.slice (some ⟨bk,o,none⟩) xs.length c,.string sep] w fun e w'=>e=.returned (.string ⟨(Lib.join (xs.map (·.data.toList)) sep.data.toList).toArray⟩)∧Below w.heap.size w w':=Any.strings_Join lays156 Builder_Extra_156 bk o c xs sep w hcells hbk hN hcap hlen
end
section
open Go.RowKit
def strE:Enc ByteArray where
 c:=fun x=>[.string x]
 n:=1
 len:=fun _=>rfl
 pos:=by decide
 one:=by
  intro x u hu;simp at hu;subst hu;rfl
theorem str_cells (l:List ByteArray):cellsG strE l=l.map Value.string:=by
 induction l with
 | nil=>rfl
 | cons a l ih=>rw[show cellsG strE (a :: l)=strE.c a++cellsG strE l by simp[cellsG],ih];rfl
theorem str_info:(Tryz.prog.info? 9).map (fun i=>(i.zero,i.size,i.bytes))=some (some (.string ⟨#[]⟩),1,16):=by kernel_rfl
theorem str_new (w:World)(x:ByteArray)(t:TypeId):VAt (w.alloc (.cells #[.string x] t)) w.heap.size 0 (strE.c x):=vat_new w [.string x] t
def RowS (w:World)(B:Nat)(v:Value)(l:List ByteArray):Prop:=w.ownsRow B 9 strE.n v l.length (cellsG strE l)
theorem row_one (w:World)(B:Nat)(x:ByteArray)(h:B≤w.heap.size):RowS (w.alloc (.cells #[.string x] 9)) B (.slice (some ⟨w.heap.size,0,none⟩) 1 1) [x]:=
 ⟨rfl,.inr ⟨w.heap.size,1,#[.string x],rfl,h,heap_alloc_new w _,nLQ _,by unfold maxLen;omega,rfl,rfl⟩⟩
theorem RowS.later {w w':World}{B:Nat}{v:Value}{l:List ByteArray}(h:RowS w B v l)(hb:Below w.heap.size w w'):RowS w' B v l:=World.ownsRow.kept h (grown_below hb) (none_or _)
theorem RowS.cell {w:World}{B g n cap:Nat}{l:List ByteArray}(h:RowS w B (.slice (some ⟨g,0,none⟩) n cap) l):∀(j:Nat) x,l[j]?=some x→w.cell? ⟨g,0+j,none⟩=some (.string x):=fun j x hx=>by
 have hc:=World.ownsRow.cells h (g:=g) rfl j (.string x) (by rw[str_cells,List.getElem?_map,hx];rfl);rw[Nat.zero_add];by_cases h0:j=0
 ·subst h0;simpa[Addr.add] using hc
 simpa[Addr.add,h0] using hc
theorem join_nl:∀(x:ByteArray) (r:List ByteArray),Lib.join ((x :: r).map (·.data.toList)) [10]++[10]=(nlT 10 (x :: r)).data.toList
 | x,[]=>by
   rw[nlT,nlT,wa_app,wa_app,chW_lst,List.map_cons,List.map_nil,Lib.join_one];rfl
 | x,y :: r=>by
   have ih:=join_nl y r;rw[nlT,wa_app,wa_app,chW_lst,←ih];simp[Lib.join,List.intercalate]
theorem pspot_any (a b:Int)(w:World)(h:smP (a,b)):
 Calls prog 23 #[.agg #[.int i64 a,.int i64 b]] w fun e w'=>e=.returned (.string (spT (a,b)))∧Below w.heap.size w w':=by
 have d1:=dg_size a;have d2:=dg_size b;have HA:Hid (0≤a∧a<100):=⟨h.1.1,by have h2:a≤6:=h.1.2;show a<100;omega⟩;have HB:Hid (0≤b∧b<100):=⟨h.2.1,by have h2:b≤6:=h.2.2;show b<100;omega⟩;have hb:Below w.heap.size w (w.alloc (.cells #[.int i64 a,.int i64 b] 55)):=(bRQ _ _).alloc (nLQ _) _;have HBB:Hid (Below w.heap.size w (w.alloc (.cells #[.int i64 a,.int i64 b] 55))):=hb;obtain⟨X,hX⟩:∃X,X=spT (a,b):=⟨_,rfl⟩;have HX:Hid (X=dgS a++⟨#[46]⟩++dgS b):=by
  show _=_;rw[hX,spT]
  apply wa_ext
  simp only[wa_app,List.append_assoc];rfl
 rw[←hX];clear h hb hX;go_enter func23,ntmps23;go_upto_region 1 with fail
 go_region_with (go_at_call 22;first | (refine (itoa_any a _ HA.out.1 HA.out.2).mono ?_;rintro e w' ⟨rfl,rfl⟩) | (refine (itoa_any b _ HB.out.1 HB.out.2).mono ?_;rintro e w' ⟨rfl,rfl⟩))
 all_goals go_wp2
 all_goals go_ret
 all_goals refine⟨ret_str ?_,HBB.out.drew⟩
 all_goals rw[HX.out]
theorem isSwitch_any (S a:Int)(w:World):
 Calls prog 90 #[.int i64 S,.int i64 a] w fun e w'=>e=.returned (.bool (swB S a))∧Below w.heap.size w w':=by
 by_cases h1:1≤a
 ·by_cases h2:a≤S
  ·have e:swB S a=true:=sw_of.2 ⟨h1,h2⟩;rw[e];clear e;go_enter func90,ntmps90;go_wp2;go_ret;exact⟨rfl,bRQ _ _⟩
  have e:swB S a=false:=by simp[swB,h2]
  rw[e];clear e;go_enter func90,ntmps90;go_wp2;go_ret;exact⟨rfl,bRQ _ _⟩
 have e:swB S a=false:=by simp[swB,h1]
 rw[e];clear e;go_enter func90,ntmps90;go_wp2;go_ret;exact⟨rfl,bRQ _ _⟩
theorem isSpot_any (S x y:Int)(w:World):
 Calls prog 119 #[.int i64 S,.agg #[.int i64 x,.int i64 y]] w fun e w'=>e=.returned (.bool (spB S (x,y)))∧Below w.heap.size w w':=by
 have HB0:Hid (Below w.heap.size w (w.alloc (.cells #[.int i64 x,.int i64 y] 55))):=(bRQ _ _).alloc (nLQ _) _;have hlt:w.heap.size<(w.alloc (.cells #[.int i64 x,.int i64 y] 55)).heap.size:=by simp
 have c0:(w.alloc (.cells #[.int i64 x,.int i64 y] 55)).cell? ⟨w.heap.size,0,none⟩=some (.int i64 x):=by simp
 have c1:(w.alloc (.cells #[.int i64 x,.int i64 y] 55)).cell? ⟨w.heap.size,1,none⟩=some (.int i64 y):=by simp
 cases hs:swB S x
 ·have e:spB S (x,y)=false:=by
   cases h:spB S (x,y)
   ·rfl
   have:=sp_of h;have h2:=sw_of.2 ⟨this.1,this.2.1⟩;rw[hs] at h2;cases h2
  rw[e];clear e;go_enter func119,ntmps119
  go_wp2_with fail
  refine (isSwitch_any S x _).mono ?_;rintro e w1 ⟨rfl,hb1⟩;rw[hs];have HB1:Hid (Below w.heap.size w w1):=HB0.out.trans (hb1.mono HB0.out.size);clear hb1 c0 c1;go_wp2;go_ret;exact⟨rfl,HB1.out⟩
 have hw:=sw_of.1 hs;have e:spB S (x,y)=(decide (1≤y)&&decide (y≤4)):=by simp[spB,hw.1,hw.2]
 rw[e];clear e hw;have walk:∀r:Bool,r=(decide (1≤y)&&decide (y≤4))→Calls prog 119 #[.int i64 S,.agg #[.int i64 x,.int i64 y]] w fun e w'=>e=.returned (.bool r)∧Below w.heap.size w w':=by
  intro r hr;by_cases h1:1≤y
  ·by_cases h2:y≤4
   ·have e:r=true:=by rw[hr];simp[h1,h2]
    subst e;clear hr;go_enter func119,ntmps119
    go_wp2_with fail
    refine (isSwitch_any S x _).mono ?_;rintro e w1 ⟨rfl,hb1⟩;rw[hs];have HB1:Hid (Below w.heap.size w w1):=HB0.out.trans (hb1.mono HB0.out.size);have d1:=cell_later hb1 c1;clear hb1 c0 c1;go_wp2;go_ret;exact⟨rfl,HB1.out⟩
   have e:r=false:=by rw[hr];simp[h2]
   subst e;clear hr;go_enter func119,ntmps119
   go_wp2_with fail
   refine (isSwitch_any S x _).mono ?_;rintro e w1 ⟨rfl,hb1⟩;rw[hs];have HB1:Hid (Below w.heap.size w w1):=HB0.out.trans (hb1.mono HB0.out.size);have d1:=cell_later hb1 c1;have hd:decide (y≤4)=false:=by simp[h2]
   clear hb1 c0 c1;go_wp2;go_ret;exact⟨by first | rfl | simp[h2],HB1.out⟩
  have e:r=false:=by rw[hr];simp[h1]
  subst e;clear hr;go_enter func119,ntmps119
  go_wp2_with fail
  refine (isSwitch_any S x _).mono ?_;rintro e w1 ⟨rfl,hb1⟩;rw[hs];have HB1:Hid (Below w.heap.size w w1):=HB0.out.trans (hb1.mono HB0.out.size);have d1:=cell_later hb1 c1;clear hb1 c0 c1;go_wp2;go_ret;exact⟨rfl,HB1.out⟩
 exact walk _ rfl
theorem spotEq (a b c d:Int)(w:World):(Op.equal 55 (.agg #[.int i64 a,.int i64 b]) (.agg #[.int i64 c,.int i64 d])).run prog w=.ok (a==c&&b==d) w:=by
 unfold Op.equal Op.maxDepth;rw[run_equalIn_struct w 9999 _ _ _ (by kernel_rfl) (by kernel_rfl)];cases h1:(a==c)
 ·go_simp
 cases h2:(b==d)
 ·go_simp
 go_simp
theorem spotCheck (e:Bool)(a b:Int)(w:World):(Instr.checkKey e 10000 55 (.agg #[.int i64 a,.int i64 b])).run prog w=.ok () w:=by
 have h:∀(x:Int) (w:World),(Instr.checkKey e 9999 3 (.int i64 x)).run prog w=.ok () w:=fun x w=>Go.MapKept.run_checkKey underlying3 (by simp[Go.MapKept.IsKey]) e 9998
 rw[Instr.checkKey];go_simp
def spotKey:KeyE prog 55 (Int×Int):=
 KeyE.ask (fun k=>.agg #[.int i64 k.1,.int i64 k.2]) sq sq_iff (fun e k w=>spotCheck e k.1 k.2 w) _ (show Tryz.prog.underlying 55=some (.struct (Tryz.prog.fieldsOf 55)) by kernel_rfl) (fun a b=>rfl) (fun a b w=>spotEq a.1 a.2 b.1 b.2 w) (fun k=>by simp[Instr.sameBits])
def strKey:KeyE prog 9 ByteArray:=
 KeyE.now (fun k=>.string k) (fun a b=>a==b) ba_iff (fun e k w=>Go.MapKept.run_checkKey underlying9 (by simp[Go.MapKept.IsKey]) e 9999) _ underlying9 (fun a b=>by simp[Instr.sameNow,beq_toListBytes]) (fun k=>by simp[Instr.sameBits,(ba_iff k k).2 rfl])
def veI (n:Int):Value:=.int i64 n
section
variable {P:Program}{K:TypeId}{κ:Type}{E:KeyE P K κ}{w:World}{ops:Array Oper}{rest:List Oper}{o:Oper}{a:Act}{Q:Exit→Act→World→Prop}
theorem getV_I {o:Option Int}:getV veI (.int i64 0) o=.int i64 (o.getD 0):=by cases o <;> rfl
theorem run_lookup_TK {B:Nat}{M:List (κ×Int)}{U:List κ}(h:MAt E veI w B M)(hT:TK E.q M U)(t e:TypeId)(ht:P.underlying t=some (.map K e))(hz:∀w,(zeroValue e).run P w=.ok (.int i64 0) w)(k:κ):
 (Instr.lookup t (.map (some B)) (E.c k) false).run P w=.ok (.int i64 (ctM E.q k U:Int)) w:=by
 rw[run_lookup_M h t e ht _ hz k false,getV_I,hT k];rfl
end
end
section
open Go.ChangeShapes Go.WideShapes Go.ChangeAt Go.RowKit Go.Joins
def spoE:Enc (Int×Int) where
 c:=fun x=>[.int i64 x.1,.int i64 x.2]
 n:=2
 len:=fun _=>rfl
 pos:=by decide
 one:=by
  intro x u hu;simp at hu
  rcases hu with rfl | rfl <;> rfl
theorem spo_cells {w:World}{g o:Nat}{x0 x1:Int}(h:VAt w g o (spoE.c (x0,x1))):w.cell? ⟨g,o,none⟩=some (.int i64 x0)∧w.cell? ⟨g,o+1,none⟩=some (.int i64 x1):=
 ⟨h 0 _ rfl,h 1 _ rfl⟩
theorem spo_new (w:World)(x0 x1:Int)(t:TypeId):VAt (w.alloc (.cells #[.int i64 x0,.int i64 x1] t)) w.heap.size 0 (spoE.c (x0,x1)):=vat_new w [.int i64 x0,.int i64 x1] t
theorem spo_open {H:Type}{enc:TypeId×Value→H}{W:World}{n:Nat}{cs:List Value}{x:DataW H×List MemPlace}
 (h:DataW.trod enc prog W 0 (fun _=>true) true n 55 cs=some x):∃y,cs=spoE.c y:=by
 obtain⟨xs,k,_,_,hl,hlen,hf⟩:=DataW.trod_struct underlying55 h;have hC:Tryz.prog.cellsOf 55=2:=by kernel_rfl
 have hT0:Tryz.prog.cellsOf 3=1:=by kernel_rfl
 rw[hC] at hl
 match cs,hl with
 | [c0,c1],_ =>
   match xs,hlen with
   | [z0,z1],_ =>
     have g0:=hf 0 _ rfl;have g1:=hf 1 _ rfl;simp[hT0] at g0 g1;obtain⟨v0,e0,_,_⟩:=DataW.trod_int underlying3 g0;obtain⟨v1,e1,_,_⟩:=DataW.trod_int underlying3 g1;simp[] at e0 e1;refine⟨(v0,v1),?_⟩;simp[spoE,e0,e1]
def lnkE:Enc ((Int×Int)×(Int×Int)) where
 c:=fun x=>[.int i64 x.1.1,.int i64 x.1.2,.int i64 x.2.1,.int i64 x.2.2]
 n:=4
 len:=fun _=>rfl
 pos:=by decide
 one:=by
  intro x u hu;simp at hu
  rcases hu with rfl | rfl | rfl | rfl <;> rfl
theorem lnk_cells {w:World}{g o:Nat}{x0 x1 x2 x3:Int}(h:VAt w g o (lnkE.c ((x0,x1),(x2,x3)))):w.cell? ⟨g,o,none⟩=some (.int i64 x0)∧w.cell? ⟨g,o+1,none⟩=some (.int i64 x1)∧w.cell? ⟨g,o+2,none⟩=some (.int i64 x2)∧w.cell? ⟨g,o+3,none⟩=some (.int i64 x3):=
 ⟨h 0 _ rfl,h 1 _ rfl,h 2 _ rfl,h 3 _ rfl⟩
theorem lnk_at {w:World}{g o:Nat}{L:LkQ}(h:GAt lnkE w g o L){n k:Nat}(hn:L.length=n)(hk:k<n):
 ∃(x0:Int) (x1:Int) (x2:Int) (x3:Int) (hl:k<L.length),L[k]=((x0,x1),(x2,x3))∧w.cell? ⟨g,o+k*4,none⟩=some (.int i64 x0)∧w.cell? ⟨g,o+k*4+1,none⟩=some (.int i64 x1)∧w.cell? ⟨g,o+k*4+2,none⟩=some (.int i64 x2)∧w.cell? ⟨g,o+k*4+3,none⟩=some (.int i64 x3):=
 have hl:k<L.length:=by omega
 ⟨_,_,_,_,hl,rfl,lnk_cells (h k hl)⟩
theorem lnk_new (w:World)(x0 x1 x2 x3:Int)(t:TypeId):VAt (w.alloc (.cells #[.int i64 x0,.int i64 x1,.int i64 x2,.int i64 x3] t)) w.heap.size 0 (lnkE.c ((x0,x1),(x2,x3))):=vat_new w [.int i64 x0,.int i64 x1,.int i64 x2,.int i64 x3] t
def lnkB (a b:(Int×Int)×(Int×Int)):Bool:=(a.1.1==b.1.1)&&((a.1.2==b.1.2)&&((a.2.1==b.2.1)&&((a.2.2==b.2.2))))
theorem lnkB_iff (a b:(Int×Int)×(Int×Int)):lnkB a b=true↔a=b:=by
 have e:lnkB a b=((a.1.1==b.1.1)&&((a.1.2==b.1.2)&&((a.2.1==b.2.1)&&((a.2.2==b.2.2))))):=rfl;rw[e];simp only[Bool.and_eq_true,beq_iff_eq];constructor
 ·intro h;obtain⟨⟨a0,a1⟩,⟨a2,a3⟩⟩:=a;obtain⟨⟨b0,b1⟩,⟨b2,b3⟩⟩:=b;simp at h ⊢;simp[h]
 intro h;subst h;simp
theorem lnk_ways (x0 x1 x2 x3 y0 y1 y2 y3:Int):
 ((x0==y0)=false∧lnkB ((x0,x1),(x2,x3)) ((y0,y1),(y2,y3))=false) ∨
 ((x0==y0)=true∧(x1==y1)=false∧lnkB ((x0,x1),(x2,x3)) ((y0,y1),(y2,y3))=false) ∨
 ((x0==y0)=true∧(x1==y1)=true∧(x2==y2)=false∧lnkB ((x0,x1),(x2,x3)) ((y0,y1),(y2,y3))=false) ∨
 ((x0==y0)=true∧(x1==y1)=true∧(x2==y2)=true∧(x3==y3)=false∧lnkB ((x0,x1),(x2,x3)) ((y0,y1),(y2,y3))=false) ∨
 ((x0==y0)=true∧(x1==y1)=true∧(x2==y2)=true∧(x3==y3)=true∧lnkB ((x0,x1),(x2,x3)) ((y0,y1),(y2,y3))=true):=by
 have e:lnkB ((x0,x1),(x2,x3)) ((y0,y1),(y2,y3))=((x0==y0)&&((x1==y1)&&((x2==y2)&&((x3==y3))))):=rfl;rw[e];cases h0:(x0==y0)
 ·simp
 skip;cases h1:(x1==y1)
 ·simp
 skip;cases h2:(x2==y2)
 ·simp
 skip;cases h3:(x3==y3)
 ·simp
 skip;simp
theorem lnk_eq (x0 x1 x2 x3 y0 y1 y2 y3:Int)(w:World):(Op.equal 57 (.agg #[.int i64 x0,.int i64 x1,.int i64 x2,.int i64 x3]) (.agg #[.int i64 y0,.int i64 y1,.int i64 y2,.int i64 y3])).run prog w=.ok (lnkB ((x0,x1),(x2,x3)) ((y0,y1),(y2,y3))) w:=by
 unfold Op.equal Op.maxDepth;rw[run_equalIn_struct w 9999 _ _ _ (by kernel_rfl) (by kernel_rfl)]
 rcases lnk_ways x0 x1 x2 x3 y0 y1 y2 y3 with ⟨e0,e⟩ | ⟨e0,e1,e⟩ | ⟨e0,e1,e2,e⟩ | ⟨e0,e1,e2,e3,e⟩ | ⟨e0,e1,e2,e3,e⟩
 all_goals
  rw[e];go_simp
theorem lnk_info:(Tryz.prog.info? 57).map (fun i=>(i.zero,i.size,i.bytes))=some (some (.agg #[.int i64 0,.int i64 0,.int i64 0,.int i64 0]),4,32):=by kernel_rfl
theorem lnk_zero:(Value.agg #[.int i64 0,.int i64 0,.int i64 0,.int i64 0]).cells.size=4:=by simp[Value.cells]
theorem lnk_open {H:Type}{enc:TypeId×Value→H}{W:World}{n:Nat}{cs:List Value}{x:DataW H×List MemPlace}
 (h:DataW.trod enc prog W 0 (fun _=>true) true n 57 cs=some x):∃y,cs=lnkE.c y:=by
 obtain⟨xs,k,_,_,hl,hlen,hf⟩:=DataW.trod_struct underlying57 h;have hC:Tryz.prog.cellsOf 57=4:=by kernel_rfl
 have hT0:Tryz.prog.cellsOf 55=2:=by kernel_rfl
 rw[hC] at hl
 match cs,hl with
 | [c0,c1,c2,c3],_ =>
   match xs,hlen with
   | [z0,z1],_ =>
     have g0:=hf 0 _ rfl;have g1:=hf 1 _ rfl;simp[hT0] at g0 g1;obtain⟨s0,e0⟩:=spo_open g0;obtain⟨s1,e1⟩:=spo_open g1;simp[spoE] at e0 e1;refine⟨((s0.1,s0.2),(s1.1,s1.2)),?_⟩;simp[lnkE,e0,e1]
end
end Go.Proofs.YtpbgocfinpbpgaaGreatDoor
