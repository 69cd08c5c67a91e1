/- Contracts and facts on the way to TextTells, joined into one text: TextPaMath, TextDrM, TextCheck, WishPrint, TextPrint, TextCut. -/
import Derived.Test.YtgddlpcacnolfaaGreatDoorTextTellsP4
namespace Go.Proofs.YtgddlpcacnolfaaGreatDoor
set_option linter.unusedSimpArgs false
set_option linter.unusedVariables false
set_option maxHeartbeats 16000000
set_option maxRecDepth 100000
open Go.Proofs.Tryz
open IntKind (i64)
section
open Go.RowKit
section
variable {c:UInt8}{s:ByteArray}
def c1S (c:UInt8)(s:ByteArray):ByteArray:=if ixQ c s = -1 then s else s.extract 0 (ixQ c s).toNat
def c2S (c:UInt8)(s:ByteArray):ByteArray:=if ixQ c s = -1 then ByteArray.empty else s.extract ((ixQ c s).toNat+1) s.size
theorem cs_miss (h:ixQ c s = -1):c1S c s=s∧c2S c s=ByteArray.empty:=by rw[c1S,c2S,if_pos h,if_pos h];exact⟨rfl,rfl⟩
theorem cs_hit {i:Nat}(h:ixQ c s=i):c1S c s=s.extract 0 i∧c2S c s=s.extract (i+1) s.size:=by
 have h1:¬ixQ c s = -1:=by omega
 have h2:(ixQ c s).toNat=i:=by omega
 rw[c1S,c2S,if_neg h1,if_neg h1,h2];exact⟨rfl,rfl⟩
theorem cc_two {i:Nat}(h:ixQ c s=i):cutC c s=c1S c s :: cutC c (c2S c s):=by rw[cc_hit h,(cs_hit h).1,(cs_hit h).2]
theorem cs_join {i:Nat}(h:ixQ c s=i):s.data.toList=(c1S c s).data.toList++c :: (c2S c s).data.toList:=by
 have hi:=ixq_len s h;rw[(cs_hit h).1,(cs_hit h).2,Lib.extract_data,Lib.extract_to_end];have hg:=(Lib.indexByte_some h).1;have hlt:i<s.data.toList.length:=by rw[←Lib.size_eq];exact hi
 have hd:s.data.toList.drop i=c :: s.data.toList.drop (i+1):=by
  rw[List.drop_eq_getElem_cons hlt];rw[List.getElem?_eq_getElem hlt] at hg;rw[Option.some.inj hg]
 simp only[Nat.sub_zero,List.drop_zero];rw[←hd,List.take_append_drop]
theorem cs_size:(c1S c s).size≤s.size∧(c2S c s).size≤s.size:=by
 rcases ixq_cases c s with h | ⟨i,h,hi⟩
 ·rw[(cs_miss h).1,(cs_miss h).2];exact⟨nLQ _,Nat.zero_le _⟩
 rw[(cs_hit h).1,(cs_hit h).2,ByteArray.size_extract,ByteArray.size_extract];omega
theorem cc_ne (c:UInt8)(s:ByteArray):∃a r,cutC c s=a :: r:=by
 match h:cutC c s with
 | []=>have:=(cc_len c s).1;rw[h] at this;simp at this
 | a :: r=>exact⟨a,r,rfl⟩
theorem cc_ge2 {i:Nat}(h:ixQ c s=i):∃a b r,cutC c s=a :: b :: r:=by
 obtain⟨a,r,e⟩:=cc_ne c (c2S c s);exact⟨_,_,_,by rw[cc_two h,e]⟩
theorem ix_mem {i:Nat}(h:ixQ c s=i):c∈s.data.toList:=by rw[cs_join h];simp
end
theorem a_c (s:ByteArray):cutA s=cutC 32 s:=by
 have:∀(k:Nat) (s:ByteArray),cutB k s=cutK 32 k s:=by
  intro k
  induction k with
  | zero=>intro s;rfl
  | succ k ih =>
    intro s;rw[cutB,cutK,ih];rfl
 exact this _ s
theorem dc_dig {s:ByteArray}(h:dcOk s=true):∀x∈s.data.toList,48≤x.toNat∧x.toNat≤57:=by
 intro x hx;obtain⟨j,hj,e⟩:=List.getElem_of_mem hx;rw[dcOk,Bool.and_eq_true] at h;have h1:=dg_le (s:=s) (k:=j) (by rw[Lib.size_eq];exact hj) h.2;have h2:byteN s j=x.toNat:=byC_of (by rw[List.getElem?_eq_getElem hj,e]);rw[h2] at h1;simpa[digB] using h1
theorem dc_mem {s:ByteArray}{x:UInt8}(hx:x∈s.data.toList)(hn:¬(48≤x.toNat∧x.toNat≤57)):dcOk s=false:=by
 cases e:dcOk s
 ·rfl
 exact absurd (dc_dig e x hx) hn
theorem dc_emp:dcOk ByteArray.empty=false:=by decide
def spP (s:ByteArray):Bool:=dcOk (c1S 46 s)&&dcOk (c2S 46 s)
def xpV (s:ByteArray):Int×Int:=(dcN (c1S 46 s),dcN (c2S 46 s))
theorem sp_prog (s:ByteArray):spO s=if spP s=true then some (xpV s) else none:=by
 unfold spO spP xpV
 rcases ixq_cases 46 s with h | ⟨i,h,hi⟩
 ·rw[cc_miss h,(cs_miss h).2,dc_emp];simp
 rw[cc_two h]
 rcases ixq_cases 46 (c2S 46 s) with h2 | ⟨j,h2,hj⟩
 ·rw[cc_miss h2]
 obtain⟨a,b,r,e⟩:=cc_ge2 h2;rw[e,dc_mem (s:=c2S 46 s) (ix_mem h2) (by decide)];simp
theorem sp_mem {s:ByteArray}(h:(32:UInt8)∈s.data.toList):spP s=false:=by
 unfold spP
 rcases ixq_cases 46 s with e | ⟨i,e,hi⟩
 ·rw[(cs_miss e).2,dc_emp,Bool.and_false]
 rw[cs_join e,List.mem_append,List.mem_cons] at h
 rcases h with h | h | h
 ·rw[dc_mem h (by decide),Bool.false_and]
 ·cases h
 rw[dc_mem h (by decide),Bool.and_false]
theorem sp_emp:spP ByteArray.empty=false:=by
 unfold spP;rw[(cs_miss (c:=46) (s:=ByteArray.empty) rfl).2,dc_emp,Bool.and_false]
section
variable {d:RdT}{s:ByteArray}
theorem ln_word:∃p,cutA s=c1S 32 s :: p∧((ixQ 32 s = -1∧p=[]∧c1S 32 s=s∧c2S 32 s=ByteArray.empty)∨(∃i:Nat,ixQ 32 s=i)∧p=cutA (c2S 32 s)):=by
 rcases ixq_cases 32 s with h | ⟨i,h,hi⟩
 ·exact⟨[],by rw[a_c,cc_miss h,(cs_miss h).1],.inl ⟨h,rfl,(cs_miss h).1,(cs_miss h).2⟩⟩
 exact⟨cutA (c2S 32 s),by rw[a_c,cc_two h,←a_c],.inr ⟨⟨i,h⟩,rfl⟩⟩
theorem lp_sw (hw:c1S 32 s=swcS):lnO d s=if (decide (d.ph<0)&&dcOk (c2S 32 s))=true then some { d with S:=dcN (c2S 32 s),ph:=0 } else none:=by
 obtain⟨p,e,h | ⟨⟨i,hi⟩,h⟩⟩:=ln_word (s:=s)
 ·rw[lnO,e,h.2.1,hw,h.2.2.2,dc_emp];simp
 rw[lnO,e,h,hw]
 generalize c2S 32 s=r
 simp only[if_true];obtain⟨q,e2,h2 | ⟨⟨j,hj⟩,h2⟩⟩:=ln_word (s:=r)
 ·rw[e2,h2.2.1,h2.2.2.1]
 obtain⟨x,y,e3⟩:=cc_ne 32 (c2S 32 r);rw[e2,h2,a_c,e3,dc_mem (ix_mem hj) (by decide)];simp
theorem lp_lk (hw:c1S 32 s=lnkS):lnO d s=if (phB d 1&&(spP (c1S 32 (c2S 32 s))&&spP (c2S 32 (c2S 32 s))))=true then some { d with Ls:=d.Ls++[(xpV (c1S 32 (c2S 32 s)),xpV (c2S 32 (c2S 32 s)))],ph:=1 } else none:=by
 obtain⟨p,e,h | ⟨⟨i,hi⟩,h⟩⟩:=ln_word (s:=s)
 ·rw[lnO,e,h.2.1,hw,h.2.2.2];rw[(cs_miss (c:=32) (s:=ByteArray.empty) rfl).2,sp_emp,Bool.and_false,Bool.and_false];simp[kw_ne.1]
 rw[lnO,e,h,hw]
 generalize c2S 32 s=r
 simp only[if_true,kw_ne.1,if_false];obtain⟨q,e2,h2 | ⟨⟨j,hj⟩,h2⟩⟩:=ln_word (s:=r)
 ·rw[e2,h2.2.1,h2.2.2.2,sp_emp];simp
 rw[e2,h2]
 generalize c1S 32 r=a
 generalize c2S 32 r=b
 obtain⟨q2,e3,h3 | ⟨⟨j3,hj3⟩,h3⟩⟩:=ln_word (s:=b)
 ·rw[e3,h3.2.1,h3.2.2.1];simp only[];rw[sp_prog a,sp_prog b];cases spP a <;> cases spP b <;> simp
 obtain⟨x,y,e4⟩:=cc_ne 32 (c2S 32 b);rw[e3,h3,a_c,e4,sp_mem (ix_mem hj3),Bool.and_false,Bool.and_false];simp
theorem lp_ho (hw:c1S 32 s=hosS):lnO d s=if (phB d 2&&spP (c2S 32 (c2S 32 s)))=true then some { d with Hs:=d.Hs++[(c1S 32 (c2S 32 s),xpV (c2S 32 (c2S 32 s)))],ph:=2 } else none:=by
 obtain⟨p,e,h | ⟨⟨i,hi⟩,h⟩⟩:=ln_word (s:=s)
 ·rw[lnO,e,h.2.1,hw,h.2.2.2];rw[(cs_miss (c:=32) (s:=ByteArray.empty) rfl).2,sp_emp,Bool.and_false];simp[kw_ne.2.1,kw_ne.2.2.1]
 rw[lnO,e,h,hw]
 generalize c2S 32 s=r
 simp only[if_true,kw_ne.2.1,kw_ne.2.2.1,if_false];obtain⟨q,e2,h2 | ⟨⟨j,hj⟩,h2⟩⟩:=ln_word (s:=r)
 ·rw[e2,h2.2.1,h2.2.2.2,sp_emp];simp
 rw[e2,h2]
 generalize c1S 32 r=a
 generalize c2S 32 r=b
 obtain⟨q2,e3,h3 | ⟨⟨j3,hj3⟩,h3⟩⟩:=ln_word (s:=b)
 ·rw[e3,h3.2.1,h3.2.2.1];simp only[];rw[sp_prog b];cases spP b <;> simp
 obtain⟨x,y,e4⟩:=cc_ne 32 (c2S 32 b);rw[e3,h3,a_c,e4,sp_mem (ix_mem hj3),Bool.and_false];simp
theorem pa_emp:paN (cutB 6 ByteArray.empty)=2:=by decide
theorem rlO_of (t:ByteArray):rlO (cutA t)=if paN (cutB 6 t)=0 then some ⟨rP (cutB 6 t),rM (cutB 6 t),rB (cutB 6 t),rO (cutB 6 t),rS (cutB 6 t),rV (cutB 6 t)⟩ else none:=by
 obtain⟨e1,e2⟩:=pa_cut t;unfold rlO;rw[←e1];by_cases h:paN (cutB 6 t)=0
 ·rw[if_pos h,if_pos h];rw[paV_yes h,paV_yes (e1.symm.trans h)] at e2;have h3:(rP (cutB 6 t)=rP (cutA t)∧rM (cutB 6 t)=rM (cutA t)∧rB (cutB 6 t)=rB (cutA t)∧rO (cutB 6 t)=rO (cutA t)∧rS (cutB 6 t)=rS (cutA t)∧rV (cutB 6 t)=rV (cutA t)):=by simpa using e2
  rw[h3.1,h3.2.1,h3.2.2.1,h3.2.2.2.1,h3.2.2.2.2.1,h3.2.2.2.2.2]
 rw[if_neg h,if_neg h]
def ruT (t:ByteArray):Ru:=⟨rP (cutB 6 t),rM (cutB 6 t),rB (cutB 6 t),rO (cutB 6 t),rS (cutB 6 t),rV (cutB 6 t)⟩
def raB (d:RdT)(a:ByteArray):Bool:=dcOk a&&(decide (1≤dcN a)&&(decide (dcN a≤6)&&decide ((d.Ts.length:Int)≤dcN a)))
theorem lp_rl (hw:c1S 32 s=rulS):lnO d s=if (phB d 3&&(raB d (c1S 32 (c2S 32 s))&&decide (paN (cutB 6 (c2S 32 (c2S 32 s)))=0)))=true then some { d with Ts:=tbP d.Ts (dcN (c1S 32 (c2S 32 s))).toNat (ruT (c2S 32 (c2S 32 s))),ph:=3 } else none:=by
 obtain⟨p,e,h | ⟨⟨i,hi⟩,h⟩⟩:=ln_word (s:=s)
 ·rw[lnO,e,h.2.1,hw,h.2.2.2];rw[(cs_miss (c:=32) (s:=ByteArray.empty) rfl).2,pa_emp];simp[kw_ne.2.2.2.1,kw_ne.2.2.2.2.1,kw_ne.2.2.2.2.2]
 rw[lnO,e,h,hw]
 generalize c2S 32 s=r
 simp only[if_true,kw_ne.2.2.2.1,kw_ne.2.2.2.2.1,kw_ne.2.2.2.2.2,if_false];obtain⟨q,e2,h2 | ⟨⟨j,hj⟩,h2⟩⟩:=ln_word (s:=r)
 ·rw[e2,h2.2.1,h2.2.2.2,pa_emp];simp only[];rw[show rlO []=none from rfl];simp
 rw[e2,h2]
 generalize c1S 32 r=a
 generalize c2S 32 r=b
 simp only[];rw[rlO_of b];have hE:(dcOk a&&(decide (1≤dcN a)&&(decide (dcN a≤6)&&(decide ((d.Ts.length:Int)≤dcN a)&&phB d 3))))=(phB d 3&&raB d a):=by
  unfold raB;cases phB d 3 <;> cases dcOk a <;> simp
 rw[hE];by_cases h0:paN (cutB 6 b)=0
 ·rw[if_pos h0,decide_eq_true h0];cases phB d 3 <;> cases raB d a <;> rfl
 rw[if_neg h0,decide_eq_false h0];cases phB d 3 <;> cases raB d a <;> rfl
theorem lp_wi (h1:c1S 32 s≠swcS)(h2:c1S 32 s≠lnkS)(h3:c1S 32 s≠hosS)(h4:c1S 32 s≠rulS):lnO d s=(match rdO s with | some x=>if phB d 4=true then some { d with ws:=d.ws++[x],ph:=4 } else none | none=>none):=by
 obtain⟨p,e,_⟩:=ln_word (s:=s);rw[lnO,e]
 first | (simp only[h1,h2,h3,h4,if_false];done) | (simp only[h1,h2,h3,h4,if_false];cases rdO s <;> rfl)
end
def pzL:List ByteArray→List ByteArray
 | []=>[]
 | [z]=>if z.size=0 then [] else [z]
 | a :: b :: r=>(a++chW 10) :: pzL (b :: r)
def pcS (s:ByteArray):List ByteArray:=pzL (cutC 10 s)
theorem pc_nil {s:ByteArray}(h:s.size=0):pcS s=[]:=by
 rw[sz_0 h];rfl
theorem pc_hit {s:ByteArray}{i:Nat}(h:ixQ 10 s=i):pcS s=s.extract 0 (i+1) :: pcS (s.extract (i+1) s.size):=by
 obtain⟨a,r,e⟩:=cc_ne 10 (s.extract (i+1) s.size);rw[pcS,cc_hit h,e,pzL,←e,←pcS]
 congr 1
 have hi:=ixq_len s h;have hg:=(Lib.indexByte_some h).1
 apply wa_ext
 rw[wa_app,chW_lst,Lib.extract_data,Lib.extract_data];have hlt:i<s.data.toList.length:=by rw[←Lib.size_eq];exact hi
 rw[List.getElem?_eq_getElem hlt] at hg;simp only[Nat.sub_zero,List.drop_zero];rw[←Option.some.inj hg,List.take_append_getElem]
theorem pc_miss {s:ByteArray}(h:ixQ 10 s = -1)(h0:s.size≠0):pcS s=[s]:=by
 rw[pcS,cc_miss h,pzL,if_neg h0]
theorem cc_no (c:UInt8):∀(k:Nat) (s:ByteArray),s.size≤k→∀a∈cutK c k s,c ∉ a.data.toList:=by
 have miss:∀{s:ByteArray},ixQ c s = -1→c ∉ s.data.toList:=fun {s} h hm=>by
  obtain⟨j,hj,e⟩:=List.getElem_of_mem hm;exact Lib.indexByte_none h j (by rw[List.getElem?_eq_getElem hj,e])
 intro k
 induction k with
 | zero =>
   intro s hs a ha hc
   rcases ixq_cases c s with h | ⟨i,h,hi⟩
   ·rw[ck_miss _ h,List.mem_singleton] at ha;exact miss h (ha ▸ hc)
   omega
 | succ k ih =>
   intro s hs a ha hc
   rcases ixq_cases c s with h | ⟨i,h,hi⟩
   ·rw[ck_miss _ h,List.mem_singleton] at ha;exact miss h (ha ▸ hc)
   rw[ck_hit _ h,List.mem_cons] at ha
   rcases ha with rfl | ha
   ·rw[Lib.extract_data] at hc;simp only[Nat.sub_zero,List.drop_zero] at hc;obtain⟨j,hj,e⟩:=List.getElem_of_mem hc;rw[List.length_take] at hj;refine (Lib.indexByte_some h).2 j (by omega) ?_;rw[List.getElem_take] at e;rw[List.getElem?_eq_getElem (by omega),e]
   exact ih _ (by rw[ByteArray.size_extract];omega) a ha hc
def enB (p:ByteArray):Bool:=decide (1≤p.size)&&decide (p.extract (p.size-1) p.size=⟨#[10]⟩)
def tkO (d:RdT)(p:ByteArray):Option RdT:=if enB p=true then lnO d (p.extract 0 (p.size-1)) else none
theorem en_yes (a:ByteArray):enB (a++chW 10)=true∧(a++chW 10).extract 0 ((a++chW 10).size-1)=a:=by
 have hs:(a++chW 10).size=a.size+1:=ByteArray.size_append ..;have e:(a++chW 10).data.toList=a.data.toList++[10]:=by rw[wa_app,chW_lst]
 have hl:=Lib.size_eq a;constructor
 ·rw[enB,hs,decide_eq_true (show 1≤a.size+1 by omega),Bool.true_and,decide_eq_true_eq]
  apply wa_ext
  rw[←hs,Lib.extract_to_end,hs,e,Nat.add_sub_cancel,hl];simp
 apply wa_ext
 rw[Lib.extract_data,hs,e,Nat.add_sub_cancel,hl];simp
theorem en_no {p:ByteArray}(h:(10:UInt8) ∉ p.data.toList):enB p=false:=by
 cases e:enB p
 ·rfl
 exfalso
 rw[enB,Bool.and_eq_true,decide_eq_true_eq,decide_eq_true_eq] at e;have e2:=congrArg (fun x:ByteArray=>x.data.toList) e.2;simp only at e2;rw[Lib.extract_to_end] at e2;have:(10:UInt8)∈p.data.toList.drop (p.size-1):=by rw[e2];decide
 exact h (List.mem_of_mem_drop this)
def tsO:RdT→List ByteArray→RdT ⊕ Nat
 | d,[]=>.inl d
 | d,s :: l=>match tkO d s with
   | some e=>(match tsO e l with | .inl x=>.inl x | .inr k=>.inr (k+1))
   | none=>.inr 0
theorem tk_line (d:RdT)(a:ByteArray):tkO d (a++chW 10)=lnO d a:=by rw[tkO,if_pos (en_yes a).1,(en_yes a).2]
theorem ts_ls {z:ByteArray}(hz:(10:UInt8) ∉ z.data.toList):∀(l:List ByteArray) (d:RdT),tsO d (pzL (l++[z]))=(match lsO d l with | .inr k=>.inr k | .inl e=>if z.size=0 then .inl e else .inr l.length)
 | [],d=>by
   show tsO d (if z.size=0 then [] else [z])=if z.size=0 then .inl d else .inr 0
   by_cases h:z.size=0
   ·rw[if_pos h,if_pos h];rfl
   rw[if_neg h,if_neg h,tsO,tkO,en_no hz];rfl
 | a :: l,d=>by
   obtain⟨x,y,e⟩:∃x y,l++[z]=x :: y:=by
    cases l with
    | nil=>exact⟨_,_,rfl⟩
    | cons b l=>exact⟨_,_,rfl⟩
   rw[List.cons_append,e,pzL,←e,tsO,tk_line,lsO];cases h:lnO d a with
   | none=>rfl
   | some f =>
     simp only;rw[ts_ls hz l f];cases lsO f l with
     | inr k=>rfl
     | inl g =>
       simp only;by_cases h0:z.size=0
       ·rw[if_pos h0,if_pos h0]
       rw[if_neg h0,if_neg h0];rfl
theorem ts_rt (s:ByteArray):tsO rd0 (pcS s)=(match lsO rd0 (rtL s) with | .inr k=>.inr k | .inl e=>if (rtZ s).size=0 then .inl e else .inr (rtL s).length):=by
 rw[pcS,rt_cut s];refine ts_ls ?_ _ _;have:rtZ s∈cutC 10 s:=by rw[rt_cut s];simp
 exact cc_no 10 _ s (nLQ _) _ this
theorem ts_app:∀(l m:List ByteArray) (d:RdT),tsO d (l++m)=match tsO d l with | .inl e=>(match tsO e m with | .inl x=>.inl x | .inr k=>.inr (l.length+k)) | .inr k=>.inr k
 | [],m,d=>by
   rw[List.nil_append,show tsO d []=.inl d from rfl];cases h:tsO d m <;> simp[h]
 | s :: l,m,d=>by
   rw[List.cons_append,tsO,tsO];cases h:tkO d s with
   | none=>rfl
   | some e =>
     simp only;rw[ts_app l m e];cases tsO e l with
     | inr k=>rfl
     | inl x =>
       simp only;cases tsO x m with
       | inl y=>rfl
       | inr k=>simp only[List.length_cons];congr 1;omega
def PhI (d:RdT):Prop := -1≤d.ph∧d.ph≤4∧(d.ph<0→d=rd0)∧0≤d.S∧d.Ts.length≤6
theorem ph_0:PhI rd0:=⟨by decide,by decide,fun _=>rfl,by decide,by decide⟩
theorem dcN_ge {s:ByteArray}:0≤dcN s:=by
 have:∀n,(dgTo s n=true)→0≤dcTo s n:=by
  intro n
  induction n with
  | zero=>intro _;exact Int.le_refl _
  | succ n ih =>
    intro h;rw[dgTo,Bool.and_eq_true] at h;have h1:=ih h.1;have h2:48≤byteN s n:=by
     have:=h.2;simp only[digB,Bool.and_eq_true,decide_eq_true_eq] at this;exact this.1
    rw[dcTo];omega
 unfold dcN;by_cases h:dcOk s=true
 ·rw[if_pos h];rw[dcOk,Bool.and_eq_true] at h;exact this _ h.2
 rw[if_neg h];exact Int.le_refl _
theorem dr_types:((57≠59∧57≠50∧57≠48∧57≠64)∧(59≠57∧59≠50∧59≠48∧59≠64))∧((50≠57∧50≠59∧50≠48∧50≠64)∧((48≠57∧48≠59∧48≠50)∧48≠64))∧((64≠57∧64≠59∧64≠50)∧48≠64∧48≠57∧48≠59∧48≠50):=by decide
def DrX (v1 v2 v3 v7:Value)(vs:List SlT)(b:Nat):Prop:=v1.ownBlock=some b∨v2.ownBlock=some b∨v3.ownBlock=some b∨v7.ownBlock=some b∨∃x∈vs,(slV x).ownBlock=some b
theorem ownKb {W W':World}{B e size n:Nat}{v:Value}{xs:List Value}{p:Nat→Prop}(h:W.ownsRow B e size v n xs)(hk:Kb p W W')(hp:∀g,v.ownBlock=some g→p g):W'.ownsRow B e size v n xs:=by
 refine⟨h.1,?_⟩
 rcases h.2 with ⟨rfl,rfl⟩ | ⟨g,cap,cur,rfl,h1,hg,h2⟩
 ·exact .inl ⟨rfl,rfl⟩
 exact .inr ⟨g,cap,cur,rfl,h1,(hk.block g (Array.getElem?_eq_some_iff.1 hg).1 (hp g rfl)).trans hg,h2⟩
theorem OO.kb {α:Type}{E:Enc α}{tO tI:TypeId}{W W':World}{B:Nat}{v:Value}{vs:List SlT}{Ts:List (List α)}{p:Nat→Prop}(h:OO E tO tI W B v vs Ts)(hk:Kb p W W')(hp:∀g,v.ownBlock=some g→p g)(hq:∀x∈vs,∀g,(slV x).ownBlock=some g→p g):OO E tO tI W' B v vs Ts:=
 ⟨ownKb h.ov hk hp,h.lv,fun i x L h1 h2=>ownKb (h.rv i x L h1 h2) hk (hq x (List.mem_of_getElem? h1)),h.dv⟩
structure DrB (W:World)(gd B:Nat)(d:RdT)(a l:Int)(v1 v2 v3 v7:Value)(vs:List SlT):Prop where
 m:RdM W gd B d v1 v2 v3 v7 vs
 c4:W.cell? ⟨gd,4,none⟩=some v7
 c5:W.cell? ⟨gd,5,none⟩=some (.int i64 a)
 c6:W.cell? ⟨gd,6,none⟩=some (.int i64 l)
section
variable {W W':World}{gd B:Nat}{d:RdT}{a l:Int}{v1 v2 v3 v7:Value}{vs:List SlT}
theorem RdM.kb {p:Nat→Prop}(m:RdM W gd B d v1 v2 v3 v7 vs)(hk:Kb p W W')(h0:p gd)(hp:∀b,DrX v1 v2 v3 v7 vs b→p b):RdM W' gd B d v1 v2 v3 v7 vs:=
 ⟨m.gB,⟨hk.at m.c.1 h0,hk.at m.c.2.1 h0,hk.at m.c.2.2.1 h0,hk.at m.c.2.2.2 h0⟩,fun i=>by rw[hk.frozen (q:=⟨gd,i,none⟩) m.lt h0];exact m.f i,ownKb m.l hk fun g h=>hp g (.inl h),ownKb m.h hk fun g h=>hp g (.inr (.inl h)),m.t.kb hk (fun g h=>hp g (.inr (.inr (.inl h)))) (fun x hx g h=>hp g (.inr (.inr (.inr (.inr ⟨x,hx,h⟩))))),ownKb m.w hk fun g h=>hp g (.inr (.inr (.inr (.inl h))))⟩
theorem DrB.kb {p:Nat→Prop}(m:DrB W gd B d a l v1 v2 v3 v7 vs)(hk:Kb p W W')(h0:p gd)(hp:∀b,DrX v1 v2 v3 v7 vs b→p b):DrB W' gd B d a l v1 v2 v3 v7 vs:=
 ⟨m.m.kb hk h0 hp,hk.at m.c4 h0,hk.at m.c5 h0,hk.at m.c6 h0⟩
theorem DrB.later (m:DrB W gd B d a l v1 v2 v3 v7 vs)(hb:Below W.heap.size W W'):DrB W' gd B d a l v1 v2 v3 v7 vs:=m.kb (p:=fun _=>True) (Kb.of_below hb fun _ h _=>h) trivial fun _ _=>trivial
theorem DrB.lt (m:DrB W gd B d a l v1 v2 v3 v7 vs):gd<W.heap.size:=m.m.lt
theorem RdM.xlt (m:RdM W gd B d v1 v2 v3 v7 vs){b:Nat}(h:DrX v1 v2 v3 v7 vs b):B≤b∧b<W.heap.size:=by
 rcases h with h | h | h | h | ⟨x,hx,h⟩
 ·exact m.l.lt b h
 ·exact m.h.lt b h
 ·exact m.t.ov.lt b h
 ·exact m.w.lt b h
 obtain⟨i,hi,e1⟩:=List.getElem_of_mem hx;have hi2:i<d.Ts.length:=by rw[←m.t.lv];exact hi
 exact (m.t.rv i x _ (by rw[List.getElem?_eq_getElem hi,e1]) (List.getElem?_eq_getElem hi2)).lt b h
theorem DrB.xlt (m:DrB W gd B d a l v1 v2 v3 v7 vs){b:Nat}(h:DrX v1 v2 v3 v7 vs b):B≤b∧b<W.heap.size:=m.m.xlt h
theorem RdM.off (m:RdM W gd B d v1 v2 v3 v7 vs){j:Nat}(hj:4≤j)(u:Value):RdM (W.setCell ⟨gd,j,none⟩ u) gd B d v1 v2 v3 v7 vs:=by
 obtain⟨c0,c1,c2,c3⟩:=m.c;refine⟨m.gB,⟨?_,?_,?_,?_⟩,fun i=>by simpa using m.f i,row_low m.l m.gB,row_low m.h m.gB,m.t.low (grown_set W gd j _) m.gB,row_low m.w m.gB⟩
 ·rw[World.cell?_setCell_other _ _ _ _ (by simp <;> omega)];exact c0
 ·rw[World.cell?_setCell_other _ _ _ _ (by simp <;> omega)];exact c1
 ·rw[World.cell?_setCell_other _ _ _ _ (by simp <;> omega)];exact c2
 rw[World.cell?_setCell_other _ _ _ _ (by simp <;> omega)];exact c3
theorem DrB.set5 (m:DrB W gd B d a l v1 v2 v3 v7 vs)(k:Int):DrB (W.setCell ⟨gd,5,none⟩ (.int i64 k)) gd B d k l v1 v2 v3 v7 vs:=by
 refine⟨m.m.off (by omega) _,?_,World.cell?_setCell_same _ _ _ m.c5,?_⟩
 ·rw[World.cell?_setCell_other _ _ _ _ (by simp)];exact m.c4
 rw[World.cell?_setCell_other _ _ _ _ (by simp)];exact m.c6
theorem DrB.set6 (m:DrB W gd B d a l v1 v2 v3 v7 vs)(k:Int):DrB (W.setCell ⟨gd,6,none⟩ (.int i64 k)) gd B d a k v1 v2 v3 v7 vs:=by
 refine⟨m.m.off (by omega) _,?_,?_,World.cell?_setCell_same _ _ _ m.c6⟩
 ·rw[World.cell?_setCell_other _ _ _ _ (by simp)];exact m.c4
 rw[World.cell?_setCell_other _ _ _ _ (by simp)];exact m.c5
theorem kb_box {p:Nat→Prop}(hp:¬p gd)(j:Nat)(u:Value)(h:Kb p W W'):Kb p W (W'.setCell ⟨gd,j,none⟩ u):=h.setCell (q:=⟨gd,j,none⟩) (fun _=>hp) u
theorem DrB.rest (m:DrB W gd B d a l v1 v2 v3 v7 vs){row:Option Nat}(hg:W.grownBy W' row)(hne:some gd≠row){j:Nat}(hj:j<4)(u:Value):
 (W'.setCell ⟨gd,j,none⟩ u).cell? ⟨gd,4,none⟩=some v7∧(W'.setCell ⟨gd,j,none⟩ u).cell? ⟨gd,5,none⟩=some (.int i64 a)∧(W'.setCell ⟨gd,j,none⟩ u).cell? ⟨gd,6,none⟩=some (.int i64 l):=by
 refine⟨?_,?_,?_⟩
 ·rw[World.cell?_setCell_other _ _ _ _ (by simp <;> omega)];exact hg.cell m.c4 hne
 ·rw[World.cell?_setCell_other _ _ _ _ (by simp <;> omega)];exact hg.cell m.c5 hne
 rw[World.cell?_setCell_other _ _ _ _ (by simp <;> omega)];exact hg.cell m.c6 hne
theorem DrB.addL (m:DrB W gd B d a l v1 v2 v3 v7 vs){x:(Int×Int)×(Int×Int)}{u:Value}(hg:W.grownBy W' v1.ownBlock)(ho:W'.ownsRow B 57 lnkE.n u (d.Ls++[x]).length (cellsG lnkE (d.Ls++[x]))):
 DrB (W'.setCell ⟨gd,1,none⟩ u) gd B { d with Ls:=d.Ls++[x] } a l u v2 v3 v7 vs:=by
 obtain⟨h4,h5,h6⟩:=m.rest hg (row_ne m.m.l m.m.gB) (j:=1) (by omega) u;exact⟨m.m.addL dr_types.1.1 hg ho,h4,h5,h6⟩
theorem DrB.addH (m:DrB W gd B d a l v1 v2 v3 v7 vs){x:ByteArray×(Int×Int)}{u:Value}(hg:W.grownBy W' v2.ownBlock)(ho:W'.ownsRow B 59 hstE.n u (d.Hs++[x]).length (cellsG hstE (d.Hs++[x]))):
 DrB (W'.setCell ⟨gd,2,none⟩ u) gd B { d with Hs:=d.Hs++[x] } a l v1 u v3 v7 vs:=by
 obtain⟨h4,h5,h6⟩:=m.rest hg (row_ne m.m.h m.m.gB) (j:=2) (by omega) u;exact⟨m.m.addH dr_types.1.2 hg ho,h4,h5,h6⟩
theorem DrB.addT (m:DrB W gd B d a l v1 v2 v3 v7 vs){u:Value}(hg:W.grownBy W' v3.ownBlock)(ho:W'.ownsRow B 48 slE.n u (vs++[((none,0,0):SlT)]).length (cellsG slE (vs++[((none,0,0):SlT)]))):
 DrB (W'.setCell ⟨gd,3,none⟩ u) gd B { d with Ts:=d.Ts++[[]] } a l v1 v2 u v7 (vs++[(none,0,0)]):=by
 obtain⟨h4,h5,h6⟩:=m.rest hg (row_ne m.m.t.ov m.m.gB) (j:=3) (by omega) u;exact⟨m.m.addT dr_types.2.1.2 hg ho,h4,h5,h6⟩
theorem DrB.addW (m:DrB W gd B d a l v1 v2 v3 v7 vs){x:Wi}{u:Value}(hg:W.grownBy W' v7.ownBlock)(ho:W'.ownsRow B 50 wisE.n u (d.ws++[x]).length (cellsG wisE (d.ws++[x]))):
 DrB (W'.setCell ⟨gd,4,none⟩ u) gd B { d with ws:=d.ws++[x] } a l v1 v2 v3 u vs:=by
 have hne:=row_ne m.m.w m.m.gB;refine⟨(m.m.addW dr_types.2.1.1 hg ho).off (by omega) _,World.cell?_setCell_same _ _ _ (hg.cell m.c4 hne),?_,?_⟩
 ·rw[World.cell?_setCell_other _ _ _ _ (by simp)];exact hg.cell m.c5 hne
 rw[World.cell?_setCell_other _ _ _ _ (by simp)];exact hg.cell m.c6 hne
theorem DrB.addR {g n cap i:Nat}(m:DrB W gd B d a l v1 v2 (.slice (some ⟨g,0,none⟩) n cap) v7 vs){x y:SlT}{L:List Ru}{r:Ru}(hx:vs[i]?=some x)(hL:d.Ts[i]?=some L)
 (hg:W.grownBy W' (slV x).ownBlock) (ho:W'.ownsRow B 64 rlE.n (slV y) (L++[r]).length (cellsG rlE (L++[r]))) (hb:(slV y).ownBlock=(slV x).ownBlock∨(slV y).ownBlock=some W.heap.size):
 DrB (W'.setCell ⟨g,i,none⟩ (slV y)) gd B { d with Ts:=d.Ts.set i (L++[r]) } a l v1 v2 (.slice (some ⟨g,0,none⟩) n cap) v7 (vs.set i y):=by
 have hne:=row_ne (m.m.t.rv i x L hx hL) m.m.gB;have hB:B≤g:=(m.m.t.ov.lt g rfl).1;have hgB:=m.m.gB;have hoff:∀j:Nat,(⟨gd,j,none⟩:Addr)≠⟨g,i,none⟩:=fun j e=>by
  have:gd=g:=congrArg Addr.block e;omega
 refine⟨m.m.addR dr_types.2.2 hx hL hg ho hb,?_,?_,?_⟩
 ·rw[World.cell?_setCell_other _ _ _ _ (by simp <;> omega)];exact hg.cell m.c4 hne
 ·rw[World.cell?_setCell_other _ _ _ _ (by simp <;> omega)];exact hg.cell m.c5 hne
 rw[World.cell?_setCell_other _ _ _ _ (by simp <;> omega)];exact hg.cell m.c6 hne
theorem DrB.setS (m:DrB W gd B d a l v1 v2 v3 v7 vs)(s:Int):DrB (W.setCell ⟨gd,0,none⟩ (.int i64 s)) gd B { d with S:=s } a l v1 v2 v3 v7 vs:=by
 refine⟨m.m.setS s,?_,?_,?_⟩
 ·rw[World.cell?_setCell_other _ _ _ _ (by simp)];exact m.c4
 ·rw[World.cell?_setCell_other _ _ _ _ (by simp)];exact m.c5
 rw[World.cell?_setCell_other _ _ _ _ (by simp)];exact m.c6
theorem DrB.newT (m:DrB W gd B d a l v1 v2 v3 v7 vs){u:Value}{us:List SlT}{Ts:TsQ}(ho:OO rlE 48 64 W B u us Ts):DrB (W.setCell ⟨gd,3,none⟩ u) gd B { d with Ts:=Ts } a l v1 v2 u v7 us:=by
 obtain⟨c0,c1,c2,c3⟩:=m.m.c;refine⟨⟨m.m.gB,⟨?_,?_,?_,World.cell?_setCell_same _ _ _ c3⟩,fun i=>by simpa using m.m.f i,row_low m.m.l m.m.gB,row_low m.m.h m.m.gB,ho.low (grown_set W gd 3 _) m.m.gB,row_low m.m.w m.m.gB⟩,?_,?_,?_⟩
 ·rw[World.cell?_setCell_other _ _ _ _ (by simp)];exact c0
 ·rw[World.cell?_setCell_other _ _ _ _ (by simp)];exact c1
 ·rw[World.cell?_setCell_other _ _ _ _ (by simp)];exact c2
 ·rw[World.cell?_setCell_other _ _ _ _ (by simp)];exact m.c4
 ·rw[World.cell?_setCell_other _ _ _ _ (by simp)];exact m.c5
 rw[World.cell?_setCell_other _ _ _ _ (by simp)];exact m.c6
theorem oo_made {W:World}{B k g:Nat}(h:W.ownsRow B 48 slE.n (.slice (some ⟨g,0,none⟩) k k) k (cellsG slE (List.replicate k ((none,0,0):SlT)))):OO rlE 48 64 W B (.slice (some ⟨g,0,none⟩) k k) (List.replicate k (none,0,0)) (List.replicate k []):=by
 refine⟨by rw[List.length_replicate];exact h,by simp,fun i x L h1 h2=>?_,fun i j x y b _ h1 h2 e1=>?_⟩
 ·rw[List.getElem?_replicate] at h1 h2
  split at h1
  ·rename_i hi
   rw[if_pos hi] at h2;cases h1;cases h2;exact World.ownsRow_nil _ _ _ _
  cases h1
 rw[List.getElem?_replicate] at h1
 split at h1
 ·cases h1;cases e1
 cases h1
end
def DrQ (W:World)(gd B:Nat)(a l:Int)(X:Nat→Prop)(d:RdT)(W':World):Prop:=∃u1 u2 u3 u7 us,DrB W' gd B d a l u1 u2 u3 u7 us∧∀b,DrX u1 u2 u3 u7 us b→X b∨W.heap.size≤b
def pdT (S:Int)(Ts:TsQ):TsQ:=Ts++List.replicate ((min S 6).toNat-Ts.length) []
theorem pd_tb {S:Int}{Ts:TsQ}{m:Nat}{r:Ru}(h1:1≤m)(hT:Ts.length≤m):((pdT S Ts++List.replicate (m-(pdT S Ts).length) []).set (m-1) ((pdT S Ts++List.replicate (m-(pdT S Ts).length) []).getD (m-1) []++[r]))=pdT S (tbP Ts m r):=by
 obtain⟨k,hk⟩:∃k,(min S 6).toNat=k:=⟨_,rfl⟩;obtain⟨X,hX⟩:∃X,X=Ts++List.replicate (m-Ts.length) ([]:List Ru):=⟨_,rfl⟩;have hXl:X.length=m:=by rw[hX,List.length_append,List.length_replicate];omega
 have e1:pdT S Ts++List.replicate (m-(pdT S Ts).length) []=X++List.replicate (k-m) []:=by
  rw[hX,pdT,hk,List.append_assoc,List.append_assoc,List.replicate_append_replicate,List.replicate_append_replicate]
  congr 2
  rw[List.length_append,List.length_replicate];omega
 have hi:m-1<X.length:=by omega
 rw[e1,tbP,←hX,List.set_append_left _ _ hi];have e2:(X++List.replicate (k-m) ([]:List Ru)).getD (m-1) []=X.getD (m-1) []:=by
  rw[List.getD_eq_getElem?_getD,List.getD_eq_getElem?_getD,List.getElem?_append_left hi]
 rw[e2,pdT,hk,List.length_set,hXl]
theorem pd_fi {S:Int}{Ts:TsQ}(hS:S≤6):pdT S Ts=fiT S Ts:=by
 rw[pdT,fiT,if_pos hS,show min S 6=S by omega]
theorem OO.ts {W:World}{B:Nat}{v:Value}{vs:List SlT}{Ts:TsQ}(h:OO rlE 48 64 W B v vs Ts):TS W v Ts:=by
 have hl:=h.lv;have hn:∀n:Nat,vs.length=n→Ts.length=n:=fun n e=>by omega
 rcases h.ov.2 with ⟨rfl,h0⟩ | ⟨g,cap,cur,hv,hB,hg,h1,h2,_⟩
 ·exact .inl ⟨none,0,rfl,List.length_eq_zero_iff.1 (by omega)⟩
 rw[hl] at hv h1;refine .inr ⟨g,0,cap,hv,h1,h2,fun i hi=>?_⟩;have hi2:i<vs.length:=by omega
 have hx:vs[i]?=some vs[i]:=List.getElem?_eq_getElem hi2;have hr:=h.rv i _ _ hx (List.getElem?_eq_getElem hi);have hc:=World.ownsRow.cells h.ov (g:=g) (by rw[hv];rfl) i (slV vs[i]) (by rw[sl_cells,List.getElem?_map,hx];rfl);refine⟨vs[i].1,vs[i].2.1,vs[i].2.2,?_,gs_SR (own_GS hr)⟩;rw[Nat.zero_add];by_cases h0:i=0
 ·subst h0;simpa[Addr.add,slV] using hc
 simpa[Addr.add,h0,slV] using hc
def nwsN (S:Int)(Ls:LkQ)(Hs:HoQ)(Ts:TsQ)(ws:List Wi):Int:=if ntN S Ls Hs Ts=0 then wsN S Ls Hs ws else ntN S Ls Hs Ts
theorem tcheck_any (S:Int)(ao:AdQ)(n cap:Nat)(ao2:AdQ)(n2 cap2:Nat)(ao3:AdQ)(n3 cap3:Nat)(a4:AdQ)(n4 c4:Nat)(Ls:LkQ)(Hs:HoQ)(Ts:TsQ)(ws:List Wi)(w:World)
 (hL:GS lnkE w (.slice ao n cap) Ls) (hH:GS hstE w (.slice ao2 n2 cap2) Hs) (hT:TS w (.slice ao3 n3 cap3) Ts) (hW:GS wisE w (.slice a4 n4 c4) ws):
 Calls prog 20 #[.agg #[.int i64 S,.slice ao n cap,.slice ao2 n2 cap2,.slice ao3 n3 cap3],.slice a4 n4 c4] w fun e w'=>e=.returned (noV (nwsN S Ls Hs Ts ws))∧Below w.heap.size w w':=by
 obtain⟨w0,hw0⟩:∃W,w.alloc (.cells #[.int i64 S,.slice ao n cap,.slice ao2 n2 cap2,.slice ao3 n3 cap3] 28)=W:=⟨_,rfl⟩;have hb0:Below w.heap.size w w0:=by rw[←hw0];exact (bRQ _ _).alloc (nLQ _) _
 have hx:=nebox_new w S (.slice ao n cap) (.slice ao2 n2 cap2) (.slice ao3 n3 cap3) 28;rw[hw0] at hx;have HW0:Hid (w.alloc (.cells #[.int i64 S,.slice ao n cap,.slice ao2 n2 cap2,.slice ao3 n3 cap3] 28)=w0):=hw0;have HB0:Hid (Below w.heap.size w w0):=hb0;have HX:Hid (NeBox w0 w.heap.size S (.slice ao n cap) (.slice ao2 n2 cap2) (.slice ao3 n3 cap3)):=hx;have HG:Hid (∀W,Below w.heap.size w W→GS lnkE W (.slice ao n cap) Ls∧GS hstE W (.slice ao2 n2 cap2) Hs∧TS W (.slice ao3 n3 cap3) Ts∧GS wisE W (.slice a4 n4 c4) ws):=fun W h=>⟨hL.later h,hH.later h,hT.later h,hW.later h⟩
 obtain⟨C,hC⟩:∃C,C=ntN S Ls Hs Ts:=⟨_,rfl⟩;have HC:Hid (ntN S Ls Hs Ts=C):=hC.symm;have HN:Hid (∀(n:Int),nwsN S Ls Hs Ts ws=if C=0 then wsN S Ls Hs ws else C):=fun n=>by rw[hC];rfl
 clear hL hH hT hW hw0 hb0 hx hC;obtain⟨q0,q1,q2,q3⟩:=HX.out;obtain⟨Z,hZ⟩:∃Z,Z=nwsN S Ls Hs Ts ws:=⟨_,rfl⟩;have HZ:Hid (Z=if C=0 then wsN S Ls Hs ws else C):=by show _=_;rw[hZ,HN.out 0]
 rw[←hZ];clear hZ HN;go_enter func20,ntmps20;go_upto_region 1 with fail;rw[HW0.out]
 go_wp2_with fail
 refine (ncheck_any S ao n cap ao2 n2 cap2 ao3 n3 cap3 Ls Hs Ts w0 (HG.out w0 HB0.out).1 (HG.out w0 HB0.out).2.1 (HG.out w0 HB0.out).2.2.1).mono ?_;rintro e w1 ⟨rfl,hb1⟩;rw[HC.out];have HB1:Hid (Below w.heap.size w w1):=HB0.out.trans (hb1.mono HB0.out.size);obtain⟨p0,p1,p2,p3⟩:=HX.out.later hb1;clear hb1 q0 q1 q2 q3;by_cases h0:C=0
 ·have e:Z=wsN S Ls Hs ws:=by rw[HZ.out,if_pos h0]
  subst h0;have HE:Hid (Z=wsN S Ls Hs ws):=e;clear e;rw[show noV 0=.nilIface from rfl]
  go_wp2_with fail
  refine (wcheck_any S ao n cap ao2 n2 cap2 a4 n4 c4 Ls Hs ws w1 (HG.out w1 HB1.out).1 (HG.out w1 HB1.out).2.1 (HG.out w1 HB1.out).2.2.2).mono ?_;rintro e w2 ⟨rfl,hb2⟩;rw[←HE.out];have HB2:Hid (Below w.heap.size w w2):=HB1.out.trans (hb2.mono HB1.out.size);clear hb2 p0 p1 p2 p3;obtain⟨V,hV⟩:∃V,V=noV Z:=⟨_,rfl⟩;rw[←hV];go_wp2;go_ret;exact⟨rfl,HB2.out⟩
 have HE:Hid (Z=C):=by show _=_;rw[HZ.out,if_neg h0]
 have hno:noV C=.iface 72 (.int i64 C):=by unfold noV;rw[if_neg h0]
 have e:=HE.out;subst e;have HNO:Hid (noV Z=.iface 72 (.int i64 Z)):=hno;rw[hno];clear hno h0;go_wp2;go_ret;exact⟨by rw[HNO.out];rfl,HB1.out⟩
def HasWords (w:World):Prop:=w.cell? ⟨0,0,none⟩=some (.string ⟨#[]⟩)∧w.cell? ⟨0,1,none⟩=some (.string reaS)∧w.cell? ⟨0,2,none⟩=some (.string apaS)∧w.cell? ⟨0,3,none⟩=some (.string wayS)∧w.cell? ⟨0,4,none⟩=some (.string looS)
theorem HasWords.later {w w':World}(h:HasWords w)(hb:Below w.heap.size w w'):HasWords w':=
 ⟨cell_later hb h.1,cell_later hb h.2.1,cell_later hb h.2.2.1,cell_later hb h.2.2.2.1,cell_later hb h.2.2.2.2⟩
theorem HasWords.lt {w:World}(h:HasWords w):0<w.heap.size:=bLQ _ _ h.1
theorem checkText_any (k:Int)(f t:ByteArray)(v:Int)(w:World):
 Calls prog 45 #[.agg #[.int i64 k,.string f,.string t,.int i64 v]] w fun e w'=>e=.returned (noV (shN ⟨k,f,t,v⟩))∧Below w.heap.size w w':=by
 have hb0:Below w.heap.size w (w.alloc (.cells #[.int i64 k,.string f,.string t,.int i64 v] 50)):=(bRQ _ _).alloc (nLQ _) _;have hx0:=wibox_new w k f t v 50;obtain⟨w0,hw0⟩:∃W,w.alloc (.cells #[.int i64 k,.string f,.string t,.int i64 v] 50)=W:=⟨_,rfl⟩;rw[hw0] at hb0 hx0;have HW0:Hid (w.alloc (.cells #[.int i64 k,.string f,.string t,.int i64 v] 50)=w0):=hw0;have HB0:Hid (Below w.heap.size w w0):=hb0;have HX0:Hid (WiBox w0 w.heap.size k f t v):=hx0;obtain⟨R,hR⟩:∃R,R=shN ⟨k,f,t,v⟩:=⟨_,rfl⟩;obtain⟨Q1,hQ1⟩:∃q,q=(!wkB k || !viB ⟨k,f,t,v⟩ 6):=⟨_,rfl⟩;obtain⟨Q2,hQ2⟩:∃q,q=((k != 4) && !(nmB f&&nmB t)):=⟨_,rfl⟩;obtain⟨Q3,hQ3⟩:∃q,q=(veB ⟨k,f,t,v⟩ || ((k==4) && !nlB ⟨k,f,t,v⟩)):=⟨_,rfl⟩;have HR:Hid (R=if Q1 then 1 else if Q2 then 2 else if Q3 then 3 else 0):=by
  show _=_;rw[hR,hQ1,hQ2,hQ3];rfl
 have HQ1:Hid ((!wkB k || !viB ⟨k,f,t,v⟩ 6)=Q1):=hQ1.symm;have HQ2:Hid (((k != 4) && !(nmB f&&nmB t))=Q2):=hQ2.symm;have HQ3:Hid ((veB ⟨k,f,t,v⟩ || ((k==4) && !nlB ⟨k,f,t,v⟩))=Q3):=hQ3.symm;rw[←hR];clear hb0 hx0 hw0 hR hQ1 hQ2 hQ3;go_enter func45,ntmps45;go_upto_region 1 with fail;rw[HW0.out];obtain⟨x0,x1,x2,x3⟩:=HX0.out;clear HW0
 go_cut [11] from 3 to 12 (fun c w'=>c=.bool Q1∧Below w0.heap.size w0 w')
 case first =>
  go_wp2_with fail
  refine (isWhat_any k _).mono ?_;rintro e w1 ⟨rfl,hb1⟩;obtain⟨WK,hWK⟩:∃q,q=wkB k:=⟨_,rfl⟩;have HQ:Hid ((!WK || !viB ⟨k,f,t,v⟩ 6)=Q1):=by
   show _=_;rw[hWK];exact HQ1.out
  rw[←hWK];have HB1:Hid (Below w0.heap.size w0 w1):=hb1;have HX1:Hid (WiBox w1 w.heap.size k f t v):=HX0.out.later hb1;clear hWK hb1 x0 x1 x2 x3;obtain⟨x0,x1,x2,x3⟩:=HX1.out;cases WK with
  | false =>
    have hq:true=Q1:=HQ.out;subst hq
    go_wp2_with fail
    go_meet
    exact⟨rfl,HB1.out⟩
  | true =>
    have hq:(!viB ⟨k,f,t,v⟩ 6)=Q1:=HQ.out;have HQ':Hid ((!viB ⟨k,f,t,v⟩ 6)=Q1):=hq;clear hq
    go_wp2_with fail
    refine (isVia_any k f t v 6 _).mono ?_;rintro e w2 ⟨rfl,hb2⟩;have HB2:Hid (Below w0.heap.size w0 w2):=HB1.out.trans (hb2.mono HB1.out.size);obtain⟨VI,hVI⟩:∃q,q=viB ⟨k,f,t,v⟩ 6:=⟨_,rfl⟩;rw[←hVI];have hq:(!VI)=Q1:=by rw[hVI];exact HQ'.out
    subst hq;clear hb2 hVI
    go_wp2_with fail
    go_meet
    exact⟨rfl,HB2.out⟩
 case rest =>
 obtain⟨rfl,hbc⟩:=hcut;have HBc:Hid (Below w.heap.size w wc):=HB0.out.trans (hbc.mono HB0.out.size);have HXc:Hid (WiBox wc w.heap.size k f t v):=HX0.out.later hbc;clear hbc HX0 HB0 x0 x1 x2 x3;obtain⟨x0,x1,x2,x3⟩:=HXc.out;cases Q1 with
 | true =>
   have HR1:Hid (R=1):=by
    show _=_;rw[HR.out,if_pos rfl]
   go_wp2;go_ret;exact⟨by rw[HR1.out];rfl,HBc.out⟩
 | false =>
   have HR1:Hid (R=if Q2 then 2 else if Q3 then 3 else 0):=by
    show _=_;rw[HR.out,if_neg (by decide)]
   clear HR HQ1;go_upto_region 3 with fail
   go_cut [26] from 13 to 27 (fun c w'=>c=.bool Q2∧Below wc.heap.size wc w')
   case first =>
    by_cases k4:k=4
    ·subst k4;have hq:false=Q2:=HQ2.out;subst hq
     go_wp2_with fail
     go_meet
     exact⟨rfl,bRQ _ _⟩
    have HQ:Hid ((!(nmB f&&nmB t))=Q2):=by
     show _=_;rw[←HQ2.out];simp[k4]
    have hkk:(k != 4)=true:=by simp[k4]
    go_wp2_with fail
    refine (name_any f _).mono ?_;rintro e w1 ⟨rfl,hb1⟩;obtain⟨NF,hNF⟩:∃q,q=nmB f:=⟨_,rfl⟩;have HQ':Hid ((!(NF&&nmB t))=Q2):=by
     show _=_;rw[hNF];exact HQ.out
    rw[←hNF];have HB1:Hid (Below wc.heap.size wc w1):=hb1;have HX1:Hid (WiBox w1 w.heap.size k f t v):=HXc.out.later hb1;clear hNF hb1 HQ x0 x1 x2 x3;obtain⟨x0,x1,x2,x3⟩:=HX1.out;cases NF with
    | false =>
      have hq:true=Q2:=HQ'.out;subst hq
      go_wp2_with fail
      go_meet
      exact⟨by simp[hkk],HB1.out⟩
    | true =>
      go_wp2_with fail
      refine (name_any t _).mono ?_;rintro e w2 ⟨rfl,hb2⟩;have HB2:Hid (Below wc.heap.size wc w2):=HB1.out.trans (hb2.mono HB1.out.size);obtain⟨NT,hNT⟩:∃q,q=nmB t:=⟨_,rfl⟩;rw[←hNT];have hq:(!NT)=Q2:=by rw[hNT];exact HQ'.out
      subst hq;clear hb2 hNT
      go_wp2_with fail
      go_meet
      exact⟨by simp[hkk],HB2.out⟩
   case rest =>
   obtain⟨rfl,hbc2⟩:=hcut;have HBd:Hid (Below w.heap.size w wc):=HBc.out.trans (hbc2.mono HBc.out.size);have HXd:Hid (WiBox wc w.heap.size k f t v):=HXc.out.later hbc2;clear hbc2 HXc HBc x0 x1 x2 x3;obtain⟨x0,x1,x2,x3⟩:=HXd.out;cases Q2 with
   | true =>
     have HR2:Hid (R=2):=by
      show _=_;rw[HR1.out,if_pos rfl]
     go_wp2;go_ret;exact⟨by rw[HR2.out];rfl,HBd.out⟩
   | false =>
     have HR2:Hid (R=if Q3 then 3 else 0):=by
      show _=_;rw[HR1.out,if_neg (by decide)]
     clear HR1 HQ2;go_upto_region 5 with fail
     go_cut [45] from 28 to 46 (fun c w'=>c=.bool Q3∧Below wc.heap.size wc w')
     case first =>
      by_cases k4:k=4
      ·subst k4;by_cases v0:v=0
       ·subst v0;have HQ:Hid ((!nlB ⟨4,f,t,0⟩)=Q3):=HQ3.out
        go_wp2_with fail
        refine (isNameless_any 4 f t 0 _).mono ?_;rintro e w2 ⟨rfl,hb2⟩;have HB2:Hid (Below wc.heap.size wc w2):=hb2;obtain⟨NL,hNL⟩:∃q,q=nlB ⟨4,f,t,0⟩:=⟨_,rfl⟩;rw[←hNL];have hq:(!NL)=Q3:=by rw[hNL];exact HQ.out
        subst hq;clear hb2 hNL
        go_wp2_with fail
        go_meet
        exact⟨rfl,HB2.out⟩
       have hq:true=Q3:=by
        rw[←HQ3.out];simp[veB,v0]
       subst hq
       go_wp2_with fail
       go_meet
       exact⟨by simp[v0],bRQ _ _⟩
      have hq:(k != 3&&v != 0)=Q3:=by
       rw[←HQ3.out];simp[veB,k4]
      by_cases k3:k=3
      ·subst k3;have hq2:false=Q3:=hq;subst hq2
       go_wp2_with fail
       go_meet
       exact⟨rfl,bRQ _ _⟩
      by_cases v0:v=0
      ·subst v0;have hq2:false=Q3:=by rw[←hq];simp
       subst hq2;clear hq
       go_wp2_with fail
       go_meet
       exact⟨by simp[k4],bRQ _ _⟩
      have hq2:true=Q3:=by rw[←hq];simp[k3,v0]
      subst hq2;clear hq
      go_wp2_with fail
      go_meet
      exact⟨by simp[k3,v0],bRQ _ _⟩
     case rest =>
     obtain⟨rfl,hbc3⟩:=hcut;have HBe:Hid (Below w.heap.size w wc):=HBd.out.trans (hbc3.mono HBd.out.size);clear hbc3;cases Q3 with
     | true =>
       have HR3:Hid (R=3):=by
        show _=_;rw[HR2.out,if_pos rfl]
       go_wp2;go_ret;exact⟨by rw[HR3.out];rfl,HBe.out⟩
     | false =>
       have HR3:Hid (R=0):=by
        show _=_;rw[HR2.out,if_neg (by decide)]
       go_wp2;go_ret;exact⟨by rw[HR3.out];rfl,HBe.out⟩
theorem nm_size {a:ByteArray}(h:nmB a=true):a.size≤6:=by
 simp only[nmB,Bool.and_eq_true,decide_eq_true_eq] at h;exact h.2.1
theorem dgs_size (p:Int):(dgS p).size≤2:=by
 unfold dgS
 split <;> exact Nat.le_of_ble_eq_true rfl
theorem shT_4 {f t:ByteArray}{v:Int}:shT ⟨4,f,t,v⟩=looS:=rfl
theorem shT_3 {f t:ByteArray}{v:Int}:shT ⟨3,f,t,v⟩=wayS++(⟨#[32]⟩++f++⟨#[32]⟩++t)++(⟨#[32]⟩++dgS v):=by
 show wayS++(blW++(f++(blW++(t++(blW++dgS v)))))=_;simp only[wa_as];rfl
theorem shT_2 {f t:ByteArray}{v:Int}:shT ⟨2,f,t,v⟩=apaS++(⟨#[32]⟩++f++⟨#[32]⟩++t):=by
 show apaS++(blW++(f++(blW++t)))=_;simp only[wa_as];rfl
theorem shT_1 {f t:ByteArray}{v:Int}:shT ⟨1,f,t,v⟩=reaS++(⟨#[32]⟩++f++⟨#[32]⟩++t):=by
 show reaS++(blW++(f++(blW++t)))=_;simp only[wa_as];rfl
theorem print_any (k:Int)(f t:ByteArray)(v:Int)(w:World)(hw:HasWords w):
 Calls prog 24 #[.agg #[.int i64 k,.string f,.string t,.int i64 v]] w fun e w'=>e=.returned (.tuple #[.string (shV ⟨k,f,t,v⟩),noV (shN ⟨k,f,t,v⟩)])∧Below w.heap.size w w':=by
 have hb0:Below w.heap.size w (w.alloc (.cells #[.int i64 k,.string f,.string t,.int i64 v] 50)):=(bRQ _ _).alloc (nLQ _) _;have hx0:=wibox_new w k f t v 50;obtain⟨w0,hw0⟩:∃W,w.alloc (.cells #[.int i64 k,.string f,.string t,.int i64 v] 50)=W:=⟨_,rfl⟩;rw[hw0] at hb0 hx0;have HW0:Hid (w.alloc (.cells #[.int i64 k,.string f,.string t,.int i64 v] 50)=w0):=hw0;have HB0:Hid (Below w.heap.size w w0):=hb0;have HX0:Hid (WiBox w0 w.heap.size k f t v):=hx0;have HD0:Hid (HasWords w0):=hw.later hb0;obtain⟨R,hR⟩:∃R,R=shN ⟨k,f,t,v⟩:=⟨_,rfl⟩;obtain⟨V,hV⟩:∃V,V=shV ⟨k,f,t,v⟩:=⟨_,rfl⟩;have HR:Hid (shN ⟨k,f,t,v⟩=R):=hR.symm;have HV:Hid (V=shV ⟨k,f,t,v⟩):=hV;rw[←hR,←hV];clear hb0 hx0 hw0 hR hV hw;go_enter func24,ntmps24;go_upto_region 1 with fail;rw[HW0.out];obtain⟨x0,x1,x2,x3⟩:=HX0.out;clear HW0
 go_wp2_with fail
 refine (checkText_any k f t v _).mono ?_;rintro e w1 ⟨rfl,hb1⟩;rw[HR.out];have HB1:Hid (Below w.heap.size w w1):=HB0.out.trans (hb1.mono HB0.out.size);have HX1:Hid (WiBox w1 w.heap.size k f t v):=HX0.out.later hb1;have HD1:Hid (HasWords w1):=HD0.out.later hb1;clear hb1 HB0 HX0 HD0 x0 x1 x2 x3;by_cases h0:R=0
 ·have HS:Hid (shN ⟨k,f,t,v⟩=0):=HR.out.trans h0;have HVT:Hid (V=shT ⟨k,f,t,v⟩):=by
   show _=_;rw[HV.out,shV,if_pos HS.out]
  have hsh:=shw_0 HS.out;subst h0;rw[no_ok rfl];obtain⟨x0,x1,x2,x3⟩:=HX1.out;obtain⟨d0,d1,d2,d3,d4⟩:=HD1.out;have hlt:=HD1.out.lt;clear HR HV;have s1:reaS.size=5:=rfl;have s2:apaS.size=5:=rfl;have s3:wayS.size=3:=rfl;have s4:looS.size=5:=rfl
  rcases hsh with ⟨e,_⟩ | ⟨e | e,n1,n2,_⟩ | ⟨e,n1,n2,e1,e6⟩
  ·simp only at e;subst e;go_wp2;refine bodyPost_ret (v:=.tuple #[.string looS,.nilIface]) (by simp[results,results24,go_sem]) rfl ⟨by rw[HVT.out,shT_4,no_ok rfl],HB1.out⟩
  ·simp only at e n1 n2;subst e;have d1:=nm_size n1;have d2:=nm_size n2;clear n1 n2;go_wp2;refine bodyPost_ret (v:=.tuple #[.string (reaS++(⟨#[32]⟩++f++⟨#[32]⟩++t)),.nilIface]) (by simp[results,results24,go_sem]) rfl ⟨by rw[HVT.out,shT_1,no_ok rfl],HB1.out⟩
  ·simp only at e n1 n2;subst e;have d1:=nm_size n1;have d2:=nm_size n2;clear n1 n2;go_wp2;refine bodyPost_ret (v:=.tuple #[.string (apaS++(⟨#[32]⟩++f++⟨#[32]⟩++t)),.nilIface]) (by simp[results,results24,go_sem]) rfl ⟨by rw[HVT.out,shT_2,no_ok rfl],HB1.out⟩
  simp only at e e1 e6 n1 n2;subst e;have d1:=nm_size n1;have d2:=nm_size n2;have d3:=dgs_size v;clear n1 n2
  go_wp2_with fail
  refine (itoa_any v _ (by omega) (by omega)).mono ?_;rintro e w2 ⟨rfl,hw2⟩;subst hw2;go_wp2;refine bodyPost_ret (v:=.tuple #[.string (wayS++(⟨#[32]⟩++f++⟨#[32]⟩++t)++(⟨#[32]⟩++dgS v)),.nilIface]) (by simp[results,results24,go_sem]) rfl ⟨by rw[HVT.out,shT_3,no_ok rfl],HB1.out⟩
 rw[no_ne h0];have HNE:Hid (R≠0):=h0;have HVT:Hid (V=ByteArray.empty):=by
  show _=_;rw[HV.out,shV,if_neg (by rw[HR.out];exact h0)]
 clear h0;go_wp2;refine bodyPost_ret (v:=.tuple #[.string ⟨#[]⟩,.iface 72 (.int i64 R)]) (by simp[results,results24,go_sem]) rfl ⟨by rw[HVT.out,no_ne HNE.out];rfl,HB1.out⟩
def ptS (S:Int)(Ls:LkQ)(Hs:HoQ)(Ts:TsQ)(ws:List Wi):ByteArray:=if nwsN S Ls Hs Ts ws=0 then textT S Ls Hs Ts ws else ByteArray.empty
theorem nw_0 {S:Int}{Ls:LkQ}{Hs:HoQ}{Ts:TsQ}{ws:List Wi}(h:nwsN S Ls Hs Ts ws=0):ntN S Ls Hs Ts=0∧wsN S Ls Hs ws=0:=by
 unfold nwsN at h;by_cases h1:ntN S Ls Hs Ts=0
 ·rw[if_pos h1] at h;exact⟨h1,h⟩
 rw[if_neg h1] at h;exact absurd h h1
theorem ln_sw_eq (S:Int):⟨#[115,119,105,116,99,104,101,115,32]⟩++dgS S=swT S:=by
 apply wa_ext
 simp only[swT,wa_app,List.append_assoc];rfl
theorem ln_lk_eq (p:(Int×Int)×(Int×Int)):⟨#[108,105,110,107,32]⟩++spT p.1++⟨#[32]⟩++spT p.2=lnT p:=by
 apply wa_ext
 simp only[lnT,wa_app,List.append_assoc];rfl
theorem ln_ho_eq (p:ByteArray×(Int×Int)):⟨#[104,111,115,116,32]⟩++p.1++⟨#[32]⟩++spT p.2=hoT p:=by
 apply wa_ext
 simp only[hoT,wa_app,List.append_assoc];rfl
theorem ln_rl_eq (k:Int)(r:Ru):⟨#[114,117,108,101,32]⟩++dgS k++⟨#[32]⟩++rsS r.p r.m r.b r.o r.s r.v=rlT k r:=by
 apply wa_ext
 simp only[rlT,wa_app,List.append_assoc];rfl
theorem ln_size {S:Int}{Ls:LkQ}{Hs:HoQ}{Ts:TsQ}{ws:List Wi}(hh:∀x∈Hs,nmB x.1=true∧smP x.2)(hw:∀x∈ws,shN x=0):∀a∈linesT S Ls Hs Ts ws,a.size≤40:=by
 have tb:∀(Ts:TsQ) (k:Nat),∀a∈tbT k Ts,a.size≤40:=by
  intro Ts
  induction Ts with
  | nil=>intro k a ha;cases ha
  | cons T Ts ih =>
    intro k a ha;rw[tbT,List.mem_append,List.mem_map] at ha
    rcases ha with ⟨r,_,rfl⟩ | ha
    ·have h1:=dg_size ((k+1:Nat):Int);have h2:=rs_size r;simp only[rlT,sz_app,show rulS.size=4 from rfl,show blW.size=1 from rfl];omega
    exact ih (k+1) a ha
 intro a ha;rw[linesT,List.mem_cons,List.mem_append,List.mem_append,List.mem_append,List.mem_map,List.mem_map,List.mem_map] at ha
 rcases ha with rfl | ⟨l,_,rfl⟩ | ⟨h,hm,rfl⟩ | ha | ⟨x,hm,rfl⟩
 ·have h1:=dg_size S;simp only[swT,sz_app,show swcS.size=8 from rfl,show blW.size=1 from rfl];omega
 ·have h1:=sp_size l.1;have h2:=sp_size l.2;simp only[lnT,sz_app,show lnkS.size=4 from rfl,show blW.size=1 from rfl];omega
 ·have h1:=sp_size h.2;have h2:=nmt_size (hh h hm).1;simp only[hoT,sz_app,show hosS.size=4 from rfl,show blW.size=1 from rfl];omega
 ·exact tb _ _ a ha
 have:=sh_size (hw x hm);omega
theorem nl_size:∀{l:List ByteArray},(∀a∈l,a.size≤40)→(nlT 10 l).size≤41*l.length
 | [],_=>Nat.zero_le _
 | a :: l,h=>by
   have h1:=h a (List.mem_cons_self ..);have h2:=nl_size fun x hx=>h x (List.mem_cons_of_mem _ hx)
   simp only[nlT,sz_app,show (chW 10).size=1 from rfl,List.length_cons];omega
theorem pdrew {w w':World}(h:Below w.drew.heap.size w.drew w'):Below w.heap.size w w':=(Below.drew (bRQ _ _)).trans h
theorem row_push {w1 wb V V2:World}{B:Nat}{v u:Value}{l l':List ByteArray}{x:ByteArray}(hB:B=w1.heap.size)(h1:Below w1.heap.size w1 V)(hr:RowS V B v l)(hg:V.grownBy V2 v.ownBlock)(ho:V2.ownsRow B 9 strE.n u (l++[x]).length (cellsG strE (l++[x])))(e:l'=l++[x]):RowS V2 B u l'∧Below w1.heap.size w1 V2:=by
 subst hB;refine⟨by rw[e];exact ho,h1.grown hg h1.size fun b hb=>(World.ownsRow.lt hr b hb).1⟩
theorem tprint_any (S:Int)(ao:AdQ)(n cap:Nat)(ao2:AdQ)(n2 cap2:Nat)(ao3:AdQ)(n3 cap3:Nat)(a4:AdQ)(n4 c4:Nat)(Ls:LkQ)(Hs:HoQ)(Ts:TsQ)(ws:List Wi)(w:World)
 (hL:GS lnkE w (.slice ao n cap) Ls) (hH:GS hstE w (.slice ao2 n2 cap2) Hs) (hT:TS w (.slice ao3 n3 cap3) Ts) (hw:GS wisE w (.slice a4 n4 c4) ws) (hwd:HasWords w):
 Calls prog 7 #[.agg #[.int i64 S,.slice ao n cap,.slice ao2 n2 cap2,.slice ao3 n3 cap3],.slice a4 n4 c4] w fun e w'=>e=.returned (.tuple #[.string (ptS S Ls Hs Ts ws),noV (nwsN S Ls Hs Ts ws)])∧Below w.heap.size w w':=by
 obtain⟨w0,hw0⟩:∃W,W=w.alloc (.cells #[.int i64 S,.slice ao n cap,.slice ao2 n2 cap2,.slice ao3 n3 cap3] 28):=⟨_,rfl⟩;have hb0:Below w.heap.size w w0:=by rw[hw0];exact (bRQ _ _).alloc (nLQ _) _
 have hnb:NeBox w0 w.heap.size S (.slice ao n cap) (.slice ao2 n2 cap2) (.slice ao3 n3 cap3):=by rw[hw0];exact nebox_new w S (.slice ao n cap) (.slice ao2 n2 cap2) (.slice ao3 n3 cap3) 28
 have HB0:Hid (Below w.heap.size w w0):=hb0;have HW0:Hid (w.alloc (.cells #[.int i64 S,.slice ao n cap,.slice ao2 n2 cap2,.slice ao3 n3 cap3] 28)=w0):=hw0.symm;have HNB0:Hid (NeBox w0 w.heap.size S (.slice ao n cap) (.slice ao2 n2 cap2) (.slice ao3 n3 cap3)):=hnb;have HG0:Hid (∀W,Below w.heap.size w W→(GS lnkE W (.slice ao n cap) Ls∧GS hstE W (.slice ao2 n2 cap2) Hs∧TS W (.slice ao3 n3 cap3) Ts∧GS wisE W (.slice a4 n4 c4) ws)∧HasWords W):=fun W h=>⟨⟨hL.later h,hH.later h,hT.later h,hw.later h⟩,hwd.later h⟩
 obtain⟨C,hC⟩:∃C,C=nwsN S Ls Hs Ts ws:=⟨_,rfl⟩;have HC:Hid (nwsN S Ls Hs Ts ws=C):=hC.symm;obtain⟨Z,hZ⟩:∃Z,Z=ptS S Ls Hs Ts ws:=⟨_,rfl⟩;have HZ:Hid (Z=if C=0 then textT S Ls Hs Ts ws else ByteArray.empty):=by show _=_;rw[hZ,hC];rfl
 rw[←hC,←hZ];have hnn:=hL.len;have hnn2:=hH.len;have hnn3:Ts.length=n3:=hT.len;have hnn4:=hw.len;have HNL:Hid (Ls.length=n∧Hs.length=n2∧Ts.length=n3∧ws.length=n4):=⟨hnn,hnn2,hnn3,hnn4⟩;obtain⟨q0,q1,q2,q3⟩:=hnb;clear hL hH hT hw hwd hb0 hw0 hC hZ hnn hnn2 hnn3 hnn4;go_enter func7,ntmps7;go_upto_region 1 with fail;rw[HW0.out]
 go_wp2_with fail
 refine (tcheck_any S ao n cap ao2 n2 cap2 ao3 n3 cap3 a4 n4 c4 Ls Hs Ts ws w0 (HG0.out w0 HB0.out).1.1 (HG0.out w0 HB0.out).1.2.1 (HG0.out w0 HB0.out).1.2.2.1 (HG0.out w0 HB0.out).1.2.2.2).mono ?_;rintro e w1 ⟨rfl,hb1⟩;rw[HC.out];have HB1:Hid (Below w.heap.size w w1):=HB0.out.trans (hb1.mono HB0.out.size);have HNB:Hid (∀W,Below w1.heap.size w1 W→NeBox W w.heap.size S (.slice ao n cap) (.slice ao2 n2 cap2) (.slice ao3 n3 cap3)):=fun W h=>(HNB0.out.later hb1).later h
 have HG:Hid (∀W,Below w1.heap.size w1 W→(GS lnkE W (.slice ao n cap) Ls∧GS hstE W (.slice ao2 n2 cap2) Hs∧TS W (.slice ao3 n3 cap3) Ts∧GS wisE W (.slice a4 n4 c4) ws)∧HasWords W):=fun W h=>HG0.out W (HB1.out.trans (h.mono HB1.out.size))
 clear hb1 q0 q1 q2 q3;by_cases hC0:C=0
 ·have HZT:Hid (Z=textT S Ls Hs Ts ws):=by show _=_;rw[HZ.out,if_pos hC0]
  have HNW:=nw_0 (HC.out.trans hC0);have HN0:Hid (noV C=.nilIface):=by show _=_;rw[hC0];rfl
  subst hC0;obtain⟨hn,hws⟩:=HNW;obtain⟨ht,hS,hTb⟩:=nt_0 hn;obtain⟨⟨s1,s6⟩,⟨l200,l8⟩,hl,_,hh,_⟩:=tp_0 ht;have HLK:Hid (∀l∈Ls,smP l.1∧smP l.2):=fun l hm=>⟨sp_sm s6 (hl l.1 (List.mem_flatMap.2 ⟨l,hm,by simp⟩)),sp_sm s6 (hl l.2 (List.mem_flatMap.2 ⟨l,hm,by simp⟩))⟩
  have HHO:Hid (∀x∈Hs,nmB x.1=true∧smP x.2):=fun x hx=>⟨(hh x hx).1,sp_sm s6 (hh x hx).2⟩
  have HTB:Hid (∀T∈Ts,T.length≤12∧∀r∈T,r.ok=true):=fun T hm=>by
   obtain⟨k,hk,e⟩:=List.getElem_of_mem hm;have h1:=hTb k hk;rw[show Ts.getD k []=T by simp[List.getD,hk,e]] at h1;exact⟨(tb_iff.1 h1).1,(tb_iff.1 h1).2.1⟩
  have HWS:Hid (∀x∈ws,shN x=0):=ws_sh hws;have hw8:ws.length≤8:=by
   unfold wsN at hws;rw[if_pos ht] at hws;by_cases h8:8<ws.length
   ·rw[if_pos h8] at hws;cases hws
   omega
  have HN:Hid ((Ls.length=n∧Hs.length=n2∧Ts.length=n3∧ws.length=n4)∧n≤200∧n2≤8∧n3≤6∧n4≤8):=⟨HNL.out,by have:=HNL.out;omega,by have:=HNL.out;omega,by have:=HNL.out;omega,by have:=HNL.out;omega⟩;have HS:Hid (0≤S∧S≤6):=⟨by omega,s6⟩;obtain⟨j1,hj,hy0,hy1,hy2⟩:=info_parts str_info;have HI1:Hid (Tryz.prog.info? 9=some j1):=hj;have HI2:Hid (j1.zero=some (.string ⟨#[]⟩)):=hy0;have HI3:Hid (j1.size=1):=hy1;have HI4:Hid (j1.bytes=16):=hy2;have n63:n≤200:=HN.out.2.1;have m63:n2≤8:=HN.out.2.2.1;have t63:n3≤6:=HN.out.2.2.2.1;have w63:n4≤8:=HN.out.2.2.2.2;have d0:=dg_size S;obtain⟨q0,q1,q2,q3⟩:=HNB.out w1 (bRQ _ _);clear hn hws ht hS hTb s1 s6 l200 l8 hl hh hw8 hj hy0 hy1 hy2;rw[show noV 0=.nilIface from rfl]
  go_wp2_with fail
  refine (itoa_any S _ HS.out.1 (by have:=HS.out.2;omega)).mono ?_;rintro e w' ⟨rfl,hw'⟩;have hw'':=hw'.symm;subst hw'';clear hw';have hlt1:=bLQ w1 ⟨w.heap.size,0,none⟩ q0;go_upto_region 5 with fail;rw[ln_sw_eq];obtain⟨X0,hX0⟩:∃X,X=swT S:=⟨_,rfl⟩;rw[←hX0];have HX0:Hid (swT S=X0):=hX0.symm;obtain⟨w2,hw2⟩:∃W,W=w1.alloc (.cells #[.string X0] 9):=⟨_,rfl⟩;have hb2:Below w1.heap.size w1 w2:=by rw[hw2];exact (bRQ _ _).alloc (nLQ _) _
  have HR0:Hid (RowS w2 w1.heap.size (.slice (some ⟨w1.heap.size,0,none⟩) 1 1) [X0]):=by show RowS _ _ _ _;rw[hw2];exact row_one w1 w1.heap.size X0 (nLQ _)
  have HB2:Hid (Below w1.heap.size w1 w2):=hb2;rw[←hw2];clear q0 q1 q2 q3 hw2 hb2 hX0 hlt1;obtain⟨q0,q1,q2,q3⟩:=HNB.out w2 HB2.out;go_upto_region 6 with fail;clear q0 q1 q2 q3
  go_loopw [7,38] (fun v i wr=>∃(k:Nat),k≤n∧i=.int i64 (k:Int)∧RowS wr w1.heap.size v (X0 :: (Ls.take k).map lnT)∧Below w1.heap.size w1 wr) (fun _ i _=>n-(intOf i).toNat)
  case atStart=>exact⟨0,by omega,rfl,HR0.out,HB2.out⟩
  case round =>
   obtain⟨k,hk,rfl,hX,hB⟩:=hrel;obtain⟨wi,hwi⟩:∃Y,Y=wr:=⟨_,rfl⟩;subst hwi;obtain⟨a7,m7,c7,rfl⟩:∃b1 m1 d1,u7=Value.slice b1 m1 d1:=by obtain⟨a,c,h⟩:=own_form hX;exact⟨a,_,c,h⟩
   have HX:Hid (RowS wi w1.heap.size (.slice a7 m7 c7) (X0 :: (Ls.take k).map lnT)):=hX;have HB:Hid (Below w1.heap.size w1 wi):=hB;clear hX hB;by_cases hlt:k<n
   ·obtain⟨_,_,_,ee,_,_,_,hat⟩:=(HG.out wi HB.out).1.1.form;cases ee;obtain⟨g,o,rfl,hga,_⟩:=hat (by omega);obtain⟨x0,x1,x2,x3,hkl,hLk,y0,y1,y2,y3⟩:=lnk_at hga HN.out.1.1 hlt;have HM:Hid (smP (x0,x1)∧smP (x2,x3)):=by
     have:=HLK.out _ (List.getElem_mem hkl);rw[hLk] at this;exact this
    have HNX:Hid (X0 :: (Ls.take (k+1)).map lnT=(X0 :: (Ls.take k).map lnT)++[⟨#[108,105,110,107,32]⟩++spT (x0,x1)++⟨#[32]⟩++spT (x2,x3)]):=by
     show _=_;rw[List.take_succ_eq_append_getElem hkl,hLk,List.map_append,ln_lk_eq ((x0,x1),(x2,x3))];rfl
    have z1:=sp_size (x0,x1);have z2:=sp_size (x2,x3);have r1:¬9223372036854775807<5+(spT (x0,x1)).size:=by omega
    have r2:¬9223372036854775807<5+(spT (x0,x1)).size+1:=by omega
    have r3:¬9223372036854775807<5+(spT (x0,x1)).size+1+(spT (x2,x3)).size:=by omega
    have kb0:(0:Int)≤(k:Int):=by omega
    have kb1:(k:Int)<(n:Int):=by omega
    have HLV1:Hid ((X0 :: (Ls.take k).map lnT).length+1≤maxLen):=by
     show _≤_;unfold maxLen;simp;omega
    have HLV2:Hid (((X0 :: (Ls.take k).map lnT).length+1)*16≤140737488355328):=by
     show _≤_;simp;omega
    obtain⟨q0,q1,q2,q3⟩:=HNB.out wi HB.out;obtain⟨wb,hwb⟩:∃W,W=wi.alloc (.cells #[.int i64 x0,.int i64 x1,.int i64 x2,.int i64 x3] 57):=⟨_,rfl⟩;have hbb:Below wi.heap.size wi wb:=by rw[hwb];exact (bRQ _ _).alloc (nLQ _) _
    have HKL:Hid (∀W,Below wb.heap.size wb W→W.cell? ⟨wi.heap.size,0,none⟩=some (.int i64 x0)∧W.cell? ⟨wi.heap.size,1,none⟩=some (.int i64 x1)∧W.cell? ⟨wi.heap.size,2,none⟩=some (.int i64 x2)∧W.cell? ⟨wi.heap.size,3,none⟩=some (.int i64 x3)):=fun W hW=>by
     have h:=lnk_new wi x0 x1 x2 x3 57;rw[←hwb] at h;have h2:=lnk_cells (h.later hW);simpa only[Nat.zero_add] using h2
    have HWB:Hid (Below w1.heap.size w1 wb):=HB.out.trans (hbb.mono HB.out.size);have HKO:Hid (∀W,Below wb.heap.size wb W→RowS W w1.heap.size (.slice a7 m7 c7) (X0 :: (Ls.take k).map lnT)):=fun W hW=>(HX.out.later hbb).later hW
    have HLB:Hid (w1.heap.size≤wb.heap.size):=HWB.out.size;have HFIN:Hid (∀V V2 u,Below wb.heap.size wb V→V.grownBy V2 (Value.slice a7 m7 c7).ownBlock→V2.ownsRow w1.heap.size 9 strE.n u ((X0 :: (Ls.take k).map lnT)++[⟨#[108,105,110,107,32]⟩++spT (x0,x1)++⟨#[32]⟩++spT (x2,x3)]).length (cellsG strE ((X0 :: (Ls.take k).map lnT)++[⟨#[108,105,110,107,32]⟩++spT (x0,x1)++⟨#[32]⟩++spT (x2,x3)]))→RowS V2 w1.heap.size u (X0 :: (Ls.take (k+1)).map lnT)∧Below w1.heap.size w1 V2):=fun V V2 u hV hg ho=>row_push (wb:=wb) rfl (HWB.out.trans (hV.mono HWB.out.size)) (HKO.out V hV) hg ho HNX.out
    have HGW:Hid (∀V V2,Below wb.heap.size wb V→V.grownBy V2 (Value.slice a7 m7 c7).ownBlock→V2.cell? ⟨wi.heap.size,0,none⟩=some (.int i64 x0)∧V2.cell? ⟨wi.heap.size,1,none⟩=some (.int i64 x1)∧V2.cell? ⟨wi.heap.size,2,none⟩=some (.int i64 x2)∧V2.cell? ⟨wi.heap.size,3,none⟩=some (.int i64 x3)):=fun V V2 hV hg=>by
     have hne:some wi.heap.size≠(Value.slice a7 m7 c7).ownBlock:=fun e=>by
      have:=(World.ownsRow.lt HX.out _ e.symm).2;omega
     obtain⟨e0,e1,e2,e3⟩:=HKL.out V hV;exact⟨hg.cell e0 hne,hg.cell e1 hne,hg.cell e2 hne,hg.cell e3 hne⟩
    clear hga hLk hat hkl;go_upto_region 8 with fail;rw[←hwb];clear hwb hbb y0 y1 y2 y3 q0 q1 q2 q3;obtain⟨i0,i1,i2,i3⟩:=HKL.out wb (bRQ _ _)
    go_region_held3 (fun W=>W.cell? ⟨wi.heap.size,0,none⟩=some (.int i64 x0)∧W.cell? ⟨wi.heap.size,1,none⟩=some (.int i64 x1)∧W.cell? ⟨wi.heap.size,2,none⟩=some (.int i64 x2)∧W.cell? ⟨wi.heap.size,3,none⟩=some (.int i64 x3))
     (first | (with_reducible assumption) | (with_reducible exact HKL.out _ (Below.drew (bRQ _ _))) | (with_reducible exact HKL.out _ HBX.out) | (with_reducible exact HKL.out _ HBZ.out) | (with_reducible exact HKG.out))
     (first
      | (go_at_call 22;refine (pspot_any _ _ _ (by first | exact HM.out.1 | exact HM.out.2)).mono ?_;rintro e w' ⟨rfl,hb⟩;have HBX:Hid (Below wb.heap.size wb w'):=(by first | exact hb | exact pdrew hb | exact HBX.out.trans (hb.mono HBX.out.size));have HBZ:Hid (Below wb.heap.size wb (w'.alloc (.cells #[.string (⟨#[108,105,110,107,32]⟩++spT (x0,x1)++⟨#[32]⟩++spT (x2,x3))] 9))):=HBX.out.alloc HBX.out.size _;clear hb)
      | (refine step_append_blk (E:=strE) _ (by rfl) _ _ 68 9 (by rfl) underlying68 j1 _ 16 HI1.out HI2.out HI3.out HI4.out (by rfl) w1.heap.size (.slice a7 m7 c7) (by rfl) (X0 :: (Ls.take k).map lnT) (HKO.out _ HBZ.out) w'.heap.size 0 1 (by rfl) (⟨#[108,105,110,107,32]⟩++spT (x0,x1)++⟨#[32]⟩++spT (x2,x3)) (str_new _ (⟨#[108,105,110,107,32]⟩++spT (x0,x1)++⟨#[32]⟩++spT (x2,x3)) _) HLV1.out HLV2.out ?_ ?_;(focus (have:=HBZ.out.size;have:=HLB.out;omega));intro v5 w5 ho5 hg5 hb5;have HGG:Hid _:=HFIN.out _ _ _ HBZ.out hg5 ho5;have HKG:Hid _:=HGW.out _ _ HBZ.out hg5;obtain⟨a6,m6,c6,rfl⟩:∃b1 m1 d1,v5=Value.slice b1 m1 d1:=(by obtain⟨a,c,h⟩:=own_form ho5;exact⟨a,_,c,h⟩);clear ho5 hg5 hb5))
    all_goals go_wp2
    all_goals go_roundw
    all_goals first
     | (simp[intOf];omega)
     | exact⟨k+1,by omega,by go_num,HGG.out⟩
   obtain rfl:k=n:=by omega
   have hall:Ls.take k=Ls:=by rw[←HN.out.1.1];exact List.take_length
   rw[hall] at HX;have HBA:Hid (Below w1.heap.size w1 wi):=HB.out;clear HR0 HB2;obtain⟨q0,q1,q2,q3⟩:=HNB.out wi HB.out;go_upto_region 11 with fail;clear q0 q1 q2 q3;obtain⟨wA,hwA⟩:∃Y,Y=wi:=⟨_,rfl⟩;subst hwA;obtain⟨P1,hP1⟩:∃P,P=X0 :: Ls.map lnT:=⟨_,rfl⟩;rw[←hP1] at HX;have HP1:Hid (P1.length≤201∧P1++(Hs.map hoT++(tbT 0 Ts++ws.map shT))=swT S :: (Ls.map lnT++(Hs.map hoT++(tbT 0 Ts++ws.map shT)))):=by
    have:=HN.out;rw[hP1,HX0.out];exact⟨by simp;omega,by simp⟩
   clear hP1 hall hlt
   go_loopw [7,59] (fun v i wr=>∃(j:Nat),j≤n2∧i=.int i64 (j:Int)∧RowS wr w1.heap.size v (P1++(Hs.take j).map hoT)∧Below w1.heap.size w1 wr) (fun _ i _=>n2-(intOf i).toNat)
   case atStart=>exact⟨0,by omega,rfl,by simpa using HX.out,HBA.out⟩
   case round =>
    obtain⟨j,hj,rfl,hX2,hB2⟩:=hrel;obtain⟨wj,hwj⟩:∃Y,Y=wr:=⟨_,rfl⟩;subst hwj;clear HX HBA HB;obtain⟨a7,m7,c7,rfl⟩:∃b1 m1 d1,u7=Value.slice b1 m1 d1:=by obtain⟨a,c,h⟩:=own_form hX2;exact⟨a,_,c,h⟩
    have HX:Hid (RowS wj w1.heap.size (.slice a7 m7 c7) (P1++(Hs.take j).map hoT)):=hX2;have HB:Hid (Below w1.heap.size w1 wj):=hB2;clear hX2 hB2;by_cases hlt2:j<n2
    ·obtain⟨_,_,_,ee,_,_,_,hat⟩:=(HG.out wj HB.out).1.2.1.form;cases ee;obtain⟨g,o,rfl,hga,_⟩:=hat (by omega);obtain⟨x0,x1,x2,hkl,hLk,y0,y1,y2⟩:=hst_at hga HN.out.1.2.1 hlt2;have HM:Hid (nmB x0=true∧smP (x1,x2)):=by
      have:=HHO.out _ (List.getElem_mem hkl);rw[hLk] at this;exact this
     have HNX:Hid (P1++(Hs.take (j+1)).map hoT=(P1++(Hs.take j).map hoT)++[⟨#[104,111,115,116,32]⟩++x0++⟨#[32]⟩++spT (x1,x2)]):=by
      show _=_;rw[List.take_succ_eq_append_getElem hkl,hLk,List.map_append,ln_ho_eq (x0,(x1,x2)),List.append_assoc];rfl
     have z1:=sp_size (x1,x2);have z2:=nmt_size HM.out.1;have r1:¬9223372036854775807<5+x0.size:=by omega
     have r2:¬9223372036854775807<5+x0.size+1:=by omega
     have r3:¬9223372036854775807<5+x0.size+1+(spT (x1,x2)).size:=by omega
     have kb0:(0:Int)≤(j:Int):=by omega
     have kb1:(j:Int)<(n2:Int):=by omega
     have HLV1:Hid ((P1++(Hs.take j).map hoT).length+1≤maxLen):=by
      have:=HP1.out.1;show _≤_;unfold maxLen;simp;omega
     have HLV2:Hid (((P1++(Hs.take j).map hoT).length+1)*16≤140737488355328):=by
      have:=HP1.out.1;show _≤_;simp;omega
     obtain⟨q0,q1,q2,q3⟩:=HNB.out wj HB.out;obtain⟨wb,hwb⟩:∃W,W=wj.alloc (.cells #[.string x0,.int i64 x1,.int i64 x2] 59):=⟨_,rfl⟩;have hbb:Below wj.heap.size wj wb:=by rw[hwb];exact (bRQ _ _).alloc (nLQ _) _
     have HKL:Hid (∀W,Below wb.heap.size wb W→W.cell? ⟨wj.heap.size,0,none⟩=some (.string x0)∧W.cell? ⟨wj.heap.size,1,none⟩=some (.int i64 x1)∧W.cell? ⟨wj.heap.size,2,none⟩=some (.int i64 x2)):=fun W hW=>by
      have h:=hst_new wj x0 x1 x2 59;rw[←hwb] at h;have h2:=hst_cells (h.later hW);simpa only[Nat.zero_add] using h2
     have HWB:Hid (Below w1.heap.size w1 wb):=HB.out.trans (hbb.mono HB.out.size);have HKO:Hid (∀W,Below wb.heap.size wb W→RowS W w1.heap.size (.slice a7 m7 c7) (P1++(Hs.take j).map hoT)):=fun W hW=>(HX.out.later hbb).later hW
     have HLB:Hid (w1.heap.size≤wb.heap.size):=HWB.out.size;have HFIN:Hid (∀V V2 u,Below wb.heap.size wb V→V.grownBy V2 (Value.slice a7 m7 c7).ownBlock→V2.ownsRow w1.heap.size 9 strE.n u ((P1++(Hs.take j).map hoT)++[⟨#[104,111,115,116,32]⟩++x0++⟨#[32]⟩++spT (x1,x2)]).length (cellsG strE ((P1++(Hs.take j).map hoT)++[⟨#[104,111,115,116,32]⟩++x0++⟨#[32]⟩++spT (x1,x2)]))→RowS V2 w1.heap.size u (P1++(Hs.take (j+1)).map hoT)∧Below w1.heap.size w1 V2):=fun V V2 u hV hg ho=>row_push (wb:=wb) rfl (HWB.out.trans (hV.mono HWB.out.size)) (HKO.out V hV) hg ho HNX.out
     have HGW:Hid (∀V V2,Below wb.heap.size wb V→V.grownBy V2 (Value.slice a7 m7 c7).ownBlock→V2.cell? ⟨wj.heap.size,0,none⟩=some (.string x0)∧V2.cell? ⟨wj.heap.size,1,none⟩=some (.int i64 x1)∧V2.cell? ⟨wj.heap.size,2,none⟩=some (.int i64 x2)):=fun V V2 hV hg=>by
      have hne:some wj.heap.size≠(Value.slice a7 m7 c7).ownBlock:=fun e=>by
       have:=(World.ownsRow.lt HX.out _ e.symm).2;omega
      obtain⟨e0,e1,e2⟩:=HKL.out V hV;exact⟨hg.cell e0 hne,hg.cell e1 hne,hg.cell e2 hne⟩
     clear hga hLk hat hkl;go_upto_region 13 with fail;rw[←hwb];clear hwb hbb y0 y1 y2 q0 q1 q2 q3;obtain⟨i0,i1,i2⟩:=HKL.out wb (bRQ _ _)
     go_region_held3 (fun W=>W.cell? ⟨wj.heap.size,0,none⟩=some (.string x0)∧W.cell? ⟨wj.heap.size,1,none⟩=some (.int i64 x1)∧W.cell? ⟨wj.heap.size,2,none⟩=some (.int i64 x2))
      (first | (with_reducible assumption) | (with_reducible exact HKL.out _ (Below.drew (bRQ _ _))) | (with_reducible exact HKL.out _ HBX.out) | (with_reducible exact HKL.out _ HBZ.out) | (with_reducible exact HKG.out))
      (first
       | (go_at_call 22;refine (pspot_any _ _ _ HM.out.2).mono ?_;rintro e w' ⟨rfl,hb⟩;have HBX:Hid (Below wb.heap.size wb w'):=(by first | exact hb | exact pdrew hb);have HBZ:Hid (Below wb.heap.size wb (w'.alloc (.cells #[.string (⟨#[104,111,115,116,32]⟩++x0++⟨#[32]⟩++spT (x1,x2))] 9))):=HBX.out.alloc HBX.out.size _;clear hb)
       | (refine step_append_blk (E:=strE) _ (by rfl) _ _ 68 9 (by rfl) underlying68 j1 _ 16 HI1.out HI2.out HI3.out HI4.out (by rfl) w1.heap.size (.slice a7 m7 c7) (by rfl) (P1++(Hs.take j).map hoT) (HKO.out _ HBZ.out) w'.heap.size 0 1 (by rfl) (⟨#[104,111,115,116,32]⟩++x0++⟨#[32]⟩++spT (x1,x2)) (str_new _ (⟨#[104,111,115,116,32]⟩++x0++⟨#[32]⟩++spT (x1,x2)) _) HLV1.out HLV2.out ?_ ?_;(focus (have:=HBZ.out.size;have:=HLB.out;omega));intro v5 w5 ho5 hg5 hb5;have HGG:Hid _:=HFIN.out _ _ _ HBZ.out hg5 ho5;have HKG:Hid _:=HGW.out _ _ HBZ.out hg5;obtain⟨a6,m6,c6,rfl⟩:∃b1 m1 d1,v5=Value.slice b1 m1 d1:=(by obtain⟨a,c,h⟩:=own_form ho5;exact⟨a,_,c,h⟩);clear ho5 hg5 hb5))
     all_goals go_wp2
     all_goals go_roundw
     all_goals first
      | (simp[intOf];omega)
      | exact⟨j+1,by omega,by go_num,HGG.out⟩
    obtain rfl:j=n2:=by omega
    have hall:Hs.take j=Hs:=by rw[←HN.out.1.2.1];exact List.take_length
    rw[hall] at HX;obtain⟨q0,q1,q2,q3⟩:=HNB.out wj HB.out;go_upto_region 16 with fail;clear q0 q1 q2 q3;obtain⟨P2,hP2⟩:∃P,P=P1++Hs.map hoT:=⟨_,rfl⟩;rw[←hP2] at HX;have HP2:Hid (P2.length≤209∧P2++(tbT 0 Ts++ws.map shT)=swT S :: (Ls.map lnT++(Hs.map hoT++(tbT 0 Ts++ws.map shT)))):=by
     have h1:=HN.out;have h2:=HP1.out;rw[hP2];exact⟨by simp;omega,by rw[←h2.2];simp⟩
    clear hP2 hall HP1 hlt2
    go_loopw [7,78] (fun v i wr=>∃(t:Nat),t≤n3∧i=.int i64 (t:Int)∧RowS wr w1.heap.size v (P2++tbT 0 (Ts.take t))∧Below w1.heap.size w1 wr) (fun _ i _=>n3-(intOf i).toNat)
    case atStart=>exact⟨0,by omega,rfl,by simpa[tbT] using HX.out,HB.out⟩
    case round =>
     obtain⟨t,ht,rfl,hX3,hB3⟩:=hrel;obtain⟨wt,hwt⟩:∃Y,Y=wr:=⟨_,rfl⟩;subst hwt;clear HX HB;obtain⟨a7,m7,c7,rfl⟩:∃b1 m1 d1,u7=Value.slice b1 m1 d1:=by obtain⟨a,c,h⟩:=own_form hX3;exact⟨a,_,c,h⟩
     have HX:Hid (RowS wt w1.heap.size (.slice a7 m7 c7) (P2++tbT 0 (Ts.take t))):=hX3;have HB:Hid (Below w1.heap.size w1 wt):=hB3;clear hX3 hB3;have HP3:Hid ((P2++tbT 0 (Ts.take t)).length≤281):=by
      have h1:=tb_few (Ts:=Ts.take t) (k:=0) fun T hm=>(HTB.out T (List.mem_of_mem_take hm)).1
      have h2:=HP2.out.1;have h3:=HN.out;rw[List.length_take] at h1;rw[List.length_append];show _≤_;omega
     by_cases hlt3:t<n3
     ·obtain⟨_,_,_,ee,_,_,_,hat⟩:=(HG.out w1 (bRQ _ _)).1.2.2.1.form;cases ee;obtain⟨g,o,rfl,hga,_⟩:=hat (by omega);have htl:t<Ts.length:=by have:=HN.out;omega
      obtain⟨a8,n8,c8,y1,hSR⟩:=hga t htl;have y0:=cell_later HB.out y1;clear y1;obtain⟨T,hT⟩:∃T,T=Ts[t]:=⟨_,rfl⟩;rw[←hT] at hSR;have HTT:Hid (T.length≤12∧∀r∈T,r.ok=true):=by rw[hT];exact HTB.out _ (List.getElem_mem htl)
      have HTN:Hid (T.length=n8):=by
       obtain⟨_,_,_,e,h,_⟩:=hSR.form;cases e;exact h
      have HTK:Hid (tbT 0 (Ts.take (t+1))=tbT 0 (Ts.take t)++T.map (rlT ((t+1:Nat):Int))):=by
       show _=_;rw[List.take_succ_eq_append_getElem htl,←hT,tb_snoc,List.length_take,show 0+min t Ts.length+1=t+1 by omega]
      have HSR:Hid (∀W,Below w1.heap.size w1 W→SR W (.slice a8 n8 c8) T):=fun W h=>hSR.later h
      have n8b:n8≤12:=by have:=HTT.out.1;have:=HTN.out;omega
      have kb0:(0:Int)≤(t:Int):=by omega
      have kb1:(t:Int)<(n3:Int):=by omega
      clear hga hat hSR hT htl;go_upto_region 19 with fail;clear y0
      go_loopw [7,85] (fun v i wr=>∃(m:Nat),m≤n8∧i=.int i64 (m:Int)∧RowS wr w1.heap.size v (P2++tbT 0 (Ts.take t)++(T.take m).map (rlT ((t+1:Nat):Int)))∧Below w1.heap.size w1 wr) (fun _ i _=>n8-(intOf i).toNat)
      case atStart=>exact⟨0,by omega,rfl,by simpa using HX.out,HB.out⟩
      case round =>
       obtain⟨m,hm,rfl,hX4,hB4⟩:=hrel;obtain⟨wm,hwm⟩:∃Y,Y=wr:=⟨_,rfl⟩;subst hwm;clear HX HB;obtain⟨a7,m7,c7,rfl⟩:∃b1 m1 d1,u7=Value.slice b1 m1 d1:=by obtain⟨a,c,h⟩:=own_form hX4;exact⟨a,_,c,h⟩
       have HX:Hid (RowS wm w1.heap.size (.slice a7 m7 c7) (P2++tbT 0 (Ts.take t)++(T.take m).map (rlT ((t+1:Nat):Int)))):=hX4;have HB:Hid (Below w1.heap.size w1 wm):=hB4;have hS4:=HSR.out wm hB4;clear hX4 hB4;by_cases hlt4:m<n8
       ·obtain⟨_,_,_,ee,_,_,_,hat⟩:=hS4.form;cases ee;obtain⟨g2,o2,rfl,hra,_⟩:=hat (by omega);have hml:m<T.length:=by have:=HTN.out;omega
        obtain⟨r,hr⟩:∃r,r=T[m]:=⟨_,rfl⟩;have hC:=hra m hml;rw[←hr] at hC;have HRO:Hid (r.ok=true):=by rw[hr];exact HTT.out.2 _ (List.getElem_mem hml)
        obtain⟨D,hD⟩:∃D,D=dgS ((t+1:Nat):Int):=⟨_,rfl⟩;obtain⟨R,hR⟩:∃R,R=rsS r.p r.m r.b r.o r.s r.v:=⟨_,rfl⟩;have HNX:Hid (P2++tbT 0 (Ts.take t)++(T.take (m+1)).map (rlT ((t+1:Nat):Int))=(P2++tbT 0 (Ts.take t)++(T.take m).map (rlT ((t+1:Nat):Int)))++[⟨#[114,117,108,101,32]⟩++D++⟨#[32]⟩++R]):=by
         show _=_;rw[List.take_succ_eq_append_getElem hml,←hr,List.map_append,hD,hR,ln_rl_eq];simp
        have z1:D.size≤2:=by rw[hD];exact dg_size _
        have z2:R.size≤25:=by rw[hR];exact rs_size r
        have HDD:Hid (dgS ((t+1:Nat):Int)=D):=hD.symm;have HRR:Hid (rsS r.p r.m r.b r.o r.s r.v=R):=hR.symm;obtain⟨LL,hLL⟩:∃LL,LL=P2++tbT 0 (Ts.take t)++(T.take m).map (rlT ((t+1:Nat):Int)):=⟨_,rfl⟩;have HX2:Hid (RowS wm w1.heap.size (.slice a7 m7 c7) LL):=by show RowS _ _ _ _;rw[hLL];exact HX.out
        have HNX2:Hid (P2++tbT 0 (Ts.take t)++(T.take (m+1)).map (rlT ((t+1:Nat):Int))=LL++[⟨#[114,117,108,101,32]⟩++D++⟨#[32]⟩++R]):=by show _=_;rw[hLL];exact HNX.out
        have HLV1:Hid (LL.length+1≤maxLen):=by
         have:=HP3.out;show _≤_;rw[hLL];rw[List.length_append,List.length_map,List.length_take];unfold maxLen;omega
        have HLV2:Hid ((LL.length+1)*16≤140737488355328):=by
         have:=HP3.out;show _≤_;rw[hLL];rw[List.length_append,List.length_map,List.length_take];omega
        have mb0:(0:Int)≤(m:Int):=by omega
        have mb1:(m:Int)<(n8:Int):=by omega
        have hwr:IntKind.i64.wrap ((t:Int)+1)=((t+1:Nat):Int):=by rw[IntKind.wrap_i64];have:=HN.out;omega
        have hwr2:wrap64 ((t:Int)+1)=((t+1:Nat):Int):=by unfold wrap64;have:=HN.out;omega
        obtain⟨Y,hY⟩:∃Y:Int,Y=((t+1:Nat):Int):=⟨_,rfl⟩;rw[←hY] at hwr hwr2 HDD;have HY:Hid (0≤Y∧Y<100):=⟨by omega,by have:=HN.out;omega⟩;obtain⟨rp,rm,rb,ro,rs,rv⟩:=r;obtain⟨k0,k1,k2,k3,k4,k5⟩:=hC
        dsimp only at k0 k1 k2 k3 k4 k5 HRR
        have hbb:Below wm.heap.size wm (wm.alloc (.cells #[.int i64 rp,.int i64 rm,.int i64 rb,.int i64 ro,.int i64 rs,.int i64 rv] 64)):=(bRQ _ _).alloc (nLQ _) _;have HBB:Hid (Below wm.heap.size wm (wm.alloc (.cells #[.int i64 rp,.int i64 rm,.int i64 rb,.int i64 ro,.int i64 rs,.int i64 rv] 64))):=hbb;clear hra hat hS4 hr hml hD hR hY hbb hLL
        go_wp2_with fail
        refine (ruPrint_ok rp rm rb ro rs rv _ HRO.out).mono ?_;rintro e w5 ⟨rfl,hb5⟩;rw[HRR.out];have HB5:Hid (Below wm.heap.size wm w5):=HBB.out.trans (hb5.mono HBB.out.size);have HW5:Hid (Below w1.heap.size w1 w5):=HB.out.trans (HB5.out.mono HB.out.size);have HR5:Hid (RowS w5 w1.heap.size (.slice a7 m7 c7) LL):=HX2.out.later HB5.out;clear hb5 k0 k1 k2 k3 k4 k5
        go_wp2_with fail
        refine (itoa_any Y _ HY.out.1 HY.out.2).mono ?_;rintro e w' ⟨rfl,hw'⟩;have hw'':=hw'.symm;subst hw'';clear hw';rw[HDD.out]
        go_wp2_with (at_builtin;refine wpList_append_blk (E:=strE) _ rfl _ _ 68 9 rfl underlying68 j1 _ 16 HI1.out HI2.out HI3.out HI4.out (by rfl) w1.heap.size (.slice a7 m7 c7) rfl LL (World.ownsRow.alloc HR5.out _) w5.heap.size 0 1 rfl (⟨#[114,117,108,101,32]⟩++D++⟨#[32]⟩++R) (str_new _ _ _) HLV1.out HLV2.out ?mz ?_)
        case mz =>
         have:=HW5.out.size;simp;omega
        intro v' w6 ho6 hg6 hb6;have HF6:Hid (RowS w6 w1.heap.size v' (P2++tbT 0 (Ts.take t)++(T.take (m+1)).map (rlT ((t+1:Nat):Int)))∧Below w1.heap.size w1 w6):=row_push (wb:=w1) rfl (HW5.out.alloc HW5.out.size _) (RowS.later HR5.out ((bRQ _ _).alloc (nLQ _) _)) hg6 (by simpa using ho6) HNX2.out;clear ho6 hg6 hb6;go_wp2;go_roundw
        case rel=>exact⟨m+1,by omega,by go_num,HF6.out⟩
        case measure=>simp[intOf];omega
       obtain rfl:m=n8:=by omega
       have HX5:Hid (RowS wm w1.heap.size (.slice a7 m7 c7) (P2++tbT 0 (Ts.take (t+1)))):=by
        have h1:=HX.out;rw[show T.take m=T by rw[←HTN.out];exact List.take_length] at h1;show RowS _ _ _ _;rw[HTK.out,←List.append_assoc];exact h1
       clear hS4;go_wp2;go_roundw
       case rel=>exact⟨t+1,by omega,by go_num,HX5.out,HB.out⟩
       case measure=>simp[intOf];omega
     obtain rfl:t=n3:=by omega
     have hall:Ts.take t=Ts:=by rw[←HN.out.1.2.2.1];exact List.take_length
     rw[hall] at HX;obtain⟨q0,q1,q2,q3⟩:=HNB.out wt HB.out;go_upto_region 26 with fail;clear q0 q1 q2 q3;obtain⟨P3,hP3⟩:∃P,P=P2++tbT 0 Ts:=⟨_,rfl⟩;rw[←hP3] at HX;have HP4:Hid (P3.length≤281∧P3++ws.map shT=swT S :: (Ls.map lnT++(Hs.map hoT++(tbT 0 Ts++ws.map shT)))):=by
      have h2:=HP2.out;have h3:=HP3.out;rw[hall] at h3;rw[hP3];exact⟨h3,by rw[←h2.2];simp⟩
     clear hP3 hall HP2 HP3 hlt3
     go_loopw [7,108] (fun v i wr=>∃(q:Nat),q≤n4∧i=.int i64 (q:Int)∧RowS wr w1.heap.size v (P3++(ws.take q).map shT)∧Below w1.heap.size w1 wr) (fun _ i _=>n4-(intOf i).toNat)
     case atStart=>exact⟨0,by omega,rfl,by simpa using HX.out,HB.out⟩
     case round =>
      obtain⟨q,hq,rfl,hX5,hB5⟩:=hrel;obtain⟨wq,hwq⟩:∃Y,Y=wr:=⟨_,rfl⟩;subst hwq;clear HX HB;obtain⟨a7,m7,c7,hu7⟩:∃b1 m1 d1,u7=Value.slice b1 m1 d1:=by obtain⟨a,c,h⟩:=own_form hX5;exact⟨a,_,c,h⟩
      subst hu7;have HX:Hid (RowS wq w1.heap.size (.slice a7 m7 c7) (P3++(ws.take q).map shT)):=hX5;have HB:Hid (Below w1.heap.size w1 wq):=hB5;clear hX5 hB5;by_cases hlt5:q<n4
      ·obtain⟨_,_,_,ee,_,_,_,hat⟩:=(HG.out wq HB.out).1.2.2.2.form;cases ee;obtain⟨g,o,rfl,hga,_⟩:=hat (by omega);obtain⟨x0,x1,x2,x3,hkl,hLk,y0,y1,y2,y3⟩:=wis_at hga HN.out.1.2.2.2 hlt5;have HSH:Hid (shN ⟨x0,x1,x2,x3⟩=0):=by
        have:=HWS.out _ (List.getElem_mem hkl);rw[hLk] at this;exact this
       obtain⟨R,hR⟩:∃R,R=shT ⟨x0,x1,x2,x3⟩:=⟨_,rfl⟩;have HNX:Hid (P3++(ws.take (q+1)).map shT=(P3++(ws.take q).map shT)++[R]):=by
        show _=_;rw[List.take_succ_eq_append_getElem hkl,hLk,List.map_append,hR,List.append_assoc];rfl
       have HRR:Hid (shV ⟨x0,x1,x2,x3⟩=R):=by
        show _=_;rw[shV,if_pos HSH.out,hR]
       obtain⟨LL,hLL⟩:∃LL,LL=P3++(ws.take q).map shT:=⟨_,rfl⟩;have HX2:Hid (RowS wq w1.heap.size (.slice a7 m7 c7) LL):=by show RowS _ _ _ _;rw[hLL];exact HX.out
       have HNX2:Hid (P3++(ws.take (q+1)).map shT=LL++[R]):=by show _=_;rw[hLL];exact HNX.out
       have HLV1:Hid (LL.length+1≤maxLen):=by
        have:=HP4.out.1;show _≤_;rw[hLL];rw[List.length_append,List.length_map,List.length_take];unfold maxLen;omega
       have HLV2:Hid ((LL.length+1)*16≤140737488355328):=by
        have:=HP4.out.1;show _≤_;rw[hLL];rw[List.length_append,List.length_map,List.length_take];omega
       have mb0:(0:Int)≤(q:Int):=by omega
       have mb1:(q:Int)<(n4:Int):=by omega
       have hbb:Below wq.heap.size wq (wq.alloc (.cells #[.int i64 x0,.string x1,.string x2,.int i64 x3] 50)):=(bRQ _ _).alloc (nLQ _) _;have HBB:Hid (Below wq.heap.size wq (wq.alloc (.cells #[.int i64 x0,.string x1,.string x2,.int i64 x3] 50))):=hbb;clear hga hat hLk hkl hbb hR hLL
       go_wp2_with fail
       refine (print_any x0 x1 x2 x3 _ (HG.out _ (HB.out.trans (HBB.out.mono HB.out.size))).2).mono ?_;rintro e w5 ⟨rfl,hb5⟩;rw[HRR.out,HSH.out,show noV 0=.nilIface from rfl];have HB5:Hid (Below wq.heap.size wq w5):=HBB.out.trans (hb5.mono HBB.out.size);have HW5:Hid (Below w1.heap.size w1 w5):=HB.out.trans (HB5.out.mono HB.out.size);have HR5:Hid (RowS w5 w1.heap.size (.slice a7 m7 c7) LL):=HX2.out.later HB5.out;clear hb5 y0 y1 y2 y3
       go_wp2_with (at_builtin;refine wpList_append_blk (E:=strE) _ rfl _ _ 68 9 rfl underlying68 j1 _ 16 HI1.out HI2.out HI3.out HI4.out (by rfl) w1.heap.size (.slice a7 m7 c7) rfl LL (World.ownsRow.alloc HR5.out _) w5.heap.size 0 1 rfl R (str_new _ _ _) HLV1.out HLV2.out ?mz ?_)
       case mz =>
        have:=HW5.out.size;simp;omega
       intro v' w6 ho6 hg6 hb6;have HF6:Hid (RowS w6 w1.heap.size v' (P3++(ws.take (q+1)).map shT)∧Below w1.heap.size w1 w6):=row_push (wb:=w1) rfl (HW5.out.alloc HW5.out.size _) (RowS.later HR5.out ((bRQ _ _).alloc (nLQ _) _)) hg6 (by simpa using ho6) HNX2.out;clear ho6 hg6 hb6;go_wp2;go_roundw
       case rel=>exact⟨q+1,by omega,by go_num,HF6.out⟩
       case measure=>simp[intOf];omega
      obtain rfl:q=n4:=by omega
      obtain⟨l,hl⟩:∃l,l=P3++ws.map shT:=⟨_,rfl⟩;have HXL:Hid (RowS wq w1.heap.size (.slice a7 m7 c7) l):=by
       have h1:=HX.out;rw[show ws.take q=ws by rw[←HN.out.1.2.2.2];exact List.take_length,←hl] at h1;exact h1
      have HLZ:Hid (Z=nlT 10 l∧∃x r,l=x :: r):=by
       have e1:l=linesT S Ls Hs Ts ws:=by rw[hl,HP4.out.2];rfl
       exact⟨by rw[HZT.out,e1];rfl,by rw[e1];exact⟨_,_,rfl⟩⟩
      obtain⟨y,r,hlr⟩:=HLZ.out.2;have hJ:=join_nl y r;rw[←hlr,←HLZ.out.1] at hJ;have hll:l.length≤400:=by
       rw[hl,List.length_append,List.length_map];have:=HP4.out.1;have:=HN.out;omega
      have HZS:Hid (Z.size≤100000):=by
       show _≤_;rw[HLZ.out.1];have h1:∀a∈l,a.size≤40:=by
        have e1:l=linesT S Ls Hs Ts ws:=by rw[hl,HP4.out.2];rfl
        rw[e1];exact ln_size HHO.out HWS.out
       have h2:=nl_size h1;omega
      obtain⟨J,hJJ⟩:∃J:List UInt8,J=Lib.join (l.map (·.data.toList)) [10]:=⟨_,rfl⟩;rw[←hJJ] at hJ;have HJ:Hid (Lib.join (l.map (·.data.toList)) [10]=J∧J++[10]=Z.data.toList):=⟨hJJ.symm,hJ⟩;have hJs:J.length≤100000:=by
       have h1:=congrArg List.length hJ;rw[List.length_append,←Lib.size_eq] at h1;have:=HZS.out;omega
      have HJL:Hid (J.length≤100000∧l.length≤400):=⟨hJs,hll⟩;obtain⟨g7,rfl⟩:∃g,a7=some ⟨g,0,none⟩:=by
       rcases HXL.out.2 with ⟨h1,h2⟩ | ⟨g,_,_,h1,_⟩
       ·rw[hlr] at h2;simp at h2
       cases h1;exact⟨g,rfl⟩
      obtain⟨rfl,hcap7⟩:m7=l.length∧l.length≤c7:=by
       rcases HXL.out.2 with ⟨h1,h2⟩ | ⟨g,_,_,h1,_,_,h2,_⟩
       ·cases h1
       cases h1;exact⟨rfl,h2⟩
      have HCP:Hid (l.length≤c7):=hcap7;clear hJ hJJ hl hlr hll hcap7 HX
      go_wp2_with fail
      refine (strings_Join g7 0 c7 l ⟨#[10]⟩ wq (RowS.cell HXL.out) (World.ownsRow.lt HXL.out g7 rfl).2 (by have:=HJL.out.2;omega) HCP.out (by
       have h1:=HJ.out.1;have h2:=HJL.out.1;show (Lib.join (l.map (·.data.toList)) [10]).length≤_;rw[h1];omega)).mono ?_
      rintro e w9 ⟨rfl,hb9⟩;rw[show (⟨#[10]⟩:ByteArray).data.toList=[10] from rfl,HJ.out.1];have HB9:Hid (Below w.heap.size w w9):=HB1.out.trans ((HB.out.trans (hb9.mono HB.out.size)).mono HB1.out.size);obtain⟨K,hK⟩:∃K:ByteArray,K=⟨J.toArray⟩:=⟨_,rfl⟩;have HK:Hid (K++⟨#[10]⟩=Z):=by
       show _=_
       apply wa_ext
       rw[wa_app,hK];have:=HJ.out.2;simpa using this
      have hks:K.size≤100000:=by
       have h1:K.size=J.length:=by rw[hK,Lib.size_eq]
       omega
      rw[←hK];clear hb9 hK hJs;go_wp2;refine bodyPost_ret (v:=.tuple #[.string (K++⟨#[10]⟩),.nilIface]) (by simp[results,results7,go_sem, *]) rfl ⟨by rw[HK.out];rfl,HB9.out⟩
 have HZE:Hid (Z=ByteArray.empty):=by show _=_;rw[HZ.out,if_neg hC0]
 have hno:noV C=.iface 72 (.int i64 C):=by unfold noV;rw[if_neg hC0]
 have HNO:Hid (noV C=.iface 72 (.int i64 C)):=hno;rw[hno];clear hno hC0;go_wp2;refine bodyPost_ret (v:=.tuple #[.string ⟨#[]⟩,.iface 72 (.int i64 C)]) (by simp[results,results7,go_sem, *]) rfl ⟨by rw[HZE.out,HNO.out];rfl,HB1.out⟩
theorem ixNl_lite (s:ByteArray)(w:World):
 Calls prog 83 #[.string s,.int .u8 10] w fun e w'=>e=.returned (.int i64 (ixQ 10 s))∧w'=w:=by
 go_enter func83,ntmps83;go_wp2;rw[run_callFunc_extern func109 (by kernel_rfl) (by kernel_rfl) (by kernel_rfl) (e:=Extern.BytealgIndexByte.indexByte) (by kernel_rfl),Lib.run_indexByteString];simp only[Result.andThen];rw[Oper.upon_value];go_wp2;go_ret;exact⟨rfl,rfl⟩
theorem ixNl_any (s:ByteArray)(w:World):
 Calls prog 52 #[.string s,.int .u8 10] w fun e w'=>e=.returned (.int i64 (ixQ 10 s))∧w'=w:=by
 go_enter func52,ntmps52
 go_wp2_with fail
 refine (ixNl_lite _ _).mono ?_;rintro e w' ⟨rfl,rfl⟩;go_wp2;go_ret;exact⟨rfl,rfl⟩
theorem ixDot_lite (s:ByteArray)(w:World):
 Calls prog 83 #[.string s,.int .u8 46] w fun e w'=>e=.returned (.int i64 (ixQ 46 s))∧w'=w:=by
 go_enter func83,ntmps83;go_wp2;rw[run_callFunc_extern func109 (by kernel_rfl) (by kernel_rfl) (by kernel_rfl) (e:=Extern.BytealgIndexByte.indexByte) (by kernel_rfl),Lib.run_indexByteString];simp only[Result.andThen];rw[Oper.upon_value];go_wp2;go_ret;exact⟨rfl,rfl⟩
theorem indexDot_any (s:ByteArray)(w:World):
 Calls prog 111 #[.string s,.string ⟨#[46]⟩] w fun e w'=>e=.returned (.int i64 (ixQ 46 s))∧w'=w:=by
 cases hs:([46]==s.toList)
 ·go_enter func111,ntmps111
  go_wp2_with fail
  refine (ixDot_lite _ _).mono ?_;rintro e w' ⟨rfl,rfl⟩;go_wp2;go_ret;exact⟨rfl,rfl⟩
 have hb:ixQ 46 s=0:=by
  have e:s.data.toList=[46]:=by
   rw[←Lib.toList_data];exact (beq_iff_eq.1 hs).symm
  rw[ixQ,e];decide
 rw[hb];clear hb;go_enter func111,ntmps111;go_wp2;go_ret;exact⟨rfl,rfl⟩
theorem indexBl_any (s:ByteArray)(w:World):
 Calls prog 111 #[.string s,.string ⟨#[32]⟩] w fun e w'=>e=.returned (.int i64 (ixQ 32 s))∧w'=w:=index1_any s w
theorem liteCutBl (s:ByteArray)(w:World)(hs:s.size≤1000000):
 Calls prog 85 #[.string s,.string ⟨#[32]⟩] w fun e w'=>(∃b:Bool,e=.returned (.tuple #[.string (c1S 32 s),.string (c2S 32 s),.bool b]))∧Below w.heap.size w w':=by
 rcases ixq_cases 32 s with h | ⟨i,h,hi⟩
 ·rw[(cs_miss h).1,(cs_miss h).2];have HX:Hid (ixQ 32 s = -1):=h;clear h;go_enter func85,ntmps85
  go_wp2_with fail
  refine (indexBl_any _ _).mono ?_;rintro e w' ⟨rfl,rfl⟩;rw[HX.out];go_wp2;refine bodyPost_ret (v:=.tuple #[.string s,.string ⟨#[]⟩,.bool false]) (by simp[results,results85,go_sem, *]) rfl ⟨⟨_,rfl⟩,bRQ _ _⟩
 rw[(cs_hit h).1,(cs_hit h).2];have HX:Hid (ixQ 32 s=(i:Int)):=h;have h1:(0:Int)≤(i:Int):=by omega
 have h2:(i:Int)≤(s.size:Int):=by omega
 have h3:(0:Int)≤(i:Int)+1:=by omega
 have h4:(i:Int)+1≤(s.size:Int):=by omega
 clear h;go_enter func85,ntmps85
 go_wp2_with fail
 refine (indexBl_any _ _).mono ?_;rintro e w' ⟨rfl,rfl⟩;rw[HX.out];go_wp2
 go_region
 go_wp2;refine bodyPost_ret (v:=.tuple #[.string (s.extract 0 i),.string (s.extract (i+1) s.size),.bool true]) (by simp[results,results85,go_sem, *]) rfl ⟨⟨_,rfl⟩,Below.drew (bRQ _ _)⟩
theorem liteCutDot (s:ByteArray)(w:World)(hs:s.size≤1000000):
 Calls prog 85 #[.string s,.string ⟨#[46]⟩] w fun e w'=>(∃b:Bool,e=.returned (.tuple #[.string (c1S 46 s),.string (c2S 46 s),.bool b]))∧Below w.heap.size w w':=by
 rcases ixq_cases 46 s with h | ⟨i,h,hi⟩
 ·rw[(cs_miss h).1,(cs_miss h).2];have HX:Hid (ixQ 46 s = -1):=h;clear h;go_enter func85,ntmps85
  go_wp2_with fail
  refine (indexDot_any _ _).mono ?_;rintro e w' ⟨rfl,rfl⟩;rw[HX.out];go_wp2;refine bodyPost_ret (v:=.tuple #[.string s,.string ⟨#[]⟩,.bool false]) (by simp[results,results85,go_sem, *]) rfl ⟨⟨_,rfl⟩,bRQ _ _⟩
 rw[(cs_hit h).1,(cs_hit h).2];have HX:Hid (ixQ 46 s=(i:Int)):=h;have h1:(0:Int)≤(i:Int):=by omega
 have h2:(i:Int)≤(s.size:Int):=by omega
 have h3:(0:Int)≤(i:Int)+1:=by omega
 have h4:(i:Int)+1≤(s.size:Int):=by omega
 clear h;go_enter func85,ntmps85
 go_wp2_with fail
 refine (indexDot_any _ _).mono ?_;rintro e w' ⟨rfl,rfl⟩;rw[HX.out];go_wp2
 go_region
 go_wp2;refine bodyPost_ret (v:=.tuple #[.string (s.extract 0 i),.string (s.extract (i+1) s.size),.bool true]) (by simp[results,results85,go_sem, *]) rfl ⟨⟨_,rfl⟩,Below.drew (bRQ _ _)⟩
theorem cutBl_any (s:ByteArray)(w:World)(hs:s.size≤1000000):
 Calls prog 54 #[.string s,.string ⟨#[32]⟩] w fun e w'=>(∃b:Bool,e=.returned (.tuple #[.string (c1S 32 s),.string (c2S 32 s),.bool b]))∧Below w.heap.size w w':=by
 have HS:Hid (s.size≤1000000):=hs;clear hs;go_enter func54,ntmps54
 go_wp2_with fail
 refine (liteCutBl _ _ HS.out).mono ?_;rintro e w' ⟨⟨b,rfl⟩,hb⟩;have HB:Hid (Below w.heap.size w w'):=hb;clear hb;go_wp2;refine bodyPost_ret (v:=.tuple #[.string (c1S 32 s),.string (c2S 32 s),.bool b]) (by simp[results,results54,go_sem, *]) rfl ⟨⟨_,rfl⟩,HB.out⟩
theorem cutDot_any (s:ByteArray)(w:World)(hs:s.size≤1000000):
 Calls prog 54 #[.string s,.string ⟨#[46]⟩] w fun e w'=>(∃b:Bool,e=.returned (.tuple #[.string (c1S 46 s),.string (c2S 46 s),.bool b]))∧Below w.heap.size w w':=by
 have HS:Hid (s.size≤1000000):=hs;clear hs;go_enter func54,ntmps54
 go_wp2_with fail
 refine (liteCutDot _ _ HS.out).mono ?_;rintro e w' ⟨⟨b,rfl⟩,hb⟩;have HB:Hid (Below w.heap.size w w'):=hb;clear hb;go_wp2;refine bodyPost_ret (v:=.tuple #[.string (c1S 46 s),.string (c2S 46 s),.bool b]) (by simp[results,results54,go_sem, *]) rfl ⟨⟨_,rfl⟩,HB.out⟩
theorem str_eq (a b:ByteArray):(a.toList==b.toList)=decide (a=b):=by
 by_cases h:a=b
 ·subst h;simp
 have h2:a.toList≠b.toList:=fun e=>h (by
  apply wa_ext
  rw[←Lib.toList_data,←Lib.toList_data,e])
 rw[decide_eq_false h,beq_eq_false_iff_ne.2 h2]
theorem hasSuf_any (p:ByteArray)(w:World)(hs:p.size≤1000000):
 Calls prog 110 #[.string p,.string ⟨#[10]⟩] w fun e w'=>e=.returned (.bool (enB p))∧w'=w:=by
 by_cases h:1≤p.size
 ·have h1:decide ((1:Int)≤(p.size:Int))=true:=by simp;omega
  have h2:(0:Int)≤(p.size:Int)-1:=by omega
  have h3:(p.size:Int)-1≤(p.size:Int):=by omega
  have HE:Hid (enB p=((p.extract ((p.size:Int)-1).toNat p.size).toList==[10])):=by
   show _=_;rw[enB,decide_eq_true h,Bool.true_and,show ((p.size:Int)-1).toNat=p.size-1 by omega];have h9:=str_eq (p.extract (p.size-1) p.size) ⟨#[10]⟩;rw[Lib.toList_data ⟨#[10]⟩] at h9;exact h9.symm
  obtain⟨E,hE⟩:∃E,E=enB p:=⟨_,rfl⟩;rw[←hE];have HEE:Hid (enB p=E):=hE.symm;clear hE;go_enter func110,ntmps110;go_wp2;go_ret;refine⟨?_,rfl⟩;rw[←HEE.out,HE.out]
  first | rfl | (congr 2;done) | simp
 have h0:p.size=0:=by omega
 have e:p=ByteArray.empty:=sz_0 h0;subst e;go_enter func110,ntmps110;go_wp2;go_ret;exact⟨rfl,rfl⟩
theorem liteSuf_any (p:ByteArray)(w:World)(hs:p.size≤1000000):
 Calls prog 84 #[.string p,.string ⟨#[10]⟩] w fun e w'=>e=.returned (.tuple #[.string (if enB p=true then p.extract 0 (p.size-1) else p),.bool (enB p)])∧w'=w:=by
 have HS:Hid (p.size≤1000000):=hs;cases h:enB p with
 | true =>
   have h1:1≤p.size:=by
    rw[enB,Bool.and_eq_true,decide_eq_true_eq] at h;exact h.1
   have h2:(0:Int)≤(p.size:Int)-1:=by omega
   have h3:(p.size:Int)-1≤(p.size:Int):=by omega
   have HH:Hid (enB p=true):=h;have HN:Hid (((p.size:Int)-1).toNat=p.size-1):=by show _=_;omega
   clear h h1;rw[if_pos rfl];go_enter func84,ntmps84
   go_wp2_with fail
   refine (hasSuf_any _ _ HS.out).mono ?_;rintro e w' ⟨rfl,rfl⟩;rw[HH.out];go_wp2;refine bodyPost_ret (v:=.tuple #[.string (p.extract 0 (p.size-1)),.bool true]) (by simp[results,results84,go_sem,HN.out, *]) rfl ⟨rfl,rfl⟩
 | false =>
   have HH:Hid (enB p=false):=h;clear h;rw[if_neg (by decide)];go_enter func84,ntmps84
   go_wp2_with fail
   refine (hasSuf_any _ _ HS.out).mono ?_;rintro e w' ⟨rfl,rfl⟩;rw[HH.out];go_wp2;refine bodyPost_ret (v:=.tuple #[.string p,.bool false]) (by simp[results,results84,go_sem, *]) rfl ⟨rfl,rfl⟩
theorem cutSuf_any (p:ByteArray)(w:World)(hs:p.size≤1000000):
 Calls prog 53 #[.string p,.string ⟨#[10]⟩] w fun e w'=>e=.returned (.tuple #[.string (if enB p=true then p.extract 0 (p.size-1) else p),.bool (enB p)])∧w'=w:=by
 have HS:Hid (p.size≤1000000):=hs;clear hs;obtain⟨x,hx⟩:∃x,x=(if enB p=true then p.extract 0 (p.size-1) else p):=⟨_,rfl⟩;obtain⟨y,hy⟩:∃y,y=enB p:=⟨_,rfl⟩;have HX:Hid (x=(if enB p=true then p.extract 0 (p.size-1) else p)∧y=enB p):=⟨hx,hy⟩;rw[←hx,←hy];clear hx hy;go_enter func53,ntmps53
 go_wp2_with fail
 refine (liteSuf_any _ _ HS.out).mono ?_;rintro e w' ⟨rfl,rfl⟩;rw[←HX.out.1,←HX.out.2];go_wp2;refine bodyPost_ret (v:=.tuple #[.string x,.bool y]) (by simp[results,results53,go_sem, *]) rfl ⟨rfl,rfl⟩
def kdN (a:ByteArray):Int:=if a=swcS then 1 else if a=lnkS then 2 else if a=hosS then 3 else if a=rulS then 4 else 5
theorem kindOf_any (a:ByteArray)(w:World):
 Calls prog 55 #[.string a] w fun e w'=>e=.returned (.int i64 (kdN a))∧w'=w:=by
 have key:∀b:ByteArray,(a.toList==b.data.toList)=decide (a=b):=fun b=>by
  rw[←Lib.toList_data,str_eq]
 have k1:(a.toList==[115,119,105,116,99,104,101,115])=decide (a=swcS):=key swcS;have k2:(a.toList==[108,105,110,107])=decide (a=lnkS):=key lnkS;have k3:(a.toList==[104,111,115,116])=decide (a=hosS):=key hosS;have k4:(a.toList==[114,117,108,101])=decide (a=rulS):=key rulS;have HK:Hid (∀n:Int,(if decide (a=swcS)=true then (1:Int) else if decide (a=lnkS)=true then 2 else if decide (a=hosS)=true then 3 else if decide (a=rulS)=true then 4 else 5)=n→kdN a=n):=fun n h=>by
  rw[←h];simp only[kdN,decide_eq_true_eq]
 obtain⟨K,hK⟩:∃K,K=kdN a:=⟨_,rfl⟩;have HKK:Hid (K=kdN a):=hK;rw[←hK];clear hK key
 generalize decide (a=swcS)=d1 at *
 generalize decide (a=lnkS)=d2 at *
 generalize decide (a=hosS)=d3 at *
 generalize decide (a=rulS)=d4 at *
 cases d1 with
 | true =>
   go_enter func55,ntmps55;go_wp2;go_ret;exact⟨by rw[HKK.out,HK.out 1 rfl];rfl,rfl⟩
 | false =>
   cases d2 with
   | true =>
     go_enter func55,ntmps55;go_wp2;go_ret;exact⟨by rw[HKK.out,HK.out 2 rfl];rfl,rfl⟩
   | false =>
     cases d3 with
     | true =>
       go_enter func55,ntmps55;go_wp2;go_ret;exact⟨by rw[HKK.out,HK.out 3 rfl];rfl,rfl⟩
     | false =>
       cases d4 with
       | true =>
         go_enter func55,ntmps55;go_wp2;go_ret;exact⟨by rw[HKK.out,HK.out 4 rfl];rfl,rfl⟩
       | false =>
         go_enter func55,ntmps55;go_wp2;go_ret;exact⟨by rw[HKK.out,HK.out 5 rfl];rfl,rfl⟩
def cfB (a k:Int):Bool:=if k=1 then decide (a=0) else decide (a≠0)&&decide (a≤k)
theorem canFollow_any (a k:Int)(w:World):
 Calls prog 56 #[.int i64 a,.int i64 k] w fun e w'=>e=.returned (.bool (cfB a k))∧w'=w:=by
 unfold cfB;by_cases h1:k=1
 ·rw[if_pos h1];subst h1;go_enter func56,ntmps56;go_wp2;go_ret;refine⟨?_,rfl⟩;by_cases h:a=0
  ·simp[h]
  simp[h]
 rw[if_neg h1];have e1:(k==1)=false:=by rw[beq_eq_false_iff_ne];exact h1
 by_cases h:a=0
 ·subst h;go_enter func56,ntmps56;go_wp2;go_ret;exact⟨rfl,rfl⟩
 have e2:(a != 0)=true:=by rw[bne_iff_ne];exact h
 rw[decide_eq_true h,Bool.true_and];clear h h1;go_enter func56,ntmps56;go_wp2;go_ret;exact⟨rfl,rfl⟩
theorem parseSpot_any (s:ByteArray)(w:World)(hs:s.size≤1000000):
 Calls prog 87 #[.string s] w fun e w'=>e=.returned (.tuple #[.agg #[.int i64 (xpV s).1,.int i64 (xpV s).2],.bool (spP s)])∧Below w.heap.size w w':=by
 have HS:Hid (s.size≤1000000):=hs;obtain⟨w1,hw1⟩:∃W,w.alloc (.cells #[.int i64 0,.int i64 0] 55)=W:=⟨_,rfl⟩;have HB1:Hid (Below w.heap.size w w1):=by show Below _ _ _;rw[←hw1];exact (bRQ _ _).alloc (nLQ _) _
 have hc:w1.cell? ⟨w.heap.size,0,none⟩=some (.int i64 0)∧w1.cell? ⟨w.heap.size,1,none⟩=some (.int i64 0)∧∀i,w1.frozen? ⟨w.heap.size,i,none⟩=false:=by rw[←hw1];exact⟨by simp,by simp,fun i=>by simp⟩
 have HW1:Hid (w.alloc (.cells #[.int i64 0,.int i64 0] 55)=w1):=hw1;have HCL:Hid (∀W,Below w1.heap.size w1 W→W.cell? ⟨w.heap.size,0,none⟩=some (.int i64 0)∧W.cell? ⟨w.heap.size,1,none⟩=some (.int i64 0)∧W.frozen? ⟨w.heap.size,0,none⟩=false∧W.frozen? ⟨w.heap.size,1,none⟩=false):=fun W h=>⟨cell_later h hc.1,cell_later h hc.2.1,by
  rw[h.frozen (p:=⟨w.heap.size,0,none⟩) (bLQ w1 ⟨w.heap.size,0,none⟩ hc.1)];exact hc.2.2 0,by
  rw[h.frozen (p:=⟨w.heap.size,1,none⟩) (bLQ w1 ⟨w.heap.size,0,none⟩ hc.1)];exact hc.2.2 1⟩
 have HPUT:Hid (∀W a b,Below w.heap.size w W→Below w.heap.size w ((W.setCell ⟨w.heap.size,0,none⟩ a).setCell ⟨w.heap.size,1,none⟩ b)):=fun W a b h=>(h.setCell (p:=⟨w.heap.size,0,none⟩) (nLQ _) a).setCell (p:=⟨w.heap.size,1,none⟩) (nLQ _) b
 obtain⟨a,ha⟩:∃a,a=c1S 46 s:=⟨_,rfl⟩;obtain⟨b,hb⟩:∃b,b=c2S 46 s:=⟨_,rfl⟩;have HA:Hid (c1S 46 s=a∧c2S 46 s=b):=⟨ha.symm,hb.symm⟩;rw[xpV,spP,←ha,←hb];clear hs hw1 hc ha hb;obtain⟨x1,hx1⟩:∃x,x=dcN a:=⟨_,rfl⟩;obtain⟨x2,hx2⟩:∃x,x=dcN b:=⟨_,rfl⟩;obtain⟨ka,hka⟩:∃k,k=dcOk a:=⟨_,rfl⟩;obtain⟨kb,hkb⟩:∃k,k=dcOk b:=⟨_,rfl⟩;have HX:Hid (dcN a=x1∧dcN b=x2∧dcOk a=ka∧dcOk b=kb):=⟨hx1.symm,hx2.symm,hka.symm,hkb.symm⟩;rw[←hx1,←hx2,←hka,←hkb];clear hx1 hx2 hka hkb;go_enter func87,ntmps87;go_upto_region 1 with fail;rw[HW1.out]
 go_wp2_with fail
 refine (cutDot_any s w1 HS.out).mono ?_;rintro e w2 ⟨⟨bb,rfl⟩,hb2⟩;rw[HA.out.1,HA.out.2];obtain⟨c0,c1,f0,f1⟩:=HCL.out w2 hb2;have HBW:Hid (Below w.heap.size w w2):=HB1.out.trans (hb2.mono HB1.out.size);clear hb2
 go_wp2_with fail
 refine (dec_any a w2).mono ?_;rintro e w' ⟨rfl,hw'⟩;have hw'':=hw'.symm;subst hw'';clear hw'
 go_wp2_with fail
 refine (dec_any b w2).mono ?_;rintro e w' ⟨rfl,hw'⟩;have hw'':=hw'.symm;subst hw'';clear hw';rw[HX.out.1,HX.out.2.1,HX.out.2.2.1,HX.out.2.2.2];cases ka with
 | true =>
   go_wp2;refine bodyPost_ret (v:=.tuple #[.agg #[.int i64 x1,.int i64 x2],.bool kb]) (by simp[results,results87,go_sem, *]) rfl ⟨by rw[Bool.true_and],HPUT.out _ _ _ HBW.out⟩
 | false =>
   go_wp2;refine bodyPost_ret (v:=.tuple #[.agg #[.int i64 x1,.int i64 x2],.bool false]) (by simp[results,results87,go_sem, *]) rfl ⟨by rw[Bool.false_and],HPUT.out _ _ _ HBW.out⟩
end
end Go.Proofs.YtgddlpcacnolfaaGreatDoor
