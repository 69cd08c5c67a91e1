/- Contracts and facts on the way to TextTells, joined into one text: RefReadAny, RefName, RefDigits, RefShowW, RefReadW, RefTopo1. -/
import Derived.Test.YtgddlpcacnolfaaGreatDoorTextTellsP9
namespace Go.Proofs.YtgddlpcacnolfaaGreatDoor
set_option linter.unusedSimpArgs false
set_option linter.unusedVariables false
set_option maxHeartbeats 16000000
set_option maxRecDepth 100000
open Go.Proofs.Tryz
open IntKind (i64)
section
open Go.RowKit
theorem ne_true {x:Int}(h:x≠0):(x != 0)=true:=by simpa using h
theorem pa_no {ws:List ByteArray}(h:rdW ws=false):paV ws=.agg #[.int i64 0,.int i64 0,.int i64 0,.int i64 0,.int i64 0,.int i64 0]∧paN ws=2:=
 ⟨paV_no (by rw[paN_no h];decide),paN_no h⟩
theorem readRule_any (s:ByteArray)(w:World)(hs:s.size≤1048576):
 Calls prog 30 #[.string s] w fun e w'=>e=.returned (.tuple #[paV (cutA s),.int i64 (paN (cutA s))])∧Below w.heap.size w w':=by
 have bad:∀{P:Value→Int→Prop},rdW (cutA s)=false→P (.agg #[.int i64 0,.int i64 0,.int i64 0,.int i64 0,.int i64 0,.int i64 0]) 2→P (paV (cutA s)) (paN (cutA s)):=fun {P} h hp=>by
  obtain⟨e1,e2⟩:=pa_no h;rw[e1,e2];exact hp
 by_cases hl:(cutA s).length=3∨(cutA s).length=4∨(cutA s).length=6
 ·match hws:cutA s with
  | []=>rw[hws] at hl;simp at hl
  | [_]=>rw[hws] at hl;simp at hl
  | [_,_]=>rw[hws] at hl;simp at hl
  | [a,b,c] =>
    rw[hws] at bad;cases h1:dcOk a
    ·exact bad (P:=fun V N=>Calls prog 30 #[.string s] w fun e w'=>e=.returned (.tuple #[V,.int i64 N])∧Below w.heap.size w w') (by simp[rdW,h1]) (rd_num3 s w hs a b c hws h1)
    cases h2:psOk b
    ·exact bad (P:=fun V N=>Calls prog 30 #[.string s] w fun e w'=>e=.returned (.tuple #[V,.int i64 N])∧Below w.heap.size w w') (by simp[rdW,h2]) (rd_cube3 s w hs a b c hws h1 h2)
    cases h3:(c.toList==[100,114,111,112])
    ·exact bad (P:=fun V N=>Calls prog 30 #[.string s] w fun e w'=>e=.returned (.tuple #[V,.int i64 N])∧Below w.heap.size w w') (by simp[rdW,deOk,h3]) (rd_drop3 s w hs a b c hws h1 h2 h3)
    have e:paN [a,b,c]=ruN (dcN a) (psM b) (psB b) 0 0 0:=paN_yes (by simp[rdW,deOk,h1,h2,h3]);by_cases h9:ruN (dcN a) (psM b) (psB b) 0 0 0=0
    ·rw[paV_yes (by rw[e];exact h9),e,h9];exact rd_good3 s w hs a b c hws h1 h2 h3 h9
    rw[paV_no (by rw[e];exact h9),e];exact rd_range3 s w hs a b c hws h1 h2 h3 (ne_true h9)
  | [a,b,c,d] =>
    rw[hws] at bad;cases h1:dcOk a
    ·exact bad (P:=fun V N=>Calls prog 30 #[.string s] w fun e w'=>e=.returned (.tuple #[V,.int i64 N])∧Below w.heap.size w w') (by simp[rdW,h1]) (rd_num4 s w hs a b c d hws h1)
    cases h2:psOk b
    ·exact bad (P:=fun V N=>Calls prog 30 #[.string s] w fun e w'=>e=.returned (.tuple #[V,.int i64 N])∧Below w.heap.size w w') (by simp[rdW,h2]) (rd_cube4 s w hs a b c d hws h1 h2)
    cases h3:(c.toList==[111,117,116])
    ·exact bad (P:=fun V N=>Calls prog 30 #[.string s] w fun e w'=>e=.returned (.tuple #[V,.int i64 N])∧Below w.heap.size w w') (by simp[rdW,deOk,h3]) (rd_out4 s w hs a b c d hws h1 h2 h3)
    cases h5:dcOk d
    ·exact bad (P:=fun V N=>Calls prog 30 #[.string s] w fun e w'=>e=.returned (.tuple #[V,.int i64 N])∧Below w.heap.size w w') (by simp[rdW,deOk,h5]) (rd_port4 s w hs a b c d hws h1 h2 h3 h5)
    cases h6:(dcN d==0)
    ·have e:paN [a,b,c,d]=ruN (dcN a) (psM b) (psB b) (dcN d) 0 0:=paN_yes (by simp only[rdW,deOk,h1,h2,h3,h5,h6];rfl);by_cases h9:ruN (dcN a) (psM b) (psB b) (dcN d) 0 0=0
     ·rw[paV_yes (by rw[e];exact h9),e,h9];exact rd_good4 s w hs a b c d hws h1 h2 h3 h5 h6 h9
     rw[paV_no (by rw[e];exact h9),e];exact rd_range4 s w hs a b c d hws h1 h2 h3 h5 h6 (ne_true h9)
    exact bad (P:=fun V N=>Calls prog 30 #[.string s] w fun e w'=>e=.returned (.tuple #[V,.int i64 N])∧Below w.heap.size w w') (by simp only[rdW,deOk,h1,h2,h3,h5,h6];rfl) (rd_zero4 s w hs a b c d hws h1 h2 h3 h5 h6)
  | [_,_,_,_,_]=>rw[hws] at hl;simp at hl
  | [a,b,c,d,e,f] =>
    rw[hws] at bad;cases h1:dcOk a
    ·exact bad (P:=fun V N=>Calls prog 30 #[.string s] w fun e w'=>e=.returned (.tuple #[V,.int i64 N])∧Below w.heap.size w w') (by simp[rdW,h1]) (rd_num6 s w hs a b c d e f hws h1)
    cases h2:psOk b
    ·exact bad (P:=fun V N=>Calls prog 30 #[.string s] w fun e w'=>e=.returned (.tuple #[V,.int i64 N])∧Below w.heap.size w w') (by simp[rdW,h2]) (rd_cube6 s w hs a b c d e f hws h1 h2)
    cases h3:(c.toList==[111,117,116])
    ·exact bad (P:=fun V N=>Calls prog 30 #[.string s] w fun e w'=>e=.returned (.tuple #[V,.int i64 N])∧Below w.heap.size w w') (by simp only[rdW,deOk,h1,h2,h3];rfl) (rd_out6 s w hs a b c d e f hws h1 h2 h3)
    cases h5:dcOk d
    ·exact bad (P:=fun V N=>Calls prog 30 #[.string s] w fun e w'=>e=.returned (.tuple #[V,.int i64 N])∧Below w.heap.size w w') (by simp only[rdW,deOk,h1,h2,h3,h5];rfl) (rd_port6 s w hs a b c d e f hws h1 h2 h3 h5)
    cases h6:(dcN d==0)
    ·cases h7:(e.toList==[115,101,116])
     ·exact bad (P:=fun V N=>Calls prog 30 #[.string s] w fun e w'=>e=.returned (.tuple #[V,.int i64 N])∧Below w.heap.size w w') (by simp only[rdW,deOk,h1,h2,h3,h5,h6,h7];rfl) (rd_set6 s w hs a b c d e f hws h1 h2 h3 h5 h6 h7)
     cases h8:psOk f
     ·exact bad (P:=fun V N=>Calls prog 30 #[.string s] w fun e w'=>e=.returned (.tuple #[V,.int i64 N])∧Below w.heap.size w w') (by simp only[rdW,deOk,h1,h2,h3,h5,h6,h7,h8];rfl) (rd_what6 s w hs a b c d e f hws h1 h2 h3 h5 h6 h7 h8)
     cases h10:(psM f==0)
     ·have ee:paN [a,b,c,d,e,f]=ruN (dcN a) (psM b) (psB b) (dcN d) (psM f) (psB f):=paN_yes (by simp only[rdW,deOk,h1,h2,h3,h5,h6,h7,h8,h10];rfl);by_cases h9:ruN (dcN a) (psM b) (psB b) (dcN d) (psM f) (psB f)=0
      ·rw[paV_yes (by rw[ee];exact h9),ee,h9];exact rd_good6 s w hs a b c d e f hws h1 h2 h3 h5 h6 h7 h8 h10 h9
      rw[paV_no (by rw[ee];exact h9),ee];exact rd_range6 s w hs a b c d e f hws h1 h2 h3 h5 h6 h7 h8 h10 (ne_true h9)
     exact bad (P:=fun V N=>Calls prog 30 #[.string s] w fun e w'=>e=.returned (.tuple #[V,.int i64 N])∧Below w.heap.size w w') (by simp only[rdW,deOk,h1,h2,h3,h5,h6,h7,h8,h10];rfl) (rd_none6 s w hs a b c d e f hws h1 h2 h3 h5 h6 h7 h8 h10)
    exact bad (P:=fun V N=>Calls prog 30 #[.string s] w fun e w'=>e=.returned (.tuple #[V,.int i64 N])∧Below w.heap.size w w') (by simp only[rdW,deOk,h1,h2,h3,h5,h6];rfl) (rd_zero6 s w hs a b c d e f hws h1 h2 h3 h5 h6)
  | _ :: _ :: _ :: _ :: _ :: _ :: _ :: _=>rw[hws] at hl;simp at hl
 refine bad (P:=fun V N=>Calls prog 30 #[.string s] w fun e w'=>e=.returned (.tuple #[V,.int i64 N])∧Below w.heap.size w w') (rd_no hl) ?_;exact rd_len0 s w hs _ rfl (fun h=>hl (.inl h)) (fun h=>hl (.inr (.inl h))) (fun h=>hl (.inr (.inr h)))
def ltB (c:UInt8):Bool:=decide (97≤c.toNat)&&decide (c.toNat≤122)
theorem lt_at (s:ByteArray)(k:Nat)(h:k<s.size):s.data.toList[k]'(by simpa using h)=s[k]:=by simp[ByteArray.getElem_eq_getElem_data]
theorem rnm_eq (s:ByteArray):nmB s=(decide (1≤s.size)&&(decide (s.size≤6)&&s.data.toList.all ltB)):=rfl
theorem rname_any (s:ByteArray)(w:World):
 Calls prog 37 #[.string s] w fun e w'=>e=.returned (.bool (nmB s))∧w'=w:=by
 by_cases h0:s.size=0
 ·have e0:s.toList.isEmpty=true:=by
   rw[byte_lst,List.isEmpty_iff,←List.length_eq_zero_iff,size_lst,h0]
  have HR:Hid (nmB s=false):=by
   show _=_;rw[rnm_eq,h0];rfl
  rw[HR.out];go_enter func37,ntmps37;go_wp2;go_ret;exact⟨rfl,rfl⟩
 have e0:s.toList.isEmpty=false:=by
  rw[byte_lst,←Bool.not_eq_true,List.isEmpty_iff,←List.length_eq_zero_iff,size_lst];exact h0
 by_cases h6:6<s.size
 ·have e6:decide ((6:Int)<(s.size:Int))=true:=by simp;omega
  have HR:Hid (nmB s=false):=by
   show _=_;have:¬s.size≤6:=by omega
   rw[rnm_eq];simp[this]
  rw[HR.out];go_enter func37,ntmps37;go_wp2;go_ret;exact⟨rfl,rfl⟩
 have e6:decide ((6:Int)<(s.size:Int))=false:=by simp;omega
 have HR:Hid (nmB s=s.data.toList.all ltB):=by
  show _=_;have h1:1≤s.size:=by omega
  have h2:s.size≤6:=by omega
  rw[rnm_eq];simp[h1,h2]
 obtain⟨R,hR⟩:∃R,R=nmB s:=⟨_,rfl⟩;have HRR:Hid (R=nmB s):=hR;rw[←hR];clear hR;go_enter func37,ntmps37;go_wp2
 go_loopw [3] (fun i wr=>∃k:Nat,k≤s.size∧i=.int i64 k∧(s.data.toList.take k).all ltB=true∧wr=w) (fun i _=>s.size-(intOf i).toNat)
 case atStart=>exact⟨0,by omega,rfl,by simp,rfl⟩
 case round =>
  obtain⟨k,hk,rfl,hall,rfl⟩:=hrel;have HALL:Hid ((s.data.toList.take k).all ltB=true):=hall;clear hall;by_cases hlt:k<s.size
  ·have HNX:Hid (ltB s[k]=true→(s.data.toList.take (k+1)).all ltB=true):=fun hy=>by
    have hk2:k<s.data.toList.length:=by simpa using hlt
    rw[List.take_succ_eq_append_getElem hk2,List.all_append,HALL.out,lt_at s k hlt];simp[hy]
   have HNO:Hid (ltB s[k]=false→R=false):=fun hn=>by
    rw[HRR.out,HR.out];cases ha:s.data.toList.all ltB
    ·rfl
    have hk2:k<s.data.toList.length:=by simpa using hlt
    have:=List.all_eq_true.1 ha _ (List.getElem_mem hk2);rw[lt_at s k hlt,hn] at this;cases this
   by_cases g1:s[k].toNat<97
   ·have d1:decide ((s[k].toNat:Int)<97)=true:=by simp;omega
    have HF:Hid (R=false):=HNO.out (by unfold ltB;simp;omega);go_wp2;go_ret;exact⟨by rw[HF.out];rfl,rfl⟩
   have d1:decide ((s[k].toNat:Int)<97)=false:=by simp;omega
   by_cases g2:122<s[k].toNat
   ·have d2:decide (122<(s[k].toNat:Int))=true:=by simp;omega
    have HF:Hid (R=false):=HNO.out (by unfold ltB;simp;omega);go_wp2;go_ret;exact⟨by rw[HF.out];rfl,rfl⟩
   have d2:decide (122<(s[k].toNat:Int))=false:=by simp;omega
   have HY:Hid ((s.data.toList.take (k+1)).all ltB=true):=HNX.out (by unfold ltB;simp;omega);go_wp2;go_roundw
   case rel=>exact⟨k+1,by omega,by go_num,HY.out,by first | rfl | trivial⟩
   case measure=>simp[intOf];omega
  obtain rfl:k=s.size:=by omega
  have HF:Hid (R=true):=by
   show _=_;have h1:=HALL.out;rw[←size_lst,List.take_length] at h1;rw[HRR.out,HR.out,h1]
  go_wp2;go_ret;exact⟨by rw[HF.out];rfl,rfl⟩
theorem dig1:∀k:Fin 10,(⟨#[48,49,50,51,52,53,54,55,56,57]⟩:ByteArray).extract ((k:Nat):Int).toNat (((k:Nat):Int)+1).toNat=dgS ((k:Nat):Int):=by
 decide +kernel
theorem digits_lo (p:Int)(w:World)(h0:0≤p)(h1:p<10):
 Calls prog 16 #[.int i64 p] w fun e w'=>e=.returned (.string (dgS p))∧w'=w:=by
 have e1:decide (p<10)=true:=by simpa using h1
 go_enter func16,ntmps16;go_wp2;go_ret;refine⟨ret_str ?_,rfl⟩;obtain⟨k,rfl⟩:∃k:Fin 10,p=((k:Nat):Int):=⟨⟨p.toNat,by omega⟩,by simp;omega⟩;exact dig1 k
theorem shR_3 {f t:ByteArray}{v:Int}:shT ⟨3,f,t,v⟩=⟨#[119,97,121,32]⟩++(f++⟨#[32]⟩++t)++⟨#[32]⟩++dgS v:=by
 show wayS++(blW++(f++(blW++(t++(blW++dgS v)))))=_;have e:(⟨#[119,97,121,32]⟩:ByteArray)=wayS++blW:=by decide +kernel
 rw[e];simp only[wa_as];rfl
theorem shR_2 {f t:ByteArray}{v:Int}:shT ⟨2,f,t,v⟩=⟨#[97,112,97,114,116,32]⟩++(f++⟨#[32]⟩++t):=by
 show apaS++(blW++(f++(blW++t)))=_;have e:(⟨#[97,112,97,114,116,32]⟩:ByteArray)=apaS++blW:=by decide +kernel
 rw[e];simp only[wa_as];rfl
theorem shR_1 {f t:ByteArray}{v:Int}:shT ⟨1,f,t,v⟩=⟨#[114,101,97,99,104,32]⟩++(f++⟨#[32]⟩++t):=by
 show reaS++(blW++(f++(blW++t)))=_;have e:(⟨#[114,101,97,99,104,32]⟩:ByteArray)=reaS++blW:=by decide +kernel
 rw[e];simp only[wa_as];rfl
theorem rshow_any (k:Int)(f t:ByteArray)(v:Int)(w:World):
 Calls prog 19 #[.agg #[.int i64 k,.string f,.string t,.int i64 v]] w fun e w'=>e=.returned (.tuple #[.string (shV ⟨k,f,t,v⟩),.int i64 (shN ⟨k,f,t,v⟩)])∧Below w.heap.size w w':=by
 have hb0:Below w.heap.size w (w.alloc (.cells #[.int i64 k,.string f,.string t,.int i64 v] 50)):=(bRQ _ _).alloc (nLQ _) _;have hx0:=wibox_new w k f t v 50;obtain⟨w0,hw0⟩:∃W,w.alloc (.cells #[.int i64 k,.string f,.string t,.int i64 v] 50)=W:=⟨_,rfl⟩;rw[hw0] at hb0 hx0;have HW0:Hid (w.alloc (.cells #[.int i64 k,.string f,.string t,.int i64 v] 50)=w0):=hw0;have HB0:Hid (Below w.heap.size w w0):=hb0;have HX0:Hid (WiBox w0 w.heap.size k f t v):=hx0;obtain⟨R,hR⟩:∃R,R=shN ⟨k,f,t,v⟩:=⟨_,rfl⟩;obtain⟨V,hV⟩:∃V,V=shV ⟨k,f,t,v⟩:=⟨_,rfl⟩;obtain⟨Q1,hQ1⟩:∃q,q=(!wkB k || !viB ⟨k,f,t,v⟩ 6):=⟨_,rfl⟩;obtain⟨Q2,hQ2⟩:∃q,q=((k != 4) && !(nmB f&&nmB t)):=⟨_,rfl⟩;obtain⟨Q3,hQ3⟩:∃q,q=(veB ⟨k,f,t,v⟩ || ((k==4) && !nlB ⟨k,f,t,v⟩)):=⟨_,rfl⟩;have HR:Hid (R=if Q1 then 1 else if Q2 then 2 else if Q3 then 3 else 0):=by
  show _=_;rw[hR,hQ1,hQ2,hQ3];rfl
 have HRS:Hid (shN ⟨k,f,t,v⟩=R):=hR.symm;have HV:Hid (V=shV ⟨k,f,t,v⟩):=hV;have HQ1:Hid ((!wkB k || !viB ⟨k,f,t,v⟩ 6)=Q1):=hQ1.symm;have HQ2:Hid (((k != 4) && !(nmB f&&nmB t))=Q2):=hQ2.symm;have HQ3:Hid ((veB ⟨k,f,t,v⟩ || ((k==4) && !nlB ⟨k,f,t,v⟩))=Q3):=hQ3.symm;rw[←hR,←hV];obtain⟨x0,x1,x2,x3⟩:=hx0;clear hb0 hw0 hR hV hQ1 hQ2 hQ3;go_enter func19,ntmps19;go_upto_region 1 with fail;rw[HW0.out];clear HW0
 go_cut [30] from 8 to 31 (fun c w'=>c=.bool Q1∧w'=w0)
 case first =>
  by_cases k1:k<1
  ·have hq:true=Q1:=by
    rw[←HQ1.out];have:wkB k=false:=by simp[wkB];omega
    simp[this]
   subst hq
   go_wp2_with fail
   go_meet
   exact⟨by first | rfl | simp[k1],rfl⟩
  by_cases k4:4<k
  ·have hq:true=Q1:=by
    rw[←HQ1.out];have:wkB k=false:=by simp[wkB];omega
    simp[this]
   subst hq
   go_wp2_with fail
   go_meet
   exact⟨by first | rfl | simp[k1,k4],rfl⟩
  have hwk:wkB k=true:=by simp[wkB];omega
  by_cases k3:k=3
  ·subst k3;by_cases v1:v<1
   ·have hq:true=Q1:=by
     rw[←HQ1.out];have:viB ⟨3,f,t,v⟩ 6=false:=by simp[viB,swB];omega
     simp[this]
    subst hq
    go_wp2_with fail
    go_meet
    exact⟨by first | rfl | simp[v1],rfl⟩
   by_cases v2:6<v
   ·have hq:true=Q1:=by
     rw[←HQ1.out];have:viB ⟨3,f,t,v⟩ 6=false:=by simp[viB,swB];omega
     simp[this]
    subst hq
    go_wp2_with fail
    go_meet
    exact⟨by first | rfl | simp[v1,v2],rfl⟩
   have hq:false=Q1:=by
    rw[←HQ1.out];have h1:viB ⟨3,f,t,v⟩ 6=true:=by simp[viB,swB];omega
    rw[hwk,h1];rfl
   subst hq
   go_wp2_with fail
   go_meet
   exact⟨by first | rfl | simp[v1,v2],rfl⟩
  have hq:false=Q1:=by
   rw[←HQ1.out];have hvi:viB ⟨k,f,t,v⟩ 6=true:=by simp[viB,k3]
   rw[hwk,hvi];rfl
  subst hq
  go_wp2_with fail
  go_meet
  exact⟨by first | rfl | simp[k1,k3,k4],rfl⟩
 case rest =>
 obtain⟨rfl,hwc⟩:=hcut;subst hwc;cases Q1 with
 | true =>
   have HR1:Hid (R=1):=by
    show _=_;rw[HR.out,if_pos rfl]
   have HV1:Hid (V=ByteArray.empty):=by
    show _=_;rw[HV.out,shV,if_neg (by rw[HRS.out,HR1.out];decide)]
   go_wp2;refine bodyPost_ret (v:=.tuple #[.string ⟨#[]⟩,.int i64 1]) (by simp[results,results19,go_sem]) rfl ⟨by rw[HR1.out,HV1.out];rfl,HB0.out⟩
 | false =>
   have HR1:Hid (R=if Q2 then 2 else if Q3 then 3 else 0):=by
    show _=_;rw[HR.out,if_neg (by decide)]
   clear HR HQ1
   go_wp2_with fail
   refine (rname_any f _).mono ?_;rintro e w1 ⟨rfl,hw1⟩;subst hw1
   go_wp2_with fail
   refine (rname_any t _).mono ?_;rintro e w2 ⟨rfl,hw2⟩;subst hw2;obtain⟨NF,hNF⟩:∃q,q=nmB f:=⟨_,rfl⟩;obtain⟨NT,hNT⟩:∃q,q=nmB t:=⟨_,rfl⟩;have HQ2':Hid (((k != 4) && !(NF&&NT))=Q2):=by
    show _=_;rw[hNF,hNT];exact HQ2.out
   rw[←hNF,←hNT];clear hNF hNT HQ2;go_upto_region 5 with fail
   go_cut [47] from 37 to 48 (fun c w'=>c=.bool Q2∧w'=w2)
   case first =>
    by_cases k4:k=4
    ·subst k4;have hq:false=Q2:=HQ2'.out;subst hq
     go_wp2_with fail
     go_meet
     exact⟨rfl,rfl⟩
    have hkk:(k != 4)=true:=by simp[k4]
    have hq:(!(NF&&NT))=Q2:=by
     have:=HQ2'.out;rw[hkk,Bool.true_and] at this;exact this
    cases NF with
    | false =>
      have hq2:true=Q2:=hq;subst hq2;clear hq
      go_wp2_with fail
      go_meet
      exact⟨by first | rfl | simp[hkk],rfl⟩
    | true =>
      have hq2:(!NT)=Q2:=hq;subst hq2;clear hq
      go_wp2_with fail
      go_meet
      exact⟨by first | rfl | simp[hkk],rfl⟩
   case rest =>
   obtain⟨rfl,hwc⟩:=hcut;subst hwc;cases Q2 with
   | true =>
     have HR2:Hid (R=2):=by
      show _=_;rw[HR1.out,if_pos rfl]
     have HV1:Hid (V=ByteArray.empty):=by
      show _=_;rw[HV.out,shV,if_neg (by rw[HRS.out,HR2.out];decide)]
     go_wp2;refine bodyPost_ret (v:=.tuple #[.string ⟨#[]⟩,.int i64 2]) (by simp[results,results19,go_sem]) rfl ⟨by rw[HR2.out,HV1.out];rfl,HB0.out⟩
   | false =>
     have HR2:Hid (R=if Q3 then 3 else 0):=by
      show _=_;rw[HR1.out,if_neg (by decide)]
     clear HR1;go_upto_region 7 with fail
     go_cut [70] from 48 to 71 (fun c w'=>c=.bool Q3∧w'=wc)
     case first =>
      by_cases k4:k=4
      ·subst k4;by_cases v0:v=0
       ·subst v0;cases hf:f.toList.isEmpty
        ·have hq:true=Q3:=by
          rw[←HQ3.out];simp[veB,nlB,←emp_lst,hf]
         subst hq
         go_wp2_with fail
         go_meet
         exact⟨by first | rfl | simp[hf],rfl⟩
        cases ht:t.toList.isEmpty
        ·have hq:true=Q3:=by
          rw[←HQ3.out];simp[veB,nlB,←emp_lst,ht]
         subst hq
         go_wp2_with fail
         go_meet
         exact⟨by first | rfl | simp[hf,ht],rfl⟩
        have hq:false=Q3:=by
         rw[←HQ3.out];simp[veB,nlB,←emp_lst,hf,ht]
        subst hq
        go_wp2_with fail
        go_meet
        exact⟨by first | rfl | simp[hf,ht],rfl⟩
       have hq:true=Q3:=by
        rw[←HQ3.out];simp[veB,v0]
       subst hq
       go_wp2_with fail
       go_meet
       exact⟨by first | rfl | simp[v0],rfl⟩
      have hq:(k != 3&&v != 0)=Q3:=by
       rw[←HQ3.out];simp[veB,k4]
      by_cases k3:k=3
      ·subst k3;have hq2:false=Q3:=hq;subst hq2
       go_wp2_with fail
       go_meet
       exact⟨by first | rfl | simp,rfl⟩
      by_cases v0:v=0
      ·subst v0;have hq2:false=Q3:=by rw[←hq];simp
       subst hq2;clear hq
       go_wp2_with fail
       go_meet
       exact⟨by first | rfl | simp[k4],rfl⟩
      have hq2:true=Q3:=by rw[←hq];simp[k3,v0]
      subst hq2;clear hq
      go_wp2_with fail
      go_meet
      exact⟨by first | rfl | simp[k3,v0],rfl⟩
     case rest =>
     obtain⟨rfl,hwc⟩:=hcut;subst hwc;cases Q3 with
     | true =>
       have HR3:Hid (R=3):=by
        show _=_;rw[HR2.out,if_pos rfl]
       have HV1:Hid (V=ByteArray.empty):=by
        show _=_;rw[HV.out,shV,if_neg (by rw[HRS.out,HR3.out];decide)]
       go_wp2;refine bodyPost_ret (v:=.tuple #[.string ⟨#[]⟩,.int i64 3]) (by simp[results,results19,go_sem]) rfl ⟨by rw[HR3.out,HV1.out];rfl,HB0.out⟩
     | false =>
       have HR3:Hid (R=0):=by
        show _=_;rw[HR2.out,if_neg (by decide)]
       have HS:Hid (shN ⟨k,f,t,v⟩=0):=HRS.out.trans HR3.out;have HVT:Hid (V=shT ⟨k,f,t,v⟩):=by
        show _=_;rw[HV.out,shV,if_pos HS.out]
       have hsh:=shw_0 HS.out;clear HRS HV HQ3 HR2 HQ2'
       rcases hsh with ⟨e,z1,z2,_⟩ | ⟨e | e,n1,n2,_⟩ | ⟨e,n1,n2,e1,e6⟩
       ·simp only at e z1 z2;subst e;have d1:f.size=0:=by rw[z1];rfl
        have d2:t.size=0:=by rw[z2];rfl
        clear z1 z2;go_wp2;refine bodyPost_ret (v:=.tuple #[.string looS,.int i64 0]) (by simp[results,results19,go_sem,looS]) rfl ⟨by rw[HR3.out,HVT.out,shT_4],HB0.out⟩
       ·simp only at e n1 n2;subst e;have d1:=nm_size n1;have d2:=nm_size n2;clear n1 n2;go_wp2;refine bodyPost_ret (v:=.tuple #[.string (⟨#[114,101,97,99,104,32]⟩++(f++⟨#[32]⟩++t)),.int i64 0]) (by simp[results,results19,go_sem]) rfl ⟨by rw[HR3.out,HVT.out,shR_1],HB0.out⟩
       ·simp only at e n1 n2;subst e;have d1:=nm_size n1;have d2:=nm_size n2;clear n1 n2;go_wp2;refine bodyPost_ret (v:=.tuple #[.string (⟨#[97,112,97,114,116,32]⟩++(f++⟨#[32]⟩++t)),.int i64 0]) (by simp[results,results19,go_sem]) rfl ⟨by rw[HR3.out,HVT.out,shR_2],HB0.out⟩
       simp only at e e1 e6 n1 n2;subst e;have d1:=nm_size n1;have d2:=nm_size n2;have d3:=dgs_size v;clear n1 n2
       go_wp2_with fail
       refine (digits_lo v _ (by omega) (by omega)).mono ?_;rintro e w4 ⟨rfl,hw4⟩;subst hw4;go_wp2;refine bodyPost_ret (v:=.tuple #[.string (⟨#[119,97,121,32]⟩++(f++⟨#[32]⟩++t)++⟨#[32]⟩++dgS v),.int i64 0]) (by simp[results,results19,go_sem]) rfl ⟨by rw[HR3.out,HVT.out,shR_3],HB0.out⟩
structure RK (w W:World)(gW gB:Nat)(c:List ByteArray)(k:Int)(f t:ByteArray)(v:Int):Prop where
 below:Below w.heap.size w W
 ws:WAt W gW 0 c
 r:WiBox W w.heap.size 0 ⟨#[]⟩ ⟨#[]⟩ 0
 rf:∀i,W.frozen? ⟨w.heap.size,i,none⟩=false
 x:WiBox W gB k f t v
 xf:∀i,W.frozen? ⟨gB,i,none⟩=false
theorem RK.later {w W W':World}{gW gB:Nat}{c:List ByteArray}{k:Int}{f t:ByteArray}{v:Int}(h:RK w W gW gB c k f t v)(hb:Below W.heap.size W W'):RK w W' gW gB c k f t v:=
 ⟨h.below.trans (hb.mono h.below.size),h.ws.later hb,h.r.later hb,froz_later h.rf h.r.1 hb,h.x.later hb,froz_later h.xf h.x.1 hb⟩
theorem RK.set {w W:World}{gW gB:Nat}{c:List ByteArray}{k:Int}{f t:ByteArray}{v:Int}(h:RK w W gW gB c k f t v)(h1:w.heap.size<gB)(h2:gW≠gB)(j:Nat)(u:Value){k':Int}{f' t':ByteArray}{v':Int}(hx:WiBox (W.setCell ⟨gB,j,none⟩ u) gB k' f' t' v'):RK w (W.setCell ⟨gB,j,none⟩ u) gW gB c k' f' t' v':=by
 obtain⟨b,ws,⟨r0,r1,r2,r3⟩,rf,_,xf⟩:=h;have g3:w.heap.size≠gB:=by omega
 exact⟨b.setCell (p:=⟨gB,j,none⟩) (Nat.le_of_lt h1) u,fun i hi=>other h2 (ws i hi),⟨other g3 r0,other g3 r1,other g3 r2,other g3 r3⟩,fun i=>by rw[froz_set];exact rf i,hx,fun i=>by rw[froz_set];exact xf i⟩
theorem RK.set0 {w W:World}{gW gB:Nat}{c:List ByteArray}{k:Int}{f t:ByteArray}{v:Int}(h:RK w W gW gB c k f t v)(h1:w.heap.size<gB)(h2:gW≠gB)(a:Int):RK w (W.setCell ⟨gB,0,none⟩ (.int i64 a)) gW gB c a f t v:=
 h.set h1 h2 0 _ ⟨same_cell h.x.1,other2 (by decide) h.x.2.1,other2 (by decide) h.x.2.2.1,other2 (by decide) h.x.2.2.2⟩
theorem RK.set3 {w W:World}{gW gB:Nat}{c:List ByteArray}{k:Int}{f t:ByteArray}{v:Int}(h:RK w W gW gB c k f t v)(h1:w.heap.size<gB)(h2:gW≠gB)(a:Int):RK w (W.setCell ⟨gB,3,none⟩ (.int i64 a)) gW gB c k f t a:=
 h.set h1 h2 3 _ ⟨other2 (by decide) h.x.1,other2 (by decide) h.x.2.1,other2 (by decide) h.x.2.2.1,same_cell h.x.2.2.2⟩
theorem word_is {a b:ByteArray}{l:List UInt8}(h:(a.toList==l)=true)(hb:b.data.toList=l):a=b:=by
 rw[byte_lst,beq_iff_eq] at h;exact wa_ext (h.trans hb.symm)
theorem word_no {a b:ByteArray}{l:List UInt8}(h:(a.toList==l)=false)(hb:b.data.toList=l):(a==b)=false:=by
 cases e:(a==b) with
 | false=>rfl
 | true =>
   rw[ba_eq.1 e,byte_lst,hb] at h;simp at h
theorem wr_1:wrK reaS=1:=rfl
theorem wr_2:wrK apaS=2:=rfl
theorem wr_3:wrK wayS=3:=rfl
theorem wr_0 {a:ByteArray}(h1:(a==reaS)=false)(h2:(a==apaS)=false)(h3:(a==wayS)=false):wrK a=0:=by
 unfold wrK;rw[h1,h2,h3];rfl
theorem three {c:List ByteArray}(h:c.length=3):c=[c.getD 0 ByteArray.empty,c.getD 1 ByteArray.empty,c.getD 2 ByteArray.empty]:=by
 match c,h with
 | [a,b,d],_=>rfl
theorem four {c:List ByteArray}(h:c.length=4):c=[c.getD 0 ByteArray.empty,c.getD 1 ByteArray.empty,c.getD 2 ByteArray.empty,c.getD 3 ByteArray.empty]:=by
 match c,h with
 | [a,b,d,e],_=>rfl
theorem rd_none {c:List ByteArray}(h3:c.length≠3)(h4:c.length≠4):rdL c=none:=by
 match c with
 | []=>rfl
 | [_]=>rfl
 | [_,_]=>rfl
 | [_,_,_]=>exact absurd rfl h3
 | [_,_,_,_]=>exact absurd rfl h4
 | _ :: _ :: _ :: _ :: _ :: _=>rfl
theorem rread_any (s:ByteArray)(w:World)(hs:s.size≤1048576):
 Calls prog 31 #[.string s] w fun e w'=>e=.returned (.tuple #[.agg #[.int i64 (paW s).k,.string (paW s).f,.string (paW s).t,.int i64 (paW s).v],.bool (rdO s).isSome])∧Below w.heap.size w w':=by
 obtain⟨E,hE⟩:∃q,q=(rdO s).isSome:=⟨_,rfl⟩;obtain⟨X,hX⟩:∃q,q=paW s:=⟨_,rfl⟩;have HE:Hid (E=(rdO s).isSome):=hE;have HW:Hid (X=paW s):=hX;rw[←hE,←hX];have hb0:Below w.heap.size w (w.alloc (.cells #[.int i64 0,.string ⟨#[]⟩,.string ⟨#[]⟩,.int i64 0] 50)):=(bRQ _ _).alloc (nLQ _) _;have hr0:=wibox_new w 0 ⟨#[]⟩ ⟨#[]⟩ 0 50;have hrf0:∀i,(w.alloc (.cells #[.int i64 0,.string ⟨#[]⟩,.string ⟨#[]⟩,.int i64 0] 50)).frozen? ⟨w.heap.size,i,none⟩=false:=fun i=>by simp
 obtain⟨w0,hw0⟩:∃W,w.alloc (.cells #[.int i64 0,.string ⟨#[]⟩,.string ⟨#[]⟩,.int i64 0] 50)=W:=⟨_,rfl⟩;rw[hw0] at hb0 hr0 hrf0;have HW0:Hid (w.alloc (.cells #[.int i64 0,.string ⟨#[]⟩,.string ⟨#[]⟩,.int i64 0] 50)=w0):=hw0;have HB0:Hid (Below w.heap.size w w0):=hb0;have HR0:Hid (WiBox w0 w.heap.size 0 ⟨#[]⟩ ⟨#[]⟩ 0):=hr0;have HF0:Hid (∀i,w0.frozen? ⟨w.heap.size,i,none⟩=false):=hrf0;have HSZ:Hid (s.size≤1048576):=hs;obtain⟨BL,hBL⟩:∃q,q=(s.toList==[108,111,111,112,115]):=⟨_,rfl⟩;have hbl:(s.toList==[108,111,111,112,115])=BL:=hBL.symm;clear hE hX hb0 hr0 hrf0 hw0 hs hBL;go_enter func31,ntmps31;go_upto_region 1 with fail;rw[HW0.out];clear HW0;cases BL with
 | true =>
   have HS:Hid (rdO s=some ⟨4,ByteArray.empty,ByteArray.empty,0⟩):=by
    show _=_;have e:s=looS:=word_is hbl rfl;rw[rdO,if_pos (ba_eq.2 e)]
   obtain⟨r0,r1,r2,r3⟩:=HR0.out;have f0:=HF0.out 0;have f1:=HF0.out 1;have f2:=HF0.out 2;have f3:=HF0.out 3;go_wp2;refine bodyPost_ret (v:=.tuple #[.agg #[.int i64 4,.string ⟨#[]⟩,.string ⟨#[]⟩,.int i64 0],.bool true]) (by simp[results,results31,go_sem, *]) rfl ⟨by rw[HE.out,HW.out,paW,HS.out];rfl,below_put4 HB0.out _ (nLQ _) _ _ _ _⟩
 | false =>
   have HRD:Hid (rdO s=rdL (cutA s)):=by
    show _=_;have e:(s==looS)=false:=word_no hbl rfl;rw[rdO,e];rfl
   go_wp2_with fail
   refine (cut_any s _ HSZ.out).mono ?_;rintro e w1 ⟨vv,rfl,hown,hb1⟩;obtain⟨gW,cap,rfl,hgB,hcc,_,hws⟩:=own_words hown (cutA_len s).1;obtain⟨c,hc⟩:∃q,q=cutA s:=⟨_,rfl⟩;have HRC:Hid (rdO s=rdL c):=by
    show _=_;rw[hc];exact HRD.out
   have hcl:=(cutA_len s).1;rw[←hc] at hws hcc hcl ⊢;obtain⟨n,hn⟩:∃q,q=c.length:=⟨_,rfl⟩;have HCN:Hid (c.length=n):=hn.symm;rw[←hn] at hcc hcl ⊢;have HB1:Hid (Below w.heap.size w w1):=HB0.out.trans (hb1.mono HB0.out.size);have HR1:Hid (WiBox w1 w.heap.size 0 ⟨#[]⟩ ⟨#[]⟩ 0):=HR0.out.later hb1;have HF1:Hid (∀i,w1.frozen? ⟨w.heap.size,i,none⟩=false):=froz_later HF0.out HR0.out.1 hb1;have HWS:Hid (WAt w1 gW 0 c):=hws;have HGWL:Hid (gW<w1.heap.size):=by
    have:=hws 0 (by rw[←hn];omega);exact bLQ _ _ this
   clear hc hn hown hb1 hgB hws HB0 HR0 HF0 HRD hbl;by_cases hn34:n≠3∧n≠4
   ·have HS:Hid (rdO s=none):=by
     show _=_;rw[HRC.out];exact rd_none (by rw[HCN.out];exact hn34.1) (by rw[HCN.out];exact hn34.2)
    have e3:((n:Int) != 3)=true:=by have:=hn34.1;simp;omega
    have e4:((n:Int) != 4)=true:=by have:=hn34.2;simp;omega
    obtain⟨r0,r1,r2,r3⟩:=HR1.out;have f0:=HF1.out 0;have f1:=HF1.out 1;have f2:=HF1.out 2;have f3:=HF1.out 3;have HB1':Hid (Below w.heap.size w w1):=HB1.out;go_wp2;refine bodyPost_ret (v:=.tuple #[.agg #[.int i64 0,.string ⟨#[]⟩,.string ⟨#[]⟩,.int i64 0],.bool false]) (by simp[results,results31,go_sem, *]) rfl ⟨by rw[HE.out,HW.out,paW,HS.out];rfl,below_put4 HB1'.out _ (nLQ _) _ _ _ _⟩
   have hn3:n=3∨n=4:=by omega
   have hni0:(0:Int)<(n:Int):=by omega
   have hni1:(1:Int)<(n:Int):=by omega
   have hni2:(2:Int)<(n:Int):=by omega
   have hn0:¬n=0:=by omega
   have q0:w1.cell? ⟨gW,0,none⟩=some (.string (c.getD 0 ByteArray.empty)):=by
    have:=HWS.out 0 (by rw[HCN.out];omega);rw[getB (by rw[HCN.out];omega)];simpa using this
   have q1:w1.cell? ⟨gW,1,none⟩=some (.string (c.getD 1 ByteArray.empty)):=by
    have:=HWS.out 1 (by rw[HCN.out];omega);rw[getB (by rw[HCN.out];omega)];simpa using this
   have q2:w1.cell? ⟨gW,2,none⟩=some (.string (c.getD 2 ByteArray.empty)):=by
    have:=HWS.out 2 (by rw[HCN.out];omega);rw[getB (by rw[HCN.out];omega)];simpa using this
   obtain⟨a,ha⟩:∃q,q=c.getD 0 ByteArray.empty:=⟨_,rfl⟩;obtain⟨f,hf⟩:∃q,q=c.getD 1 ByteArray.empty:=⟨_,rfl⟩;obtain⟨t,ht⟩:∃q,q=c.getD 2 ByteArray.empty:=⟨_,rfl⟩;have HA:Hid (c.getD 0 ByteArray.empty=a):=ha.symm;have HFC:Hid (c.getD 1 ByteArray.empty=f):=hf.symm;have HTC:Hid (c.getD 2 ByteArray.empty=t):=ht.symm;rw[←ha] at q0;rw[←hf] at q1;rw[←ht] at q2;have hlg:gW<w1.heap.size:=HGWL.out;obtain⟨gB,hgB⟩:∃q,q=w1.heap.size:=⟨_,rfl⟩;have HNE:Hid (gW≠gB):=by
    show _≠_;have:=HGWL.out;omega
   have HLB:Hid (w.heap.size<gB):=by
    show _<_;rw[hgB];exact bLQ _ _ HR1.out.1
   have HGB:Hid (w1.heap.size=gB):=hgB.symm;have HRK:Hid (∀W,Below w1.heap.size w1 W→RK w (W.alloc (.cells #[.int i64 0,.string f,.string t,.int i64 0] 50)) gW W.heap.size c 0 f t 0):=fun W hW=>by
    have ha2:Below W.heap.size W (W.alloc (.cells #[.int i64 0,.string f,.string t,.int i64 0] 50)):=(bRQ _ _).alloc (nLQ _) _;have h2:=hW.trans (ha2.mono hW.size);exact⟨HB1.out.trans (h2.mono HB1.out.size),HWS.out.later h2,HR1.out.later h2,froz_later HF1.out HR1.out.1 h2,wibox_new W 0 f t 0 50,fun i=>by simp⟩
   have HSZ1:Hid (w1.drew.heap.size=w1.heap.size):=rfl;clear ha hf ht hgB;go_upto_region 4 with fail
   go_cut [22] from 15 to 23 (fun c w'=>c=.bool false∧w'=w1)
   case first =>
    rcases hn3 with e3 | e4
    ·have z3:((n:Int) != 3)=false:=by rw[e3];rfl
     go_wp2_with fail
     go_meet
     exact⟨by first | rfl | simp[z3],rfl⟩
    have z3:((n:Int) != 3)=true:=by rw[e4];rfl
    have z4:((n:Int) != 4)=false:=by rw[e4];rfl
    go_wp2_with fail
    go_meet
    exact⟨by first | rfl | simp[z3,z4],rfl⟩
   case rest =>
   obtain⟨rfl,hwc⟩:=hcut;have hwc:=hwc.symm;subst hwc;go_upto_region 6 with fail
   go_cut [5] from 24 to 31 (fun p w'=>p=.pointer (some ⟨gB,0,none⟩)∧RK w w' gW gB c 0 f t 0)
   case first =>
    go_region
    all_goals
     go_wp2_with fail
     go_meet
     refine⟨?_,?_⟩
     ·rw[←HGB.out]
     have:=HRK.out w1.drew (Below.drew (bRQ _ _));rw[HSZ1.out,HGB.out] at this;exact this
   case rest =>
   obtain⟨rfl,hk2⟩:=hcut;obtain⟨w2,hw2⟩:∃W,W=wc:=⟨_,rfl⟩;subst hw2;have HK2:Hid (RK w w2 gW gB c 0 f t 0):=hk2;have q0:w2.cell? ⟨gW,0,none⟩=some (.string (c.getD 0 ByteArray.empty)):=by
    have:=hk2.ws 0 (by rw[HCN.out];omega);rw[getB (by rw[HCN.out];omega)];simpa using this
   rw[HA.out] at q0;have hne:¬gW=gB:=HNE.out;obtain⟨x0,x1,x2,x3⟩:=hk2.x;have xf0:=hk2.xf 0;have hlb:gB<w2.heap.size:=bLQ _ _ x0;clear hk2 HRK HSZ1 HWS HR1 HF1 HB1 HGWL HGB q1 q2 hlg;obtain⟨B1,hB1⟩:∃q,q=(a.toList==[114,101,97,99,104]):=⟨_,rfl⟩;obtain⟨B2,hB2⟩:∃q,q=(a.toList==[97,112,97,114,116]):=⟨_,rfl⟩;obtain⟨B3,hB3⟩:∃q,q=(a.toList==[119,97,121]):=⟨_,rfl⟩;have h1:(a.toList==[114,101,97,99,104])=B1:=hB1.symm;have h2:(a.toList==[97,112,97,114,116])=B2:=hB2.symm;have h3:(a.toList==[119,97,121])=B3:=hB3.symm;clear hB1 hB2 hB3;cases B1 with
   | true =>
     have k2:B2=false:=by
      have e:=word_is (b:=reaS) h1 rfl;rw[←h2,e,byte_lst];rfl
     have k3:B3=false:=by
      have e:=word_is (b:=reaS) h1 rfl;rw[←h3,e,byte_lst];rfl
     subst k2;subst k3;have HKI:Hid (wrK a=1):=by
      show _=_;rw[word_is (b:=reaS) h1 rfl];exact wr_1
     have HK3:Hid (RK w (w2.setCell ⟨gB,0,none⟩ (.int i64 1)) gW gB c 1 f t 0):=HK2.out.set0 HLB.out HNE.out 1;have q0b:(w2.setCell ⟨gB,0,none⟩ (.int i64 1)).cell? ⟨gW,0,none⟩=some (.string a):=other hne q0;go_upto_region 13 with fail
     generalize w2.setCell ⟨gB,0,none⟩ (.int i64 1)=w3 at *
     clear HK2 x0 x1 x2 x3 xf0 hlb q0
     rcases hn3 with e3 | e4
     ·have HRV:Hid (rdO s=okW ⟨1,f,t,0⟩):=by
       show _=_;rw[HRC.out,three (HCN.out.trans e3),HA.out,HFC.out,HTC.out];show okW ⟨wrK a,f,t,0⟩=_;rw[HKI.out]
      have en4:((n:Int)==4)=false:=by rw[e3];rfl
      clear h1 h2 h3;obtain⟨PN,hPN⟩:∃q,q=shN ⟨1,f,t,0⟩:=⟨_,rfl⟩;have HPN:Hid (shN ⟨1,f,t,0⟩=PN):=hPN.symm;obtain⟨x0,x1,x2,x3⟩:=HK3.out.x;clear hPN
      go_wp2_with fail
      refine (rshow_any 1 f t 0 _).mono ?_;rintro e w8 ⟨rfl,hb8⟩;rw[HPN.out];have HK8:Hid (RK w w8 gW gB c 1 f t 0):=HK3.out.later hb8;clear hb8 x0 x1 x2 x3 HK3;by_cases h0:PN=0
      ·have HS:Hid (rdO s=some ⟨1,f,t,0⟩):=by
        show _=_;rw[HRV.out,okW,if_pos (HPN.out.trans h0)]
       subst h0;obtain⟨x0,x1,x2,x3⟩:=HK8.out.x;obtain⟨r0,r1,r2,r3⟩:=HK8.out.r;have f0:=HK8.out.rf 0;have f1:=HK8.out.rf 1;have f2:=HK8.out.rf 2;have f3:=HK8.out.rf 3;have HBZ:Hid (Below w.heap.size w w8):=HK8.out.below;go_wp2;refine bodyPost_ret (v:=.tuple #[.agg #[.int i64 1,.string f,.string t,.int i64 0],.bool true]) (by simp[results,results31,go_sem, *]) rfl ⟨by rw[HE.out,HW.out,paW,HS.out];rfl,below_put4 HBZ.out _ (nLQ _) _ _ _ _⟩
      have hpn0:(PN != 0)=true:=by simp[h0]
      have HS:Hid (rdO s=none):=by
       show _=_;rw[HRV.out,okW,if_neg (by rw[HPN.out];exact h0)]
      obtain⟨r0,r1,r2,r3⟩:=HK8.out.r;have f0:=HK8.out.rf 0;have f1:=HK8.out.rf 1;have f2:=HK8.out.rf 2;have f3:=HK8.out.rf 3;have HBZ:Hid (Below w.heap.size w w8):=HK8.out.below;go_wp2;refine bodyPost_ret (v:=.tuple #[.agg #[.int i64 0,.string ⟨#[]⟩,.string ⟨#[]⟩,.int i64 0],.bool false]) (by simp[results,results31,go_sem, *]) rfl ⟨by rw[HE.out,HW.out,paW,HS.out];rfl,below_put4 HBZ.out _ (nLQ _) _ _ _ _⟩
     have HR4:Hid (rdO s=if dcOk (c.getD 3 ByteArray.empty)&&((a==wayS) && !(dcN (c.getD 3 ByteArray.empty)==0)) then okW ⟨1,f,t,dcN (c.getD 3 ByteArray.empty)⟩ else none):=by
      show _=_;rw[HRC.out,four (HCN.out.trans e4),HA.out,HFC.out,HTC.out];show (if dcOk (c.getD 3 ByteArray.empty)&&((a==wayS) && !(dcN (c.getD 3 ByteArray.empty)==0)) then okW ⟨wrK a,f,t,dcN (c.getD 3 ByteArray.empty)⟩ else none)=_;rw[HKI.out];rfl
     have en4:((n:Int)==4)=true:=by rw[e4];rfl
     have hni3:(3:Int)<(n:Int):=by omega
     have q3:w3.cell? ⟨gW,3,none⟩=some (.string (c.getD 3 ByteArray.empty)):=by
      have:=HK3.out.ws 3 (by rw[HCN.out];omega);rw[getB (by rw[HCN.out];omega)];simpa using this
     obtain⟨d,hd⟩:∃q,q=c.getD 3 ByteArray.empty:=⟨_,rfl⟩;rw[←hd] at q3;have HR5:Hid (rdO s=if dcOk d&&((a==wayS) && !(dcN d==0)) then okW ⟨1,f,t,dcN d⟩ else none):=by
      show _=_;rw[hd];exact HR4.out
     clear hd HR4
     go_wp2_with fail
     refine (num_any d _).mono ?_;rintro e w5 ⟨rfl,hw5⟩;subst hw5;obtain⟨OK,hOK⟩:∃q,q=dcOk d:=⟨_,rfl⟩;obtain⟨D,hD⟩:∃q,q=dcN d:=⟨_,rfl⟩;rw[←hOK,←hD];have HR6:Hid (rdO s=if OK&&((a==wayS) && !(D==0)) then okW ⟨1,f,t,D⟩ else none):=by
      show _=_;rw[hOK,hD];exact HR5.out
     obtain⟨x0,x1,x2,x3⟩:=HK3.out.x;have xf3:=HK3.out.xf 3;have hlb:gB<w5.heap.size:=bLQ _ _ x0;clear hOK hD HR5;cases OK with
     | false =>
       have HS:Hid (rdO s=none):=by rw[HR6.out];rfl
       obtain⟨r0,r1,r2,r3⟩:=HK3.out.r;have f0:=HK3.out.rf 0;have f1:=HK3.out.rf 1;have f2:=HK3.out.rf 2;have f3:=HK3.out.rf 3;have HBZ:Hid (Below w.heap.size w w5):=HK3.out.below;go_wp2;refine bodyPost_ret (v:=.tuple #[.agg #[.int i64 0,.string ⟨#[]⟩,.string ⟨#[]⟩,.int i64 0],.bool false]) (by simp[results,results31,go_sem, *]) rfl ⟨by rw[HE.out,HW.out,paW,HS.out];rfl,below_put4 HBZ.out _ (nLQ _) _ _ _ _⟩
     | true =>
       have hw3:(a==wayS)=false:=word_no h3 rfl;clear h1 h2 h3;have HS:Hid (rdO s=none):=by rw[HR6.out,hw3];rfl
       obtain⟨r0,r1,r2,r3⟩:=HK3.out.r;have f0:=HK3.out.rf 0;have f1:=HK3.out.rf 1;have f2:=HK3.out.rf 2;have f3:=HK3.out.rf 3;have HBZ:Hid (Below w.heap.size w w5):=HK3.out.below;go_wp2;refine bodyPost_ret (v:=.tuple #[.agg #[.int i64 0,.string ⟨#[]⟩,.string ⟨#[]⟩,.int i64 0],.bool false]) (by simp[results,results31,go_sem, *]) rfl ⟨by rw[HE.out,HW.out,paW,HS.out];rfl,below_put4 HBZ.out _ (nLQ _) _ _ _ _⟩
   | false =>
     cases B2 with
     | true =>
       have k3:B3=false:=by
        have e:=word_is (b:=apaS) h2 rfl;rw[←h3,e,byte_lst];rfl
       subst k3;have HKI:Hid (wrK a=2):=by
        show _=_;rw[word_is (b:=apaS) h2 rfl];exact wr_2
       have HK3:Hid (RK w (w2.setCell ⟨gB,0,none⟩ (.int i64 2)) gW gB c 2 f t 0):=HK2.out.set0 HLB.out HNE.out 2;have q0b:(w2.setCell ⟨gB,0,none⟩ (.int i64 2)).cell? ⟨gW,0,none⟩=some (.string a):=other hne q0;go_upto_region 13 with fail
       generalize w2.setCell ⟨gB,0,none⟩ (.int i64 2)=w3 at *
       clear HK2 x0 x1 x2 x3 xf0 hlb q0
       rcases hn3 with e3 | e4
       ·have HRV:Hid (rdO s=okW ⟨2,f,t,0⟩):=by
         show _=_;rw[HRC.out,three (HCN.out.trans e3),HA.out,HFC.out,HTC.out];show okW ⟨wrK a,f,t,0⟩=_;rw[HKI.out]
        have en4:((n:Int)==4)=false:=by rw[e3];rfl
        clear h1 h2 h3;obtain⟨PN,hPN⟩:∃q,q=shN ⟨2,f,t,0⟩:=⟨_,rfl⟩;have HPN:Hid (shN ⟨2,f,t,0⟩=PN):=hPN.symm;obtain⟨x0,x1,x2,x3⟩:=HK3.out.x;clear hPN
        go_wp2_with fail
        refine (rshow_any 2 f t 0 _).mono ?_;rintro e w8 ⟨rfl,hb8⟩;rw[HPN.out];have HK8:Hid (RK w w8 gW gB c 2 f t 0):=HK3.out.later hb8;clear hb8 x0 x1 x2 x3 HK3;by_cases h0:PN=0
        ·have HS:Hid (rdO s=some ⟨2,f,t,0⟩):=by
          show _=_;rw[HRV.out,okW,if_pos (HPN.out.trans h0)]
         subst h0;obtain⟨x0,x1,x2,x3⟩:=HK8.out.x;obtain⟨r0,r1,r2,r3⟩:=HK8.out.r;have f0:=HK8.out.rf 0;have f1:=HK8.out.rf 1;have f2:=HK8.out.rf 2;have f3:=HK8.out.rf 3;have HBZ:Hid (Below w.heap.size w w8):=HK8.out.below;go_wp2;refine bodyPost_ret (v:=.tuple #[.agg #[.int i64 2,.string f,.string t,.int i64 0],.bool true]) (by simp[results,results31,go_sem, *]) rfl ⟨by rw[HE.out,HW.out,paW,HS.out];rfl,below_put4 HBZ.out _ (nLQ _) _ _ _ _⟩
        have hpn0:(PN != 0)=true:=by simp[h0]
        have HS:Hid (rdO s=none):=by
         show _=_;rw[HRV.out,okW,if_neg (by rw[HPN.out];exact h0)]
        obtain⟨r0,r1,r2,r3⟩:=HK8.out.r;have f0:=HK8.out.rf 0;have f1:=HK8.out.rf 1;have f2:=HK8.out.rf 2;have f3:=HK8.out.rf 3;have HBZ:Hid (Below w.heap.size w w8):=HK8.out.below;go_wp2;refine bodyPost_ret (v:=.tuple #[.agg #[.int i64 0,.string ⟨#[]⟩,.string ⟨#[]⟩,.int i64 0],.bool false]) (by simp[results,results31,go_sem, *]) rfl ⟨by rw[HE.out,HW.out,paW,HS.out];rfl,below_put4 HBZ.out _ (nLQ _) _ _ _ _⟩
       have HR4:Hid (rdO s=if dcOk (c.getD 3 ByteArray.empty)&&((a==wayS) && !(dcN (c.getD 3 ByteArray.empty)==0)) then okW ⟨2,f,t,dcN (c.getD 3 ByteArray.empty)⟩ else none):=by
        show _=_;rw[HRC.out,four (HCN.out.trans e4),HA.out,HFC.out,HTC.out];show (if dcOk (c.getD 3 ByteArray.empty)&&((a==wayS) && !(dcN (c.getD 3 ByteArray.empty)==0)) then okW ⟨wrK a,f,t,dcN (c.getD 3 ByteArray.empty)⟩ else none)=_;rw[HKI.out];rfl
       have en4:((n:Int)==4)=true:=by rw[e4];rfl
       have hni3:(3:Int)<(n:Int):=by omega
       have q3:w3.cell? ⟨gW,3,none⟩=some (.string (c.getD 3 ByteArray.empty)):=by
        have:=HK3.out.ws 3 (by rw[HCN.out];omega);rw[getB (by rw[HCN.out];omega)];simpa using this
       obtain⟨d,hd⟩:∃q,q=c.getD 3 ByteArray.empty:=⟨_,rfl⟩;rw[←hd] at q3;have HR5:Hid (rdO s=if dcOk d&&((a==wayS) && !(dcN d==0)) then okW ⟨2,f,t,dcN d⟩ else none):=by
        show _=_;rw[hd];exact HR4.out
       clear hd HR4
       go_wp2_with fail
       refine (num_any d _).mono ?_;rintro e w5 ⟨rfl,hw5⟩;subst hw5;obtain⟨OK,hOK⟩:∃q,q=dcOk d:=⟨_,rfl⟩;obtain⟨D,hD⟩:∃q,q=dcN d:=⟨_,rfl⟩;rw[←hOK,←hD];have HR6:Hid (rdO s=if OK&&((a==wayS) && !(D==0)) then okW ⟨2,f,t,D⟩ else none):=by
        show _=_;rw[hOK,hD];exact HR5.out
       obtain⟨x0,x1,x2,x3⟩:=HK3.out.x;have xf3:=HK3.out.xf 3;have hlb:gB<w5.heap.size:=bLQ _ _ x0;clear hOK hD HR5;cases OK with
       | false =>
         have HS:Hid (rdO s=none):=by rw[HR6.out];rfl
         obtain⟨r0,r1,r2,r3⟩:=HK3.out.r;have f0:=HK3.out.rf 0;have f1:=HK3.out.rf 1;have f2:=HK3.out.rf 2;have f3:=HK3.out.rf 3;have HBZ:Hid (Below w.heap.size w w5):=HK3.out.below;go_wp2;refine bodyPost_ret (v:=.tuple #[.agg #[.int i64 0,.string ⟨#[]⟩,.string ⟨#[]⟩,.int i64 0],.bool false]) (by simp[results,results31,go_sem, *]) rfl ⟨by rw[HE.out,HW.out,paW,HS.out];rfl,below_put4 HBZ.out _ (nLQ _) _ _ _ _⟩
       | true =>
         have hw3:(a==wayS)=false:=word_no h3 rfl;clear h1 h2 h3;have HS:Hid (rdO s=none):=by rw[HR6.out,hw3];rfl
         obtain⟨r0,r1,r2,r3⟩:=HK3.out.r;have f0:=HK3.out.rf 0;have f1:=HK3.out.rf 1;have f2:=HK3.out.rf 2;have f3:=HK3.out.rf 3;have HBZ:Hid (Below w.heap.size w w5):=HK3.out.below;go_wp2;refine bodyPost_ret (v:=.tuple #[.agg #[.int i64 0,.string ⟨#[]⟩,.string ⟨#[]⟩,.int i64 0],.bool false]) (by simp[results,results31,go_sem, *]) rfl ⟨by rw[HE.out,HW.out,paW,HS.out];rfl,below_put4 HBZ.out _ (nLQ _) _ _ _ _⟩
     | false =>
       cases B3 with
       | true =>
         have HKI:Hid (wrK a=3):=by
          show _=_;rw[word_is (b:=wayS) h3 rfl];exact wr_3
         have HK3:Hid (RK w (w2.setCell ⟨gB,0,none⟩ (.int i64 3)) gW gB c 3 f t 0):=HK2.out.set0 HLB.out HNE.out 3;have q0b:(w2.setCell ⟨gB,0,none⟩ (.int i64 3)).cell? ⟨gW,0,none⟩=some (.string a):=other hne q0;go_upto_region 13 with fail
         generalize w2.setCell ⟨gB,0,none⟩ (.int i64 3)=w3 at *
         clear HK2 x0 x1 x2 x3 xf0 hlb q0
         rcases hn3 with e3 | e4
         ·have HRV:Hid (rdO s=okW ⟨3,f,t,0⟩):=by
           show _=_;rw[HRC.out,three (HCN.out.trans e3),HA.out,HFC.out,HTC.out];show okW ⟨wrK a,f,t,0⟩=_;rw[HKI.out]
          have en4:((n:Int)==4)=false:=by rw[e3];rfl
          clear h1 h2 h3;obtain⟨PN,hPN⟩:∃q,q=shN ⟨3,f,t,0⟩:=⟨_,rfl⟩;have HPN:Hid (shN ⟨3,f,t,0⟩=PN):=hPN.symm;obtain⟨x0,x1,x2,x3⟩:=HK3.out.x;clear hPN
          go_wp2_with fail
          refine (rshow_any 3 f t 0 _).mono ?_;rintro e w8 ⟨rfl,hb8⟩;rw[HPN.out];have HK8:Hid (RK w w8 gW gB c 3 f t 0):=HK3.out.later hb8;clear hb8 x0 x1 x2 x3 HK3;by_cases h0:PN=0
          ·have HS:Hid (rdO s=some ⟨3,f,t,0⟩):=by
            show _=_;rw[HRV.out,okW,if_pos (HPN.out.trans h0)]
           subst h0;obtain⟨x0,x1,x2,x3⟩:=HK8.out.x;obtain⟨r0,r1,r2,r3⟩:=HK8.out.r;have f0:=HK8.out.rf 0;have f1:=HK8.out.rf 1;have f2:=HK8.out.rf 2;have f3:=HK8.out.rf 3;have HBZ:Hid (Below w.heap.size w w8):=HK8.out.below;go_wp2;refine bodyPost_ret (v:=.tuple #[.agg #[.int i64 3,.string f,.string t,.int i64 0],.bool true]) (by simp[results,results31,go_sem, *]) rfl ⟨by rw[HE.out,HW.out,paW,HS.out];rfl,below_put4 HBZ.out _ (nLQ _) _ _ _ _⟩
          have hpn0:(PN != 0)=true:=by simp[h0]
          have HS:Hid (rdO s=none):=by
           show _=_;rw[HRV.out,okW,if_neg (by rw[HPN.out];exact h0)]
          obtain⟨r0,r1,r2,r3⟩:=HK8.out.r;have f0:=HK8.out.rf 0;have f1:=HK8.out.rf 1;have f2:=HK8.out.rf 2;have f3:=HK8.out.rf 3;have HBZ:Hid (Below w.heap.size w w8):=HK8.out.below;go_wp2;refine bodyPost_ret (v:=.tuple #[.agg #[.int i64 0,.string ⟨#[]⟩,.string ⟨#[]⟩,.int i64 0],.bool false]) (by simp[results,results31,go_sem, *]) rfl ⟨by rw[HE.out,HW.out,paW,HS.out];rfl,below_put4 HBZ.out _ (nLQ _) _ _ _ _⟩
         have HR4:Hid (rdO s=if dcOk (c.getD 3 ByteArray.empty)&&((a==wayS) && !(dcN (c.getD 3 ByteArray.empty)==0)) then okW ⟨3,f,t,dcN (c.getD 3 ByteArray.empty)⟩ else none):=by
          show _=_;rw[HRC.out,four (HCN.out.trans e4),HA.out,HFC.out,HTC.out];show (if dcOk (c.getD 3 ByteArray.empty)&&((a==wayS) && !(dcN (c.getD 3 ByteArray.empty)==0)) then okW ⟨wrK a,f,t,dcN (c.getD 3 ByteArray.empty)⟩ else none)=_;rw[HKI.out];rfl
         have en4:((n:Int)==4)=true:=by rw[e4];rfl
         have hni3:(3:Int)<(n:Int):=by omega
         have q3:w3.cell? ⟨gW,3,none⟩=some (.string (c.getD 3 ByteArray.empty)):=by
          have:=HK3.out.ws 3 (by rw[HCN.out];omega);rw[getB (by rw[HCN.out];omega)];simpa using this
         obtain⟨d,hd⟩:∃q,q=c.getD 3 ByteArray.empty:=⟨_,rfl⟩;rw[←hd] at q3;have HR5:Hid (rdO s=if dcOk d&&((a==wayS) && !(dcN d==0)) then okW ⟨3,f,t,dcN d⟩ else none):=by
          show _=_;rw[hd];exact HR4.out
         clear hd HR4
         go_wp2_with fail
         refine (num_any d _).mono ?_;rintro e w5 ⟨rfl,hw5⟩;subst hw5;obtain⟨OK,hOK⟩:∃q,q=dcOk d:=⟨_,rfl⟩;obtain⟨D,hD⟩:∃q,q=dcN d:=⟨_,rfl⟩;rw[←hOK,←hD];have HR6:Hid (rdO s=if OK&&((a==wayS) && !(D==0)) then okW ⟨3,f,t,D⟩ else none):=by
          show _=_;rw[hOK,hD];exact HR5.out
         obtain⟨x0,x1,x2,x3⟩:=HK3.out.x;have xf3:=HK3.out.xf 3;have hlb:gB<w5.heap.size:=bLQ _ _ x0;clear hOK hD HR5;cases OK with
         | false =>
           have HS:Hid (rdO s=none):=by rw[HR6.out];rfl
           obtain⟨r0,r1,r2,r3⟩:=HK3.out.r;have f0:=HK3.out.rf 0;have f1:=HK3.out.rf 1;have f2:=HK3.out.rf 2;have f3:=HK3.out.rf 3;have HBZ:Hid (Below w.heap.size w w5):=HK3.out.below;go_wp2;refine bodyPost_ret (v:=.tuple #[.agg #[.int i64 0,.string ⟨#[]⟩,.string ⟨#[]⟩,.int i64 0],.bool false]) (by simp[results,results31,go_sem, *]) rfl ⟨by rw[HE.out,HW.out,paW,HS.out];rfl,below_put4 HBZ.out _ (nLQ _) _ _ _ _⟩
         | true =>
           have hw3:(a==wayS)=true:=ba_eq.2 (word_is h3 rfl);have HR7:Hid (rdO s=if !(D==0) then okW ⟨3,f,t,D⟩ else none):=by
            show _=_;rw[HR6.out,hw3];rfl
           clear h1 h2 h3 hw3 HR6;by_cases d0:D=0
           ·subst d0;have HS:Hid (rdO s=none):=by rw[HR7.out];rfl
            obtain⟨r0,r1,r2,r3⟩:=HK3.out.r;have f0:=HK3.out.rf 0;have f1:=HK3.out.rf 1;have f2:=HK3.out.rf 2;have f3:=HK3.out.rf 3;have HBZ:Hid (Below w.heap.size w w5):=HK3.out.below;go_wp2;refine bodyPost_ret (v:=.tuple #[.agg #[.int i64 0,.string ⟨#[]⟩,.string ⟨#[]⟩,.int i64 0],.bool false]) (by simp[results,results31,go_sem, *]) rfl ⟨by rw[HE.out,HW.out,paW,HS.out];rfl,below_put4 HBZ.out _ (nLQ _) _ _ _ _⟩
           have HRV:Hid (rdO s=okW ⟨3,f,t,D⟩):=by
            show _=_;rw[HR7.out];simp[d0]
           have hd0:(D==0)=false:=by simp[d0]
           have HK6:Hid (RK w (w5.setCell ⟨gB,3,none⟩ (.int i64 D)) gW gB c 3 f t D):=HK3.out.set3 HLB.out HNE.out D;go_upto_region 18 with fail
           generalize w5.setCell ⟨gB,3,none⟩ (.int i64 D)=w6 at *
           clear x0 x1 x2 x3 xf3 hlb HK3 q3 d0 hd0;obtain⟨PN,hPN⟩:∃q,q=shN ⟨3,f,t,D⟩:=⟨_,rfl⟩;have HPN:Hid (shN ⟨3,f,t,D⟩=PN):=hPN.symm;obtain⟨x0,x1,x2,x3⟩:=HK6.out.x;clear hPN
           go_wp2_with fail
           refine (rshow_any 3 f t D _).mono ?_;rintro e w8 ⟨rfl,hb8⟩;rw[HPN.out];have HK8:Hid (RK w w8 gW gB c 3 f t D):=HK6.out.later hb8;clear hb8 x0 x1 x2 x3 HK6;by_cases h0:PN=0
           ·have HS:Hid (rdO s=some ⟨3,f,t,D⟩):=by
             show _=_;rw[HRV.out,okW,if_pos (HPN.out.trans h0)]
            subst h0;obtain⟨x0,x1,x2,x3⟩:=HK8.out.x;obtain⟨r0,r1,r2,r3⟩:=HK8.out.r;have f0:=HK8.out.rf 0;have f1:=HK8.out.rf 1;have f2:=HK8.out.rf 2;have f3:=HK8.out.rf 3;have HBZ:Hid (Below w.heap.size w w8):=HK8.out.below;go_wp2;refine bodyPost_ret (v:=.tuple #[.agg #[.int i64 3,.string f,.string t,.int i64 D],.bool true]) (by simp[results,results31,go_sem, *]) rfl ⟨by rw[HE.out,HW.out,paW,HS.out];rfl,below_put4 HBZ.out _ (nLQ _) _ _ _ _⟩
           have hpn0:(PN != 0)=true:=by simp[h0]
           have HS:Hid (rdO s=none):=by
            show _=_;rw[HRV.out,okW,if_neg (by rw[HPN.out];exact h0)]
           obtain⟨r0,r1,r2,r3⟩:=HK8.out.r;have f0:=HK8.out.rf 0;have f1:=HK8.out.rf 1;have f2:=HK8.out.rf 2;have f3:=HK8.out.rf 3;have HBZ:Hid (Below w.heap.size w w8):=HK8.out.below;go_wp2;refine bodyPost_ret (v:=.tuple #[.agg #[.int i64 0,.string ⟨#[]⟩,.string ⟨#[]⟩,.int i64 0],.bool false]) (by simp[results,results31,go_sem, *]) rfl ⟨by rw[HE.out,HW.out,paW,HS.out];rfl,below_put4 HBZ.out _ (nLQ _) _ _ _ _⟩
       | false =>
         have HKI:Hid (wrK a=0):=wr_0 (word_no h1 rfl) (word_no h2 rfl) (word_no h3 rfl);obtain⟨w3,hw3⟩:∃W,W=w2:=⟨_,rfl⟩;have HK3:Hid (RK w w3 gW gB c 0 f t 0):=by rw[hw3];exact HK2.out
         go_upto_region 13 with fail;rw[←hw3];clear hw3;clear HK2 x0 x1 x2 x3 xf0 hlb q0
         rcases hn3 with e3 | e4
         ·have HRV:Hid (rdO s=okW ⟨0,f,t,0⟩):=by
           show _=_;rw[HRC.out,three (HCN.out.trans e3),HA.out,HFC.out,HTC.out];show okW ⟨wrK a,f,t,0⟩=_;rw[HKI.out]
          have en4:((n:Int)==4)=false:=by rw[e3];rfl
          clear h1 h2 h3;obtain⟨PN,hPN⟩:∃q,q=shN ⟨0,f,t,0⟩:=⟨_,rfl⟩;have HPN:Hid (shN ⟨0,f,t,0⟩=PN):=hPN.symm;obtain⟨x0,x1,x2,x3⟩:=HK3.out.x;clear hPN
          go_wp2_with fail
          refine (rshow_any 0 f t 0 _).mono ?_;rintro e w8 ⟨rfl,hb8⟩;rw[HPN.out];have HK8:Hid (RK w w8 gW gB c 0 f t 0):=HK3.out.later hb8;clear hb8 x0 x1 x2 x3 HK3;by_cases h0:PN=0
          ·have HS:Hid (rdO s=some ⟨0,f,t,0⟩):=by
            show _=_;rw[HRV.out,okW,if_pos (HPN.out.trans h0)]
           subst h0;obtain⟨x0,x1,x2,x3⟩:=HK8.out.x;obtain⟨r0,r1,r2,r3⟩:=HK8.out.r;have f0:=HK8.out.rf 0;have f1:=HK8.out.rf 1;have f2:=HK8.out.rf 2;have f3:=HK8.out.rf 3;have HBZ:Hid (Below w.heap.size w w8):=HK8.out.below;go_wp2;refine bodyPost_ret (v:=.tuple #[.agg #[.int i64 0,.string f,.string t,.int i64 0],.bool true]) (by simp[results,results31,go_sem, *]) rfl ⟨by rw[HE.out,HW.out,paW,HS.out];rfl,below_put4 HBZ.out _ (nLQ _) _ _ _ _⟩
          have hpn0:(PN != 0)=true:=by simp[h0]
          have HS:Hid (rdO s=none):=by
           show _=_;rw[HRV.out,okW,if_neg (by rw[HPN.out];exact h0)]
          obtain⟨r0,r1,r2,r3⟩:=HK8.out.r;have f0:=HK8.out.rf 0;have f1:=HK8.out.rf 1;have f2:=HK8.out.rf 2;have f3:=HK8.out.rf 3;have HBZ:Hid (Below w.heap.size w w8):=HK8.out.below;go_wp2;refine bodyPost_ret (v:=.tuple #[.agg #[.int i64 0,.string ⟨#[]⟩,.string ⟨#[]⟩,.int i64 0],.bool false]) (by simp[results,results31,go_sem, *]) rfl ⟨by rw[HE.out,HW.out,paW,HS.out];rfl,below_put4 HBZ.out _ (nLQ _) _ _ _ _⟩
         have HR4:Hid (rdO s=if dcOk (c.getD 3 ByteArray.empty)&&((a==wayS) && !(dcN (c.getD 3 ByteArray.empty)==0)) then okW ⟨0,f,t,dcN (c.getD 3 ByteArray.empty)⟩ else none):=by
          show _=_;rw[HRC.out,four (HCN.out.trans e4),HA.out,HFC.out,HTC.out];show (if dcOk (c.getD 3 ByteArray.empty)&&((a==wayS) && !(dcN (c.getD 3 ByteArray.empty)==0)) then okW ⟨wrK a,f,t,dcN (c.getD 3 ByteArray.empty)⟩ else none)=_;rw[HKI.out];rfl
         have en4:((n:Int)==4)=true:=by rw[e4];rfl
         have hni3:(3:Int)<(n:Int):=by omega
         have q3:w3.cell? ⟨gW,3,none⟩=some (.string (c.getD 3 ByteArray.empty)):=by
          have:=HK3.out.ws 3 (by rw[HCN.out];omega);rw[getB (by rw[HCN.out];omega)];simpa using this
         obtain⟨d,hd⟩:∃q,q=c.getD 3 ByteArray.empty:=⟨_,rfl⟩;rw[←hd] at q3;have HR5:Hid (rdO s=if dcOk d&&((a==wayS) && !(dcN d==0)) then okW ⟨0,f,t,dcN d⟩ else none):=by
          show _=_;rw[hd];exact HR4.out
         clear hd HR4
         go_wp2_with fail
         refine (num_any d _).mono ?_;rintro e w5 ⟨rfl,hw5⟩;subst hw5;obtain⟨OK,hOK⟩:∃q,q=dcOk d:=⟨_,rfl⟩;obtain⟨D,hD⟩:∃q,q=dcN d:=⟨_,rfl⟩;rw[←hOK,←hD];have HR6:Hid (rdO s=if OK&&((a==wayS) && !(D==0)) then okW ⟨0,f,t,D⟩ else none):=by
          show _=_;rw[hOK,hD];exact HR5.out
         obtain⟨x0,x1,x2,x3⟩:=HK3.out.x;have xf3:=HK3.out.xf 3;have hlb:gB<w5.heap.size:=bLQ _ _ x0;clear hOK hD HR5;cases OK with
         | false =>
           have HS:Hid (rdO s=none):=by rw[HR6.out];rfl
           obtain⟨r0,r1,r2,r3⟩:=HK3.out.r;have f0:=HK3.out.rf 0;have f1:=HK3.out.rf 1;have f2:=HK3.out.rf 2;have f3:=HK3.out.rf 3;have HBZ:Hid (Below w.heap.size w w5):=HK3.out.below;go_wp2;refine bodyPost_ret (v:=.tuple #[.agg #[.int i64 0,.string ⟨#[]⟩,.string ⟨#[]⟩,.int i64 0],.bool false]) (by simp[results,results31,go_sem, *]) rfl ⟨by rw[HE.out,HW.out,paW,HS.out];rfl,below_put4 HBZ.out _ (nLQ _) _ _ _ _⟩
         | true =>
           have hw3:(a==wayS)=false:=word_no h3 rfl;clear h1 h2 h3;have HS:Hid (rdO s=none):=by rw[HR6.out,hw3];rfl
           obtain⟨r0,r1,r2,r3⟩:=HK3.out.r;have f0:=HK3.out.rf 0;have f1:=HK3.out.rf 1;have f2:=HK3.out.rf 2;have f3:=HK3.out.rf 3;have HBZ:Hid (Below w.heap.size w w5):=HK3.out.below;go_wp2;refine bodyPost_ret (v:=.tuple #[.agg #[.int i64 0,.string ⟨#[]⟩,.string ⟨#[]⟩,.int i64 0],.bool false]) (by simp[results,results31,go_sem, *]) rfl ⟨by rw[HE.out,HW.out,paW,HS.out];rfl,below_put4 HBZ.out _ (nLQ _) _ _ _ _⟩
structure B2 (w W:World)(S:Int)(v1 v2:Value)(x y:Int):Prop where
 below:Below w.heap.size w W
 t:TBox W w.heap.size S v1 v2
 s0:W.cell? ⟨w.heap.size+1,0,none⟩=some (.int i64 x)
 s1:W.cell? ⟨w.heap.size+1,1,none⟩=some (.int i64 y)
theorem B2.later {w W W':World}{S:Int}{v1 v2:Value}{x y:Int}(h:B2 w W S v1 v2 x y)(hb:Below W.heap.size W W'):B2 w W' S v1 v2 x y:=
 ⟨h.below.trans (hb.mono h.below.size),h.t.later hb,cell_later hb h.s0,cell_later hb h.s1⟩
theorem b2_new (w:World)(S:Int)(v1 v2:Value)(x y:Int):B2 w ((w.alloc (.cells #[.int i64 S,v1,v2] 25)).alloc (.cells #[.int i64 x,.int i64 y] 55)) S v1 v2 x y:=by
 have hb1:Below w.heap.size w (w.alloc (.cells #[.int i64 S,v1,v2] 25)):=(bRQ _ _).alloc (nLQ _) _;have h:=spo_new (w.alloc (.cells #[.int i64 S,v1,v2] 25)) x y 55;have e1:(w.alloc (.cells #[.int i64 S,v1,v2] 25)).heap.size=w.heap.size+1:=by simp
 rw[e1] at h;obtain⟨s0,s1⟩:=spo_cells h;exact⟨hb1.alloc hb1.size _,(tbox_new w S v1 v2 25).later ((bRQ _ _).alloc (nLQ _) _),s0,s1⟩
theorem rspot_any (S:Int)(ao:AdQ)(n cap:Nat)(ao2:AdQ)(n2 cap2:Nat)(x y:Int)(w:World):
 Calls prog 36 #[.agg #[.int i64 S,.slice ao n cap,.slice ao2 n2 cap2],.agg #[.int i64 x,.int i64 y]] w fun e w'=>e=.returned (.bool (spB S (x,y)))∧Below w.heap.size w w':=by
 have HB:Hid (Below w.heap.size w ((w.alloc (.cells #[.int i64 S,.slice ao n cap,.slice ao2 n2 cap2] 25)).alloc (.cells #[.int i64 x,.int i64 y] 55))):=(b2_new w S _ _ x y).below;have hr:spB S (x,y)=(decide (1≤x)&&(decide (x≤S)&&(decide (1≤y)&&decide (y≤4)))):=rfl;rw[hr];clear hr;cases g1:decide (1≤x)
 ·simp only[Bool.false_and];go_enter func36,ntmps36;go_wp2;go_ret;exact⟨rfl,HB.out⟩
 cases g2:decide (x≤S)
 ·simp only[Bool.false_and,Bool.and_false];go_enter func36,ntmps36;go_wp2;go_ret;exact⟨rfl,HB.out⟩
 cases g3:decide (1≤y)
 ·simp only[Bool.false_and,Bool.and_false];go_enter func36,ntmps36;go_wp2;go_ret;exact⟨rfl,HB.out⟩
 simp only[Bool.true_and];obtain⟨r,hr⟩:∃r,r=decide (y≤4):=⟨_,rfl⟩;go_enter func36,ntmps36;go_wp2;go_ret;exact⟨rfl,HB.out⟩
end
end Go.Proofs.YtgddlpcacnolfaaGreatDoor
