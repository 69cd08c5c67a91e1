/- Contracts and facts on the way to TextTells, joined into one text: TextTake, TextLns, TextParseMath, TextParse, RefCut, RefCutC, RefNumber, RefReadSpot, RefCube, RefBit, RefText, RefRead. -/
import Derived.Test.YtgddlpcacnolfaaGreatDoorTextTellsP6
namespace Go.Proofs.YtgddlpcacnolfaaGreatDoor
set_option linter.unusedSimpArgs false
set_option linter.unusedVariables false
set_option maxHeartbeats 16000000
set_option maxRecDepth 100000
open Go.Proofs.Tryz
open IntKind (i64)
section
open Go.RowKit
def TkR (W:World)(gd B:Nat)(d:RdT)(X:Nat→Prop)(p:ByteArray)(ok:Bool)(W':World):Prop:=
 (∀e,tkO d p=some e→ok=true∧DrQ W gd B (e.ph+1) (e.Ts.length:Int) X { e with Ts:=pdT e.S e.Ts } W')∧(tkO d p=none→ok=false)
theorem DrB.ph {W:World}{gd B:Nat}{d:RdT}{a l:Int}{v1 v2 v3 v7:Value}{vs:List SlT}(h:DrB W gd B d a l v1 v2 v3 v7 vs)(p:Int):DrB W gd B { d with ph:=p } a l v1 v2 v3 v7 vs:=⟨h.m.ph p,h.c4,h.c5,h.c6⟩
theorem DrQ.ph {W W':World}{gd B:Nat}{d:RdT}{a l:Int}{X:Nat→Prop}(h:DrQ W gd B a l X d W')(p:Int):DrQ W gd B a l X { d with ph:=p } W':=by
 obtain⟨u1,u2,u3,u7,us,h1,h2⟩:=h;exact⟨u1,u2,u3,u7,us,h1.ph p,h2⟩
theorem DrQ.base {W V W':World}{gd B:Nat}{d:RdT}{a l:Int}{X:Nat→Prop}(h:DrQ V gd B a l X d W')(hs:V.heap.size=W.heap.size):DrQ W gd B a l X d W':=by
 obtain⟨u1,u2,u3,u7,us,h1,h2⟩:=h;exact⟨u1,u2,u3,u7,us,h1,fun b hb=>by rw[←hs];exact h2 b hb⟩
section
variable {W W':World}{gd B:Nat}{d:RdT}{X:Nat→Prop}{p s:ByteArray}{l:Int}
theorem tkr_no (h:tkO d p=none):TkR W gd B d X p false W':=⟨(fun e he=>by rw[h] at he;cases he),fun _=>rfl⟩
theorem tkr_if {c:Bool}{e:RdT}(h:tkO d p=if c=true then some e else none)(hq:c=true→DrQ W gd B (e.ph+1) (e.Ts.length:Int) X { e with Ts:=pdT e.S e.Ts } W'):TkR W gd B d X p c W':=by
 cases c with
 | false=>exact tkr_no (by rw[h];rfl)
 | true =>
   refine⟨fun e' he=>?_,(fun hn=>by rw[h] at hn;cases hn)⟩;rw[h,if_pos rfl] at he;cases he;exact⟨rfl,hq rfl⟩
theorem tk_en (hen:enB p=true)(hs:p.extract 0 (p.size-1)=s):tkO d p=lnO d s:=by rw[tkO,if_pos hen,hs]
theorem phB_cf {k:Int}(h0 : -1≤d.ph):phB d k=(decide (d.ph+1≠0)&&decide (d.ph+1≤k+1)):=by
 unfold phB
 congr 1
 ·by_cases h:0≤d.ph
  ·rw[decide_eq_true h,decide_eq_true (show d.ph+1≠0 by omega)]
  rw[decide_eq_false h,decide_eq_false (show ¬d.ph+1≠0 by omega)]
 by_cases h:d.ph≤k
 ·rw[decide_eq_true h,decide_eq_true (show d.ph+1≤k+1 by omega)]
 rw[decide_eq_false h,decide_eq_false (show ¬d.ph+1≤k+1 by omega)]
theorem cf_1 (h0 : -1≤d.ph):cfB (d.ph+1) 1=decide (d.ph<0):=by
 unfold cfB;rw[if_pos rfl];by_cases h:d.ph<0
 ·rw[decide_eq_true h,decide_eq_true (show d.ph+1=0 by omega)]
 rw[decide_eq_false h,decide_eq_false (show ¬d.ph+1=0 by omega)]
theorem cf_k {k:Int}(hk:k≠0)(h0 : -1≤d.ph):cfB (d.ph+1) (k+1)=phB d k:=by
 unfold cfB;rw[if_neg (by omega),phB_cf h0]
theorem cf_no (hP:PhI d)(h:cfB (d.ph+1) (kdN (c1S 32 s))=false):lnO d s=none:=by
 unfold kdN at h;by_cases h1:c1S 32 s=swcS
 ·rw[if_pos h1,cf_1 hP.1] at h;rw[lp_sw h1,h];rfl
 rw[if_neg h1] at h;by_cases h2:c1S 32 s=lnkS
 ·rw[if_pos h2,show (2:Int)=1+1 from rfl,cf_k (by decide) hP.1] at h;rw[lp_lk h2,h];rfl
 rw[if_neg h2] at h;by_cases h3:c1S 32 s=hosS
 ·rw[if_pos h3,show (3:Int)=2+1 from rfl,cf_k (by decide) hP.1] at h;rw[lp_ho h3,h];rfl
 rw[if_neg h3] at h;by_cases h4:c1S 32 s=rulS
 ·rw[if_pos h4,show (4:Int)=3+1 from rfl,cf_k (by decide) hP.1] at h;rw[lp_rl h4,h];rfl
 rw[if_neg h4,show (5:Int)=4+1 from rfl,cf_k (by decide) hP.1] at h;rw[lp_wi h1 h2 h3 h4];cases rdO s with
 | none=>rfl
 | some x =>
   simp only;rw[h];rfl
theorem tkr_sw (hen:enB p=true)(hs:p.extract 0 (p.size-1)=s)(hw:c1S 32 s=swcS)(hP:PhI d)(hcf:cfB (d.ph+1) 1=true){a:Int}(hQ:DrQ W gd B 1 (d.Ts.length:Int) X { d with S:=dcN (c2S 32 s),Ts:=List.replicate (min (dcN (c2S 32 s)) 6).toNat [] } W'):TkR W gd B d X p (dcOk (c2S 32 s)) W':=by
 rw[cf_1 hP.1] at hcf;have hph:=of_decide_eq_true hcf;have hd:d.Ts=[]:=by rw[hP.2.2.1 hph];rfl
 refine tkr_if (e:={ d with S:=dcN (c2S 32 s),ph:=0 }) (by rw[tk_en hen hs,lp_sw hw,hcf,Bool.true_and]) fun _=>?_
 have h:=hQ.ph 0;show DrQ W gd B 1 (d.Ts.length:Int) X { d with S:=dcN (c2S 32 s),Ts:=pdT (dcN (c2S 32 s)) d.Ts,ph:=0 } W';rw[hd] at h ⊢;exact h
theorem tkr_lk (hen:enB p=true)(hs:p.extract 0 (p.size-1)=s)(hw:c1S 32 s=lnkS)(hP:PhI d)(hcf:cfB (d.ph+1) 2=true)(hQ:DrQ W gd B 2 (d.Ts.length:Int) X { d with Ls:=d.Ls++[(xpV (c1S 32 (c2S 32 s)),xpV (c2S 32 (c2S 32 s)))],Ts:=pdT d.S d.Ts } W'):TkR W gd B d X p (spP (c1S 32 (c2S 32 s))&&spP (c2S 32 (c2S 32 s))) W':=by
 rw[show (2:Int)=1+1 from rfl,cf_k (by decide) hP.1] at hcf;exact tkr_if (e:={ d with Ls:=d.Ls++[(xpV (c1S 32 (c2S 32 s)),xpV (c2S 32 (c2S 32 s)))],ph:=1 }) (by rw[tk_en hen hs,lp_lk hw,hcf,Bool.true_and]) fun _=>hQ.ph 1
theorem tkr_ho (hen:enB p=true)(hs:p.extract 0 (p.size-1)=s)(hw:c1S 32 s=hosS)(hP:PhI d)(hcf:cfB (d.ph+1) 3=true)(hQ:DrQ W gd B 3 (d.Ts.length:Int) X { d with Hs:=d.Hs++[(c1S 32 (c2S 32 s),xpV (c2S 32 (c2S 32 s)))],Ts:=pdT d.S d.Ts } W'):TkR W gd B d X p (spP (c2S 32 (c2S 32 s))) W':=by
 rw[show (3:Int)=2+1 from rfl,cf_k (by decide) hP.1] at hcf;exact tkr_if (e:={ d with Hs:=d.Hs++[(c1S 32 (c2S 32 s),xpV (c2S 32 (c2S 32 s)))],ph:=2 }) (by rw[tk_en hen hs,lp_ho hw,hcf,Bool.true_and]) fun _=>hQ.ph 2
theorem rg_ra (q:ByteArray):rgB (d.Ts.length:Int) q=raB d q:=by
 unfold rgB raB swB;cases dcOk q <;> simp[Bool.and_assoc]
theorem tkr_rl (hen:enB p=true)(hs:p.extract 0 (p.size-1)=s)(hw:c1S 32 s=rulS)(hP:PhI d)(hcf:cfB (d.ph+1) 4=true)(hQ:(rgB (d.Ts.length:Int) (c1S 32 (c2S 32 s))&&decide (paN (cutB 6 (c2S 32 (c2S 32 s)))=0))=true→DrQ W gd B 4 (dcN (c1S 32 (c2S 32 s))) X { d with Ts:=riT (dcN (c1S 32 (c2S 32 s))).toNat (pdT d.S d.Ts) (ruT (c2S 32 (c2S 32 s))) } W'):TkR W gd B d X p (rgB (d.Ts.length:Int) (c1S 32 (c2S 32 s))&&decide (paN (cutB 6 (c2S 32 (c2S 32 s)))=0)) W':=by
 rw[show (4:Int)=3+1 from rfl,cf_k (by decide) hP.1] at hcf;refine tkr_if (e:={ d with Ts:=tbP d.Ts (dcN (c1S 32 (c2S 32 s))).toNat (ruT (c2S 32 (c2S 32 s))),ph:=3 }) (by rw[tk_en hen hs,lp_rl hw,hcf,Bool.true_and,rg_ra]) fun hc=>?_
 have h:=(hQ hc).ph 3;rw[rg_ra,raB] at hc;simp only[Bool.and_eq_true,decide_eq_true_eq] at hc;obtain⟨⟨_,h1,_,h3⟩,_⟩:=hc;obtain⟨m,hm⟩:∃m:Nat,dcN (c1S 32 (c2S 32 s))=(m:Int):=⟨(dcN (c1S 32 (c2S 32 s))).toNat,by omega⟩;rw[hm] at h ⊢;have e1:riT ((m:Int)).toNat (pdT d.S d.Ts) (ruT (c2S 32 (c2S 32 s)))=pdT d.S (tbP d.Ts m (ruT (c2S 32 (c2S 32 s)))):=by
  rw[Int.toNat_natCast];exact pd_tb (by omega) (by omega)
 rw[e1] at h;have e2:((tbP d.Ts (m:Int).toNat (ruT (c2S 32 (c2S 32 s)))).length:Int)=(m:Int):=by
  rw[Int.toNat_natCast,tbP,List.length_set,List.length_append,List.length_replicate];omega
 show DrQ W gd B 4 ((tbP d.Ts (m:Int).toNat (ruT (c2S 32 (c2S 32 s)))).length:Int) X { d with Ts:=pdT d.S (tbP d.Ts (m:Int).toNat (ruT (c2S 32 (c2S 32 s)))),ph:=3 } W';rw[e2,Int.toNat_natCast];exact h
theorem tkr_wi (hen:enB p=true)(hs:p.extract 0 (p.size-1)=s)(h1:c1S 32 s≠swcS)(h2:c1S 32 s≠lnkS)(h3:c1S 32 s≠hosS)(h4:c1S 32 s≠rulS)(hP:PhI d)(hcf:cfB (d.ph+1) 5=true)(hQ:DrQ W gd B 5 (d.Ts.length:Int) X { d with ws:=d.ws++[paW s],Ts:=pdT d.S d.Ts } W'):TkR W gd B d X p (decide (paE s=0)) W':=by
 rw[show (5:Int)=4+1 from rfl,cf_k (by decide) hP.1] at hcf;refine tkr_if (e:={ d with ws:=d.ws++[paW s],ph:=4 }) ?_ fun _=>hQ.ph 4
 rw[tk_en hen hs,lp_wi h1 h2 h3 h4,hcf,paE,paW];cases rdO s <;> rfl
end
section
variable {W:World}{gd B:Nat}{d:RdT}{v1 v2 v3 v7:Value}{vs:List SlT}
theorem pd_len6 {S:Int}{Ts:TsQ}(h:Ts.length≤6):(pdT S Ts).length≤6:=by
 rw[pdT,List.length_append,List.length_replicate];omega
theorem pd_all {S:Int}{Ts:TsQ}{n:Nat}(h:∀T∈Ts,T.length≤n):∀T∈pdT S Ts,T.length≤n:=fun T hT=>by
 rw[pdT,List.mem_append,List.mem_replicate] at hT
 rcases hT with hT | hT
 ·exact h T hT
 rw[hT.2];exact Nat.zero_le _
theorem hw_set {V:World}{g j:Nat}{v:Value}(h:HasWords V)(hg:g≠0):HasWords (V.setCell ⟨g,j,none⟩ v):=by
 have key:∀{i:Nat} {u:Value},V.cell? ⟨0,i,none⟩=some u→(V.setCell ⟨g,j,none⟩ v).cell? ⟨0,i,none⟩=some u:=fun h=>by
  rw[World.cell?_setCell_other _ _ _ _ (by
   intro e;exact hg (congrArg Addr.block e))]
  exact h
 obtain⟨h1,h2,h3,h4,h5⟩:=h;exact⟨key h1,key h2,key h3,key h4,key h5⟩
theorem hn_set {V:World}{g j:Nat}{v:Value}(h:HasNum V)(hg:g≠6∧g≠7):HasNum (V.setCell ⟨g,j,none⟩ v):=by
 obtain⟨⟨a,h1,h1'⟩,b,h2,h2'⟩:=h;refine⟨⟨a,?_,h1'⟩,b,?_,h2'⟩
 ·rw[World.cell?_setCell_other _ _ _ _ (by
   intro e;exact hg.1 (congrArg Addr.block e))]
  exact h1
 rw[World.cell?_setCell_other _ _ _ _ (by
  intro e;exact hg.2 (congrArg Addr.block e))]
 exact h2
def BdI (d:RdT)(n:Nat):Prop:=d.Ls.length≤n∧d.Hs.length≤n∧d.ws.length≤n∧∀T∈d.Ts,T.length≤n
theorem take_any (p:ByteArray)(hp:p.size≤3000)(hB:B≤W.heap.size)(hP:PhI d)(hbd:BdI d 3000)(hw:HasWords W)(hn:HasNum W)(hg:gd≠0∧gd≠6∧gd≠7)(h:DrB W gd B { d with Ts:=pdT d.S d.Ts } (d.ph+1) (d.Ts.length:Int) v1 v2 v3 v7 vs):
 Calls prog 33 #[.pointer (some ⟨gd,0,none⟩),.string p] W fun e W'=>∃ok,e=.returned (.bool ok)∧TkR W gd B d (DrX v1 v2 v3 v7 vs) p ok W'∧Kb (fun b=>b≠gd∧¬DrX v1 v2 v3 v7 vs b) W W':=by
 have HSP:Hid (p.size≤1000000):=by show _≤_;omega
 have HP:Hid (PhI d):=hP;have HH:Hid (DrB W gd B { d with Ts:=pdT d.S d.Ts } (d.ph+1) (d.Ts.length:Int) v1 v2 v3 v7 vs):=h;have HB:Hid (B≤W.heap.size):=hB;have HBD:Hid (BdI d 3000):=hbd;have HWN:Hid (HasWords W∧HasNum W∧(gd≠0∧gd≠6∧gd≠7)):=⟨hw,hn,hg⟩;obtain⟨en,hen⟩:∃b,b=enB p:=⟨_,rfl⟩;obtain⟨s,hs⟩:∃s,s=(if enB p=true then p.extract 0 (p.size-1) else p):=⟨_,rfl⟩;have HEN:Hid ((if enB p=true then p.extract 0 (p.size-1) else p)=s∧enB p=en):=⟨hs.symm,hen.symm⟩;have hss:s.size≤3000:=by
  rw[hs];by_cases e:enB p=true
  ·rw[if_pos e,ByteArray.size_extract];omega
  rw[if_neg e];exact hp
 have HSS:Hid (s.size≤1000000):=by show _≤_;omega
 obtain⟨wd,hwd⟩:∃b,b=c1S 32 s:=⟨_,rfl⟩;obtain⟨r,hr⟩:∃b,b=c2S 32 s:=⟨_,rfl⟩;have HC:Hid (c1S 32 s=wd∧c2S 32 s=r):=⟨hwd.symm,hr.symm⟩;have HSR:Hid (r.size≤1000000):=by
  show _≤_;have:=(cs_size (c:=32) (s:=s)).2;rw[←hr] at this;omega
 obtain⟨kd,hkd⟩:∃k,k=kdN wd:=⟨_,rfl⟩;have HKD:Hid (kdN wd=kd):=hkd.symm;obtain⟨cf,hcf⟩:∃b,b=cfB (d.ph+1) kd:=⟨_,rfl⟩;have HCF:Hid (cfB (d.ph+1) kd=cf):=hcf.symm;have HKB:Hid (∀V,Below W.heap.size W V→Kb (fun b=>b≠gd∧¬DrX v1 v2 v3 v7 vs b) W V):=fun V hV=>Kb.of_below hV fun b hb _=>hb
 clear hp hB hP hbd hw hn hg h hen hs hss hwd hr hkd hcf;go_enter func33,ntmps33
 go_wp2_with fail
 refine (cutSuf_any p W HSP.out).mono ?_;rintro e w' ⟨rfl,hw'⟩;have hw'':=hw'.symm;subst hw'';clear hw';rw[HEN.out.1,HEN.out.2]
 go_wp2_with fail
 refine (cutBl_any s W HSS.out).mono ?_;rintro e w1 ⟨⟨bb,rfl⟩,hb1⟩;rw[HC.out.1,HC.out.2];have HB1:Hid (Below W.heap.size W w1):=hb1;clear hb1
 go_wp2_with fail
 refine (kindOf_any wd w1).mono ?_;rintro e w' ⟨rfl,hw'⟩;have hw'':=hw'.symm;subst hw'';clear hw';rw[HKD.out];have m1:=HH.out.later HB1.out;have k5:=m1.c5;have hf5:=m1.m.f 5;have hlt:=m1.lt;have HM1:Hid (DrB w1 gd B { d with Ts:=pdT d.S d.Ts } (d.ph+1) (d.Ts.length:Int) v1 v2 v3 v7 vs):=m1;clear m1;cases en with
 | false =>
   go_wp2;go_ret;exact⟨false,rfl,tkr_no (by rw[tkO,HEN.out.2];rfl),HKB.out _ HB1.out⟩
 | true =>
   have HS2:Hid (p.extract 0 (p.size-1)=s):=by
    have h:=HEN.out.1;rw[HEN.out.2,if_pos rfl] at h;exact h
   go_wp2_with fail
   refine (canFollow_any (d.ph+1) kd w1).mono ?_;rintro e w' ⟨rfl,hw'⟩;have hw'':=hw'.symm;subst hw'';clear hw';rw[HCF.out];cases cf with
   | false =>
     go_wp2;go_ret;refine⟨false,rfl,tkr_no ?_,HKB.out _ HB1.out⟩;rw[tk_en HEN.out.2 HS2.out];refine cf_no HP.out ?_;rw[HC.out.1,HKD.out];exact HCF.out
   | true =>
     have HSZ:Hid ((w1.setCell ⟨gd,5,none⟩ (.int i64 kd)).heap.size=w1.heap.size):=by show _=_;simp
     have HM5:Hid (DrB (w1.setCell ⟨gd,5,none⟩ (.int i64 kd)) gd B { d with Ts:=pdT d.S d.Ts } kd (d.Ts.length:Int) v1 v2 v3 v7 vs):=HM1.out.set5 kd;have HBS:Hid (B≤(w1.setCell ⟨gd,5,none⟩ (.int i64 kd)).heap.size):=by
      show _≤_;rw[HSZ.out];exact Nat.le_trans HB.out HB1.out.size
     have HK1:Hid (∀(p:Nat→Prop) V,(∀b,b<W.heap.size→(b≠gd∧¬DrX v1 v2 v3 v7 vs b)→p b)→Kb p (w1.setCell ⟨gd,5,none⟩ (.int i64 kd)) V→Kb (fun b=>b≠gd∧¬DrX v1 v2 v3 v7 vs b) W V):=fun p V hp hV =>
      ⟨hV.os.trans HB1.out.os,hV.tape.trans HB1.out.tape,hV.output.trans HB1.out.output,Nat.le_trans (by rw[HSZ.out];exact HB1.out.size) hV.size,fun k hk hb=>(hV.block k (by rw[HSZ.out];exact Nat.lt_of_lt_of_le hk HB1.out.size) (hp k hk hb)).trans ((kb_box (W:=W) (p:=fun b=>b≠gd∧¬DrX v1 v2 v3 v7 vs b) (fun e=>e.1 rfl) 5 _ (HKB.out _ HB1.out)).block k hk hb)⟩
     have HQB:Hid (∀{a l:Int} {e:RdT} {V:World},DrQ (w1.setCell ⟨gd,5,none⟩ (.int i64 kd)) gd B a l (DrX v1 v2 v3 v7 vs) e V→DrQ W gd B a l (DrX v1 v2 v3 v7 vs) e V):=fun {a l e V} h=>by
      obtain⟨u1,u2,u3,u7,us,h1,h2⟩:=h;refine⟨u1,u2,u3,u7,us,h1,fun b hb=>(h2 b hb).imp id fun h=>?_⟩;rw[HSZ.out] at h;exact Nat.le_trans HB1.out.size h
     by_cases e1:wd=swcS
     ·have ek:kd=1:=by rw[←HKD.out,kdN,if_pos e1]
      subst ek
      go_wp2_with fail
      refine (takeSw_any r HBS.out HM5.out).mono ?_;rintro e w3 ⟨rfl,hQ,hK⟩;have HR:Hid (TkR W gd B d (DrX v1 v2 v3 v7 vs) p (dcOk r) w3∧Kb (fun b=>b≠gd∧¬DrX v1 v2 v3 v7 vs b) W w3):=by
       refine⟨?_,HK1.out _ _ (fun b _ hb=>hb.1) hK⟩;rw[←HC.out.2];refine tkr_sw (a:=1) HEN.out.2 HS2.out (HC.out.1.trans e1) HP.out HCF.out ?_;rw[HC.out.2];exact HQB.out hQ
      clear hQ hK k5;go_wp2;go_ret;exact⟨_,rfl,HR.out⟩
     by_cases e2:wd=lnkS
     ·have ek:kd=2:=by rw[←HKD.out,kdN,if_neg e1,if_pos e2]
      subst ek
      go_wp2_with fail
      refine (takeLk_any r HSR.out HBS.out (by have:=HBD.out.1;show d.Ls.length≤_;omega) HM5.out).mono ?_;rintro e w3 ⟨rfl,hQ,hK⟩;obtain⟨ok,hok⟩:∃ok,ok=(spP (c1S 32 r)&&spP (c2S 32 r)):=⟨_,rfl⟩;have HR:Hid (TkR W gd B d (DrX v1 v2 v3 v7 vs) p ok w3∧Kb (fun b=>b≠gd∧¬DrX v1 v2 v3 v7 vs b) W w3):=by
       refine⟨?_,HK1.out _ _ (fun b _ hb=>⟨hb.1,fun e=>hb.2 (.inl e)⟩) hK⟩;rw[hok,←HC.out.2];refine tkr_lk HEN.out.2 HS2.out (HC.out.1.trans e2) HP.out HCF.out ?_;rw[HC.out.2];exact HQB.out hQ
      rw[←hok];clear hQ hK k5 hok;go_wp2;go_ret;exact⟨_,rfl,HR.out⟩
     by_cases e3:wd=hosS
     ·have ek:kd=3:=by rw[←HKD.out,kdN,if_neg e1,if_neg e2,if_pos e3]
      subst ek
      go_wp2_with fail
      refine (takeHo_any r HSR.out HBS.out (by have:=HBD.out.2.1;show d.Hs.length≤_;omega) HM5.out).mono ?_;rintro e w3 ⟨rfl,hQ,hK⟩;obtain⟨ok,hok⟩:∃ok,ok=spP (c2S 32 r):=⟨_,rfl⟩;have HR:Hid (TkR W gd B d (DrX v1 v2 v3 v7 vs) p ok w3∧Kb (fun b=>b≠gd∧¬DrX v1 v2 v3 v7 vs b) W w3):=by
       refine⟨?_,HK1.out _ _ (fun b _ hb=>⟨hb.1,fun e=>hb.2 (.inr (.inl e))⟩) hK⟩;rw[hok,←HC.out.2];refine tkr_ho HEN.out.2 HS2.out (HC.out.1.trans e3) HP.out HCF.out ?_;rw[HC.out.2];exact HQB.out hQ
      rw[←hok];clear hQ hK k5 hok;go_wp2;go_ret;exact⟨_,rfl,HR.out⟩
     by_cases e4:wd=rulS
     ·have ek:kd=4:=by rw[←HKD.out,kdN,if_neg e1,if_neg e2,if_neg e3,if_pos e4]
      subst ek
      go_wp2_with fail
      refine (takeRl_any r HSR.out HBS.out (fun T hT=>Nat.le_trans (pd_all HBD.out.2.2.2 T hT) (by omega)) (pd_len6 HP.out.2.2.2.2) HM5.out).mono ?_;rintro e w3 ⟨rfl,hQ,hK⟩;obtain⟨ok,hok⟩:∃ok,ok=(rgB (d.Ts.length:Int) (c1S 32 r)&&decide (paN (cutB 6 (c2S 32 r))=0)):=⟨_,rfl⟩;have HR:Hid (TkR W gd B d (DrX v1 v2 v3 v7 vs) p ok w3∧Kb (fun b=>b≠gd∧¬DrX v1 v2 v3 v7 vs b) W w3):=by
       refine⟨?_,HK1.out _ _ (fun b _ hb=>hb) hK⟩;rw[hok,←HC.out.2];refine tkr_rl HEN.out.2 HS2.out (HC.out.1.trans e4) HP.out HCF.out ?_;rw[HC.out.2];exact fun h=>HQB.out (hQ h)
      rw[←hok];clear hQ hK k5 hok;go_wp2;go_ret;exact⟨_,rfl,HR.out⟩
     have ek:kd=5:=by rw[←HKD.out,kdN,if_neg e1,if_neg e2,if_neg e3,if_neg e4]
     subst ek;have HW5:Hid (HasWords (w1.setCell ⟨gd,5,none⟩ (.int i64 5))∧HasNum (w1.setCell ⟨gd,5,none⟩ (.int i64 5))):=⟨hw_set (HWN.out.1.later HB1.out) HWN.out.2.2.1,hn_set (HWN.out.2.1.later HB1.out) HWN.out.2.2.2⟩
     go_wp2_with fail
     refine (takeWi_any s HSS.out HBS.out (by have:=HBD.out.2.2.1;show d.ws.length≤_;omega) HW5.out.1 HW5.out.2 HM5.out).mono ?_;rintro e w3 ⟨rfl,hQ,hK⟩;obtain⟨ok,hok⟩:∃ok,ok=decide (paE s=0):=⟨_,rfl⟩;have HR:Hid (TkR W gd B d (DrX v1 v2 v3 v7 vs) p ok w3∧Kb (fun b=>b≠gd∧¬DrX v1 v2 v3 v7 vs b) W w3):=by
      refine⟨?_,HK1.out _ _ (fun b _ hb=>⟨hb.1,fun e=>hb.2 (.inr (.inr (.inr (.inl e))))⟩) hK⟩;rw[hok];exact tkr_wi HEN.out.2 HS2.out (fun e=>e1 (HC.out.1.symm.trans e)) (fun e=>e2 (HC.out.1.symm.trans e)) (fun e=>e3 (HC.out.1.symm.trans e)) (fun e=>e4 (HC.out.1.symm.trans e)) HP.out HCF.out (HQB.out hQ)
     rw[←hok];clear hQ hK k5 hok;go_wp2;go_ret;exact⟨_,rfl,HR.out⟩
end
end
section
open Go.RowKit Go.Shelf
attribute [local go_sem] Oper.semAt_some
def pzI (s:ByteArray):List (Nat×ByteArray):=(pcS s).zipIdx.map fun x=>(x.2,x.1)
theorem pz_at {s:ByteArray}{k:Nat}{x:Nat×ByteArray}:(pzI s)[k]?=some x↔x.1=k∧(pcS s)[k]?=some x.2:=by
 rw[pzI,List.getElem?_map,List.getElem?_zipIdx];cases h:(pcS s)[k]? with
 | none=>simp
 | some y =>
   obtain⟨a,b⟩:=x;simp;intro _;exact eq_comm
theorem pz_len (s:ByteArray):(pzI s).length=(pcS s).length:=by simp[pzI]
def lnV (_:World)(args:Array Value)(x:Nat×ByteArray):Prop:=args=#[.int i64 (x.1:Int),.string x.2]
def lnS (gt:Nat)(s:ByteArray)(A:World):Prop:=A.cell? ⟨gt,0,none⟩=some (.string s)
def stN:Value→Nat
 | .string s=>s.size
 | _=>0
theorem pc_len:∀(n:Nat) (s:ByteArray),s.size≤n→(pcS s).length≤s.size
 | 0,s,h=>by rw[pc_nil (by omega)];exact Nat.zero_le _
 | n+1,s,h=>by
   by_cases h0:s.size=0
   ·rw[pc_nil h0];exact Nat.zero_le _
   rcases ixq_cases 10 s with e | ⟨i,e,hi⟩
   ·rw[pc_miss e h0];simp;omega
   have h1:(s.extract (i+1) s.size).size=s.size-(i+1):=by rw[ByteArray.size_extract];omega
   have ih:=pc_len n (s.extract (i+1) s.size) (by omega);rw[pc_hit e,List.length_cons];omega
theorem lines_in (nn:Nat)(hnn:1≤nn)(gt:Nat)(s:ByteArray)(hs:s.size≤3000)(l:Nat)(J:Nat→(Nat→Prop)→World→Prop)(Jx:World→Prop)(W:World)
 (hss:lnS gt s W) (h0:J 0 (fun _=>False) W) (hX:∀k X A,J k X A→∀b,X b→b<A.heap.size)
 (hJ:∀k X A A',J k X A→Kb (fun b=>b<W.heap.size∨X b) A A'→J k X A') (hJx:∀A A',Jx A→Kb (fun _=>True) A A'→Jx A')
 (hY:∀k X A args x (Y:Nat→Prop),J k X A→(pzI s)[k]?=some x→lnV A args x→W.heap.size≤A.heap.size→(∀b,Y b→W.heap.size≤b∧¬X b)→YieldAt Fence.wide 0 prog l args A fun e A' =>
  (e=.returned (.bool true)∧(∃X',J (k+1) X' A'∧∀b,X' b→X b∨A.heap.size≤b)∧Kb (fun b=>b=gt∨Y b) A A')∨(e=.returned (.bool false)∧Jx A'∧Kb (fun b=>b=gt∨Y b) A A')):
 CallsIn Fence.wide nn prog 51 #[.func (.yield l) #[] #[],.pointer (some ⟨gt,0,none⟩)] W fun e W'=>(∃v,e=.returned v)∧((∃X,J (pzI s).length X W')∨Jx W'):=by
 have hc:W.cell? ⟨gt,0,none⟩=some (.string s):=hss;have HY:Hid (∀k X A args x (Y:Nat→Prop),J k X A→(pzI s)[k]?=some x→lnV A args x→W.heap.size≤A.heap.size→(∀b,Y b→W.heap.size≤b∧¬X b)→YieldAt Fence.wide 0 prog l args A fun e A' =>
  (e=.returned (.bool true)∧(∃X',J (k+1) X' A'∧∀b,X' b→X b∨A.heap.size≤b)∧Kb (fun b=>b=gt∨Y b) A A')∨(e=.returned (.bool false)∧Jx A'∧Kb (fun b=>b=gt∨Y b) A A')):=hY
 have HJ0:Hid (J 0 (fun _=>False) W):=h0;have HS:Hid (s.size≤3000):=hs;have HPL:Hid ((pcS s).length≤3000):=Nat.le_trans (pc_len _ s (nLQ _)) hs;clear hss h0 hX hJ hJx hY hs;refine callsIn_of_wp func51 rfl trivial ?_ rfl;simp only[ntmps51,List.size_toArray,List.length_cons,List.length_nil,Nat.reduceAdd,Nat.reduceSub,Array.replicate_succ,Array.replicate_zero,List.push_toArray,List.append_toArray,List.nil_append,List.cons_append]
 gi_wp2
 clear hc
 gi_loopw [3,4] (fun v q wr=>∃(r:ByteArray) (k:Nat) (X:Nat→Prop),v=.string r∧q=.int i64 (k:Int)∧r.size≤3000∧k≤(pcS s).length∧(pcS s).drop k=pcS r∧J k X wr∧W.heap.size≤wr.heap.size) (fun v _ _=>stN v)
 case atStart=>exact⟨s,0,_,rfl,rfl,HS.out,Nat.zero_le _,rfl,HJ0.out,nLQ _⟩
 case round =>
  obtain⟨r,k,X,rfl,rfl,hr,hk,hd,hj,hsz⟩:=hrel;have HR:Hid ((pcS s).drop k=pcS r∧J k X wr∧W.heap.size≤wr.heap.size):=⟨hd,hj,hsz⟩;have HKL:Hid (k≤(pcS s).length):=hk;have hk3:k≤3000:=Nat.le_trans hk HPL.out;clear hd hj hsz hk;by_cases h0:r.size=0
  ·have e:=sz_0 h0;subst e
   gi_wp2
   go_end0
   refine⟨⟨_,rfl⟩,.inl ⟨X,?_⟩⟩;have h1:=HR.out.1;rw[pc_nil (s:=ByteArray.empty) rfl] at h1;have h2:=congrArg List.length h1;rw[List.length_drop,List.length_nil] at h2;have h3:=HKL.out;rw[pz_len,show (pcS s).length=k by omega];exact HR.out.2.1
  have he:r.toList.isEmpty=false:=by
   rw[Lib.toList_data];cases h:r.data.toList with
   | nil =>
     exfalso
     have:=Lib.size_eq r;rw[h] at this;exact h0 this
   | cons a b=>rfl
  have HRE:Hid (r.size≠0):=h0;have hpz:0<r.size:=by omega
  clear h0
  gi_wp2_with fail
  refine⟨trivial,(callsIn_wide.2 (ixNl_any r _)).mono ?_⟩;rintro e w2 ⟨rfl,rfl⟩
  rcases ixq_cases 10 r with h | ⟨i,h,hi⟩
  ·have HX:Hid (ixQ 10 r = -1):=h;have HP:Hid (pcS r=[r]):=pc_miss h HRE.out;rw[h];have hy:=yield_any (m':=nn-1) (HY.out k X w2 #[.int i64 (k:Int),.string r] (k,r) (fun _=>False) HR.out.2.1 (pz_at.2 ⟨rfl,by
    have h1:=congrArg (fun x=>x[0]?) HR.out.1;simp only[List.getElem?_drop,Nat.add_zero] at h1;rw[h1,HP.out];rfl⟩) rfl HR.out.2.2 (fun b hb=>hb.elim))
   obtain⟨fn,tmps,assign,body,hyr,hR⟩:=hy;clear h
   gi_wp2
   refine hR.mono ?_;rintro e5 w5 (⟨rfl,⟨X',hj5,hX5⟩,hk5⟩ | ⟨rfl,hjx,hk5⟩)
   ·have HJ5:Hid (J (k+1) X' w5∧W.heap.size≤w5.heap.size):=⟨hj5,Nat.le_trans HR.out.2.2 hk5.size⟩;clear hj5 hX5 hk5
    gi_wp2
    go_roundw
    case rel =>
     refine⟨ByteArray.empty,k+1,X',rfl,by go_num,Nat.zero_le _,?_,?_,HJ5.out.1,HJ5.out.2⟩
     ·have h1:=congrArg List.length HR.out.1;rw[List.length_drop,HP.out] at h1;simp at h1;omega
     rw[pc_nil (s:=ByteArray.empty) rfl,←List.drop_drop,HR.out.1,HP.out];rfl
    case measure=>exact hpz
   clear hk5
   gi_wp2
   refine bodyPost_ret (results_none rfl _ _ _) rfl ?_;exact⟨⟨_,rfl⟩,.inr hjx⟩
  have hi0:(0:Int)≤(i:Int):=by omega
  have hi1:(i:Int)+1≤(r.size:Int):=by omega
  have HP:Hid (pcS r=r.extract 0 (i+1) :: pcS (r.extract (i+1) r.size)):=pc_hit h;have HI:Hid (i<r.size):=hi;rw[h];have hy:=yield_any (m':=nn-1) (HY.out k X w2 #[.int i64 (k:Int),.string (r.extract 0 (i+1))] (k,r.extract 0 (i+1)) (fun _=>False) HR.out.2.1 (pz_at.2 ⟨rfl,by
   have h1:=congrArg (fun x=>x[0]?) HR.out.1;simp only[List.getElem?_drop,Nat.add_zero] at h1;rw[h1,HP.out];rfl⟩) rfl HR.out.2.2 (fun b hb=>hb.elim))
  obtain⟨fn,tmps,assign,body,hyr,hR⟩:=hy;clear h
  gi_wp2
  refine hR.mono ?_;rintro e5 w5 (⟨rfl,⟨X',hj5,hX5⟩,hk5⟩ | ⟨rfl,hjx,hk5⟩)
  ·have HJ5:Hid (J (k+1) X' w5∧W.heap.size≤w5.heap.size):=⟨hj5,Nat.le_trans HR.out.2.2 hk5.size⟩;clear hj5 hX5 hk5
   gi_wp2
   go_roundw
   case rel =>
    refine⟨r.extract (i+1) r.size,k+1,X',rfl,by go_num,by rw[ByteArray.size_extract];omega,?_,?_,HJ5.out.1,HJ5.out.2⟩
    ·have h1:=congrArg List.length HR.out.1;rw[List.length_drop,HP.out,List.length_cons] at h1;omega
    rw[←List.drop_drop,HR.out.1,HP.out];rfl
   case measure =>
    show (r.extract (i+1) r.size).size<r.size;rw[ByteArray.size_extract];omega
  clear hk5
  gi_wp2
  refine bodyPost_ret (results_none rfl _ _ _) rfl ?_;exact⟨⟨_,rfl⟩,.inr hjx⟩
theorem lines_it {gt:Nat}{s:ByteArray}(hs:s.size≤3000):ItQ prog 51 #[.pointer (some ⟨gt,0,none⟩)] lnV (lnS gt s) (fun b=>b=gt) (pzI s):=
 fun l J Jx W hss h0 hX hJ hJx hY=>(callsIn_wide (n:=4)).1 (lines_in 4 (by omega) gt s hs l J Jx W hss h0 hX hJ hJx hY)
theorem lines_val (s:ByteArray)(w:World):
 Calls prog 32 #[.string s] w fun e w'=>e=.returned (.func (.func 51) #[] #[.pointer (some ⟨w.heap.size,0,none⟩)])∧w'=w.alloc (.cells #[.string s] 9):=by
 go_enter func32,ntmps32;go_wp2;go_ret;exact⟨rfl,rfl⟩
end
section
open Go.RowKit Go.Shelf
attribute [local go_sem] Oper.semAt_some
def rxE (s:ByteArray):RdT:=if rtN s=0 then { rtE s with Ts:=fiT (rtE s).S (rtE s).Ts } else rd0
theorem nw_6 {S:Int}{Ls:LkQ}{Hs:HoQ}{Ts Ts':TsQ}{ws:List Wi}(h:6<S):nwsN S Ls Hs Ts ws=nwsN S Ls Hs Ts' ws∧nwsN S Ls Hs Ts ws≠0:=by
 have hne:tpN S Ls Hs≠0:=fun e=>by
  have:=(tp_0 e).1;omega
 have key:∀Ts,ntN S Ls Hs Ts=tpN S Ls Hs:=fun Ts=>by
  unfold ntN;rw[if_neg hne]
 unfold nwsN;rw[key Ts,key Ts',if_neg hne];exact⟨rfl,hne⟩
theorem nw_fi (S:Int)(Ls:LkQ)(Hs:HoQ)(Ts:TsQ)(ws:List Wi):nwsN S Ls Hs (pdT S Ts) ws=nwsN S Ls Hs (fiT S Ts) ws:=by
 by_cases h:S≤6
 ·rw[pd_fi h]
 exact (nw_6 (by omega)).1
theorem nw_pd {S:Int}{Ls:LkQ}{Hs:HoQ}{Ts Ts':TsQ}{ws:List Wi}(h:nwsN S Ls Hs Ts' ws=0):pdT S Ts=fiT S Ts:=by
 by_cases h6:S≤6
 ·exact pd_fi h6
 exact absurd h (nw_6 (Ts':=[]) (by omega)).2
theorem ts_all {s:ByteArray}{e:RdT}(h1:s.size≤3000)(h0:s.size≠0)(h:tsO rd0 (pcS s)=.inl e):rtN s=nwsN e.S e.Ls e.Hs (fiT e.S e.Ts) e.ws∧rtK s=0∧rtE s=e:=by
 rw[ts_rt] at h;cases hl:lsO rd0 (rtL s) with
 | inr k=>rw[hl] at h;cases h
 | inl d =>
   rw[hl] at h;simp only at h;by_cases hz:(rtZ s).size=0
   ·rw[if_pos hz] at h;cases h;refine⟨?_,?_,?_⟩
    ·rw[rtN,if_neg (by omega),if_neg h0,hl];simp only;rw[if_pos hz];rfl
    ·rw[rtK,if_neg (by omega),if_neg h0,hl];simp only;rw[if_pos hz]
    rw[rtE,hl]
   rw[if_neg hz] at h;cases h
theorem ts_bad {s:ByteArray}{k:Nat}(h1:s.size≤3000)(h0:s.size≠0)(h:tsO rd0 (pcS s)=.inr k):rtN s=2∧rtK s=k:=by
 rw[ts_rt] at h;cases hl:lsO rd0 (rtL s) with
 | inr j =>
   rw[hl] at h;cases h;rw[rtN,rtK,if_neg (by omega),if_neg h0,if_neg (by omega),if_neg h0,hl];exact⟨rfl,rfl⟩
 | inl d =>
   rw[hl] at h;simp only at h;by_cases hz:(rtZ s).size=0
   ·rw[if_pos hz] at h;cases h
   rw[if_neg hz] at h;cases h;rw[rtN,rtK,if_neg (by omega),if_neg h0,if_neg (by omega),if_neg h0,hl];simp only;rw[if_neg hz,if_neg hz];exact⟨rfl,rfl⟩
theorem pc_size:∀{n:Nat} {s:ByteArray},s.size≤n→∀p∈pcS s,p.size≤s.size
 | 0,s,h,p,hp=>by rw[pc_nil (by omega)] at hp;cases hp
 | n+1,s,h,p,hp=>by
   by_cases h0:s.size=0
   ·rw[pc_nil h0] at hp;cases hp
   rcases ixq_cases 10 s with e | ⟨i,e,hi⟩
   ·rw[pc_miss e h0,List.mem_singleton] at hp;rw[hp];exact nLQ _
   have h1:(s.extract (i+1) s.size).size=s.size-(i+1):=by rw[ByteArray.size_extract];omega
   rw[pc_hit e,List.mem_cons] at hp
   rcases hp with rfl | hp
   ·rw[ByteArray.size_extract];omega
   have:=pc_size (n:=n) (by omega) p hp;omega
theorem ts_step {d e:RdT}{L:List ByteArray}{k:Nat}{p:ByteArray}(hp:L[k]?=some p)(h:tsO d (L.take k)=.inl e):(∀f,tkO e p=some f→tsO d (L.take (k+1))=.inl f)∧(tkO e p=none→tsO d L=.inr k):=by
 obtain⟨hk,e1⟩:=List.getElem?_eq_some_iff.1 hp;constructor
 ·intro f hf;rw[List.take_succ_eq_append_getElem hk,ts_app,h,e1];simp only[tsO];rw[hf]
 intro hn;have e2:L=L.take k++L.drop k:=(List.take_append_drop k L).symm;rw[e2,ts_app,h,List.drop_eq_getElem_cons hk,e1];simp only[tsO];rw[hn];simp only[List.length_take]
 congr 1
 omega
theorem ph_mk {d:RdT}{k:Int}(h:d.ph=k)(h0:0≤k)(h4:k≤4)(hS:0≤d.S)(hT:d.Ts.length≤6):PhI d∧0≤d.ph:=⟨⟨by omega,by omega,fun h=>by omega,hS,hT⟩,by omega⟩
theorem ph_next {d e:RdT}{p:ByteArray}(hP:PhI d)(h:tkO d p=some e):PhI e∧0≤e.ph:=by
 unfold tkO at h;by_cases hen:enB p=true
 ·rw[if_pos hen] at h
  generalize p.extract 0 (p.size-1)=s at h
  obtain⟨p1,p2,p3,p4,p5⟩:=hP;by_cases h1:c1S 32 s=swcS
  ·rw[lp_sw h1] at h
   split at h
   ·cases h;exact ph_mk (k:=0) rfl (by decide) (by decide) dcN_ge p5
   cases h
  by_cases h2:c1S 32 s=lnkS
  ·rw[lp_lk h2] at h
   split at h
   ·cases h;exact ph_mk (k:=1) rfl (by decide) (by decide) p4 p5
   cases h
  by_cases h3:c1S 32 s=hosS
  ·rw[lp_ho h3] at h
   split at h
   ·cases h;exact ph_mk (k:=2) rfl (by decide) (by decide) p4 p5
   cases h
  by_cases h4:c1S 32 s=rulS
  ·rw[lp_rl h4] at h
   split at h
   ·rename_i hc
    cases h;refine ph_mk (k:=3) rfl (by decide) (by decide) p4 ?_;simp only[raB,Bool.and_eq_true,decide_eq_true_eq] at hc;show (tbP d.Ts _ _).length≤6;rw[tbP,List.length_set,List.length_append,List.length_replicate];omega
   cases h
  rw[lp_wi h1 h2 h3 h4] at h;cases hr:rdO s with
  | none=>rw[hr] at h;cases h
  | some x =>
    rw[hr] at h;simp only at h
    split at h
    ·cases h;exact ph_mk (k:=4) rfl (by decide) (by decide) p4 p5
    cases h
 rw[if_neg hen] at h;cases h
theorem bd_next {d e:RdT}{p:ByteArray}{n:Nat}(hB:BdI d n)(h:tkO d p=some e):BdI e (n+1):=by
 unfold tkO at h;by_cases hen:enB p=true
 ·rw[if_pos hen] at h
  generalize p.extract 0 (p.size-1)=s at h
  obtain⟨b1,b2,b3,b4⟩:=hB;have b4':∀T∈d.Ts,T.length≤n+1:=fun T hT=>Nat.le_succ_of_le (b4 T hT)
  by_cases h1:c1S 32 s=swcS
  ·rw[lp_sw h1] at h
   split at h
   ·cases h;exact⟨by show d.Ls.length≤_;omega,by show d.Hs.length≤_;omega,by show d.ws.length≤_;omega,b4'⟩
   cases h
  by_cases h2:c1S 32 s=lnkS
  ·rw[lp_lk h2] at h
   split at h
   ·cases h;exact⟨by show (d.Ls++_).length≤_;rw[List.length_append,List.length_singleton];omega,by show d.Hs.length≤_;omega,by show d.ws.length≤_;omega,b4'⟩
   cases h
  by_cases h3:c1S 32 s=hosS
  ·rw[lp_ho h3] at h
   split at h
   ·cases h;exact⟨by show d.Ls.length≤_;omega,by show (d.Hs++_).length≤_;rw[List.length_append,List.length_singleton];omega,by show d.ws.length≤_;omega,b4'⟩
   cases h
  by_cases h4:c1S 32 s=rulS
  ·rw[lp_rl h4] at h
   split at h
   ·cases h;refine⟨by show d.Ls.length≤_;omega,by show d.Hs.length≤_;omega,by show d.ws.length≤_;omega,fun T hT=>?_⟩;have hT':T∈tbP d.Ts (dcN (c1S 32 (c2S 32 s))).toNat (ruT (c2S 32 (c2S 32 s))):=hT;have hup:∀(m:Nat) T,T∈d.Ts++List.replicate m ([]:List Ru)→T.length≤n:=fun m T h=>by
     rw[List.mem_append,List.mem_replicate] at h
     rcases h with h | h
     ·exact b4 T h
     rw[h.2];exact Nat.zero_le _
    rw[tbP] at hT'
    rcases List.mem_or_eq_of_mem_set hT' with h | h
    ·exact Nat.le_succ_of_le (hup _ T h)
    rw[h,List.length_append,List.length_singleton];have:((d.Ts++List.replicate ((dcN (c1S 32 (c2S 32 s))).toNat-d.Ts.length) ([]:List Ru)).getD ((dcN (c1S 32 (c2S 32 s))).toNat-1) []).length≤n:=by
     rw[List.getD_eq_getElem?_getD];cases hg:(d.Ts++List.replicate ((dcN (c1S 32 (c2S 32 s))).toNat-d.Ts.length) ([]:List Ru))[(dcN (c1S 32 (c2S 32 s))).toNat-1]? with
     | none=>exact Nat.zero_le _
     | some x=>exact hup _ x (List.mem_of_getElem? hg)
    omega
   cases h
  rw[lp_wi h1 h2 h3 h4] at h;cases hr:rdO s with
  | none=>rw[hr] at h;cases h
  | some x =>
    rw[hr] at h;simp only at h
    split at h
    ·cases h;exact⟨by show d.Ls.length≤_;omega,by show d.Hs.length≤_;omega,by show (d.ws++_).length≤_;rw[List.length_append,List.length_singleton];omega,b4'⟩
    cases h
 rw[if_neg hen] at h;cases h
end
section
open Go.RowKit Go.Shelf
attribute [local go_sem] Oper.semAt_some
theorem cellSame {A:World}{g j:Nat}{u v:Value}(h:A.cell? ⟨g,j,none⟩=some u):(A.setCell ⟨g,j,none⟩ v).cell? ⟨g,j,none⟩=some v:=World.cell?_setCell_same _ _ _ h
theorem cellOff {A:World}{g i j:Nat}{u v:Value}(hne:i≠j)(h:A.cell? ⟨g,i,none⟩=some u):(A.setCell ⟨g,j,none⟩ v).cell? ⟨g,i,none⟩=some u:=by
 rw[World.cell?_setCell_other _ _ _ _ (by simp <;> omega)];exact h
theorem frozSet {A:World}{g j:Nat}{v:Value}(b i:Nat):(A.setCell ⟨g,j,none⟩ v).frozen? ⟨b,i,none⟩=A.frozen? ⟨b,i,none⟩:=by simp
theorem nb_kb {A A':World}{g:Nat}{S:Int}{a b c:Value}{p:Nat→Prop}(h:NeBox A g S a b c)(hk:Kb p A A')(hg:p g):NeBox A' g S a b c:=⟨hk.at h.1 hg,hk.at h.2.1 hg,hk.at h.2.2.1 hg,hk.at h.2.2.2 hg⟩
theorem fz_kb {A A':World}{g:Nat}{p:Nat→Prop}(hl:g<A.heap.size)(h:∀i,A.frozen? ⟨g,i,none⟩=false)(hk:Kb p A A')(hg:p g):∀i,A'.frozen? ⟨g,i,none⟩=false:=fun i=>by rw[hk.frozen (q:=⟨g,i,none⟩) hl hg];exact h i
structure PB (w:World)(S:Int)(v1 v2 v3 v4:Value)(k:Int)(e:Value)(A:World):Prop where
 n:NeBox A w.heap.size S v1 v2 v3
 nf:∀i,A.frozen? ⟨w.heap.size,i,none⟩=false
 ws:Boxed A (w.heap.size+1) 29 v4
 k:Boxed A (w.heap.size+1+1) 3 (.int i64 k)
 e:Boxed A (w.heap.size+1+1+1) 34 e
section
variable {w A A':World}{S:Int}{v1 v2 v3 v4:Value}{k:Int}{e:Value}
theorem PB.lt (h:PB w S v1 v2 v3 v4 k e A):w.heap.size+4≤A.heap.size:=h.e.lt
theorem PB.kb {p:Nat→Prop}(h:PB w S v1 v2 v3 v4 k e A)(hk:Kb p A A')(hp:∀b,w.heap.size≤b→b<w.heap.size+4→p b):PB w S v1 v2 v3 v4 k e A':=by
 have h0:p w.heap.size:=hp _ (nLQ _) (by omega);exact⟨⟨hk.at h.n.1 h0,hk.at h.n.2.1 h0,hk.at h.n.2.2.1 h0,hk.at h.n.2.2.2 h0⟩,fun i=>by rw[hk.frozen (q:=⟨w.heap.size,i,none⟩) (by have:=h.lt;show w.heap.size<_;omega) h0];exact h.nf i,hk.boxed h.ws (hp _ (by omega) (by omega)),hk.boxed h.k (hp _ (by omega) (by omega)),hk.boxed h.e (hp _ (by omega) (by omega))⟩
theorem PB.later (h:PB w S v1 v2 v3 v4 k e A)(hb:Below A.heap.size A A'):PB w S v1 v2 v3 v4 k e A':=h.kb (p:=fun _=>True) (Kb.of_below hb fun _ h _=>h) fun _ _ _=>trivial
def put7 (w A:World)(S:Int)(v1 v2 v3 v4:Value)(k:Int)(e:Value):World:=((((((A.setCell ⟨w.heap.size,0,none⟩ (.int i64 S)).setCell ⟨w.heap.size,1,none⟩ v1).setCell ⟨w.heap.size,2,none⟩ v2).setCell ⟨w.heap.size,3,none⟩ v3).setCell ⟨w.heap.size+1,0,none⟩ v4).setCell ⟨w.heap.size+1+1,0,none⟩ (.int i64 k)).setCell ⟨w.heap.size+1+1+1,0,none⟩ e
theorem kb_put7 {p:Nat→Prop}(hp:∀b,w.heap.size≤b→b<w.heap.size+4→¬p b)(A:World):Kb p A (put7 w A S v1 v2 v3 v4 k e):=by
 have h0:¬p w.heap.size:=hp _ (nLQ _) (by omega);exact (((((((Kb.refl p A).setCell (q:=⟨w.heap.size,0,none⟩) (fun _=>h0) _).setCell (q:=⟨w.heap.size,1,none⟩) (fun _=>h0) _).setCell (q:=⟨w.heap.size,2,none⟩) (fun _=>h0) _).setCell (q:=⟨w.heap.size,3,none⟩) (fun _=>h0) _).setCell (q:=⟨w.heap.size+1,0,none⟩) (fun _=>hp _ (by show _≤_+1;omega) (by show _+1<_;omega)) _).setCell (q:=⟨w.heap.size+1+1,0,none⟩) (fun _=>hp _ (by show _≤_+1+1;omega) (by show _+1+1<_;omega)) _).setCell (q:=⟨w.heap.size+1+1+1,0,none⟩) (fun _=>hp _ (by show _≤_+1+1+1;omega) (by show _+1+1+1<_;omega)) _
theorem bx_set {b:Nat}{t:TypeId}{u:Value}(h:Boxed A b t u)(v:Value):Boxed (A.setCell ⟨b,0,none⟩ v) b t v:=Boxed.set v h
theorem PB.put (h:PB w S v1 v2 v3 v4 k e A)(S':Int)(u1 u2 u3 u4:Value)(k':Int)(e':Value):PB w S' u1 u2 u3 u4 k' e' (put7 w A S' u1 u2 u3 u4 k' e'):=by
 obtain⟨⟨c0,c1,c2,c3⟩,nf,hw,hk,he⟩:=h;unfold put7;have a1:=cellSame (v:=.int i64 S') c0;have n1:NeBox (((A.setCell ⟨w.heap.size,0,none⟩ (.int i64 S')).setCell ⟨w.heap.size,1,none⟩ u1).setCell ⟨w.heap.size,2,none⟩ u2 |>.setCell ⟨w.heap.size,3,none⟩ u3) w.heap.size S' u1 u2 u3:=
  ⟨cellOff (by decide) (cellOff (by decide) (cellOff (by decide) (cellSame c0))),cellOff (by decide) (cellOff (by decide) (cellSame (cellOff (by decide) c1))),cellOff (by decide) (cellSame (cellOff (by decide) (cellOff (by decide) c2))),cellSame (cellOff (by decide) (cellOff (by decide) (cellOff (by decide) c3)))⟩
 have k4:Kb (fun b=>b≠w.heap.size) A (((A.setCell ⟨w.heap.size,0,none⟩ (.int i64 S')).setCell ⟨w.heap.size,1,none⟩ u1).setCell ⟨w.heap.size,2,none⟩ u2 |>.setCell ⟨w.heap.size,3,none⟩ u3):=((((Kb.refl _ A).setCell (q:=⟨w.heap.size,0,none⟩) (fun _ h=>h rfl) _).setCell (q:=⟨w.heap.size,1,none⟩) (fun _ h=>h rfl) _).setCell (q:=⟨w.heap.size,2,none⟩) (fun _ h=>h rfl) _).setCell (q:=⟨w.heap.size,3,none⟩) (fun _ h=>h rfl) _;have f4:∀i,(((A.setCell ⟨w.heap.size,0,none⟩ (.int i64 S')).setCell ⟨w.heap.size,1,none⟩ u1).setCell ⟨w.heap.size,2,none⟩ u2 |>.setCell ⟨w.heap.size,3,none⟩ u3).frozen? ⟨w.heap.size,i,none⟩=false:=fun i=>by rw[frozSet,frozSet,frozSet,frozSet];exact nf i
 have w4:=k4.boxed hw (show _≠_ by omega);have k5:=k4.boxed hk (show _≠_ by omega);have e5:=k4.boxed he (show _≠_ by omega)
 generalize (((A.setCell ⟨w.heap.size,0,none⟩ (.int i64 S')).setCell ⟨w.heap.size,1,none⟩ u1).setCell ⟨w.heap.size,2,none⟩ u2).setCell ⟨w.heap.size,3,none⟩ u3=A4 at *
 have q1:Kb (fun b=>b≠w.heap.size+1) A4 (A4.setCell ⟨w.heap.size+1,0,none⟩ u4):=(Kb.refl _ _).setCell (q:=⟨w.heap.size+1,0,none⟩) (fun _ h=>h rfl) _;have w5:=bx_set w4 u4;have n5:=nb_kb n1 q1 (show _≠_ by omega);have f5:=fz_kb (g:=w.heap.size) (bLQ _ _ n1.1) f4 q1 (show _≠_ by omega);have k6:=q1.boxed k5 (show _≠_ by omega);have e6:=q1.boxed e5 (show _≠_ by omega)
 generalize A4.setCell ⟨w.heap.size+1,0,none⟩ u4=A5 at *
 have q2:Kb (fun b=>b≠w.heap.size+1+1) A5 (A5.setCell ⟨w.heap.size+1+1,0,none⟩ (.int i64 k')):=(Kb.refl _ _).setCell (q:=⟨w.heap.size+1+1,0,none⟩) (fun _ h=>h rfl) _;have k7:=bx_set k6 (.int i64 k');have n6:=nb_kb n5 q2 (show _≠_ by omega);have f6:=fz_kb (g:=w.heap.size) (bLQ _ _ n5.1) f5 q2 (show _≠_ by omega);have w6:=q2.boxed w5 (show _≠_ by omega);have e7:=q2.boxed e6 (show _≠_ by omega)
 generalize A5.setCell ⟨w.heap.size+1+1,0,none⟩ (.int i64 k')=A6 at *
 have q3:Kb (fun b=>b≠w.heap.size+1+1+1) A6 (A6.setCell ⟨w.heap.size+1+1+1,0,none⟩ e'):=(Kb.refl _ _).setCell (q:=⟨w.heap.size+1+1+1,0,none⟩) (fun _ h=>h rfl) _;exact⟨nb_kb n6 q3 (show _≠_ by omega),fz_kb (g:=w.heap.size) (bLQ _ _ n6.1) f6 q3 (show _≠_ by omega),q3.boxed w6 (show _≠_ by omega),q3.boxed k7 (show _≠_ by omega),bx_set e7 e'⟩
end
theorem pb_new (w:World):PB w 0 (.slice none 0 0) (.slice none 0 0) (.slice none 0 0) (.slice none 0 0) 0 .nilIface ((((w.alloc (.cells #[.int i64 0,.slice none 0 0,.slice none 0 0,.slice none 0 0] 28)).alloc (.cells #[.slice none 0 0] 29)).alloc (.cells #[.int i64 0] 3)).alloc (.cells #[.nilIface] 34))∧Below w.heap.size w ((((w.alloc (.cells #[.int i64 0,.slice none 0 0,.slice none 0 0,.slice none 0 0] 28)).alloc (.cells #[.slice none 0 0] 29)).alloc (.cells #[.int i64 0] 3)).alloc (.cells #[.nilIface] 34))∧((((w.alloc (.cells #[.int i64 0,.slice none 0 0,.slice none 0 0,.slice none 0 0] 28)).alloc (.cells #[.slice none 0 0] 29)).alloc (.cells #[.int i64 0] 3)).alloc (.cells #[.nilIface] 34)).heap.size=w.heap.size+1+1+1+1:=by
 have hb:∀(W:World) (o:Obj),Below W.heap.size W (W.alloc o):=fun W o=>(bRQ _ _).alloc (nLQ _) _
 have k1:=nebox_new w 0 (.slice none 0 0) (.slice none 0 0) (.slice none 0 0) 28;have f1:∀i,(w.alloc (.cells #[.int i64 0,.slice none 0 0,.slice none 0 0,.slice none 0 0] 28)).frozen? ⟨w.heap.size,i,none⟩=false:=fun i=>by simp
 have b1:=hb w (.cells #[.int i64 0,.slice none 0 0,.slice none 0 0,.slice none 0 0] 28);have e1:=World.size_alloc w (.cells #[.int i64 0,.slice none 0 0,.slice none 0 0,.slice none 0 0] 28)
 generalize w.alloc (.cells #[.int i64 0,.slice none 0 0,.slice none 0 0,.slice none 0 0] 28)=A1 at *
 have k2:=Boxed.new A1 29 (.slice none 0 0);have b2:=hb A1 (.cells #[.slice none 0 0] 29);have e2:=World.size_alloc A1 (.cells #[.slice none 0 0] 29)
 generalize A1.alloc (.cells #[.slice none 0 0] 29)=A2 at *
 have k3:=Boxed.new A2 3 (.int i64 0);have b3:=hb A2 (.cells #[.int i64 0] 3);have e3:=World.size_alloc A2 (.cells #[.int i64 0] 3)
 generalize A2.alloc (.cells #[.int i64 0] 3)=A3 at *
 have k4:=Boxed.new A3 34 .nilIface;have b4:=hb A3 (.cells #[.nilIface] 34);have e4:=World.size_alloc A3 (.cells #[.nilIface] 34)
 generalize A3.alloc (.cells #[.nilIface] 34)=A4 at *
 have b24:Below A1.heap.size A1 A4:=(b2.trans (b3.mono (by omega))).trans (b4.mono (by omega));rw[e1] at k2;rw[e2,e1] at k3;rw[e3,e2,e1] at k4;refine⟨⟨k1.later b24,fun i=>?_,(k2.kept (grown_below b3) (by simp)).kept (grown_below b4) (by simp),k3.kept (grown_below b4) (by simp),k4⟩,b1.trans (b24.mono (by omega)),by omega⟩;rw[b24.frozen (p:=⟨w.heap.size,i,none⟩) (by show w.heap.size<_;omega)];exact f1 i
theorem dr_new (W:World)(B:Nat)(hB:W.heap.size<B):DrB (W.alloc (.cells #[.int i64 0,.slice none 0 0,.slice none 0 0,.slice none 0 0,.slice none 0 0,.int i64 0,.int i64 0] 84)) W.heap.size B { rd0 with Ts:=pdT rd0.S rd0.Ts } (rd0.ph+1) (rd0.Ts.length:Int) (.slice none 0 0) (.slice none 0 0) (.slice none 0 0) (.slice none 0 0) []:=
 ⟨⟨hB,⟨by simp[rd0],by simp,by simp,by simp⟩,fun i=>by simp,World.ownsRow_nil _ _ _ _,World.ownsRow_nil _ _ _ _,oo_nil _ _,World.ownsRow_nil _ _ _ _⟩,by simp,by simp[rd0],by simp[rd0]⟩
structure LI (w:World)(gd B:Nat)(s:ByteArray)(e:RdT)(v1 v2 v3 v7:Value)(vs:List SlT)(k:Nat)(A:World):Prop where
 ts:tsO rd0 ((pcS s).take k)=.inl e
 ph:PhI e
 bd:BdI e k
 h0:k≠0→0≤e.ph
 dr:DrB A gd B { e with Ts:=pdT e.S e.Ts } (e.ph+1) (e.Ts.length:Int) v1 v2 v3 v7 vs
 pb:PB w 0 (.slice none 0 0) (.slice none 0 0) (.slice none 0 0) (.slice none 0 0) 0 .nilIface A
 below:Below w.heap.size w A
theorem LI.kb {w:World}{gd B:Nat}{s:ByteArray}{e:RdT}{v1 v2 v3 v7:Value}{vs:List SlT}{k:Nat}{A A':World}{p:Nat→Prop}(h:LI w gd B s e v1 v2 v3 v7 vs k A)(hk:Kb p A A')(hg:p gd)(hx:∀b,DrX v1 v2 v3 v7 vs b→p b)(hp:∀b,b<w.heap.size+4→p b):LI w gd B s e v1 v2 v3 v7 vs k A':=
 ⟨h.ts,h.ph,h.bd,h.h0,h.dr.kb hk hg hx,h.pb.kb hk (fun b _ h=>hp b h),h.below.trans (hk.below h.below.size fun b hb=>hp b (by omega))⟩
theorem tparse_any (s:ByteArray)(w:World)(hw:HasWords w)(hn:HasNum w):
 Calls prog 10 #[.string s] w fun e w'=>∃v1 v2 v3 v4,e=.returned (.tuple #[.agg #[.int i64 (rxE s).S,v1,v2,v3],v4,.int i64 (rtK s:Int),noV (rtN s)])∧GS lnkE w' v1 (rxE s).Ls∧GS hstE w' v2 (rxE s).Hs∧TS w' v3 (rxE s).Ts∧GS wisE w' v4 (rxE s).ws∧Below w.heap.size w w':=by
 have HWN:Hid (HasWords w∧HasNum w):=⟨hw,hn⟩;have HGL:Hid (0<w.heap.size∧6<w.heap.size∧7<w.heap.size):=by
  obtain⟨⟨a,h1,_⟩,b,h2,_⟩:=hn;exact⟨bLQ _ _ hw.1,bLQ _ _ h1,bLQ _ _ h2⟩
 obtain⟨hPB,hBL,hSZ⟩:=pb_new w;obtain⟨W4,hW4⟩:∃X,X=(((w.alloc (.cells #[.int i64 0,.slice none 0 0,.slice none 0 0,.slice none 0 0] 28)).alloc (.cells #[.slice none 0 0] 29)).alloc (.cells #[.int i64 0] 3)).alloc (.cells #[.nilIface] 34):=⟨_,rfl⟩;rw[←hW4] at hPB hBL hSZ;have HW4:Hid (W4=(((w.alloc (.cells #[.int i64 0,.slice none 0 0,.slice none 0 0,.slice none 0 0] 28)).alloc (.cells #[.slice none 0 0] 29)).alloc (.cells #[.int i64 0] 3)).alloc (.cells #[.nilIface] 34)):=hW4;have HP4:Hid (PB w 0 (.slice none 0 0) (.slice none 0 0) (.slice none 0 0) (.slice none 0 0) 0 .nilIface W4∧Below w.heap.size w W4∧W4.heap.size=w.heap.size+1+1+1+1):=⟨hPB,hBL,hSZ⟩;clear hw hn hPB hBL hSZ hW4;refine (callsIn_wide (n:=6)).1 ?_;refine callsIn_of_wp_marks func10 rfl trivial ?_ rfl;simp only[ntmps10,List.size_toArray,List.length_cons,List.length_nil,Nat.reduceAdd,Nat.reduceSub,Array.replicate_succ,Array.replicate_zero,List.push_toArray,List.append_toArray,List.nil_append,List.cons_append];by_cases h3:3000<s.size
 ·have h3i:(3000:Int)<(s.size:Int):=by omega
  have HN:Hid (rtN s=4∧rtK s=0∧rxE s=rd0):=by
   have e1:rtN s=4:=by rw[rtN,if_pos h3]
   exact⟨e1,by rw[rtK,if_pos h3],by rw[rxE,e1];rfl⟩
  clear h3
  gi_wp2
  refine⟨.tuple #[.agg #[.int i64 0,.slice none 0 0,.slice none 0 0,.slice none 0 0],.slice none 0 0,.int i64 0,.iface 72 (.int i64 4)],by simp[results,results10,go_sem],?_⟩;rw[HN.out.1,HN.out.2.1,HN.out.2.2];exact⟨_,_,_,_,rfl,GS.nil _,GS.nil _,.inl ⟨none,0,rfl,rfl⟩,GS.nil _,((((Below.refl _ w).alloc (nLQ _) _).alloc (by simp) _).alloc (by simp;omega) _).alloc (by simp;omega) _⟩
 have h3i:¬(3000:Int)<(s.size:Int):=by omega
 have HS3:Hid (s.size≤3000):=by show _≤_;omega
 clear h3
 gi_wp2_with fail
 rw[←HW4.out];obtain⟨W5,hW5⟩:∃X,X=W4.alloc (.cells #[.int i64 0,.slice none 0 0,.slice none 0 0,.slice none 0 0,.slice none 0 0,.int i64 0,.int i64 0] 84):=⟨_,rfl⟩;rw[←hW5];refine⟨trivial,(callsIn_wide.2 (lines_val s W5)).mono ?_⟩;rintro e W6 ⟨rfl,hW6⟩;have hb45:Below W4.heap.size W4 W5:=by rw[hW5];exact (bRQ _ _).alloc (nLQ _) _
 have hb56:Below W5.heap.size W5 W6:=by rw[hW6];exact (bRQ _ _).alloc (nLQ _) _
 have hs5:W5.heap.size=w.heap.size+5:=by rw[hW5,World.size_alloc,HP4.out.2.2]
 have hs6:W6.heap.size=w.heap.size+6:=by rw[hW6,World.size_alloc,hs5]
 have hb46:Below W4.heap.size W4 W6:=hb45.trans (hb56.mono hb45.size);have hst:W6.cell? ⟨W5.heap.size,0,none⟩=some (.string s):=by rw[hW6];simp
 have hLI:LI w (w.heap.size+1+1+1+1) (w.heap.size+8) s rd0 (.slice none 0 0) (.slice none 0 0) (.slice none 0 0) (.slice none 0 0) [] 0 W6:=by
  refine⟨rfl,ph_0,⟨Nat.zero_le _,Nat.zero_le _,Nat.zero_le _,fun T h=>by cases h⟩,fun h=>absurd rfl h,?_,HP4.out.1.later hb46,HP4.out.2.1.trans (hb46.mono HP4.out.2.1.size)⟩;have h:=dr_new W4 (w.heap.size+8) (by have:=HP4.out.2.2;omega);rw[←hW5] at h;have h2:=h.later hb56;have e:W4.heap.size=w.heap.size+1+1+1+1:=HP4.out.2.2;rw[e] at h2;exact h2
 have HZ:Hid (W6.heap.size=w.heap.size+6∧W5.heap.size=w.heap.size+5):=⟨hs6,hs5⟩;clear hb45 hb56 hb46 hW5 hW6 hs5 hs6
 gi_wp2
 refine wpIn_rangeFunc_itQ (by omega) (gf:=51) (lb:=#[.pointer (some ⟨W5.heap.size,0,none⟩)]) rfl (enters_of func51 (by kernel_rfl) rfl) (lines_it HS3.out) (fun W' h=>cell_later h hst) (fun b h=>by rw[h];have:=HZ.out;omega) (fun A args x hx=>by rw[hx];rfl)
  (fun k X A=>∃e v1 v2 v3 v7 vs,LI w (w.heap.size+1+1+1+1) (w.heap.size+8) s e v1 v2 v3 v7 vs k A∧k≤(pcS s).length∧∀b,X b↔DrX v1 v2 v3 v7 vs b)
  (fun c A=>c=.ret∧∃k:Nat,tsO rd0 (pcS s)=.inr k∧PB w 0 (.slice none 0 0) (.slice none 0 0) (.slice none 0 0) (.slice none 0 0) (k:Int) (.iface 72 (.int i64 2)) A∧Below w.heap.size w A)
  (fun k X A h b hx=>by
   obtain⟨e,v1,v2,v3,v7,vs,h1,_,h2⟩:=h;have:=h1.dr.xlt ((h2 b).1 hx);have:=HZ.out;omega)
  (fun k X A A' h hk=>by
   obtain⟨e,v1,v2,v3,v7,vs,h1,h3,h2⟩:=h;have:=HZ.out;exact⟨e,v1,v2,v3,v7,vs,h1.kb hk (.inl (by omega)) (fun b hb=>.inr ((h2 b).2 hb)) (fun b hb=>.inl (by omega)),h3,h2⟩)
  (fun c A A' h hk=>by
   obtain⟨h1,k,h2,h3,h4⟩:=h;have:=HZ.out;exact⟨h1,k,h2,h3.kb hk (fun b _ hb=>.inl (by omega)),h4.trans (hk.below h4.size fun b hb=>.inl (by omega))⟩)
  ⟨rd0,_,_,_,_,[],hLI,Nat.zero_le _,fun b=>⟨fun h=>h.elim,fun h=>by rcases h with h | h | h | h | ⟨x,hx,_⟩ <;> first | cases h | cases hx⟩⟩ ?round ?done ?stop
 case round =>
  rintro l' k X Y ⟨i,p⟩ args A hl' hBW ⟨e,v1,v2,v3,v7,vs,hL,hkl,hX⟩ hLk hV hY hnl;unfold lnV at hV;subst hV;obtain⟨hi,hp⟩:=pz_at.1 hLk
  dsimp only at hi hp
  subst hi;have HLI:Hid (LI w (w.heap.size+1+1+1+1) (w.heap.size+8) s e v1 v2 v3 v7 vs i A):=hL;have HPZ:Hid (i<(pcS s).length∧(pcS s)[i]?=some p):=⟨(List.getElem?_eq_some_iff.1 hp).1,hp⟩;have HX:Hid (∀b,X b↔DrX v1 v2 v3 v7 vs b):=hX;have HY:Hid (∀b,Y b→W6.heap.size+2≤b∧¬X b):=hY;have HL':Hid (l'=W6.heap.size+1∧W6.heap.size+2≤A.heap.size):=⟨hl',hBW⟩;have HPS:Hid (p.size≤3000):=by
   show _≤_;have h1:=pc_size (nLQ _) p (List.mem_of_getElem? hp);exact Nat.le_trans h1 HS3.out
  have HIL:Hid (i≤3000):=Nat.le_trans hkl (Nat.le_trans (pc_len _ s (nLQ _)) HS3.out);clear hL hLk hX hY hnl hl' hBW hp hkl hLI hst
  gi_wp2
  refine⟨Kb.refl _ _,fun A2 hk2=>?_⟩;have hZ:=HZ.out;have hL2:=HLI.out.kb hk2 (by show _≠_;have:=HL'.out;omega) (fun b hb=>by show _≠_;have:=HL'.out;have:=HLI.out.dr.xlt hb;omega) (fun b hb=>by show _≠_;have:=HL'.out;omega);have HL2:Hid (LI w (w.heap.size+1+1+1+1) (w.heap.size+8) s e v1 v2 v3 v7 vs i A2):=hL2;have HSZ2:Hid (A.heap.size≤A2.heap.size):=hk2.size;clear hL2 hk2 hZ
  gi_wp2_with fail
  refine⟨trivial,(CallsIn.inRound _ (callsIn_wide.2 (take_any p HPS.out (by have:=HL'.out;have:=HSZ2.out;have:=HZ.out;omega) HL2.out.ph ⟨Nat.le_trans HL2.out.bd.1 HIL.out,Nat.le_trans HL2.out.bd.2.1 HIL.out,Nat.le_trans HL2.out.bd.2.2.1 HIL.out,fun T hT=>Nat.le_trans (HL2.out.bd.2.2.2 T hT) HIL.out⟩ (HWN.out.1.later HL2.out.below) (HWN.out.2.later HL2.out.below) ⟨by have:=HGL.out;omega,by have:=HGL.out;omega,by have:=HGL.out;omega⟩ HL2.out.dr))).mono ?_⟩;rintro e3 A3 ⟨ok,rfl,hR,hK⟩;have hPB3:PB w 0 (.slice none 0 0) (.slice none 0 0) (.slice none 0 0) (.slice none 0 0) 0 .nilIface A3:=HL2.out.pb.kb hK (fun b h1 h2=>⟨by omega,fun h=>by have:=HL2.out.dr.xlt h;omega⟩);have hBL3:Below w.heap.size w A3:=HL2.out.below.trans (hK.below HL2.out.below.size fun b hb=>⟨by omega,fun h=>by have:=HL2.out.dr.xlt h;omega⟩);have HNP:Hid (∀b,(b=W5.heap.size∨b=W6.heap.size∨b=l'∨Y b)→w.heap.size+5≤b∧¬DrX v1 v2 v3 v7 vs b):=by
   have h1:=HZ.out;have h2:=HL'.out;rintro b (h | h | h | h)
   ·exact⟨by omega,fun hx=>by have:=HL2.out.dr.xlt hx;omega⟩
   ·exact⟨by omega,fun hx=>by have:=HL2.out.dr.xlt hx;omega⟩
   ·exact⟨by omega,fun hx=>by have:=HL2.out.dr.xlt hx;omega⟩
   have h3:=HY.out b h;exact⟨by omega,fun hx=>h3.2 ((HX.out b).2 hx)⟩
  have HK3:Hid (Kb (fun b=>b=W5.heap.size∨b=W6.heap.size∨b=l'∨Y b) A2 A3):=hK.mono fun b _ h=>⟨by have:=(HNP.out b h).1;omega,(HNP.out b h).2⟩
  obtain⟨hst1,hst2⟩:=ts_step HPZ.out.2 HL2.out.ts;cases ok with
  | true =>
    have HFIN:Hid (∃X':Nat→Prop,(∃e v1 v2 v3 v7 vs,LI w (w.heap.size+1+1+1+1) (w.heap.size+8) s e v1 v2 v3 v7 vs (i+1) A3∧i+1≤(pcS s).length∧∀b,X' b↔DrX v1 v2 v3 v7 vs b)∧∀b,X' b→X b∨A.heap.size≤b):=by
     cases ht:tkO e p with
     | none=>exact absurd (hR.2 ht) (by decide)
     | some f =>
       obtain⟨_,u1,u2,u3,u7,us,hD,hN⟩:=hR.1 f ht;obtain⟨hP1,hP2⟩:=ph_next HL2.out.ph ht;refine⟨DrX u1 u2 u3 u7 us,⟨f,u1,u2,u3,u7,us,⟨hst1 f ht,hP1,bd_next HL2.out.bd ht,fun _=>hP2,hD,hPB3,hBL3⟩,HPZ.out.1,fun b=>Iff.rfl⟩,fun b hb=>?_⟩
       rcases hN b hb with h | h
       ·exact .inl ((HX.out b).2 h)
       exact .inr (Nat.le_trans HSZ2.out h)
    clear hR hK hPB3 hBL3 hst1 hst2
    gi_wp2
    exact⟨HK3.out,HFIN.out⟩
  | false =>
    have HTS:Hid (tsO rd0 (pcS s)=.inr i):=by
     cases ht:tkO e p with
     | none=>exact hst2 ht
     | some f=>exact absurd (hR.1 f ht).1 (by decide)
    have HP3:Hid (PB w 0 (.slice none 0 0) (.slice none 0 0) (.slice none 0 0) (.slice none 0 0) 0 .nilIface A3∧Below w.heap.size w A3):=⟨hPB3,hBL3⟩;obtain⟨n0,n1,n2,n3⟩:=hPB3.n;have f0:=hPB3.nf 0;have f1:=hPB3.nf 1;have f2:=hPB3.nf 2;have f3:=hPB3.nf 3;have b1:=hPB3.ws.cell;have b2:=hPB3.k.cell;have b3:=hPB3.e.cell;have g1:=hPB3.ws.frozen;have g2:=hPB3.k.frozen;have g3:=hPB3.e.frozen;clear hR hK hPB3 hBL3 hst1 hst2
    gi_wp2
    have hP7:=HP3.out.1.put 0 (.slice none 0 0) (.slice none 0 0) (.slice none 0 0) (.slice none 0 0) (i:Int) (.iface 72 (.int i64 2));have hK7:Kb (fun b=>b=W5.heap.size∨b=W6.heap.size∨b=l'∨Y b) A3 (put7 w A3 0 (.slice none 0 0) (.slice none 0 0) (.slice none 0 0) (.slice none 0 0) (i:Int) (.iface 72 (.int i64 2))):=kb_put7 (fun b h1 h2 h=>by have:=(HNP.out b h).1;omega) A3;have hB7:Below w.heap.size w (put7 w A3 0 (.slice none 0 0) (.slice none 0 0) (.slice none 0 0) (.slice none 0 0) (i:Int) (.iface 72 (.int i64 2))):=HP3.out.2.trans ((kb_put7 (p:=fun b=>b<w.heap.size) (fun b h1 h2 h=>by omega) A3).below HP3.out.2.size fun b hb=>hb);exact⟨HK3.out.trans hK7,rfl,i,HTS.out,hP7,hB7⟩
 case stop =>
  rintro c A ⟨rfl,k,hts,hPB,hBL⟩ hK;have h0:s.size≠0:=fun h0=>by
   rw[pc_nil h0] at hts;cases hts
  have hN:=ts_bad HS3.out h0 hts;have HN:Hid (rtN s=2∧rtK s=k∧rxE s=rd0):=⟨hN.1,hN.2,by rw[rxE,hN.1];rfl⟩;have HPA:Hid (PB w 0 (.slice none 0 0) (.slice none 0 0) (.slice none 0 0) (.slice none 0 0) (k:Int) (.iface 72 (.int i64 2)) A∧Below w.heap.size w A):=⟨hPB,hBL⟩;have HDF:Hid (A.heap[W6.heap.size]?=some (.deferred (some []))):=hK;clear hts hPB hBL hK h0 hN hLI hst
  gi_wp2
  have hZ:=HZ.out;have hkq:Kb (fun x=>x≠W6.heap.size) A (A.putObj W6.heap.size (.deferred none)):=(Kb.refl _ _).putObj (fun _ h=>h rfl) _;have hP2:=HPA.out.1.kb hkq (fun b h1 h2=>show _≠_ by omega);have hB2:Below w.heap.size w (A.putObj W6.heap.size (.deferred none)):=HPA.out.2.trans (hkq.below HPA.out.2.size fun b hb=>show _≠_ by omega);refine⟨by simp,.inl ⟨_,_,rfl,run_takeDeferred HDF.out,?_⟩⟩;obtain⟨q0,q1,q2,q3⟩:=hP2.n;have q4:=hP2.ws.cell;have q5:=hP2.k.cell;have q6:=hP2.e.cell;clear hkq hP2 hZ;refine⟨.tuple #[.agg #[.int i64 0,.slice none 0 0,.slice none 0 0,.slice none 0 0],.slice none 0 0,.int i64 (k:Int),.iface 72 (.int i64 2)],by simp[results,results10,go_sem, *],?_⟩;rw[HN.out.1,HN.out.2.1,HN.out.2.2];exact⟨_,_,_,_,rfl,GS.nil _,GS.nil _,.inl ⟨none,0,rfl,rfl⟩,GS.nil _,hB2⟩
 case done =>
  rintro X A ⟨e,v1,v2,v3,v7,vs,hL,hkl,hX⟩ hK;have HDF:Hid (A.heap[W6.heap.size]?=some (.deferred (some []))):=hK;have HLI:Hid (LI w (w.heap.size+1+1+1+1) (w.heap.size+8) s e v1 v2 v3 v7 vs (pzI s).length A):=hL;have HTS:Hid (tsO rd0 (pcS s)=.inl e):=by
   have h:=hL.ts;rw[pz_len,List.take_length] at h;exact h
  obtain⟨a1,n1,c1,rfl⟩:∃a n c,v1=.slice a n c:=by obtain⟨a,c,h⟩:=own_form hL.dr.m.l;exact⟨a,_,c,h⟩
  obtain⟨a2,n2,c2,rfl⟩:∃a n c,v2=.slice a n c:=by obtain⟨a,c,h⟩:=own_form hL.dr.m.h;exact⟨a,_,c,h⟩
  obtain⟨a3,n3,c3,rfl⟩:∃a n c,v3=.slice a n c:=by obtain⟨a,c,h⟩:=own_form hL.dr.m.t.ov;exact⟨a,_,c,h⟩
  obtain⟨a7,n7,c7,rfl⟩:∃a n c,v7=.slice a n c:=by obtain⟨a,c,h⟩:=own_form hL.dr.m.w;exact⟨a,_,c,h⟩
  obtain⟨S,hS⟩:∃S,S=e.S:=⟨_,rfl⟩;have HS:Hid (e.S=S):=hS.symm;obtain⟨ah,hah⟩:∃q,q=e.ph+1:=⟨_,rfl⟩;have HAH:Hid (ah=e.ph+1):=hah;obtain⟨k0,k1,k2,k3⟩:=hL.dr.m.c;have k4:=hL.dr.c4;have k5:=hL.dr.c5
  dsimp only at k0
  rw[←hS] at k0;rw[←hah] at k5;obtain⟨n0,m1,m2,m3⟩:=hL.pb.n;have f0:=hL.pb.nf 0;have f1:=hL.pb.nf 1;have f2:=hL.pb.nf 2;have f3:=hL.pb.nf 3;have b1:=hL.pb.ws.cell;have b2:=hL.pb.k.cell;have b3:=hL.pb.e.cell;have g1:=hL.pb.ws.frozen;have g2:=hL.pb.k.frozen;have g3:=hL.pb.e.frozen;by_cases h0:s.size=0
  ·have ea:ah=0:=by
    rw[pc_nil h0] at HTS;have h:=HTS.out;cases h;rw[hah];rfl
   have HN:Hid (rtN s=2∧rtK s=0∧rxE s=rd0):=by
    have e1:rtN s=2:=by rw[rtN,if_neg (by omega),if_pos h0]
    exact⟨e1,by rw[rtK,if_neg (by omega),if_pos h0],by rw[rxE,e1];rfl⟩
   subst ea;clear hL hkl hX hK h0 hS hah hLI hst
   gi_wp2
   have hP7:=HLI.out.pb.put 0 (.slice none 0 0) (.slice none 0 0) (.slice none 0 0) (.slice none 0 0) 0 (.iface 72 (.int i64 2));have hK7:Kb (fun b=>b<w.heap.size∨w.heap.size+4≤b) A (put7 w A 0 (.slice none 0 0) (.slice none 0 0) (.slice none 0 0) (.slice none 0 0) 0 (.iface 72 (.int i64 2))):=kb_put7 (fun b h1 h2 h=>by omega) A;have hB7:=HLI.out.below.trans (hK7.below HLI.out.below.size fun b hb=>.inl hb)
   change bodyPostM _ _ _ _ _ _ _ (put7 w A 0 (.slice none 0 0) (.slice none 0 0) (.slice none 0 0) (.slice none 0 0) 0 (.iface 72 (.int i64 2)))
   have hZ:=HZ.out;have hdf:=(hK7.block _ (Array.getElem?_eq_some_iff.1 HDF.out).1 (.inr (by omega))).trans HDF.out
   generalize put7 w A 0 (.slice none 0 0) (.slice none 0 0) (.slice none 0 0) (.slice none 0 0) 0 (.iface 72 (.int i64 2))=A9 at *
   have hkq:Kb (fun x=>x≠W6.heap.size) A9 (A9.putObj W6.heap.size (.deferred none)):=(Kb.refl _ _).putObj (fun _ h=>h rfl) _;have hP2:=hP7.kb hkq (fun b h1 h2=>show _≠_ by omega);have hB2:Below w.heap.size w (A9.putObj W6.heap.size (.deferred none)):=hB7.trans (hkq.below hB7.size fun b hb=>show _≠_ by omega);refine⟨by simp,.inl ⟨_,_,rfl,run_takeDeferred hdf,?_⟩⟩;obtain⟨q0,q1,q2,q3⟩:=hP2.n;have q4:=hP2.ws.cell;have q5:=hP2.k.cell;have q6:=hP2.e.cell;clear hkq hP2 hZ k0 k1 k2 k3 k4 k5 n0 m1 m2 m3 f0 f1 f2 f3 b1 b2 b3 g1 g2 g3;refine⟨.tuple #[.agg #[.int i64 0,.slice none 0 0,.slice none 0 0,.slice none 0 0],.slice none 0 0,.int i64 0,.iface 72 (.int i64 2)],by simp[results,results10,go_sem, *],?_⟩;rw[HN.out.1,HN.out.2.1,HN.out.2.2];exact⟨_,_,_,_,rfl,GS.nil _,GS.nil _,.inl ⟨none,0,rfl,rfl⟩,GS.nil _,hB2⟩
  have HP0:Hid (0≤e.ph):=hL.h0 (by
   rw[pz_len];intro e0;have e1:=List.length_eq_zero_iff.1 e0
   rcases ixq_cases 10 s with h | ⟨i,h,_⟩
   ·rw[pc_miss h h0] at e1;cases e1
   rw[pc_hit h] at e1;cases e1)
  have hq:(ah==0)=false:=by
   rw[beq_eq_false_iff_ne];have:=HP0.out;omega
  have hall:=ts_all HS3.out h0 HTS.out;have HALL:Hid (rtN s=nwsN e.S e.Ls e.Hs (fiT e.S e.Ts) e.ws∧rtK s=0∧rtE s=e):=hall;clear hL hkl hX hK h0 hS hah hall hLI hst
  gi_wp2_with fail
  refine⟨trivial,(callsIn_wide.2 (tcheck_any S a1 n1 c1 a2 n2 c2 a3 n3 c3 a7 n7 c7 e.Ls e.Hs (pdT e.S e.Ts) e.ws A (own_GS HLI.out.dr.m.l) (own_GS HLI.out.dr.m.h) HLI.out.dr.m.t.ts (own_GS HLI.out.dr.m.w))).mono ?_⟩;rintro e5 A2 ⟨rfl,hb2⟩;obtain⟨C,hC⟩:∃C,C=nwsN S e.Ls e.Hs (pdT e.S e.Ts) e.ws:=⟨_,rfl⟩;have HC:Hid (rtN s=C):=by
   show _=_;rw[HALL.out.1,hC,←HS.out,nw_fi]
  rw[←hC];have hP2:=HLI.out.pb.later hb2;have hD2:=HLI.out.dr.later hb2;have HPD:Hid (PB w 0 (.slice none 0 0) (.slice none 0 0) (.slice none 0 0) (.slice none 0 0) 0 .nilIface A2∧Below w.heap.size w A2∧A2.heap[W6.heap.size]?=some (.deferred (some []))∧DrB A2 (w.heap.size+1+1+1+1) (w.heap.size+8) { e with Ts:=pdT e.S e.Ts } (e.ph+1) (e.Ts.length:Int) (.slice a1 n1 c1) (.slice a2 n2 c2) (.slice a3 n3 c3) (.slice a7 n7 c7) vs):=⟨hP2,HLI.out.below.trans (hb2.mono HLI.out.below.size),(hb2.block _ (Array.getElem?_eq_some_iff.1 HDF.out).1).trans HDF.out,hD2⟩;clear k0 k1 k2 k3 k4 k5 n0 m1 m2 m3 f0 f1 f2 f3 b1 b2 b3 g1 g2 g3 hq hC hb2;obtain⟨k0,k1,k2,k3⟩:=hD2.m.c;have k4:=hD2.c4
  dsimp only at k0
  rw[HS.out] at k0;obtain⟨n0,m1,m2,m3⟩:=hP2.n;have f0:=hP2.nf 0;have f1:=hP2.nf 1;have f2:=hP2.nf 2;have f3:=hP2.nf 3;have b1:=hP2.ws.cell;have b2:=hP2.k.cell;have b3:=hP2.e.cell;have g1:=hP2.ws.frozen;have g2:=hP2.k.frozen;have g3:=hP2.e.frozen;clear hP2 hD2;by_cases hC0:C=0
  ·subst hC0;rw[show noV 0=.nilIface from rfl]
   gi_wp2_with fail
   gi_region
   gi_wp2
   have hP7:=(HPD.out.1.put S (.slice a1 n1 c1) (.slice a2 n2 c2) (.slice a3 n3 c3) (.slice a7 n7 c7) 0 .nilIface).kb (p:=fun _=>True) (Kb.refl _ _).drew (fun _ _ _=>trivial);have hK7:Kb (fun b=>b<w.heap.size∨w.heap.size+4≤b) A2 (put7 w A2 S (.slice a1 n1 c1) (.slice a2 n2 c2) (.slice a3 n3 c3) (.slice a7 n7 c7) 0 .nilIface).drew:=(kb_put7 (fun b h1 h2 h=>by omega) A2).drew;have hB7:=HPD.out.2.1.trans (hK7.below HPD.out.2.1.size fun b hb=>.inl hb);have hD7:=HPD.out.2.2.2.kb hK7 (.inr (by omega)) (fun b hb=>.inr (by have:=HPD.out.2.2.2.xlt hb;omega))
   change bodyPostM _ _ _ _ _ _ _ (put7 w A2 S (.slice a1 n1 c1) (.slice a2 n2 c2) (.slice a3 n3 c3) (.slice a7 n7 c7) 0 .nilIface).drew
   have hZ:=HZ.out;have hdf:=(hK7.block _ (Array.getElem?_eq_some_iff.1 HPD.out.2.2.1).1 (.inr (by omega))).trans HPD.out.2.2.1
   generalize (put7 w A2 S (.slice a1 n1 c1) (.slice a2 n2 c2) (.slice a3 n3 c3) (.slice a7 n7 c7) 0 .nilIface).drew=A9 at *
   have hkq:Kb (fun x=>x≠W6.heap.size) A9 (A9.putObj W6.heap.size (.deferred none)):=(Kb.refl _ _).putObj (fun _ h=>h rfl) _;have hP2:=hP7.kb hkq (fun b h1 h2=>show _≠_ by omega);have hD9:=hD7.kb hkq (show _≠_ by omega) (fun b hb=>show _≠_ by have:=hD7.xlt hb;omega);have hB2:Below w.heap.size w (A9.putObj W6.heap.size (.deferred none)):=hB7.trans (hkq.below hB7.size fun b hb=>show _≠_ by omega);refine⟨by simp,.inl ⟨_,_,rfl,run_takeDeferred hdf,?_⟩⟩;obtain⟨q0,q1,q2,q3⟩:=hP2.n;have q4:=hP2.ws.cell;have q5:=hP2.k.cell;have q6:=hP2.e.cell;clear hkq hP2 hZ k0 k1 k2 k3 k4 n0 m1 m2 m3 f0 f1 f2 f3 b1 b2 b3 g1 g2 g3;refine⟨.tuple #[.agg #[.int i64 S,.slice a1 n1 c1,.slice a2 n2 c2,.slice a3 n3 c3],.slice a7 n7 c7,.int i64 0,.nilIface],by simp[results,results10,go_sem, *],?_⟩;have hx:rxE s={ e with Ts:=fiT e.S e.Ts }:=by rw[rxE,if_pos HC.out,HALL.out.2.2]
   have hfi:pdT e.S e.Ts=fiT e.S e.Ts:=nw_pd (by rw[←HALL.out.1];exact HC.out);rw[HC.out,HALL.out.2.1,hx,←HS.out];refine⟨_,_,_,_,rfl,own_GS hD9.m.l,own_GS hD9.m.h,?_,own_GS hD9.m.w,hB2⟩;have ht:=hD9.m.t.ts;rw[←hfi];exact ht
  have hno:noV C=.iface 72 (.int i64 C):=by unfold noV;rw[if_neg hC0]
  have HNO:Hid (noV C=.iface 72 (.int i64 C)∧C≠0):=⟨hno,hC0⟩;rw[hno];clear hno hC0
  gi_wp2
  have hP7:=HPD.out.1.put 0 (.slice none 0 0) (.slice none 0 0) (.slice none 0 0) (.slice none 0 0) 0 (.iface 72 (.int i64 C));have hK7:Kb (fun b=>b<w.heap.size∨w.heap.size+4≤b) A2 (put7 w A2 0 (.slice none 0 0) (.slice none 0 0) (.slice none 0 0) (.slice none 0 0) 0 (.iface 72 (.int i64 C))):=kb_put7 (fun b h1 h2 h=>by omega) A2;have hB7:=HPD.out.2.1.trans (hK7.below HPD.out.2.1.size fun b hb=>.inl hb)
  change bodyPostM _ _ _ _ _ _ _ (put7 w A2 0 (.slice none 0 0) (.slice none 0 0) (.slice none 0 0) (.slice none 0 0) 0 (.iface 72 (.int i64 C)))
  have hZ:=HZ.out;have hdf:=(hK7.block _ (Array.getElem?_eq_some_iff.1 HPD.out.2.2.1).1 (.inr (by omega))).trans HPD.out.2.2.1
  generalize put7 w A2 0 (.slice none 0 0) (.slice none 0 0) (.slice none 0 0) (.slice none 0 0) 0 (.iface 72 (.int i64 C))=A9 at *
  have hkq:Kb (fun x=>x≠W6.heap.size) A9 (A9.putObj W6.heap.size (.deferred none)):=(Kb.refl _ _).putObj (fun _ h=>h rfl) _;have hP2:=hP7.kb hkq (fun b h1 h2=>show _≠_ by omega);have hB2:Below w.heap.size w (A9.putObj W6.heap.size (.deferred none)):=hB7.trans (hkq.below hB7.size fun b hb=>show _≠_ by omega);refine⟨by simp,.inl ⟨_,_,rfl,run_takeDeferred hdf,?_⟩⟩;obtain⟨q0,q1,q2,q3⟩:=hP2.n;have q4:=hP2.ws.cell;have q5:=hP2.k.cell;have q6:=hP2.e.cell;clear hkq hP2 hZ k0 k1 k2 k3 k4 n0 m1 m2 m3 f0 f1 f2 f3 b1 b2 b3 g1 g2 g3;refine⟨.tuple #[.agg #[.int i64 0,.slice none 0 0,.slice none 0 0,.slice none 0 0],.slice none 0 0,.int i64 0,.iface 72 (.int i64 C)],by simp[results,results10,go_sem, *],?_⟩;have hx:rxE s=rd0:=by rw[rxE,HC.out,if_neg HNO.out.2]
  rw[HC.out,HALL.out.2.1,hx,HNO.out.1];exact⟨_,_,_,_,rfl,GS.nil _,GS.nil _,.inl ⟨none,0,rfl,rfl⟩,GS.nil _,hB2⟩
end
section
open Go.RowKit
theorem infoStrC:(Tryz.prog.info? 9).map (fun i=>(i.zero,i.size,i.bytes))=some (some (.string ⟨#[]⟩),1,16):=by kernel_rfl
theorem own_words {w:World}{B e:Nat}{v:Value}{ws:List ByteArray}(h:w.ownsRow B e 1 v ws.length (ws.map Value.string))(h1:1≤ws.length):∃g cap,v=.slice (some ⟨g,0,none⟩) ws.length cap∧B≤g∧ws.length≤cap∧cap≤maxLen∧WAt w g 0 ws:=by
 rcases h.2 with ⟨rfl,h0⟩ | ⟨g,cap,cur,rfl,hB,_,h3,h4,_⟩
 ·omega
 refine⟨g,cap,rfl,hB,h3,h4,fun i hi=>?_⟩;have:=h.cellAt i (by simpa using hi);simpa[hi] using this
theorem cut_any (s:ByteArray)(w:World)(hs:s.size≤1048576):
 Calls prog 27 #[.string s,.int .u8 32] w fun e w'=>∃v,e=.returned v∧w'.ownsRow w.heap.size 9 1 v (cutA s).length ((cutA s).map Value.string)∧Below w.heap.size w w':=by
 obtain⟨i0,hi,hz0,hz1,hz2⟩:=info_parts infoStrC;go_enter func27,ntmps27;go_wp2
 go_loopw [5,6,7] (fun v f i wr=>∃(k j:Nat) (D:List ByteArray),k≤s.size∧j≤k∧f=.int i64 j∧i=.int i64 k∧D.length≤j∧D++cutA (s.extract j s.size)=cutA s∧noBl s j k∧wr.ownsRow w.heap.size 9 1 v D.length (D.map Value.string)∧Below w.heap.size w wr)
  (fun _ _ i _=>s.size-(intOf i).toNat)
 case atStart=>exact⟨0,0,[],by omega,by omega,rfl,rfl,by simp,by simp,fun j h1 h2=>by omega,World.ownsRow_nil _ _ _ _,bRQ _ _⟩
 case round =>
  obtain⟨k,j,D,hk,hj,rfl,rfl,hD,hcut,hno,hown,hB⟩:=hrel;have HB:Hid (Below w.heap.size w wr):=hB;have HOWN:Hid (wr.ownsRow w.heap.size 9 1 u5 D.length (D.map Value.string)):=hown;have HCUT:Hid (D++cutA (s.extract j s.size)=cutA s):=hcut;have HNO:Hid (noBl s j k):=hno;have hsz:w.heap.size≤wr.heap.size:=hB.size;clear hB hown hcut hno;by_cases hlt:k<s.size
  ·have hb:=byteN_at s k hlt;have HBY:Hid (byteN s k=s[k].toNat):=hb;clear hb;cases e1:((s[k].toNat:Int)==32)
   ·have HNO2:Hid (noBl s j (k+1)):=noBl_next HNO.out (by rw[HBY.out];simp at e1;omega);go_wp2;go_roundw
    case rel=>exact⟨k+1,j,D,by omega,by omega,rfl,by go_num,hD,HCUT.out,HNO2.out,HOWN.out,HB.out⟩
    case measure=>simp[intOf];omega
   have HST:Hid (cutA (s.extract j s.size)=s.extract j k :: cutA (s.extract (k+1) s.size)):=cutA_step hj hlt HNO.out (by rw[HBY.out];simp at e1;omega);have hj1:(j:Int)≤(k:Int):=by omega
   have hk1:(k:Int)≤(s.size:Int):=by omega
   go_wp2_with (at_builtin;refine wpList_append_own _ rfl _ _ 68 rfl w.heap.size 9 i0 (.string ⟨#[]⟩) 1 16 underlying68 hi hz0 hz1 hz2 rfl (by decide) _ _ _ rfl (HOWN.out.alloc _) ⟨wr.heap.size,0,none⟩ 1 1 [.string (s.extract j k)] rfl rfl ?c1 ?c2 ?c3 ?c4 ?c5 ?_)
   case c1 =>
    intro j u hj
    match j,hj with
    | 0,hj=>simp at hj;subst hj;simp[Addr.add]
   case c2=>intro u hu;simp at hu;subst hu;rfl
   case c3=>unfold maxLen;omega
   case c4=>omega
   case c5=>simp;omega
   intro v' w3 hown3 hgrow _;have hB3:Below w.heap.size w w3:=(HB.out.alloc hsz _).grown hgrow (by simp;omega) (fun g hg=>(HOWN.out.lt g hg).1);clear hgrow;have HO3:Hid (w3.ownsRow w.heap.size 9 1 v' (D++[s.extract j k]).length ((D++[s.extract j k]).map Value.string)):=by
    show w3.ownsRow w.heap.size 9 1 v' (D++[s.extract j k]).length ((D++[s.extract j k]).map Value.string);simpa using hown3
   clear hown3;go_wp2;go_roundw
   case rel=>exact⟨k+1,k+1,D++[s.extract j k],by omega,by omega,by go_num,by go_num,by simp;omega,by rw[←HCUT.out,HST.out];simp,fun a h1 h2=>by omega,HO3.out,hB3⟩
   case measure=>simp[intOf];omega
  obtain rfl:k=s.size:=by omega
  have HEND:Hid (cutA s=D++[s.extract j s.size]):=by
   show cutA s=_;rw[←HCUT.out,cutA_end HNO.out]
  have hj1:(j:Int)≤(s.size:Int):=by omega
  go_wp2_with (at_builtin;refine wpList_append_own _ rfl _ _ 68 rfl w.heap.size 9 i0 (.string ⟨#[]⟩) 1 16 underlying68 hi hz0 hz1 hz2 rfl (by decide) _ _ _ rfl (HOWN.out.alloc _) ⟨wr.heap.size,0,none⟩ 1 1 [.string (s.extract j s.size)] rfl rfl ?c1 ?c2 ?c3 ?c4 ?c5 ?_)
  case c1 =>
   intro j u hj
   match j,hj with
   | 0,hj=>simp at hj;subst hj;simp[Addr.add]
  case c2=>intro u hu;simp at hu;subst hu;rfl
  case c3=>unfold maxLen;omega
  case c4=>omega
  case c5=>simp;omega
  intro v' w3 hown3 hgrow _;have hB3:Below w.heap.size w w3:=(HB.out.alloc hsz _).grown hgrow (by simp;omega) (fun g hg=>(HOWN.out.lt g hg).1);clear hgrow;have HO3:Hid (w3.ownsRow w.heap.size 9 1 v' (cutA s).length ((cutA s).map Value.string)):=by
   show w3.ownsRow w.heap.size 9 1 v' (cutA s).length ((cutA s).map Value.string);rw[HEND.out];simpa using hown3
  clear hown3;go_wp2;go_ret;exact⟨_,rfl,HO3.out,hB3⟩
theorem cutc_any (c:UInt8)(cv:Int)(hc:((c.toNat:Nat):Int)=cv)(s:ByteArray)(w:World)(hs:s.size≤1048576):
 Calls prog 27 #[.string s,.int .u8 cv] w fun e w'=>∃v,e=.returned v∧w'.ownsRow w.heap.size 9 1 v (cutC c s).length ((cutC c s).map Value.string)∧Below w.heap.size w w':=by
 obtain⟨i0,hi,hz0,hz1,hz2⟩:=info_parts infoStrC;have HC:Hid (((c.toNat:Nat):Int)=cv):=hc;clear hc;go_enter func27,ntmps27;go_wp2
 go_loopw [5,6,7] (fun v f i wr=>∃(k j:Nat) (D:List ByteArray),k≤s.size∧j≤k∧f=.int i64 j∧i=.int i64 k∧D.length≤j∧D++cutC c (s.extract j s.size)=cutC c s∧noC c s j k∧wr.ownsRow w.heap.size 9 1 v D.length (D.map Value.string)∧Below w.heap.size w wr)
  (fun _ _ i _=>s.size-(intOf i).toNat)
 case atStart=>exact⟨0,0,[],by omega,by omega,rfl,rfl,by simp,by simp,fun j h1 h2=>by omega,World.ownsRow_nil _ _ _ _,bRQ _ _⟩
 case round =>
  obtain⟨k,j,D,hk,hj,rfl,rfl,hD,hcut,hno,hown,hB⟩:=hrel;have HB:Hid (Below w.heap.size w wr):=hB;have HOWN:Hid (wr.ownsRow w.heap.size 9 1 u5 D.length (D.map Value.string)):=hown;have HCUT:Hid (D++cutC c (s.extract j s.size)=cutC c s):=hcut;have HNO:Hid (noC c s j k):=hno;have hsz:w.heap.size≤wr.heap.size:=hB.size;clear hB hown hcut hno;by_cases hlt:k<s.size
  ·have hb:=byteN_at s k hlt;have HBY:Hid (byteN s k=s[k].toNat):=hb;clear hb;cases e1:((s[k].toNat:Int)==cv)
   ·have HNO2:Hid (noC c s j (k+1)):=no_next HNO.out (by rw[HBY.out];have:=HC.out;simp at e1;omega);go_wp2;go_roundw
    case rel=>exact⟨k+1,j,D,by omega,by omega,rfl,by go_num,hD,HCUT.out,HNO2.out,HOWN.out,HB.out⟩
    case measure=>simp[intOf];omega
   have HST:Hid (cutC c (s.extract j s.size)=s.extract j k :: cutC c (s.extract (k+1) s.size)):=cc_step hj hlt HNO.out (by rw[HBY.out];have:=HC.out;simp at e1;omega);have hj1:(j:Int)≤(k:Int):=by omega
   have hk1:(k:Int)≤(s.size:Int):=by omega
   go_wp2_with (at_builtin;refine wpList_append_own _ rfl _ _ 68 rfl w.heap.size 9 i0 (.string ⟨#[]⟩) 1 16 underlying68 hi hz0 hz1 hz2 rfl (by decide) _ _ _ rfl (HOWN.out.alloc _) ⟨wr.heap.size,0,none⟩ 1 1 [.string (s.extract j k)] rfl rfl ?c1 ?c2 ?c3 ?c4 ?c5 ?_)
   case c1 =>
    intro j u hj
    match j,hj with
    | 0,hj=>simp at hj;subst hj;simp[Addr.add]
   case c2=>intro u hu;simp at hu;subst hu;rfl
   case c3=>unfold maxLen;omega
   case c4=>omega
   case c5=>simp;omega
   intro v' w3 hown3 hgrow _;have hB3:Below w.heap.size w w3:=(HB.out.alloc hsz _).grown hgrow (by simp;omega) (fun g hg=>(HOWN.out.lt g hg).1);clear hgrow;have HO3:Hid (w3.ownsRow w.heap.size 9 1 v' (D++[s.extract j k]).length ((D++[s.extract j k]).map Value.string)):=by
    show w3.ownsRow w.heap.size 9 1 v' (D++[s.extract j k]).length ((D++[s.extract j k]).map Value.string);simpa using hown3
   clear hown3;go_wp2;go_roundw
   case rel=>exact⟨k+1,k+1,D++[s.extract j k],by omega,by omega,by go_num,by go_num,by simp;omega,by rw[←HCUT.out,HST.out];simp,fun a h1 h2=>by omega,HO3.out,hB3⟩
   case measure=>simp[intOf];omega
  obtain rfl:k=s.size:=by omega
  have HEND:Hid (cutC c s=D++[s.extract j s.size]):=by
   show cutC c s=_;rw[←HCUT.out,cc_end HNO.out]
  have hj1:(j:Int)≤(s.size:Int):=by omega
  go_wp2_with (at_builtin;refine wpList_append_own _ rfl _ _ 68 rfl w.heap.size 9 i0 (.string ⟨#[]⟩) 1 16 underlying68 hi hz0 hz1 hz2 rfl (by decide) _ _ _ rfl (HOWN.out.alloc _) ⟨wr.heap.size,0,none⟩ 1 1 [.string (s.extract j s.size)] rfl rfl ?c1 ?c2 ?c3 ?c4 ?c5 ?_)
  case c1 =>
   intro j u hj
   match j,hj with
   | 0,hj=>simp at hj;subst hj;simp[Addr.add]
  case c2=>intro u hu;simp at hu;subst hu;rfl
  case c3=>unfold maxLen;omega
  case c4=>omega
  case c5=>simp;omega
  intro v' w3 hown3 hgrow _;have hB3:Below w.heap.size w w3:=(HB.out.alloc hsz _).grown hgrow (by simp;omega) (fun g hg=>(HOWN.out.lt g hg).1);clear hgrow;have HO3:Hid (w3.ownsRow w.heap.size 9 1 v' (cutC c s).length ((cutC c s).map Value.string)):=by
   show w3.ownsRow w.heap.size 9 1 v' (cutC c s).length ((cutC c s).map Value.string);rw[HEND.out];simpa using hown3
  clear hown3;go_wp2;go_ret;exact⟨_,rfl,HO3.out,hB3⟩
theorem num_head (s:ByteArray)(w:World)(h:dcHd s=false):
 Calls prog 28 #[.string s] w fun e w'=>e=.returned (.tuple #[.int i64 0,.bool false])∧w'=w:=by
 by_cases h0:s.size=0
 ·have e0:s.toList.isEmpty=true:=by
   rw[byte_lst,List.isEmpty_iff,←List.length_eq_zero_iff,size_lst,h0]
  go_enter func28,ntmps28;go_wp2;refine bodyPost_ret (v:=.tuple #[.int i64 0,.bool false]) (by simp[results,results28,go_sem]) rfl ⟨rfl,rfl⟩
 have e0:s.toList.isEmpty=false:=by
  rw[byte_lst,←Bool.not_eq_true,List.isEmpty_iff,←List.length_eq_zero_iff,size_lst];exact h0
 by_cases h9:9<s.size
 ·have e9:decide ((9:Int)<(s.size:Int))=true:=by simp;omega
  go_enter func28,ntmps28;go_wp2;refine bodyPost_ret (v:=.tuple #[.int i64 0,.bool false]) (by simp[results,results28,go_sem]) rfl ⟨rfl,rfl⟩
 have e9:decide ((9:Int)<(s.size:Int))=false:=by simp;omega
 have hz:0<s.size:=by omega
 have hh:byteN s 0=48∧s.size≠1:=by
  simp[dcHd] at h;have:=h (by omega) (by omega);exact⟨this.1,this.2⟩
 have e1:((s[0].toNat:Int)==48)=true:=by
  have:=byteN_at s 0 hz;rw[hh.1] at this;simp;omega
 have e2:decide ((1:Int)<(s.size:Int))=true:=by simp;omega
 clear hh h;go_enter func28,ntmps28;go_wp2;refine bodyPost_ret (v:=.tuple #[.int i64 0,.bool false]) (by simp[results,results28,go_sem]) rfl ⟨rfl,rfl⟩
theorem num_tail (s:ByteArray)(w:World)(h:dcHd s=true):
 Calls prog 28 #[.string s] w fun e w'=>e=.returned (.tuple #[.int i64 (dcN s),.bool (dcOk s)])∧w'=w:=by
 have hh:0<s.size∧s.size≤9:=by
  simp only[dcHd,Bool.and_eq_true,decide_eq_true_eq] at h;omega
 obtain⟨hz,h9⟩:=hh;have e0:s.toList.isEmpty=false:=by
  rw[byte_lst,←Bool.not_eq_true,List.isEmpty_iff,←List.length_eq_zero_iff,size_lst];omega
 have e9:decide ((9:Int)<(s.size:Int))=false:=by simp;omega
 have HH:Hid (dcHd s=true):=h;go_enter func28,ntmps28;go_upto_region 1 with fail
 go_cut [22] from 4 (fun v w'=>v=.bool false∧w'=w)
 case first =>
  cases e1:((s[0].toNat:Int)==48)
  ·go_wp2
   go_meet
   case rel=>exact⟨rfl,rfl⟩
  have e2:decide ((1:Int)<(s.size:Int))=false:=by
   have hb:=byteN_at s 0 hz;have h48:byteN s 0=48:=by simp at e1;omega
   simp only[dcHd,h48,Bool.and_eq_true] at h;have:=h.2.2;simp at this;simp;omega
  go_wp2
  go_meet
  case rel=>exact⟨rfl,rfl⟩
 obtain⟨rfl,hw⟩:=hcut
 replace hw:=hw.symm
 subst hw;clear h e0 e9;go_wp2
 go_loopw [4,5] (fun n i wr=>∃k:Nat,k≤s.size∧n=.int i64 (dcTo s k)∧i=.int i64 k∧dgTo s k=true∧wr=w) (fun _ i _=>s.size-(intOf i).toNat)
 case atStart=>exact⟨0,by omega,rfl,rfl,rfl,rfl⟩
 case round =>
  obtain⟨k,hk,rfl,rfl,hdg,hw⟩:=hrel
  replace hw:=hw.symm
  subst hw;have HD:Hid (dgTo s k=true):=hdg;obtain⟨b0,b1⟩:=dc_small (by omega) hdg;clear hdg;by_cases hlt:k<s.size
  ·have hb:=byteN_at s k hlt;have HB:Hid (byteN s k=s[k].toNat):=hb;clear hb;have hu:s[k].toNat<256:=s[k].toNat_lt;by_cases hd:digB (s[k].toNat)=true
   ·obtain⟨d0,d1⟩:=dig_of hd;have g0:decide ((s[k].toNat:Int)<48)=false:=by simp;omega
    have g1:decide ((57:Int)<(s[k].toNat:Int))=false:=by simp;omega
    have HD1:Hid (dgTo s (k+1)=true):=by
     show dgTo s (k+1)=true;simp[dgTo,HD.out,HB.out,hd]
    have HC:Hid (dcTo s (k+1)=dcTo s k*10+(s[k].toNat:Int)-48):=by
     show dcTo s (k+1)=_;simp only[dcTo,HB.out];omega
    generalize dcTo s k=q at *
    go_wp2;go_roundw
    case rel=>exact⟨k+1,by omega,by rw[HC.out];try rfl,by go_num,HD1.out,trivial⟩
    case measure=>simp[intOf];omega
   have hx:dcOk s=false:=by
    cases e:dcOk s
    ·rfl
    exfalso
    simp only[dcOk,Bool.and_eq_true] at e;have:=dg_le hlt e.2;rw[HB.out] at this;exact hd this
   have hy:dcN s=0:=by simp[dcN,hx]
   have HX:Hid (dcOk s=false):=hx;have HY:Hid (dcN s=0):=hy;have hd2:s[k].toNat<48∨57<s[k].toNat:=by
    simp[digB] at hd;omega
   clear hx hy hd
   rcases hd2 with hd2 | hd2
   ·have g0:decide ((s[k].toNat:Int)<48)=true:=by simp;omega
    go_wp2;refine bodyPost_ret (v:=.tuple #[.int i64 0,.bool false]) (by simp[results,results28,go_sem]) rfl ⟨by rw[HX.out,HY.out],rfl⟩
   have g0:decide ((s[k].toNat:Int)<48)=false:=by simp;omega
   have g1:decide ((57:Int)<(s[k].toNat:Int))=true:=by simp;omega
   go_wp2;refine bodyPost_ret (v:=.tuple #[.int i64 0,.bool false]) (by simp[results,results28,go_sem]) rfl ⟨by rw[HX.out,HY.out],rfl⟩
  obtain rfl:k=s.size:=by omega
  have hx:dcOk s=true:=by simp[dcOk,HH.out,HD.out]
  have hy:dcN s=dcTo s s.size:=by simp[dcN,hx]
  have HX:Hid (dcOk s=true):=hx;have HY:Hid (dcN s=dcTo s s.size):=hy;clear hx hy;go_wp2;refine bodyPost_ret (v:=.tuple #[.int i64 (dcTo s s.size),.bool true]) (by simp[results,results28,go_sem]) rfl ⟨by rw[HX.out,HY.out],rfl⟩
theorem num_any (s:ByteArray)(w:World):
 Calls prog 28 #[.string s] w fun e w'=>e=.returned (.tuple #[.int i64 (dcN s),.bool (dcOk s)])∧w'=w:=by
 cases h:dcHd s
 ·have hx:dcOk s=false:=by simp[dcOk,h]
  have hy:dcN s=0:=by simp[dcN,hx]
  rw[hx,hy];exact num_head s w h
 exact num_tail s w h
def spAL:List ByteArray→Int×Int
 | [a,b]=>(dcN a,dcN b)
 | _=>(0,0)
def spKL:List ByteArray→Bool
 | [a,b]=>dcOk a&&dcOk b
 | _=>false
def spA (s:ByteArray):Int×Int:=spAL (cutC 46 s)
def spK (s:ByteArray):Bool:=spKL (cutC 46 s)
theorem sp_ak (s:ByteArray):spO s=if spK s=true then some (spA s) else none:=by
 unfold spO spK spA
 split
 ·rename_i a b e
  rw[e];rfl
 rename_i h
 rw[show spKL (cutC 46 s)=false by
  unfold spKL
  split
  ·rename_i a b e
   exact absurd e (h a b)
  rfl]
 rfl
theorem rreadSpot_any (s:ByteArray)(w:World)(hs:s.size≤1048576):
 Calls prog 29 #[.string s] w fun e w'=>e=.returned (.tuple #[.agg #[.int i64 (spA s).1,.int i64 (spA s).2],.bool (spK s)])∧Below w.heap.size w w':=by
 have HC:Hid (Calls prog 27 #[.string s,.int .u8 46] (w.alloc (.cells #[.int i64 0,.int i64 0] 55)) fun e w'=>∃v,e=.returned v∧w'.ownsRow (w.alloc (.cells #[.int i64 0,.int i64 0] 55)).heap.size 9 1 v (cutC 46 s).length ((cutC 46 s).map Value.string)∧Below (w.alloc (.cells #[.int i64 0,.int i64 0] 55)).heap.size (w.alloc (.cells #[.int i64 0,.int i64 0] 55)) w'):=cutc_any 46 46 rfl s _ hs;obtain⟨p,hp⟩:∃p,p=cutC 46 s:=⟨_,rfl⟩;have hlen:=(cc_len 46 s).1;rw[←hp] at HC hlen;obtain⟨x1,x2,hx⟩:∃a b,spA s=(a,b):=⟨_,_,rfl⟩;obtain⟨K,hK⟩:∃K,K=spK s:=⟨_,rfl⟩;rw[hx,←hK];have HV:Hid ((x1,x2)=spAL p∧K=spKL p):=by
  rw[←hx,hK,hp];exact⟨rfl,rfl⟩
 have HL:Hid (1≤p.length):=hlen;obtain⟨w1,hw1⟩:∃W,w.alloc (.cells #[.int i64 0,.int i64 0] 55)=W:=⟨_,rfl⟩;have hb1:Below w.heap.size w w1:=by rw[←hw1];exact (bRQ _ _).alloc (nLQ _) _
 have hc:w1.cell? ⟨w.heap.size,0,none⟩=some (.int i64 0)∧w1.cell? ⟨w.heap.size,1,none⟩=some (.int i64 0)∧∀i,w1.frozen? ⟨w.heap.size,i,none⟩=false:=by rw[←hw1];exact⟨by simp,by simp,fun i=>by simp⟩
 rw[hw1] at HC;have HW1:Hid (w.alloc (.cells #[.int i64 0,.int i64 0] 55)=w1):=hw1;have HB1:Hid (Below w.heap.size w w1):=hb1;have HCL:Hid (∀W,Below w1.heap.size w1 W→W.cell? ⟨w.heap.size,0,none⟩=some (.int i64 0)∧W.cell? ⟨w.heap.size,1,none⟩=some (.int i64 0)∧W.frozen? ⟨w.heap.size,0,none⟩=false∧W.frozen? ⟨w.heap.size,1,none⟩=false):=fun W h=>⟨cell_later h hc.1,cell_later h hc.2.1,by
  rw[h.frozen (p:=⟨w.heap.size,0,none⟩) (bLQ w1 ⟨w.heap.size,0,none⟩ hc.1)];exact hc.2.2 0,by
  rw[h.frozen (p:=⟨w.heap.size,1,none⟩) (bLQ w1 ⟨w.heap.size,0,none⟩ hc.1)];exact hc.2.2 1⟩
 have HPUT:Hid (∀W a b,Below w.heap.size w W→Below w.heap.size w ((W.setCell ⟨w.heap.size,0,none⟩ a).setCell ⟨w.heap.size,1,none⟩ b)):=fun W a b h=>(h.setCell (p:=⟨w.heap.size,0,none⟩) (nLQ _) a).setCell (p:=⟨w.heap.size,1,none⟩) (nLQ _) b
 clear hs hp hlen hx hK hw1 hb1 hc;go_enter func29,ntmps29;go_upto_region 1 with fail;rw[HW1.out]
 go_wp2_with fail
 refine HC.out.mono ?_;rintro e w2 ⟨v,rfl,hown,hb2⟩;obtain⟨g,cap,rfl,_,_,_,hWA⟩:=own_words hown HL.out;obtain⟨c0,c1,f0,f1⟩:=HCL.out w2 hb2;have HBW:Hid (Below w.heap.size w w2):=HB1.out.trans (hb2.mono HB1.out.size);by_cases h2:p.length=2
 ·obtain⟨a,b,rfl⟩:∃a b,p=[a,b]:=by
   match p,h2 with
   | [a,b],_=>exact⟨a,b,rfl⟩
  have d0:=hWA 0 (by simp);have d1:=hWA 1 (by simp);simp only[Nat.zero_add,List.getElem_cons_zero,List.getElem_cons_succ,List.length_cons,List.length_nil,Nat.reduceAdd] at d0 d1 ⊢;have HX1:Hid (x1=dcN a∧x2=dcN b∧K=(dcOk a&&dcOk b)):=by
   have h1:=HV.out.1;have h3:=HV.out.2;exact⟨(Prod.mk.inj h1).1,(Prod.mk.inj h1).2,h3⟩
  clear hown hWA HV h2
  go_wp2_with fail
  refine (num_any a w2).mono ?_;rintro e w' ⟨rfl,hw'⟩;have hw'':=hw'.symm;subst hw'';clear hw'
  go_wp2_with fail
  refine (num_any b w2).mono ?_;rintro e w' ⟨rfl,hw'⟩;have hw'':=hw'.symm;subst hw'';clear hw';rw[←HX1.out.1,←HX1.out.2.1];obtain⟨ka,hka⟩:∃k,k=dcOk a:=⟨_,rfl⟩;obtain⟨kb,hkb⟩:∃k,k=dcOk b:=⟨_,rfl⟩;rw[←hka,←hkb];have HKK:Hid (K=(ka&&kb)):=by rw[hka,hkb];exact HX1.out.2.2
  clear hka hkb d0 d1 hb2;cases ka with
  | true =>
    go_wp2;refine bodyPost_ret (v:=.tuple #[.agg #[.int i64 x1,.int i64 x2],.bool kb]) (by simp[results,results29,go_sem, *]) rfl ⟨by rw[HKK.out,Bool.true_and],HPUT.out _ _ _ HBW.out⟩
  | false =>
    go_wp2;refine bodyPost_ret (v:=.tuple #[.agg #[.int i64 x1,.int i64 x2],.bool false]) (by simp[results,results29,go_sem, *]) rfl ⟨by rw[HKK.out,Bool.false_and],HPUT.out _ _ _ HBW.out⟩
 have hne:((p.length:Int) != 2)=true:=by
  rw[bne_iff_ne];omega
 have HX1:Hid (x1=0∧x2=0∧K=false):=by
  have h1:=HV.out.1;have h3:=HV.out.2
  match p,h2 with
  | [],_=>exact⟨(Prod.mk.inj h1).1,(Prod.mk.inj h1).2,h3⟩
  | [a],_=>exact⟨(Prod.mk.inj h1).1,(Prod.mk.inj h1).2,h3⟩
  | [a,b],h2=>exact absurd rfl h2
  | a :: b :: c :: r,_=>exact⟨(Prod.mk.inj h1).1,(Prod.mk.inj h1).2,h3⟩
 clear hown hWA HV h2 hb2;go_wp2;refine bodyPost_ret (v:=.tuple #[.agg #[.int i64 0,.int i64 0],.bool false]) (by simp[results,results29,go_sem, *]) rfl ⟨by rw[HX1.out.1,HX1.out.2.1,HX1.out.2.2],HPUT.out _ _ _ HBW.out⟩
theorem header_yes (n:Int)(w:World)(h:hdrB n=true):
 Calls prog 62 #[.int i64 n] w fun e w'=>e=.returned (.bool true)∧w'=w:=by
 obtain⟨h1,h2⟩:=hdr_of h;clear h;go_enter func62,ntmps62;go_wp2;go_ret;exact⟨rfl,rfl⟩
theorem header_no (n:Int)(w:World)(h:hdrB n=false):
 Calls prog 62 #[.int i64 n] w fun e w'=>e=.returned (.bool false)∧w'=w:=by
 rcases hdr_no h with h1 | h1
 ·clear h;go_enter func62,ntmps62;go_wp2;go_ret;exact⟨rfl,rfl⟩
 have h2:0≤n:=by omega
 have h3:decide (n<16)=false:=by simp;omega
 clear h;go_enter func62,ntmps62;go_wp2;go_ret;exact⟨rfl,rfl⟩
theorem header_any (n:Int)(w:World):
 Calls prog 62 #[.int i64 n] w fun e w'=>e=.returned (.bool (hdrB n))∧w'=w:=by
 cases h:hdrB n
 ·exact header_no n w h
 exact header_yes n w h
theorem refCube_any (m b:Int)(w:World):
 Calls prog 63 #[.agg #[.int i64 m,.int i64 b]] w fun e w'=>e=.returned (.int i64 (refN m b))∧Below w.heap.size w w':=by
 cases hr:rngB m b
 ·rw[refN_range hr];have HH:hdrB m=false∨(hdrB m=true∧hdrB b=false):=by
   cases h1:hdrB m
   ·exact .inl rfl
   exact .inr ⟨rfl,by simpa[rngB,h1] using hr⟩
  rcases HH with hm | ⟨hm,hb⟩
  all_goals
   clear hr;go_enter func63,ntmps63
   go_wp2_with fail
   refine (header_any _ _).mono ?_;rintro e w' ⟨rfl,rfl⟩
   go_wp2_with fail
   refine (header_any _ _).mono ?_;rintro e w' ⟨rfl,rfl⟩;go_wp2;go_ret;exact⟨rfl,(bRQ _ _).alloc (nLQ _) _⟩
 have hm:hdrB m=true:=hdr_mk (rng_of hr).1;have hb:hdrB b=true:=hdr_mk (rng_of hr).2;cases ho:okB m b
 ·rw[refN_shape ho hr];have hz:(bits .and .i64 b m==b)=false:=by rw[andEq hr,ho]
  clear hr ho;go_enter func63,ntmps63
  go_wp2_with fail
  refine (header_any _ _).mono ?_;rintro e w' ⟨rfl,rfl⟩
  go_wp2_with fail
  refine (header_any _ _).mono ?_;rintro e w' ⟨rfl,rfl⟩;go_wp2;go_ret;exact⟨rfl,(bRQ _ _).alloc (nLQ _) _⟩
 rw[refN_ok ho];have hz:(bits .and .i64 b m==b)=true:=by rw[andEq hr,ho]
 clear hr ho;go_enter func63,ntmps63
 go_wp2_with fail
 refine (header_any _ _).mono ?_;rintro e w' ⟨rfl,rfl⟩
 go_wp2_with fail
 refine (header_any _ _).mono ?_;rintro e w' ⟨rfl,rfl⟩;go_wp2;go_ret;exact⟨rfl,(bRQ _ _).alloc (nLQ _) _⟩
theorem ediv_pow (x:Int)(k:Nat):x / 2 ^ k / 2=x / 2 ^ (k+1):=by
 rw[Int.ediv_ediv_of_nonneg (Int.pow_nonneg (by decide)),←Int.pow_succ]
theorem refBit_any (x i:Int)(w:World)(hx:0≤x∧x<16)(hi:0≤i∧i≤3):
 Calls prog 64 #[.int i64 x,.int i64 i] w fun e w'=>e=.returned (.bool (bitB x i.toNat))∧w'=w:=by
 obtain⟨hx0,hx1⟩:=hx;obtain⟨hi0,hi1⟩:=hi;go_enter func64,ntmps64;go_wp2
 go_loop [0,5] (fun v p=>∃k:Nat,(k:Int)≤i∧p=.int i64 k∧v=.int i64 (x / 2 ^ k)) (fun _ p=>(i-intOf p).toNat)
 case atStart=>exact⟨0,by omega,rfl,by simp⟩
 case round =>
  obtain⟨k,hk,rfl,rfl⟩:=hrel;have hE:0≤x / 2 ^ k:=Int.ediv_nonneg hx0 (Int.pow_nonneg (by decide));have hE2:x / 2 ^ k<16:=Int.lt_of_le_of_lt (Int.ediv_le_self _ hx0) hx1;have HP:Hid (x / 2 ^ k / 2=x / 2 ^ (k+1)):=ediv_pow x k;by_cases hlt:(k:Int)<i
  ·generalize x / 2 ^ k=y at *
   go_wp2
   go_round
   case rel=>exact⟨k+1,by omega,by go_num,by rw[←HP.out]⟩
   case measure=>simp[intOf];omega
  have hk2:i.toNat=k:=by omega
  have HB:Hid (bitB x i.toNat=(x / 2 ^ k % 2==1)):=by show _=_;rw[hk2];rfl
  clear hk2
  generalize x / 2 ^ k=y at *
  go_wp2;go_ret;refine⟨?_,rfl⟩;rw[HB.out];rfl
def shL (m b:Int)(k:Nat):List Int:=(List.range k).map fun j=>ltrAt m b j
def shTo (m b:Int)(k:Nat):ByteArray:=strOfNums (shL m b k)
theorem sh_next (m b:Int)(k:Nat):shTo m b (k+1)=shTo m b k++⟨#[UInt8.ofNat (ltrAt m b k).toNat]⟩:=by
 apply ByteArray.ext
 simp[shTo,shL,strOfNums,List.range_succ]
theorem sh_four (m b:Int):shTo m b 4=prS m b:=rfl
theorem bit_fin:∀(m:Fin 16) (k:Fin 4),(bits .and .i64 ((m:Nat):Int) (bitN k)==0) = !bitB ((m:Nat):Int) (3-k):=by decide +kernel
theorem bit_and {m:Int}{k:Nat}(hm:0≤m∧m<16)(hk:k<4):(bits .and .i64 m (bitN k)==0) = !bitB m (3-k):=by
 obtain⟨x,rfl⟩:=small hm;exact bit_fin x ⟨k,hk⟩
theorem sh_star {m b:Int}{k:Nat}{S:ByteArray}(hm:0≤m∧m<16)(hk:k<4)(hS:shTo m b k=S)(h:(!bitB m (3-k))=true):S++⟨#[42]⟩=shTo m b (k+1):=by
 have e:ltrAt m b k=42:=by simp only[ltrAt,ltr,bit_and hm hk,h];rfl
 rw[sh_next,e,hS];rfl
theorem sh_one {m b:Int}{k:Nat}{S:ByteArray}(hm:0≤m∧m<16)(hb:0≤b∧b<16)(hk:k<4)(hS:shTo m b k=S)(h:(!bitB m (3-k))=false)(h2:bitB b (3-k)=true):S++⟨#[49]⟩=shTo m b (k+1):=by
 have e:ltrAt m b k=49:=by simp only[ltrAt,ltr,bit_and hm hk,bit_and hb hk,h,h2];rfl
 rw[sh_next,e,hS];rfl
theorem sh_zero {m b:Int}{k:Nat}{S:ByteArray}(hm:0≤m∧m<16)(hb:0≤b∧b<16)(hk:k<4)(hS:shTo m b k=S)(h:(!bitB m (3-k))=false)(h2:bitB b (3-k)=false):S++⟨#[48]⟩=shTo m b (k+1):=by
 have e:ltrAt m b k=48:=by simp only[ltrAt,ltr,bit_and hm hk,bit_and hb hk,h,h2];rfl
 rw[sh_next,e,hS];rfl
theorem refShow_any (m b:Int)(w:World)(h:okB m b=true):
 Calls prog 39 #[.agg #[.int i64 m,.int i64 b]] w fun e w'=>e=.returned (.string (prS m b))∧Below w.heap.size w w':=by
 have hm:=(ok_of h).1;have hb:=(ok_of h).2;clear h;go_enter func39,ntmps39;go_wp2
 go_loop [3,4] (fun t i=>∃k:Nat,k≤4∧i=.int i64 (3-k)∧t=.string (shTo m b k)) (fun _ i=>(intOf i+1).toNat)
 case atStart=>exact⟨0,by omega,rfl,rfl⟩
 case round =>
  obtain⟨k,hk,rfl,rfl⟩:=hrel;have hsz:(shTo m b k).size=k:=by simp[shTo,strOfNums,shL,ByteArray.size]
  generalize hS:shTo m b k=S at *
  have HS:Hid (shTo m b k=S):=hS;clear hS;by_cases hlt:k<4
  ·go_wp2_with (go_at_call 64;refine (refBit_any _ _ _ (by omega) (by omega)).mono ?_;rintro e w' ⟨rfl,rfl⟩)
   all_goals
    go_round
    case rel=>exact⟨k+1,by omega,by go_num,congrArg Value.string (by first | exact sh_star hm hlt HS.out (by assumption) | exact sh_one hm hb hlt HS.out (by assumption) (by assumption) | exact sh_zero hm hb hlt HS.out (by assumption) (by assumption))⟩
    case measure=>simp[intOf];omega
  obtain rfl:k=4:=by omega
  go_wp2;go_ret;exact⟨by rw[←sh_four,HS.out];rfl,(bRQ _ _).alloc (nLQ _) _⟩
def rcM (s:ByteArray):Nat→Int
 | 0=>0
 | k+1=>if byteN s k=49∨byteN s k=48 then rcM s k*2+1 else rcM s k*2
def rcD (s:ByteArray):Nat→Int
 | 0=>0
 | k+1=>if byteN s k=49 then rcD s k*2+1 else rcD s k*2
theorem rcM_bd (s:ByteArray):∀k,0≤rcM s k∧rcM s k<2 ^ k
 | 0=>by simp[rcM]
 | k+1=>by
   have:=rcM_bd s k;have e:(2:Int) ^ (k+1)=2 ^ k*2:=Int.pow_succ ..;unfold rcM
   split <;> omega
theorem rcD_bd (s:ByteArray):∀k,0≤rcD s k∧rcD s k<2 ^ k
 | 0=>by simp[rcD]
 | k+1=>by
   have:=rcD_bd s k;have e:(2:Int) ^ (k+1)=2 ^ k*2:=Int.pow_succ ..;unfold rcD
   split <;> omega
theorem pow_le16 {k:Nat}(h:k≤4):(2:Int) ^ k≤16:=by
 rcases (by omega:k=0∨k=1∨k=2∨k=3∨k=4) with rfl | rfl | rfl | rfl | rfl <;> decide
theorem rct_all:∀a b c d:Fin 3,(rcM (txt a b c d) 4==psM (txt a b c d)&&rcD (txt a b c d) 4==psB (txt a b c d))=true:=by decide +kernel
theorem rc_ps {s:ByteArray}(h:psOk s=true):rcM s 4=psM s∧rcD s 4=psB s:=by
 obtain⟨a,b,c,d,rfl⟩:=txt_of h;simpa using rct_all a b c d
theorem rcM_bit {s:ByteArray}{k:Nat}(hb:byteN s k=49∨byteN s k=48):rcM s (k+1)=rcM s k*2+1:=by simp[rcM,hb]
theorem rcD_one {s:ByteArray}{k:Nat}(hb:byteN s k=49):rcD s (k+1)=rcD s k*2+1:=by simp[rcD,hb]
theorem rcD_zero {s:ByteArray}{k:Nat}(hb:byteN s k≠49):rcD s (k+1)=rcD s k*2:=by simp[rcD,hb]
theorem rcM_any {s:ByteArray}{k:Nat}(hb:byteN s k=42):rcM s (k+1)=rcM s k*2:=by simp[rcM,hb]
theorem refRead_long (s:ByteArray)(w:World)(h:s.size≠4):
 Calls prog 50 #[.string s] w fun e w'=>e=.returned (.tuple #[.agg #[.int i64 0,.int i64 0],.bool false])∧Below w.heap.size w w':=by
 have h4:((s.size:Int)==4)=false:=by simp;omega
 go_enter func50,ntmps50;go_wp2;refine bodyPost_ret (v:=.tuple #[.agg #[.int i64 0,.int i64 0],.bool false]) (by simp[results,results50,go_sem]) rfl ⟨rfl,?_⟩
 first
  | exact ((bRQ _ _).alloc (nLQ _) _).alloc (by simp) _
  | exact ((((bRQ _ _).alloc (nLQ _) _).alloc (by simp) _).setCell (by simp) _).setCell (by simp) _
theorem refRead_four (s:ByteArray)(w:World)(M D:Int)(o:Bool)(h:s.size=4)
 (hok:psOk s=true→M=rcM s 4∧D=rcD s 4∧o=true) (hno:psOk s=false→M=0∧D=0∧o=false):
 Calls prog 50 #[.string s] w fun e w'=>e=.returned (.tuple #[.agg #[.int i64 M,.int i64 D],.bool o])∧Below w.heap.size w w':=by
 have h4:((s.size:Int)==4)=true:=by simp;omega
 have HOK:Hid (psOk s=true→M=rcM s 4∧D=rcD s 4∧o=true):=hok;have HNO:Hid (psOk s=false→M=0∧D=0∧o=false):=hno;clear hok hno;go_enter func50,ntmps50;go_wp2;have hI:PsC w 0 0 ((w.alloc (.cells #[.int i64 0,.int i64 0] 62)).alloc (.cells #[.int i64 0,.int i64 0] 62)):=by
  refine⟨((bRQ _ _).alloc (nLQ _) _).alloc (by simp) _,by simp,?_,?_,?_⟩ <;> simp
 generalize ((w.alloc (.cells #[.int i64 0,.int i64 0] 62)).alloc (.cells #[.int i64 0,.int i64 0] 62))=W1 at *
 go_loopw [5] (fun i w'=>∃k:Nat,k≤4∧i=.int i64 k∧mayTo s k=true∧PsC w (rcM s k) (rcD s k) w') (fun i _=>4-(intOf i).toNat)
 case atStart=>exact⟨0,by omega,rfl,rfl,hI⟩
 case round =>
  obtain⟨k,hk,rfl,hmay,hI'⟩:=hrel;have HM:Hid (mayTo s k=true):=hmay;clear hI hmay;have HI:Hid (PsC w (rcM s k) (rcD s k) wr):=hI';obtain⟨hB,hsz,⟨r0,r1⟩,⟨c0,c1⟩,⟨f0,f1,f2,f3⟩⟩:=hI';have hM:=rcM_bd s k;have hD:=rcD_bd s k;have hp:=pow_le16 hk;have bM0:=hM.1;have bM1:rcM s k<16:=by omega
  have bD0:=hD.1;have bD1:rcD s k<16:=by omega
  clear hM hD hp;by_cases hlt:k<4
  ·have hks:k<s.size:=by omega
   have HB:Hid (byteN s k=s[k].toNat):=byteN_at s k hks
   generalize hxM:rcM s k=x at *
   generalize hyD:rcD s k=y at *
   have HX:Hid (rcM s k=x):=hxM;have HY:Hid (rcD s k=y):=hyD;clear hxM hyD;by_cases h49:s[k].toNat=49
   ·have g:((s[k].toNat:Int)==49)=true:=by simp;omega
    have HN:Hid (byteN s k=49):=HB.out.trans h49;go_wp2;go_roundw
    case rel=>exact⟨k+1,by omega,by go_num,may_next HM.out (.inl HN.out),by rw[rcM_bit (.inl HN.out),rcD_one HN.out,HX.out,HY.out];exact (((HI.out.setM _ _ rfl).setD _ _ rfl).setM _ _ rfl).setD _ _ rfl⟩
    case measure=>simp[intOf];omega
   have g:((s[k].toNat:Int)==49)=false:=by simp;omega
   by_cases h48:s[k].toNat=48
   ·have g2:((s[k].toNat:Int)==48)=true:=by simp;omega
    have HN:Hid (byteN s k=48):=HB.out.trans h48;go_wp2;go_roundw
    case rel=>exact⟨k+1,by omega,by go_num,may_next HM.out (.inr (.inl HN.out)),by rw[rcM_bit (.inr HN.out),rcD_zero (by rw[HN.out];decide),HX.out,HY.out];exact ((HI.out.setM _ _ rfl).setD _ _ rfl).setM _ _ rfl⟩
    case measure=>simp[intOf];omega
   have g2:((s[k].toNat:Int)==48)=false:=by simp;omega
   by_cases h42:s[k].toNat=42
   ·have g3:((s[k].toNat:Int)==42)=true:=by simp;omega
    have HN:Hid (byteN s k=42):=HB.out.trans h42;go_wp2;go_roundw
    case rel=>exact⟨k+1,by omega,by go_num,may_next HM.out (.inr (.inr HN.out)),by rw[rcM_any HN.out,rcD_zero (by rw[HN.out];decide),HX.out,HY.out];exact (HI.out.setM _ _ rfl).setD _ _ rfl⟩
    case measure=>simp[intOf];omega
   have g3:((s[k].toNat:Int)==42)=false:=by simp;omega
   have HP:psOk s=false:=by
    cases hp:psOk s
    ·rfl
    simp only[psOk,Bool.and_eq_true] at hp;have:=mayTo_le s 4 k hlt hp.2;simp[mayB,HB.out] at this;omega
   obtain⟨rfl,rfl,rfl⟩:=HNO.out HP;clear HP;go_wp2;refine bodyPost_ret (v:=.tuple #[.agg #[.int i64 0,.int i64 0],.bool false]) (by simp[results,results50,go_sem, *]) rfl ⟨rfl,?_⟩;exact ((((hB.setCell (by simp) _).setCell (by simp) _).setCell (by simp) _).setCell (by simp) _)
  obtain rfl:k=4:=by omega
  obtain⟨rfl,rfl,rfl⟩:=HOK.out (by simp[psOk,h,HM.out]);clear HOK HNO bM0 bM1 bD0 bD1;go_wp2;refine bodyPost_ret (v:=.tuple #[.agg #[.int i64 (rcM s 4),.int i64 (rcD s 4)],.bool true]) (by simp[results,results50,go_sem, *]) rfl ⟨rfl,?_⟩;exact ((hB.setCell (by simp) _).setCell (by simp) _)
theorem refRead_any (s:ByteArray)(w:World):
 Calls prog 50 #[.string s] w fun e w'=>e=.returned (.tuple #[.agg #[.int i64 (psM s),.int i64 (psB s)],.bool (psOk s)])∧Below w.heap.size w w':=by
 by_cases h:s.size=4
 ·refine refRead_four s w _ _ _ h (fun hp=>⟨(rc_ps hp).1.symm,(rc_ps hp).2.symm,hp⟩) (fun hp=>⟨by simp[psM,hp],by simp[psB,hp],hp⟩)
 have hp:psOk s=false:=by simp[psOk,h]
 have e1:psM s=0:=by simp[psM,hp]
 have e2:psB s=0:=by simp[psB,hp]
 rw[e1,e2,hp];exact refRead_long s w h
end
end Go.Proofs.YtgddlpcacnolfaaGreatDoor
