/- Contracts and facts on the way to AgentOnce, joined into one text: AgentPgHear, AgentWhole, AgentPgRd, AgentPgList, RefAgHrp, RefAgWork, AgentPgWork, AgentPg, IntsOf, AgentOnceRow. -/
import Derived.Test.YtcbapfgohocghaaDoorAgentOnceP7
namespace Go.Proofs.YtcbapfgohocghaaDoor
set_option linter.unusedSimpArgs false
set_option linter.unusedVariables false
set_option maxHeartbeats 16000000
set_option maxRecDepth 100000
open Go.Proofs.Tryd
open IntKind (i64)
section
open Go.RowKit
theorem hg_none {w w':World}{p B0:Nat}{O O':Nat→Prop}{N:Int}{a':AgT}{E:Int}(h:Pg w' p B0 O' N a')(hO:∀b,O' b→O b∨w.heap.size≤b)(hk:Kb (fun b=>¬O b) w w'):
 HrG Pg noV w p B0 O N a' E [] (.returned (.tuple #[.slice none 0 0,noV E])) w':=
 ⟨none,0,0,rfl,GS.nil _,(fun _ h=>by cases h),O',h,hO,(fun _ h=>by cases h),hk⟩
theorem hg_yes {w wd:World}{p B0:Nat}{O O':Nat→Prop}{N:Int}{a':AgT}{E:Int}(h:Pg wd p B0 O' N a')(hO:∀b,O' b→O b∨w.heap.size≤b)(hk:Kb (fun b=>¬O b) w wd)(r:Int)(t:TypeId):
 HrG Pg noV w p B0 O N a' E [yesM N r] (.returned (.tuple #[.slice (some ⟨wd.heap.size,0,none⟩) 1 1,noV E])) (wd.alloc (.cells #[.int i64 3,.int i64 N,.int i64 r,.int i64 0,.int i64 0,.bool false,.int i64 0,.int i64 0,.int i64 0,.int i64 0,.int i64 0,.int i64 0] t)):=by
 refine⟨_,_,_,rfl,msg_row wd 3 N r 0 0 false 0 0 0 0 0 0 t,?_,O',h.later ((bRQ _ _).alloc (nLQ _) _),hO,?_,hk.alloc _⟩
 ·intro ad ha;cases ha;exact hk.size
 intro ad ha ho;cases ha;have h1:=(h.lt _ ho).2;simp only at h1;omega
theorem hr_ask {a:AgT}{N:Int}{m:Mg}{r:Nat}(h0:hrN N m=0)(hr:m.r=(r:Int))(hd:doneK a (r:Int)=false)(h2:m.k=2):hrS N a m=askS a r m.i:=by
 rw[hrS,if_pos ⟨h0,by rw[hr];exact hd⟩,if_pos h2,hr,askS];rfl
theorem hr_keep {a:AgT}{N:Int}{m:Mg}{r:Nat}(h0:hrN N m=0)(hr:m.r=(r:Int))(hd:doneK a (r:Int)=false)(h2:m.k≠2):hrS N a m=keepS a r m.i m.o:=by
 rw[hrS,if_pos ⟨h0,by rw[hr];exact hd⟩,if_neg h2,hr,keepS]
theorem hr_done {a:AgT}{N:Int}{m:Mg}{r:Nat}(hr:m.r=(r:Int))(hd:doneK a (r:Int)=true):hrS N a m=a:=by
 rw[hrS,if_neg (fun e=>by have:=e.2;rw[hr,hd] at this;cases this)]
theorem hr_nil {a:AgT}{N:Int}{m:Mg}{r:Nat}(hr:m.r=(r:Int))(hd:doneK a (r:Int)=false∨m.k≠2):hrA N a m=[]:=by
 rw[hrA,if_neg];rintro⟨_,e1,e2⟩
 rcases hd with h | h
 ·rw[hr,h] at e2;cases e2
 exact h e1
theorem hr_yes {a:AgT}{N:Int}{m:Mg}{r:Nat}(h0:hrN N m=0)(hr:m.r=(r:Int))(hd:doneK a (r:Int)=true)(h2:m.k=2):hrA N a m=[yesM N (r:Int)]:=by
 rw[hrA,if_pos ⟨h0,h2,by rw[hr];exact hd⟩,hr]
theorem phear_any {p B0:Nat}{O:Nat→Prop}{N:Int}{a:AgT}{k:Nat}(x0 x1 x2 x3 x4:Int)(x5:Bool)(x6 x7 x8 x9 x10 x11:Int)(w:World)(h:Pg w p B0 O N a)(hok:AgOK a k)(hk:k≤1000):
 Calls prog 8 #[.pointer (some ⟨p,0,none⟩),.agg #[.int i64 x0,.int i64 x1,.int i64 x2,.int i64 x3,.int i64 x4,.bool x5,.int i64 x6,.int i64 x7,.int i64 x8,.int i64 x9,.int i64 x10,.int i64 x11]] w fun e w' =>
  HrG Pg noV w p B0 O N (hrS N a ⟨x0,x1,x2,x3,⟨x4,x5,⟨x6,x7,x8,x9,x10,x11⟩⟩⟩) (hrN N ⟨x0,x1,x2,x3,⟨x4,x5,⟨x6,x7,x8,x9,x10,x11⟩⟩⟩) (hrA N a ⟨x0,x1,x2,x3,⟨x4,x5,⟨x6,x7,x8,x9,x10,x11⟩⟩⟩) e w':=by
 have HP:Hid (Pg w p B0 O N a):=h;have HOK:Hid (AgOK a k):=hok;have HKK:Hid (k≤1000):=hk;have HB0:Hid (Below w.heap.size w (w.alloc (.cells #[.int i64 x0,.int i64 x1,.int i64 x2,.int i64 x3,.int i64 x4,.bool x5,.int i64 x6,.int i64 x7,.int i64 x8,.int i64 x9,.int i64 x10,.int i64 x11] 50))):=(bRQ _ _).alloc (nLQ _) _;have HC0:Hid (MgC (w.alloc (.cells #[.int i64 x0,.int i64 x1,.int i64 x2,.int i64 x3,.int i64 x4,.bool x5,.int i64 x6,.int i64 x7,.int i64 x8,.int i64 x9,.int i64 x10,.int i64 x11] 50)) w.heap.size x0 x1 x2 x3 x4 x5 x6 x7 x8 x9 x10 x11):=mgc_new w x0 x1 x2 x3 x4 x5 x6 x7 x8 x9 x10 x11 _;obtain⟨M,hM⟩:∃M:Mg,M=⟨x0,x1,x2,x3,⟨x4,x5,⟨x6,x7,x8,x9,x10,x11⟩⟩⟩:=⟨_,rfl⟩;have HM:Hid (M=⟨x0,x1,x2,x3,⟨x4,x5,⟨x6,x7,x8,x9,x10,x11⟩⟩⟩):=hM;rw[←hM];obtain⟨E,hE⟩:∃E,E=hrN N M:=⟨_,rfl⟩;have HE:Hid (E=hrN N M):=hE;have HE2:Hid (hrN N ⟨x0,x1,x2,x3,⟨x4,x5,⟨x6,x7,x8,x9,x10,x11⟩⟩⟩=E):=by show _=_;rw[hE,hM]
 rw[←hE];have HC1:Hid ((w.alloc (.cells #[.int i64 x0,.int i64 x1,.int i64 x2,.int i64 x3,.int i64 x4,.bool x5,.int i64 x6,.int i64 x7,.int i64 x8,.int i64 x9,.int i64 x10,.int i64 x11] 50)).cell? ⟨p,0,none⟩=some (.int i64 N)):=by
  obtain⟨x,pt,mp,vd,h1,_⟩:=h;exact cell_later HB0.out h1.c0
 clear h hok hk hM hE;go_enter func8,ntmps8
 go_wp2_with fail
 refine (pcheck_any x0 x1 x2 x3 x4 x5 x6 x7 x8 x9 x10 x11 _ HC1.out).mono ?_;rintro e w1 ⟨rfl,hb1⟩;have HB1:Hid (Below w.heap.size w w1):=HB0.out.trans (hb1.mono HB0.out.size);have HC2:Hid (MgC w1 w.heap.size x0 x1 x2 x3 x4 x5 x6 x7 x8 x9 x10 x11):=HC0.out.later hb1;rw[HE2.out];clear hb1 HB0 HC0 HC1 HE2;by_cases h0:E=0
 ·subst h0;rw[no_ok rfl];have hz:=hr_zero.1 HE.out.symm;have hr:=mg_rng.1 (mg_1 hz.1).1;have hs:=hz.2.1;rw[HM.out] at hr hs;obtain⟨_,_,⟨hr2,hr3⟩,⟨hi2,hi3⟩⟩:=hr;simp only at hr2 hr3 hi2 hi3 hs;obtain⟨r,hrr⟩:∃r:Nat,x2=(r:Int):=⟨x2.toNat,by omega⟩;subst hrr;subst hs;have rb0:(0:Int)≤(r:Int):=by omega
  have rb1:(r:Int)<20:=by omega
  have HR:Hid (r<20):=by show _<_;omega
  have HI:Hid (0≤x3∧x3≤1000):=⟨by omega,by omega⟩;have HMR:Hid (M.r=(r:Int)∧M.k=x0∧M.i=x3∧M.o=⟨x4,x5,⟨x6,x7,x8,x9,x10,x11⟩⟩):=by show _∧_;rw[HM.out];exact⟨rfl,rfl,rfl,rfl⟩
  have hpl:p<w1.heap.size:=Nat.lt_of_lt_of_le (by obtain⟨x,pt,mp,vd,h1,_⟩:=HP.out;exact h1.pl) HB1.out.size;clear hz hr2 hr3 hi2 hi3 HM;go_upto_region 4 with fail
  go_cut [7] from 14 to 19 (fun q w'=>q=.pointer (some ⟨p,2+r*5,none⟩)∧Below w1.heap.size w1 w')
  case first =>
   obtain⟨k0,k1,k2,k3,k4,k5,k6,k7,k8,k9,k10,k11⟩:=HC2.out;clear HC2 HB1 HP HOK HKK HE HMR HI
   go_region
   all_goals (go_wp2_with fail;go_meet)
   all_goals exact⟨rfl,Below.drew (bRQ _ _)⟩
  case rest =>
   obtain⟨rfl,hbc⟩:=hcut;have HC3:Hid (MgC wc w.heap.size x0 x1 (r:Int) x3 x4 x5 x6 x7 x8 x9 x10 x11):=HC2.out.later hbc;have HB2:Hid (Below w.heap.size w wc):=HB1.out.trans (hbc.mono HB1.out.size);have HP2:Hid (Pg wc p B0 O x1 a):=HP.out.later HB2.out;have HK2:Hid (Kb (fun b=>¬O b) w wc):=Kb.of_below HB2.out fun b h _=>h
   obtain⟨dn,hdn⟩:∃dn,dn=doneK a (r:Int):=⟨_,rfl⟩;have HD:Hid (doneK a (r:Int)=dn):=hdn.symm;obtain⟨d4,d0⟩:wc.cell? ⟨p,2+r*5+4,none⟩=some (.bool dn)∧wc.cell? ⟨p,0,none⟩=some (.int i64 x1):=by
    obtain⟨x,pt,mp,vd,h1,h2,_⟩:=HP2.out;have h3:=(h1.pc r HR.out).c4;rw[(h2 r HR.out).hd,←hdn] at h3;exact⟨h3,h1.c0⟩
   obtain⟨k0,k1,k2,k3,k4,k5,k6,k7,k8,k9,k10,k11⟩:=HC3.out;clear HC2 HB1 HC3 HP hpl hbc hdn;by_cases h2:x0=2
   ·have HS2:Hid (M.k=2):=by show _=_;rw[HMR.out.2.1,h2]
    subst h2;cases dn with
    | true =>
      have HS:Hid (hrS x1 a M=a):=hr_done HMR.out.1 HD.out;have HA:Hid (hrA x1 a M=[yesM x1 (r:Int)]):=hr_yes HE.out.symm HMR.out.1 HD.out HS2.out
      go_wp2_with fail
      refine (pyes_any (r:Int) _ d0).mono ?_;rintro e w2 ⟨rfl,rfl⟩;have HF:Hid (HrG Pg noV w p B0 O x1 a 0 [yesM x1 (r:Int)] (.returned (.tuple #[.slice (some ⟨wc.heap.size,0,none⟩) 1 1,noV 0])) (wc.alloc (.cells #[.int i64 3,.int i64 x1,.int i64 (r:Int),.int i64 0,.int i64 0,.bool false,.int i64 0,.int i64 0,.int i64 0,.int i64 0,.int i64 0,.int i64 0] 50))):=hg_yes HP2.out (fun b h=>.inl h) HK2.out (r:Int) _;clear d4 d0 k0 k1 k2 k3 k4 k5 k6 k7 k8 k9 k10 k11;go_wp2;refine bodyPost_ret (v:=.tuple #[.slice (some ⟨wc.heap.size,0,none⟩) 1 1,.nilIface]) (by simp[results,results8,go_sem]) rfl ?_;rw[HS.out,HA.out];exact HF.out
    | false =>
      have HS:Hid (hrS x1 a M=askS a r x3):=by show _=_;rw[hr_ask HE.out.symm HMR.out.1 HD.out HS2.out,HMR.out.2.2.1]
      have HA:Hid (hrA x1 a M=[]):=hr_nil HMR.out.1 (.inl HD.out)
      go_wp2_with fail
      refine (pask_any r x3 _ HP2.out HR.out HOK.out.m HI.out).mono ?_;rintro e w2 ⟨rfl,hp3,hk3,hs3⟩;have HF:Hid (HrG Pg noV w p B0 O x1 (askS a r x3) 0 [] (.returned (.tuple #[.slice none 0 0,noV 0])) w2):=hg_none hp3 (fun b h=>.inl h) (HK2.out.trans hk3);clear d4 d0 k0 k1 k2 k3 k4 k5 k6 k7 k8 k9 k10 k11 hp3 hk3 hs3;go_wp2;refine bodyPost_ret (v:=.tuple #[.slice none 0 0,.nilIface]) (by simp[results,results8,go_sem]) rfl ?_;rw[HS.out,HA.out];exact HF.out
   have f2:(x0==2)=false:=by simpa using h2
   have HS2:Hid (M.k≠2):=by show _≠_;rw[HMR.out.2.1];exact h2
   have HA:Hid (hrA x1 a M=[]):=hr_nil HMR.out.1 (.inr HS2.out);cases dn with
   | true =>
     have HS:Hid (hrS x1 a M=a):=hr_done HMR.out.1 HD.out;go_wp2;refine bodyPost_ret (v:=.tuple #[.slice none 0 0,.nilIface]) (by simp[results,results8,go_sem]) rfl ?_;rw[HS.out,HA.out];exact hg_none HP2.out (fun b h=>.inl h) HK2.out
   | false =>
     have HS:Hid (hrS x1 a M=keepS a r x3 ⟨x4,x5,⟨x6,x7,x8,x9,x10,x11⟩⟩):=by show _=_;rw[hr_keep HE.out.symm HMR.out.1 HD.out HS2.out,HMR.out.2.2.1,HMR.out.2.2.2]
     have HL:Hid (a.l.length≤100000):=by show _≤_;have:=HOK.out.l;have:=HKK.out;omega
     go_wp2_with fail
     refine (pkeep_any r x3 x4 x5 x6 x7 x8 x9 x10 x11 _ HP2.out HR.out HD.out HL.out).mono ?_;rintro e w2 ⟨rfl,O1,hp3,hO3,hk3⟩;have HF:Hid (HrG Pg noV w p B0 O x1 (keepS a r x3 ⟨x4,x5,⟨x6,x7,x8,x9,x10,x11⟩⟩) 0 [] (.returned (.tuple #[.slice none 0 0,noV 0])) w2):=hg_none hp3 (fun b h=>(hO3 b h).imp id fun h=>Nat.le_trans HB2.out.size h) (HK2.out.trans hk3);clear d4 d0 k0 k1 k2 k3 k4 k5 k6 k7 k8 k9 k10 k11 hp3 hk3 hO3;go_wp2;refine bodyPost_ret (v:=.tuple #[.slice none 0 0,.nilIface]) (by simp[results,results8,go_sem]) rfl ?_;rw[HS.out,HA.out];exact HF.out
 have HN:Hid (hrN N M≠0):=by show _≠_;rw[←HE.out];exact h0
 rw[no_ne h0];go_wp2;refine bodyPost_ret (v:=.tuple #[.slice none 0 0,.iface 73 (.int i64 E)]) (by simp[results,results8,go_sem]) rfl ?_;rw[(hr_else HN.out).1,(hr_else HN.out).2,←no_ne h0];exact hg_none (HP.out.later HB1.out) (fun b h=>.inl h) (Kb.of_below HB1.out fun b h _=>h)
def allM (M:List (Int×Op8))(n:Nat):Bool:=(List.range n).all fun (k:Nat)=>(mget qI (k:Int) M).isSome
theorem allM_next (M:List (Int×Op8))(k:Nat):allM M (k+1)=(allM M k&&(mget qI (k:Int) M).isSome):=by
 rw[allM,allM,List.range_succ,List.all_append];simp
theorem allM_less {M:List (Int×Op8)}{k n:Nat}(h:allM M k=false)(hk:k≤n):allM M n=false:=by
 cases e:allM M n with
 | false=>rfl
 | true =>
   rw[allM,List.all_eq_true] at e;have:allM M k=true:=by
    rw[allM,List.all_eq_true];intro x hx;exact e x (List.mem_range.2 (by have:=List.mem_range.1 hx;omega))
   rw[h] at this;cases this
theorem whole_any (b o:Nat)(m:Option Nat)(h s:Int)(ak dn:Bool)(M:List (Int×Op8))(w:World)(hp:PtAt w b o ⟨m,h,ak,s,dn⟩)(hm:MpA w m M)(hs:s≤1000):
 Calls prog 36 #[.pointer (some ⟨b,o,none⟩)] w fun e w'=>e=.returned (.bool (ak&&allM M s.toNat))∧Below w.heap.size w w':=by
 have HP:Hid (PtAt w b o ⟨m,h,ak,s,dn⟩):=hp;have HM:Hid (MpA w m M):=hm;have c2:=hp.c2;have c3:=hp.c3;simp only at c2 c3;clear hp hm;go_enter func36,ntmps36;cases ak with
 | false =>
   go_wp2;go_ret;exact⟨rfl,bRQ _ _⟩
 | true =>
   obtain⟨R,hR⟩:∃R,R=allM M s.toNat:=⟨_,rfl⟩;have HR:Hid (R=allM M s.toNat):=hR;rw[←hR];clear hR;go_wp2
   go_loopw [15] (fun i wr=>∃k:Nat,k≤s.toNat∧i=.int i64 k∧allM M k=true∧Below w.heap.size w wr) (fun i _=>s.toNat-(intOf i).toNat)
   case atStart=>exact⟨0,by omega,rfl,rfl,bRQ _ _⟩
   case round =>
    obtain⟨k,hk,rfl,ha,hb⟩:=hrel;have HB:Hid (Below w.heap.size w wr):=hb;have HA:Hid (allM M k=true):=ha;have d0:=(HP.out.later HB.out).c0;simp only at d0;clear ha hb c2 c3;by_cases hlt:(k:Int)<s
    ·have hlk:=(HM.out.later HB.out).look (k:Int);obtain⟨Y,hY⟩:∃Y,Y=(mget qI (k:Int) M).getD zeP:=⟨_,rfl⟩;obtain⟨B,hB⟩:∃B,B=(mget qI (k:Int) M).isSome:=⟨_,rfl⟩;rw[←hY,←hB] at hlk;have HBB:Hid (B=(mget qI (k:Int) M).isSome):=hB;clear hY hB;obtain⟨y0,y1,⟨y2,y3,y4,y5,y6,y7⟩⟩:=Y;have hlk2:(Instr.lookup 76 (.map m) (.int i64 (k:Int)) true).run prog wr=.ok (.tuple #[.agg #[.int i64 y0,.bool y1,.int i64 y2,.int i64 y3,.int i64 y4,.int i64 y5,.int i64 y6,.int i64 y7],.bool B]) wr:=hlk;clear hlk;cases B with
     | true =>
       have HN:Hid (allM M (k+1)=true):=by
        show _=_;rw[allM_next,HA.out,←HBB.out];rfl
       go_wp2;go_roundw
       case rel=>exact⟨k+1,by omega,by go_num,HN.out,HB.out.alloc HB.out.size _⟩
       case measure=>simp[intOf];omega
     | false =>
       have HN:Hid (R=false):=by
        show _=_;rw[HR.out];refine allM_less (k:=k+1) ?_ (by omega);rw[allM_next,←HBB.out,Bool.and_false]
       go_wp2;go_ret;exact⟨by rw[HN.out];rfl,HB.out.alloc HB.out.size _⟩
    have HN:Hid (R=true):=by
     show _=_;rw[HR.out,show s.toNat=k by omega];exact HA.out
    go_wp2;go_ret;exact⟨by rw[HN.out];rfl,HB.out⟩
theorem ready1_any (m:Option Nat)(h s:Int)(ak dn:Bool)(M:List (Int×Op8))(w:World)(hm:dn=false→MpA w m M)(hs:s≤1000):
 Calls prog 35 #[.agg #[.map m,.int i64 h,.bool ak,.int i64 s,.bool dn]] w fun e w'=>e=.returned (.bool (!dn&&(ak&&allM M s.toNat)))∧Below w.heap.size w w':=by
 have hb1:Below w.heap.size w (w.alloc (.cells #[Value.map m,.int i64 h,Value.bool ak,.int i64 s,Value.bool dn] 78)):=(bRQ _ _).alloc (nLQ _) _;have HB:Hid (Below w.heap.size w (w.alloc (.cells #[Value.map m,.int i64 h,Value.bool ak,.int i64 s,Value.bool dn] 78))):=hb1;have HP:Hid (PtAt (w.alloc (.cells #[Value.map m,.int i64 h,Value.bool ak,.int i64 s,Value.bool dn] 78)) w.heap.size 0 ⟨m,h,ak,s,dn⟩):=by
  refine⟨?_,?_,?_,?_,?_⟩ <;> simp
 have HM:Hid (dn=false→MpA w m M):=hm;clear hm hb1;go_enter func35,ntmps35;cases dn with
 | true =>
   go_wp2;go_ret;exact⟨rfl,HB.out⟩
 | false =>
   go_wp2_with fail
   refine (whole_any _ 0 m h s ak false M _ HP.out ((HM.out (by first | trivial | rfl)).later HB.out) hs).mono ?_;rintro e w1 ⟨rfl,hb⟩;have HB2:Hid (Below w.heap.size w w1):=HB.out.trans (hb.mono HB.out.size);clear hb;go_wp2;go_ret;exact⟨by simp,HB2.out⟩
theorem idxP_any (f:FuncId)(p o:Nat)(a:AgT)(pt:Nat→Pt)(w:World)(hc:∀r,r<20→PtAt w p (o+r*5) (pt r))(he:∀args w,(callFunc f args).run prog w=.ok (.enter f args) w)
 (hf:∀r,r<20→∀W,Below w.heap.size w W→Calls prog f #[.agg #[.map (pt r).m,.int i64 (pt r).h,.bool (pt r).a,.int i64 (pt r).s,.bool (pt r).d]] W fun e w'=>e=.returned (.bool (rdyB a (r:Int)))∧Below W.heap.size W w'):
 Calls prog 34 #[.slice (some ⟨p,o,none⟩) 20 20,.func (Fn.func f) #[] #[]] w fun e w'=>e=.returned (.int i64 (rdyN a))∧Below w.heap.size w w':=by
 have HC:Hid (∀r,r<20→PtAt w p (o+r*5) (pt r)):=hc;have HF:Hid (∀r,r<20→∀W,Below w.heap.size w W→Calls prog f #[.agg #[.map (pt r).m,.int i64 (pt r).h,.bool (pt r).a,.int i64 (pt r).s,.bool (pt r).d]] W fun e w'=>e=.returned (.bool (rdyB a (r:Int)))∧Below W.heap.size W w'):=hf;obtain⟨R,hR⟩:∃R,R=rdyN a:=⟨_,rfl⟩;have HR:Hid (R=rdyTo a 0 20):=hR;rw[←hR];clear hc hf hR;go_enter func34,ntmps34;go_wp2
 go_loopw [8] (fun i wr=>∃k:Nat,k≤20∧i=.int i64 k∧R=rdyTo a k (20-k)∧Below w.heap.size w wr) (fun i _=>20-(intOf i).toNat)
 case atStart=>exact⟨0,by omega,rfl,HR.out,bRQ _ _⟩
 case round =>
  obtain⟨k,hk,rfl,hr,hB⟩:=hrel;have HB:Hid (Below w.heap.size w wr):=hB;have HRK:Hid (R=rdyTo a k (20-k)):=hr;clear hr hB;by_cases hlt:k<20
  ·obtain⟨q0,q1,q2,q3,q4⟩:=(HC.out k hlt).later HB.out;have hcall:=HF.out k hlt wr HB.out
   generalize pt k=q at q0 q1 q2 q3 q4 hcall
   obtain⟨m,h,ak,s,dn⟩:=q;simp only at q0 q1 q2 q3 q4;have HCA:Hid (Calls prog f #[.agg #[.map m,.int i64 h,.bool ak,.int i64 s,.bool dn]] wr fun e w'=>e=.returned (.bool (rdyB a (k:Int)))∧Below wr.heap.size wr w'):=hcall;have HRS:Hid (R=if rdyB a (k:Int)=true then (k:Int) else rdyTo a (k+1) (20-(k+1))):=by
    show _=_;rw[HRK.out,show 20-k=(20-(k+1))+1 by omega,rdy_step]
   have kb0:(0:Int)≤(k:Int):=by omega
   have kb1:(k:Int)<20:=by omega
   clear hcall HRK;obtain⟨B,hB⟩:∃B,B=rdyB a (k:Int):=⟨_,rfl⟩;rw[←hB] at HCA HRS;clear hB;cases B with
   | false =>
     have HRN:Hid (R=rdyTo a (k+1) (20-(k+1))):=by
      show _=_;rw[HRS.out];rfl
     go_wp2_with fail
     refine HCA.out.mono ?_;rintro e w1 ⟨rfl,hb1⟩;have HB1:Hid (Below w.heap.size w w1):=HB.out.trans (hb1.mono HB.out.size);clear hb1 q0 q1 q2 q3 q4;go_wp2;go_roundw
     case rel=>exact⟨k+1,by omega,by go_num,HRN.out,HB1.out⟩
     case measure=>simp[intOf];omega
   | true =>
     have HRN:Hid (R=(k:Int)):=by
      show _=_;rw[HRS.out];rfl
     go_wp2_with fail
     refine HCA.out.mono ?_;rintro e w1 ⟨rfl,hb1⟩;have HB1:Hid (Below w.heap.size w w1):=HB.out.trans (hb1.mono HB.out.size);clear hb1 q0 q1 q2 q3 q4;go_wp2;go_ret;exact⟨by rw[HRN.out];rfl,HB1.out⟩
  obtain rfl:k=20:=by omega
  have HRN:Hid (R = -1):=by
   show _=_;rw[HRK.out];rfl
  go_wp2;go_ret;exact⟨by rw[HRN.out];rfl,HB.out⟩
theorem pready_any {p B0:Nat}{O:Nat→Prop}{N:Int}{a:AgT}(w:World)(h:Pg w p B0 O N a):
 Calls prog 9 #[.pointer (some ⟨p,0,none⟩)] w fun e w'=>e=.returned (.int i64 (rdyN a))∧Below w.heap.size w w':=by
 obtain⟨x,pt,mp,vd,h,hm,_⟩:=h;have HI:=idxP_any 35 p 2 a pt w h.pc (enters_of func35 (by kernel_rfl) rfl) (fun r hr W hW=>by
  have h1:=ready1_any (pt r).m (pt r).h (pt r).s (pt r).a (pt r).d (mp r) W (fun _=>(h.pm r hr).kb (p:=fun b=>b<w.heap.size) (Kb.of_below hW fun b _ h=>h) fun b hb=>(h.pm r hr).lt b hb) (hm r hr).hl;have h2:=pt_ready (hm r hr);rw[show allM (mp r) (pt r).s.toNat=((List.range (pt r).s.toNat).all fun (k:Nat)=>(mget qI (k:Int) (mp r)).isSome) from rfl,h2] at h1;exact h1)
 have HI2:Hid (Calls prog 34 #[.slice (some ⟨p,2,none⟩) 20 20,.func (Fn.func 35) #[] #[]] w fun e w'=>e=.returned (.int i64 (rdyN a))∧Below w.heap.size w w'):=HI;obtain⟨R,hR⟩:∃R,R=rdyN a:=⟨_,rfl⟩;rw[←hR] at HI2 ⊢;clear HI hR h hm;go_enter func9,ntmps9
 go_wp2_with fail
 refine HI2.out.mono ?_;rintro e w1 ⟨rfl,hb1⟩;go_wp2;go_ret;exact⟨rfl,hb1⟩
theorem pheard_any {p B0:Nat}{O:Nat→Prop}{N:Int}{a:AgT}(r:Int)(w:World)(h:Pg w p B0 O N a):
 Calls prog 12 #[.pointer (some ⟨p,0,none⟩),.int i64 r] w fun e w'=>e=.returned (.int i64 (hdN a.l r:Nat))∧Below w.heap.size w w':=by
 obtain⟨x,pt,mp,vd,h,hm,hr⟩:=h;have h0:¬(0≤r∧r<20)→hdN a.l r=0:=fun hn=>by
  rw[hdN,List.countP_eq_zero];intro q hq e;simp only[beq_iff_eq] at e;have:=hr q hq;rw[e] at this;exact hn this
 by_cases h1:r<0
 ·have HN:Hid (hdN a.l r=0):=h0 (by omega);clear h hm h0 hr;go_enter func12,ntmps12;go_wp2;go_ret;exact⟨by rw[HN.out];rfl,bRQ _ _⟩
 by_cases h2:r ≥ 20
 ·have HN:Hid (hdN a.l r=0):=h0 (by omega);clear h hm h0 hr;go_enter func12,ntmps12;go_wp2;go_ret;exact⟨by rw[HN.out];rfl,bRQ _ _⟩
 obtain⟨k,rfl⟩:∃k:Nat,r=(k:Int):=⟨r.toNat,by omega⟩;have hk:k<20:=by omega
 have q1:=(h.pc k hk).c1;have hpl:=h.pl;rw[(hm k hk).hh] at q1;have kb0:(0:Int)≤(k:Int):=by omega
 have kb1:(k:Int)<20:=by omega
 generalize hdN a.l (k:Int)=R at *
 clear h hm h0 hr;go_enter func12,ntmps12;go_wp2;go_ret;exact⟨rfl,bRQ _ _⟩
def opsM (M:List (Int×Op8))(n:Nat):List Op8:=(List.range n).map fun (k:Nat)=>(mget qI (k:Int) M).getD zeP
theorem opsM_next (M:List (Int×Op8))(k:Nat):opsM M (k+1)=opsM M k++[(mget qI (k:Int) M).getD zeP]:=by
 rw[opsM,opsM,List.range_succ,List.map_append];rfl
theorem opsM_len (M:List (Int×Op8))(k:Nat):(opsM M k).length=k:=by rw[opsM,List.length_map,List.length_range]
theorem plist_any (b o:Nat)(m:Option Nat)(h s:Int)(ak dn:Bool)(M:List (Int×Op8))(w:World)(hp:PtAt w b o ⟨m,h,ak,s,dn⟩)(hm:MpA w m M)(hs:s≤1000):
 Calls prog 38 #[.pointer (some ⟨b,o,none⟩)] w fun e w'=>∃a1 n1 c1,e=.returned (.slice a1 n1 c1)∧SO w' (.slice a1 n1 c1) (opsM M s.toNat)∧Below w.heap.size w w':=by
 have HP:Hid (PtAt w b o ⟨m,h,ak,s,dn⟩):=hp;have HM:Hid (MpA w m M):=hm;have c3:=hp.c3;simp only at c3;clear hp hm;go_enter func38,ntmps38;go_wp2
 go_loopw [3,9] (fun v i wr=>∃k:Nat,k≤s.toNat∧i=.int i64 k∧wr.ownsRow w.heap.size 43 8 v (opsM M k).length (cellsO (opsM M k))∧Below w.heap.size w wr) (fun _ i _=>s.toNat-(intOf i).toNat)
 case atStart=>exact⟨0,by omega,rfl,World.ownsRow_nil _ _ _ _,bRQ _ _⟩
 case round =>
  obtain⟨k,hk,rfl,hown,hb⟩:=hrel;have HB:Hid (Below w.heap.size w wr):=hb;have d0:=(HP.out.later HB.out).c0;simp only at d0;obtain⟨av,cv,e5⟩:=own_form hown;have hln:(opsM M k).length=k:=opsM_len M k;rw[hln] at e5;subst e5;have HOW:Hid (wr.ownsRow w.heap.size 43 8 (.slice av k cv) (opsM M k).length (cellsO (opsM M k))):=hown;clear hown hb c3 hln;by_cases hlt:(k:Int)<s
  ·have hlk:=(HM.out.later HB.out).look1 (k:Int);obtain⟨Y,hY⟩:∃Y,Y=(mget qI (k:Int) M).getD zeP:=⟨_,rfl⟩;have HN:Hid (opsM M (k+1)=opsM M k++[Y]):=by show _=_;rw[hY];exact opsM_next M k
   rw[←hY] at hlk;clear hY;obtain⟨y0,y1,⟨y2,y3,y4,y5,y6,y7⟩⟩:=Y;have hlk2:(Instr.lookup 76 (.map m) (.int i64 (k:Int)) false).run prog wr=.ok (.agg #[.int i64 y0,.bool y1,.int i64 y2,.int i64 y3,.int i64 y4,.int i64 y5,.int i64 y6,.int i64 y7]) wr:=hlk;have HK:Hid ((opsM M k).length≤1000):=by
    show _≤_;rw[opsM_len];omega
   have hBB:=(Below.refl wr.heap.size wr).alloc (nLQ _) (Obj.cells #[.int i64 y0,Value.bool y1,.int i64 y2,.int i64 y3,.int i64 y4,.int i64 y5,.int i64 y6,.int i64 y7] 43);have HBB:Hid (Below wr.heap.size wr (wr.alloc (.cells #[.int i64 y0,Value.bool y1,.int i64 y2,.int i64 y3,.int i64 y4,.int i64 y5,.int i64 y6,.int i64 y7] 43))):=hBB;have HC8:Hid (C8 (wr.alloc (.cells #[.int i64 y0,Value.bool y1,.int i64 y2,.int i64 y3,.int i64 y4,.int i64 y5,.int i64 y6,.int i64 y7] 43)) wr.heap.size 0 ⟨y0,y1,⟨y2,y3,y4,y5,y6,y7⟩⟩):=C8.new wr y0 y1 y2 y3 y4 y5 y6 y7 43;clear hlk hBB
   go_wp2_with (at_builtin;refine wpList_append_op _ rfl _ _ 24 rfl underlying24 w.heap.size _ rfl _ (own_below HOW.out HBB.out) _ rfl _ HC8.out HK.out (HB.out.trans (HBB.out.mono HB.out.size)).size ?_)
   intro v' w3 hown3 hgrow;have hO3:=own_below HOW.out HBB.out;have HB3:Hid (Below w.heap.size w w3):=(HB.out.trans (HBB.out.mono HB.out.size)).grown hgrow (HB.out.trans (HBB.out.mono HB.out.size)).size (fun g hg=>(hO3.lt g hg).1);have HO3:Hid (w3.ownsRow w.heap.size 43 8 v' (opsM M (k+1)).length (cellsO (opsM M (k+1)))):=by
    show World.ownsRow _ _ _ _ _ _ _;rw[HN.out,List.length_append];exact hown3
   clear hown3 hgrow hO3 d0 hlk2;go_wp2;go_roundw
   case rel=>exact⟨k+1,by omega,by go_num,HO3.out,HB3.out⟩
   case measure=>simp[intOf];omega
  have HF:Hid (SO wr (.slice av k cv) (opsM M s.toNat)):=by
   show SO _ _ _;rw[show s.toNat=k by omega];have h1:=own_SO HOW.out;exact h1
  go_wp2;go_ret;exact⟨_,_,_,rfl,HF.out,HB.out⟩
def HrP (w:World)(p B0:Nat)(O:Nat→Prop)(N:Int)(a':AgT)(E:Int)(l:List Mg)(e:Ending)(w':World):Prop:=
 ∃ a1 n1 c1,e=.returned (.tuple #[.slice a1 n1 c1,.int i64 E])∧GS msgE w' (.slice a1 n1 c1) l∧(∀ad,a1=some ad→w.heap.size≤ad.block) ∧
   ∃O',AgR w' p B0 O' N a'∧(∀b,O' b→O b∨w.heap.size≤b)∧(∀ad,a1=some ad→¬O' ad.block)∧Kb (fun b=>¬O b) w w'
theorem nr_form {w:World}{B:Nat}{v:Value}{L:List Ru}(h:NR w B v L):∃y:SlT,v=slV y∧(∀b,b<B→offB y b)∧∀ad,y.1=some ad→B≤ad.block:=by
 have hl:=World.ownsRow.lt h
 rcases h.2 with ⟨rfl,_⟩ | ⟨g,cap,cur,rfl,_⟩
 ·exact⟨(none,0,0),rfl,(fun b _=>.inl rfl),fun _ h=>by cases h⟩
 refine⟨(some ⟨g,0,none⟩,L.length,cap),rfl,(fun b hb=>.inr fun ad ha=>?_),fun ad ha=>?_⟩
 ·cases ha;have:=(hl g rfl).1;show g≠b;omega
 cases ha;exact (hl g rfl).1
theorem pt_list {a:AgT}{r:Nat}{q:Pt}{M:List (Int×Op8)}(h:PtM a r q M)(hd:q.d=false)(ha:q.a=true):opsM M q.s.toNat=opsK a (r:Int):=by
 rw[opsM,opsK,←h.hs ha]
 congr 1
 funext k
 rw[h.hk hd,kept_op]
theorem rdy_open {a:AgT}(h:¬rdyN a<0):∃i:Nat,rdyN a=(i:Int)∧i<20∧doneK a (i:Int)=false∧0≤manyK a (i:Int):=by
 obtain⟨i,h1,h2,h3⟩:=rdyTo_yes 20 h;have e:rdyB a (i:Int)=(!doneK a (i:Int)&&decide (0≤manyK a (i:Int))&&allK a.l (i:Int) (manyK a (i:Int)).toNat):=rfl;rw[e,Bool.and_eq_true,Bool.and_eq_true] at h3;exact⟨i,h1,by omega,by simpa using h3.1.1,by simpa using h3.1.2⟩
theorem ptm_done {a:AgT}{r:Nat}{t:List Ru}{pt:Nat→Pt}{mp:Nat→List (Int×Op8)}(h:∀s,s<20→PtM a s (pt s) (mp s))(s:Nat)(hs:s<20):
 PtM { a with t:=t,d:=a.d++[(r:Int)] } s (updF pt r ⟨none,(pt r).h,(pt r).a,(pt r).s,true⟩ s) (updF mp r [] s):=by
 have g:=h s hs;have hd:doneK { a with t:=t,d:=a.d++[(r:Int)] } (s:Int)=(doneK a (s:Int) || ((r:Int)==(s:Int))):=by
  simp[doneK]
 by_cases e:s=r
 ·subst e;rw[upd_same,upd_same];refine⟨g.hh,?_,g.ha,g.hs,g.hl,fun h=>by cases h⟩;rw[hd];simp
 have e2:((r:Int)==(s:Int))=false:=by
  rw[beq_eq_false_iff_ne];omega
 rw[upd_other _ _ e,upd_other _ _ e];refine⟨g.hh,?_,g.ha,g.hs,g.hl,g.hk⟩;rw[hd,e2,Bool.or_false];exact g.hd
theorem pg_mark {V:World}{p B0:Nat}{O:Nat→Prop}{N:Int}{t:List Ru}{d:List Int}{x:SlT}{pt:Nat→Pt}{mp:Nat→List (Int×Op8)}{vd:Value}(h:PgC V p B0 O N t d x pt mp vd){r:Nat}(hr:r<20):
 PgC ((V.setCell ⟨p,2+r*5,none⟩ (.map none)).setCell ⟨p,2+r*5+4,none⟩ (.bool true)) p B0 O N t d x (updF (updF pt r { pt r with m:=none }) r ⟨none,(pt r).h,(pt r).a,(pt r).s,true⟩) (updF (updF mp r []) r []) vd:=by
 have hp:=h.pc r hr;have h4:PgC (V.setCell ⟨p,2+r*5,none⟩ (.map none)) p B0 O N t d x (updF pt r { pt r with m:=none }) (updF mp r []) vd:=h.poke hr (j:=0) (by omega) (v:=.map none) (q:={ pt r with m:=none }) (M:=[]) ⟨World.cell?_setCell_same _ _ _ hp.c0,cell_off hp.c1 (by omega) _,cell_off hp.c2 (by omega) _,cell_off hp.c3 (by omega) _,cell_off hp.c4 (by omega) _⟩ (.inr ⟨rfl,rfl⟩);have hp2:=h4.pc r hr;rw[upd_same] at hp2;exact h4.poke hr (j:=4) (by omega) (v:=.bool true) (q:=⟨none,(pt r).h,(pt r).a,(pt r).s,true⟩) (M:=[]) ⟨cell_off hp2.c0 (by omega) _,cell_off hp2.c1 (by omega) _,cell_off hp2.c2 (by omega) _,cell_off hp2.c3 (by omega) _,World.cell?_setCell_same _ _ _ hp2.c4⟩ (.inr ⟨rfl,rfl⟩)
theorem pwork_any {p B0:Nat}{O:Nat→Prop}{N:Int}{a:AgT}{k:Nat}(w:World)(h:Pg w p B0 O N a)(hok:AgOK a k)(hk:k≤1000):
 Calls prog 13 #[.pointer (some ⟨p,0,none⟩)] w fun e w'=>HrG Pg noV w p B0 O N (wkS a) (wkN a) (wkA N a) e w':=by
 have HP:Hid (Pg w p B0 O N a):=h;have HPW:Hid (Pg w p B0 O N a):=h;have HOK:Hid (AgOK a k):=hok;have HKK:Hid (k≤1000):=hk;have HRD:Hid (Calls prog 9 #[.pointer (some ⟨p,0,none⟩)] w fun e w'=>e=.returned (.int i64 (rdyN a))∧Below w.heap.size w w'):=pready_any w h;obtain⟨Z,hZ⟩:∃Z,Z=rdyN a:=⟨_,rfl⟩;have HZ:Hid (Z=rdyN a):=hZ;clear h hok hk hZ;go_enter func13,ntmps13
 go_wp2_with fail
 refine HRD.out.mono ?_;rintro e w1 ⟨rfl,hb1⟩;rw[←HZ.out];have HB1:Hid (Below w.heap.size w w1):=hb1;clear HRD hb1;by_cases hz:Z<0
 ·have HN:Hid (wkN a=6∧wkS a=a∧wkA N a=[]):=by
   show _∧_∧_;rw[HZ.out] at hz;exact⟨by rw[wkN,if_pos hz],by rw[wkS,if_pos hz],by rw[wkA,if_pos hz]⟩
  go_wp2;refine bodyPost_ret (v:=.tuple #[.slice none 0 0,.iface 73 (.int i64 6)]) (by simp[results,results13,go_sem]) rfl ?_;rw[HN.out.1,HN.out.2.1,HN.out.2.2];exact hg_none (HP.out.later HB1.out) (fun b h=>.inl h) (Kb.of_below HB1.out fun b h _=>h)
 obtain⟨i,hi1,hi2,hi3,hi4⟩:=rdy_open (a:=a) (by rw[←HZ.out];exact hz);have hzi:Z=(i:Int):=by rw[HZ.out,hi1]
 subst hzi;have HW:Hid (wkN a=0∧wkS a={ a with t:=wkTab a.t (opsK a (i:Int)),d:=a.d++[(i:Int)] }∧wkA N a=[yesM N (i:Int)]):=by
  show _∧_∧_;refine⟨?_,?_,?_⟩
  ·rw[wkN,hi1,if_neg (by omega)]
  ·rw[wkS,hi1,if_neg (by omega)]
  rw[wkA,hi1,if_neg (by omega)]
 obtain⟨x,pt,mp,vd,hg,hpm,hql⟩:=HP.out.later HB1.out;have HG1:Hid (PgC w1 p B0 O N a.t a.d x pt mp vd):=hg;have HPM:Hid (∀s,s<20→PtM a s (pt s) (mp s)):=hpm;have HQL:Hid (∀q∈a.l,0≤q.r∧q.r<20):=hql;have HI:Hid (i<20):=hi2;have hqd:(pt i).d=false:=by rw[(hpm i hi2).hd,hi3]
 have hqa:(pt i).a=true:=by rw[(hpm i hi2).ha];simpa using hi4
 have HOP:Hid (opsM (mp i) (pt i).s.toNat=opsK a (i:Int)):=pt_list (hpm i hi2) hqd hqa;have HLI:Hid (∀W,Below w1.heap.size w1 W→Calls prog 38 #[.pointer (some ⟨p,2+i*5,none⟩)] W fun e w'=>∃a1 n1 c1,e=.returned (.slice a1 n1 c1)∧SO w' (.slice a1 n1 c1) (opsK a (i:Int))∧Below W.heap.size W w'):=fun W hW=>by
  have h5:=plist_any p (2+i*5) (pt i).m (pt i).h (pt i).s (pt i).a (pt i).d (mp i) W ((hg.later hW).pc i hi2) ((hg.later hW).pm i hi2) (hpm i hi2).hl;rw[HOP.out] at h5;exact h5
 obtain⟨ops,hops⟩:∃ops,ops=opsK a (i:Int):=⟨_,rfl⟩;rw[←hops] at HW HLI;obtain⟨ax,nx,cx⟩:=x;have HST:Hid (∀W,Below w1.heap.size w1 W→W.cell? ⟨p,1,none⟩=some (.slice ax nx cx)∧SR W (.slice ax nx cx) a.t):=fun W hW=>⟨(hg.later hW).c1,(hg.later hW).t⟩
 have HT12:Hid (a.t.length≤1000):=by
  show _≤_;by_cases h12:12<a.t.length
  ·have:=tb_long h12;rw[HOK.out.t] at this;omega
  omega
 have hpl:p<w1.heap.size:=hg.pl;have ib0:(0:Int)≤(i:Int):=by omega
 have ib1:(i:Int)<20:=by omega
 have c1:=(HST.out w1 (bRQ _ _)).1;obtain⟨F,hF⟩:∃F,F=alN a.t ops:=⟨_,rfl⟩;have HF:Hid (F=alN a.t ops):=hF;clear hg hpm hql hi1 hi2 hi3 hi4 hqd hqa hops hz hF HOP HP;go_upto_region 5 with fail
 go_cut [6,7] from 18 to 27 (fun t e w'=>∃ay ny cy,t=.slice ay ny cy∧e=noV F∧NR w' w1.heap.size (.slice ay ny cy) (alL a.t ops)∧Below w1.heap.size w1 w')
 case first =>
  clear HZ HOK HKK HW HG1 HPM HQL HB1
  go_region_with (first | (go_at_call 38;refine (HLI.out _ (by first | exact Below.drew (bRQ _ _) | exact bRQ _ _)).mono ?_;rintro e w9 ⟨a5,n5,c5,rfl,hs5,hb5⟩;have HB9:Hid (Below w1.heap.size w1 w9):=(Below.drew (bRQ _ _)).trans hb5;have c1':=(HST.out w9 HB9.out).1) | (go_at_call 37;refine (all_own ax nx cx a5 n5 c5 a.t ops _ (HST.out _ HB9.out).2 hs5 HT12.out).mono ?_;rintro e w10 ⟨u,rfl,hnr,hb6⟩))
  all_goals (obtain⟨⟨ay,ny,cy⟩,rfl,_,_⟩:=nr_form hnr)
  all_goals (go_wp2_with fail;go_meet)
  all_goals exact⟨ay,ny,cy,rfl,by rw[HF.out],hnr.mono HB9.out.size,HB9.out.trans (hb6.mono HB9.out.size)⟩
 case rest =>
  obtain⟨ay,ny,cy,rfl,rfl,hnr,hbc⟩:=hcut;have HB2:Hid (Below w.heap.size w wc):=HB1.out.trans (hbc.mono HB1.out.size);have HG2:Hid (PgC wc p B0 O N a.t a.d (ax,nx,cx) pt mp vd):=HG1.out.later hbc;obtain⟨⟨_,_,_⟩,e9,hoff,hblk⟩:=nr_form hnr;simp only[slV,Value.slice.injEq] at e9;obtain⟨rfl,rfl,rfl⟩:=e9;have HNS:Hid (SR wc (slV (ay,ny,cy)) (alL a.t ops)):=hnr.sr;have HNO:Hid (∀b,PgO p pt vd b→offB (ay,ny,cy) b):=fun b hb=>hoff b (HG1.out.lt b (HG1.out.ob b hb)).2
  have HBK:Hid (∀ad,ay=some ad→w1.heap.size≤ad.block):=fun ad ha=>hblk ad ha
  have HNB:Hid (ny=0∨∀ad,ay=some ad→w1.heap.size≤ad.block∧ad.block<wc.heap.size):=by
   have h5:=hnr.sr
   rcases h5 with ⟨_,_,e,_⟩ | ⟨g,o,cap',e,h6,h7,h8⟩
   ·cases e;exact .inl rfl
   cases e;by_cases h0:(alL a.t ops).length=0
   ·exact .inl h0
   refine .inr fun ad ha=>⟨hblk ad ha,?_⟩
   cases ha;exact h8.lt (by omega)
  have hplc:p<wc.heap.size:=HG2.out.pl;have HB0w:Hid (B0≤w.heap.size∧w.heap.size≤w1.heap.size):=by
   have h5:=HG1.out.lt p HG1.out.pO;refine⟨?_,HB1.out.size⟩;obtain⟨x',pt',mp',vd',h6,_⟩:=HPW.out;have h7:=h6.lt p h6.pO;omega
  clear hnr hoff hblk hbc HG1 HST HLI HT12 HB1 c1;by_cases hf:F=0
  ·have HWT:Hid (wkTab a.t ops=alL a.t ops):=by show _=_;rw[wkTab,if_pos (by rw[←HF.out];exact hf)]
   rw[no_ok hf];have d1:=HG2.out.c1;have df:=HG2.out.f 1;go_upto_region 8 with fail;obtain⟨V,hV⟩:∃V,V=wc.setCell ⟨p,1,none⟩ (.slice ay ny cy):=⟨_,rfl⟩;obtain⟨O1,y1,H5,HO1,HK5⟩:∃(O1:Nat→Prop) (y1:SlT),Hid (PgC V p B0 O1 N (wkTab a.t ops) a.d y1 pt mp vd)∧Hid (∀b,O1 b→O b∨w.heap.size≤b)∧Hid (Kb (fun b=>¬O b) w V):=by
    rw[HWT.out,hV];have h5:=HG2.out.setT (y:=(ay,ny,cy)) HNS.out HNO.out (by
     rcases HNB.out with h6 | h6
     ·exact .inl h6
     exact .inr fun ad ha=>⟨by have:=(h6 ad ha).1;have:=HB0w.out;omega,(h6 ad ha).2⟩)
    refine⟨_,_,h5,?_,(Kb.of_below HB2.out fun b h _=>h).setCell (q:=⟨p,1,none⟩) (fun _ h6=>h6 HG2.out.pO) _⟩;rintro b (h6 | ⟨ad,ha,h6,h7,rfl⟩)
    ·exact .inl h6
    have:=HBK.out ad ha;have:=HB0w.out.2;exact .inr (by omega)
   have hplV:p<V.heap.size:=H5.out.pl;rw[←hV];clear hV d1 df hplc;have e0:=(H5.out.pc i HI.out).c0;have e4:=(H5.out.pc i HI.out).c4;have f0:=H5.out.f (2+i*5);have f4:=H5.out.f (2+i*5+4);clear HF HNS HNO HNB HG2 HB2;go_upto_region 9 with fail;obtain⟨V2,hV2⟩:∃V2,V2=(V.setCell ⟨p,2+i*5,none⟩ (.map none)).setCell ⟨p,2+i*5+4,none⟩ (.bool true):=⟨_,rfl⟩;have h6:=pg_mark H5.out HI.out;rw[←hV2] at h6;have H6:Hid (PgC V2 p B0 O1 N (wkTab a.t ops) a.d y1 _ _ vd):=h6;have HK6:Hid (Kb (fun b=>¬O b) w V2):=by
    show Kb _ _ _;rw[hV2];exact (HK5.out.setCell (q:=⟨p,2+i*5,none⟩) (fun hl h6=>by
     rcases HO1.out p H5.out.pO with h7 | h7
     ·exact h6 h7
     ·exact absurd hl (by show ¬p<_;omega)) _).setCell (q:=⟨p,2+i*5+4,none⟩) (fun hl h6=>by
     rcases HO1.out p H5.out.pO with h7 | h7
     ·exact h6 h7
     exact absurd hl (by show ¬p<_;omega)) _
   rw[←hV2];have HD5:Hid (a.d.length+1≤maxLen∧(a.d.length+1)*8≤140737488355328):=by
    have:=HOK.out.d;have:=HKK.out;show _∧_;unfold maxLen;exact⟨by omega,by omega⟩
   obtain⟨ad,cd,e5⟩:=own_form H6.out.d;obtain⟨nd,hnd⟩:∃nd,nd=a.d.length:=⟨_,rfl⟩;have e5':vd=.slice ad nd cd:=by rw[hnd];exact e5
   subst e5';obtain⟨j1,hj1,hz0,hz1,hz2⟩:=info_parts infoInt;have HI1:Hid (Tryd.prog.info? 3=some j1):=hj1;have HI2:Hid (j1.zero=some (.int i64 0)):=hz0;have HI3:Hid (j1.size=1):=hz1;have HI4:Hid (j1.bytes=8):=hz2;have HBB2:Hid (p+1≤V2.heap.size):=H6.out.pl;have d4:=H6.out.cd;have hpl2:p<V2.heap.size:=H6.out.pl;clear hj1 hz0 hz1 hz2 e5 hnd e0 e4 f0 f4 hV2 h6 hplV hpl
   go_wp2_with (at_builtin;refine wpList_append_blk (E:=inE) _ rfl _ _ 25 3 rfl underlying25 j1 (.int i64 0) 8 HI1.out HI2.out HI3.out HI4.out rfl (p+1) (.slice ad nd cd) rfl a.d (H6.out.d.alloc _) V2.heap.size 0 1 rfl (i:Int) (vat_new V2 [.int i64 (i:Int)] _) HD5.out.1 HD5.out.2 ?mz ?_)
   case mz =>
    have:=HBB2.out;simp;omega
   intro v' w9 ho9 hg9 hb9;obtain⟨a9,n9,c9,hv9⟩:∃a n c,v'=.slice a n c:=by obtain⟨a,c,h⟩:=own_form ho9;exact⟨a,_,c,h⟩
   subst hv9
   replace ho9:w9.ownsRow (p+1) 3 inE.n (.slice a9 n9 c9) (a.d++[(i:Int)]).length (cellsG inE (a.d++[(i:Int)])):=by
    rw[List.length_append];exact ho9
   have hba:Below V2.heap.size V2 (V2.alloc (.cells #[.int i64 (i:Int)] 3)):=(bRQ _ _).alloc (nLQ _) _;have H6a:=H6.out.later hba;have H7:Hid (PgC (w9.setCell ⟨p,102,none⟩ (.slice a9 n9 c9)) p B0 _ N (wkTab a.t ops) (a.d++[(i:Int)]) y1 _ _ (.slice a9 n9 c9)):=H6a.addD hg9 ho9 (by simpa using hb9);have HO7:Hid (∀b,(O1 b∨(Value.slice a9 n9 c9).ownBlock=some b)→O b∨w.heap.size≤b):=by
    rintro b (h | h)
    ·exact HO1.out b h
    rcases hb9 with h9 | h9
    ·rw[h9] at h;exact HO1.out b (H6.out.ob b (.inr (.inr h)))
    rw[h9] at h;cases h;have h1:=HK6.out.size;exact .inr (Nat.le_trans h1 (Nat.le_succ _))
   have HK7:Hid (Kb (fun b=>¬O b) w (w9.setCell ⟨p,102,none⟩ (.slice a9 n9 c9))):=by
    refine Kb.setCell ((HK6.out.alloc _).grown hg9 fun b hb hl h=>?_) (q:=⟨p,102,none⟩) (fun hl h=>?_) _
    ·rcases HO1.out b (H6.out.ob b (.inr (.inr hb))) with h2 | h2
     ·exact h h2
     omega
    rcases HO1.out p H6.out.pO with h2 | h2
    ·exact h h2
    exact absurd hl (by show ¬p<_;omega)
   have hne:some p≠(Value.slice ad nd cd).ownBlock:=fun e=>H6.out.dne e.symm rfl
   have z4:=hg9.cell H6a.cd hne;have zf:w9.frozen? ⟨p,102,none⟩=false:=by
    rw[World.frozen?_of_block (w:=V2.alloc (.cells #[.int i64 (i:Int)] 3)) (hg9.block p H6a.pl hne)];exact H6a.f 102
   have z4l:=bLQ w9 _ z4;clear ho9 hg9 hb9 hba H6a hne d4 hpl2
   go_wp2_with fail
   refine (pyes_any (i:Int) _ H7.out.c0).mono ?_;rintro e wy ⟨rfl,rfl⟩;have HFI:Hid (HrG Pg noV w p B0 O N { a with t:=wkTab a.t ops,d:=a.d++[(i:Int)] } 0 [yesM N (i:Int)] (.returned (.tuple #[.slice (some ⟨(w9.setCell ⟨p,102,none⟩ (.slice a9 n9 c9)).heap.size,0,none⟩) 1 1,noV 0])) ((w9.setCell ⟨p,102,none⟩ (.slice a9 n9 c9)).alloc (.cells #[.int i64 3,.int i64 N,.int i64 (i:Int),.int i64 0,.int i64 0,.bool false,.int i64 0,.int i64 0,.int i64 0,.int i64 0,.int i64 0,.int i64 0] 50))):=by
    refine hg_yes (a':={ a with t:=wkTab a.t ops,d:=a.d++[(i:Int)] }) ⟨y1,_,_,_,H7.out,fun s hs=>?_,HQL.out⟩ HO7.out HK7.out (i:Int) _;have h6:=ptm_done (r:=i) (t:=wkTab a.t ops) HPM.out s hs;by_cases e:s=i
    ·subst e;rw[upd_same,upd_same] at h6 ⊢;exact h6
    rw[upd_other _ _ e,upd_other _ _ e] at h6 ⊢;rw[upd_other _ _ e,upd_other _ _ e];exact h6
   clear z4 zf z4l;go_wp2;refine bodyPost_ret (v:=.tuple #[.slice (some ⟨(w9.setCell ⟨p,102,none⟩ (.slice a9 n9 c9)).heap.size,0,none⟩) 1 1,.nilIface]) (by simp[results,results13,go_sem]) rfl ?_;rw[HW.out.1,HW.out.2.1,HW.out.2.2];exact HFI.out
  have HWT:Hid (wkTab a.t ops=a.t):=by show _=_;rw[wkTab,if_neg (by rw[←HF.out];exact hf)]
  rw[no_ne hf];go_upto_region 8 with fail;obtain⟨V,hV⟩:∃V,V=wc:=⟨_,rfl⟩;obtain⟨O1,y1,H5,HO1,HK5⟩:∃(O1:Nat→Prop) (y1:SlT),Hid (PgC V p B0 O1 N (wkTab a.t ops) a.d y1 pt mp vd)∧Hid (∀b,O1 b→O b∨w.heap.size≤b)∧Hid (Kb (fun b=>¬O b) w V):=by
   rw[HWT.out,hV];exact⟨O,_,HG2.out,fun b h=>.inl h,Kb.of_below HB2.out fun b h _=>h⟩
  have hplV:p<V.heap.size:=H5.out.pl;rw[←hV];clear hV hplc;have e0:=(H5.out.pc i HI.out).c0;have e4:=(H5.out.pc i HI.out).c4;have f0:=H5.out.f (2+i*5);have f4:=H5.out.f (2+i*5+4);clear HF HNS HNO HNB HG2 HB2;go_upto_region 9 with fail;obtain⟨V2,hV2⟩:∃V2,V2=(V.setCell ⟨p,2+i*5,none⟩ (.map none)).setCell ⟨p,2+i*5+4,none⟩ (.bool true):=⟨_,rfl⟩;have h6:=pg_mark H5.out HI.out;rw[←hV2] at h6;have H6:Hid (PgC V2 p B0 O1 N (wkTab a.t ops) a.d y1 _ _ vd):=h6;have HK6:Hid (Kb (fun b=>¬O b) w V2):=by
   show Kb _ _ _;rw[hV2];exact (HK5.out.setCell (q:=⟨p,2+i*5,none⟩) (fun hl h6=>by
    rcases HO1.out p H5.out.pO with h7 | h7
    ·exact h6 h7
    ·exact absurd hl (by show ¬p<_;omega)) _).setCell (q:=⟨p,2+i*5+4,none⟩) (fun hl h6=>by
    rcases HO1.out p H5.out.pO with h7 | h7
    ·exact h6 h7
    exact absurd hl (by show ¬p<_;omega)) _
  rw[←hV2];have HD5:Hid (a.d.length+1≤maxLen∧(a.d.length+1)*8≤140737488355328):=by
   have:=HOK.out.d;have:=HKK.out;show _∧_;unfold maxLen;exact⟨by omega,by omega⟩
  obtain⟨ad,cd,e5⟩:=own_form H6.out.d;obtain⟨nd,hnd⟩:∃nd,nd=a.d.length:=⟨_,rfl⟩;have e5':vd=.slice ad nd cd:=by rw[hnd];exact e5
  subst e5';obtain⟨j1,hj1,hz0,hz1,hz2⟩:=info_parts infoInt;have HI1:Hid (Tryd.prog.info? 3=some j1):=hj1;have HI2:Hid (j1.zero=some (.int i64 0)):=hz0;have HI3:Hid (j1.size=1):=hz1;have HI4:Hid (j1.bytes=8):=hz2;have HBB2:Hid (p+1≤V2.heap.size):=H6.out.pl;have d4:=H6.out.cd;have hpl2:p<V2.heap.size:=H6.out.pl;clear hj1 hz0 hz1 hz2 e5 hnd e0 e4 f0 f4 hV2 h6 hplV hpl
  go_wp2_with (at_builtin;refine wpList_append_blk (E:=inE) _ rfl _ _ 25 3 rfl underlying25 j1 (.int i64 0) 8 HI1.out HI2.out HI3.out HI4.out rfl (p+1) (.slice ad nd cd) rfl a.d (H6.out.d.alloc _) V2.heap.size 0 1 rfl (i:Int) (vat_new V2 [.int i64 (i:Int)] _) HD5.out.1 HD5.out.2 ?mz ?_)
  case mz =>
   have:=HBB2.out;simp;omega
  intro v' w9 ho9 hg9 hb9;obtain⟨a9,n9,c9,hv9⟩:∃a n c,v'=.slice a n c:=by obtain⟨a,c,h⟩:=own_form ho9;exact⟨a,_,c,h⟩
  subst hv9
  replace ho9:w9.ownsRow (p+1) 3 inE.n (.slice a9 n9 c9) (a.d++[(i:Int)]).length (cellsG inE (a.d++[(i:Int)])):=by
   rw[List.length_append];exact ho9
  have hba:Below V2.heap.size V2 (V2.alloc (.cells #[.int i64 (i:Int)] 3)):=(bRQ _ _).alloc (nLQ _) _;have H6a:=H6.out.later hba;have H7:Hid (PgC (w9.setCell ⟨p,102,none⟩ (.slice a9 n9 c9)) p B0 _ N (wkTab a.t ops) (a.d++[(i:Int)]) y1 _ _ (.slice a9 n9 c9)):=H6a.addD hg9 ho9 (by simpa using hb9);have HO7:Hid (∀b,(O1 b∨(Value.slice a9 n9 c9).ownBlock=some b)→O b∨w.heap.size≤b):=by
   rintro b (h | h)
   ·exact HO1.out b h
   rcases hb9 with h9 | h9
   ·rw[h9] at h;exact HO1.out b (H6.out.ob b (.inr (.inr h)))
   rw[h9] at h;cases h;have h1:=HK6.out.size;exact .inr (Nat.le_trans h1 (Nat.le_succ _))
  have HK7:Hid (Kb (fun b=>¬O b) w (w9.setCell ⟨p,102,none⟩ (.slice a9 n9 c9))):=by
   refine Kb.setCell ((HK6.out.alloc _).grown hg9 fun b hb hl h=>?_) (q:=⟨p,102,none⟩) (fun hl h=>?_) _
   ·rcases HO1.out b (H6.out.ob b (.inr (.inr hb))) with h2 | h2
    ·exact h h2
    omega
   rcases HO1.out p H6.out.pO with h2 | h2
   ·exact h h2
   exact absurd hl (by show ¬p<_;omega)
  have hne:some p≠(Value.slice ad nd cd).ownBlock:=fun e=>H6.out.dne e.symm rfl
  have z4:=hg9.cell H6a.cd hne;have zf:w9.frozen? ⟨p,102,none⟩=false:=by
   rw[World.frozen?_of_block (w:=V2.alloc (.cells #[.int i64 (i:Int)] 3)) (hg9.block p H6a.pl hne)];exact H6a.f 102
  have z4l:=bLQ w9 _ z4;clear ho9 hg9 hb9 hba H6a hne d4 hpl2
  go_wp2_with fail
  refine (pyes_any (i:Int) _ H7.out.c0).mono ?_;rintro e wy ⟨rfl,rfl⟩;have HFI:Hid (HrG Pg noV w p B0 O N { a with t:=wkTab a.t ops,d:=a.d++[(i:Int)] } 0 [yesM N (i:Int)] (.returned (.tuple #[.slice (some ⟨(w9.setCell ⟨p,102,none⟩ (.slice a9 n9 c9)).heap.size,0,none⟩) 1 1,noV 0])) ((w9.setCell ⟨p,102,none⟩ (.slice a9 n9 c9)).alloc (.cells #[.int i64 3,.int i64 N,.int i64 (i:Int),.int i64 0,.int i64 0,.bool false,.int i64 0,.int i64 0,.int i64 0,.int i64 0,.int i64 0,.int i64 0] 50))):=by
   refine hg_yes (a':={ a with t:=wkTab a.t ops,d:=a.d++[(i:Int)] }) ⟨y1,_,_,_,H7.out,fun s hs=>?_,HQL.out⟩ HO7.out HK7.out (i:Int) _;have h6:=ptm_done (r:=i) (t:=wkTab a.t ops) HPM.out s hs;by_cases e:s=i
   ·subst e;rw[upd_same,upd_same] at h6 ⊢;exact h6
   rw[upd_other _ _ e,upd_other _ _ e] at h6 ⊢;rw[upd_other _ _ e,upd_other _ _ e];exact h6
  clear z4 zf z4l;go_wp2;refine bodyPost_ret (v:=.tuple #[.slice (some ⟨(w9.setCell ⟨p,102,none⟩ (.slice a9 n9 c9)).heap.size,0,none⟩) 1 1,.nilIface]) (by simp[results,results13,go_sem]) rfl ?_;rw[HW.out.1,HW.out.2.1,HW.out.2.2];exact HFI.out
theorem ok_short {t:List Ru}(h:tbN t=0):t.length≤1000:=by
 by_cases h12:12<t.length
 ·have:=tb_long h12;rw[h] at this;omega
 omega
theorem pgi:PgI Pg where
 kb:=fun h hk=>h.kb hk
 lt:=fun h=>h.lt
 hear:=fun x0 x1 x2 x3 x4 x5 x6 x7 x8 x9 x10 x11 w h hok hk=>phear_any x0 x1 x2 x3 x4 x5 x6 x7 x8 x9 x10 x11 w h hok hk
 work:=fun w h hok hk=>pwork_any w h hok hk
 new:=fun n ao k c t B0 w hs hB _=>pnew_any n ao k c t B0 w hs hB
 table:=fun w h hok hk=>ptable_any w h (ok_short hok.t)
 done:=fun w h hok hk=>pdone_any w h (Nat.le_trans hok.d hk)
 ready:=fun w h hok hk=>pready_any w h
 heard:=fun r w h hok hk=>pheard_any r w h
end
section
open Go.ChangeShapes Go.WideShapes Go.ChangeAt Go.RowKit
theorem in_open1 {H:Type}{enc:TypeId×Value→H}{W:World}{n:Nat}{cs:List Value}{x:DataW H×List MemPlace}
 (h:DataW.trod enc prog W 0 (fun _=>true) true n 3 cs=some x):∃y,cs=inE.c y:=by
 obtain⟨v0,e0,_,_⟩:=DataW.trod_int underlying3 h;exact⟨v0,e0⟩
theorem ints_of {H:Type}{enc:TypeId×Value→H}{W:World}{base:Nat}{v:Value}{d:DataW H}{p:List MemPlace}
 (hv:Value.okWide prog W .any base 25 v) (h:DataW.Trod enc prog W 0 (fun _=>true) true 25 v d p):∃L,GS inE W v L:=
 gs_of (E:=inE) 25 3 underlying25 (by kernel_rfl) 0 (fun _ _ _ h=>in_open1 h) hv h
end
namespace agentOnce
open Go.ChangeShapes Go.WideShapes Go.ChangeAt Go.RowKit
theorem own:ownKnob Tryd.prog.godebug=none:=by kernel_rfl
theorem laidOut:laidOutB prog=true:=by kernel_rfl
theorem et : Tryd.prog.globalNamed "errors.errorType" = some 0 := by kernel_rfl
theorem oneRow:((List.range 203).filter fun t=>Tryd.prog.rowNamed t [101,114,114,111,114])=[28]:=by kernel_rfl
theorem tsize:Tryd.prog.types.size=203:=by kernel_rfl
theorem handle_of_laid {W:World}(h:laidMetH prog Rows.agentOnceRow.laid W):HasErr W:=by
 have h':laidMet prog [] W∧handlesMet prog Rows.agentOnceRow.laid W:=h;obtain⟨name,u,ty,e1,e2,e3,e4,e5⟩:=h'.2 _ (List.mem_singleton.2 rfl);have en:name=[101,114,114,111,114]:=(Option.some.inj e1).symm;subst en;have hu:some u=some 159:=e2.symm.trans (by kernel_rfl);obtain rfl:=Option.some.inj hu;have hm:ty∈(List.range 203).filter fun t=>Tryd.prog.rowNamed t [101,114,114,111,114]:=List.mem_filter.2 ⟨List.mem_range.2 (by rw[←tsize];exact e3),e4⟩
 rw[oneRow] at hm;obtain rfl:=List.mem_singleton.1 hm;have hh:typeHandle prog 28=.pointer (some ⟨1,28,none⟩):=by kernel_rfl
 rw[hh] at e5;unfold HasErr;simpa using World.var?_cell et e5 0
theorem lifted (os:Os)(started:os.Started)(H:Type)(enc:TypeId×Value→H):
 ReturnsInHanded {} Tryd.checked os 3 .any (fun w args=>(Rows.agentOnceSpec.pre enc prog Tryd.f3 [] false w args∧laidMetH prog Rows.agentOnceRow.laid w)∧sizedMet enc prog Tryd.f3 (OpenSpec.ofChange Rows.agentOnceSpec) false w args)
  (Rows.agentOnceSpec.post enc prog Tryd.f3 false true false false):=by
 refine returnsInHanded_of_change_and (C:=Tryd.checked) (X:=fun w _=>laidMetH prog Rows.agentOnceRow.laid w) (fun _ _ _ hh h=>h.of_heap hh) own started (by kernel_rfl) func3
  (ChangeSpec.witness_at (enc:=enc) (C:=Tryd.checked) (os:=os) (X:=fun w _=>laidMetH prog Rows.agentOnceRow.laid w) false
   { World.holding prog os ⟨#[],#[],[]⟩ with heap:=(World.holding prog os ⟨#[],#[],[]⟩).heap.modify 0 fun
    | .cells _ t frozen=>.cells #[.iface 159 (.agg #[.pointer (some ⟨1,28,none⟩)])] t frozen
    | o=>o }
   #[.slice none 0 0,.slice none 0 0,.slice none 0 0,.slice none 0 0] 8 rfl (by kernel_rfl) (by kernel_rfl) (by kernel_rfl) (by kernel_rfl) (by kernel_rfl) (laidMetH_of_parts (laidMet_nil _ _) (by kernel_rfl))) ?_
 intro W base args ds gs before hval0 hW _ _ hLaid _;have hval:∀(j:Nat) t v,Tryd.f3.params[j]?=some t→args[j]?=some v→Value.okWide prog W .any base t v:=hval0;have hW':=hW;obtain⟨p,q,hA0,hV0,rfl,hfz,hnd⟩:=hW;have hA:DataW.TrodAll enc prog W 0 (fun _=>true) true Tryd.f3.params.toList args.toList ds p:=hA0;have hV:DataW.TrodVars enc prog W (fun _=>true) [] gs q:=hV0;rw[params3] at hA hval;obtain⟨v0,vs0,d0,ds0,p0,q0,hargs,rfl,rfl,h0,r0⟩:=trodAll_cons hA;obtain⟨v1,vs1,d1,ds1,p1,q1,rfl,rfl,rfl,h1,r1⟩:=trodAll_cons r0;obtain⟨v2,vs2,d2,ds2,p2,q2,rfl,rfl,rfl,h2,r2⟩:=trodAll_cons r1;obtain⟨v3,vs3,d3,ds3,p3,q3,rfl,rfl,rfl,h3,r3⟩:=trodAll_cons r2;obtain⟨rfl,rfl,rfl⟩:=trodAll_nil r3;obtain rfl:args=#[v0,v1,v2,v3]:=by cases args;simp_all
 have hg:=handle_of_laid hLaid;obtain⟨rfl,rfl⟩:gs=[]∧q=[]:=by
  cases gs with
  | nil=>exact⟨rfl,hV⟩
  | cons g r=>exact absurd hV (by intro h;cases h)
 have k0:=h0;have lt0:∀x∈p0,x.block<W.heap.size:=by obtain⟨m,hm⟩:=k0;exact DataW.trod_lt m _ _ _ hm
 have k1:=h1;have lt1:∀x∈p1,x.block<W.heap.size:=by obtain⟨m,hm⟩:=k1;exact DataW.trod_lt m _ _ _ hm
 have k2:=h2;have lt2:∀x∈p2,x.block<W.heap.size:=by obtain⟨m,hm⟩:=k2;exact DataW.trod_lt m _ _ _ hm
 have k3:=h3;have lt3:∀x∈p3,x.block<W.heap.size:=by obtain⟨m,hm⟩:=k3;exact DataW.trod_lt m _ _ _ hm
 obtain⟨L,hs⟩:=rules_of (hval 0 23 v0 rfl rfl) h0;obtain⟨a4,n4,c4,rfl⟩:=okWide_slice underlying23 (hval 0 23 v0 rfl rfl);obtain⟨l,hl⟩:=ops_of (hval 1 24 v1 rfl rfl) h1;obtain⟨a9,n9,c9,rfl⟩:=okWide_slice underlying24 (hval 1 24 v1 rfl rfl);obtain⟨li,hli⟩:=ints_of (hval 2 25 v2 rfl rfl) h2;obtain⟨a8,n8,c8,rfl⟩:=okWide_slice underlying25 (hval 2 25 v2 rfl rfl);obtain⟨li2,hli2⟩:=ints_of (hval 3 25 v3 rfl rfl) h3;obtain⟨a10,n10,c10,rfl⟩:=okWide_slice underlying25 (hval 3 25 v3 rfl rfl);clear hA0 hval0;refine (walk pgi a4 n4 c4 L a9 n9 c9 l a8 n8 c8 li a10 n10 c10 li2 W hs hl hli hli2 hg).mono fun e W' ⟨he,bel⟩=>?_
 subst he;exact⟨_,rfl,_,_,_,[],_,[],hW',trodAll_mk1 (shut_bool underlying4 _),(trodAll_cons_mk (Below.trod laidOut (by kernel_rfl) (of_decide_eq_true (by kernel_rfl)) k0 bel lt0) (trodAll_cons_mk (Below.trod laidOut (by kernel_rfl) (of_decide_eq_true (by kernel_rfl)) k1 bel lt1) (trodAll_cons_mk (Below.trod laidOut (by kernel_rfl) (of_decide_eq_true (by kernel_rfl)) k2 bel lt2) (trodAll_cons_mk (Below.trod laidOut (by kernel_rfl) (of_decide_eq_true (by kernel_rfl)) k3 bel lt3) trodAll_mk0)))),rfl,bel.frame _,fun h=>by cases h⟩
theorem over:Rows.AgentOnceSaid:=
 OpenClaim.holds_of_wide 3 Tryd.f3 rfl rfl rfl rfl rfl rfl rfl ⟨rfl,rfl,rfl,rfl,rfl⟩ rfl rfl rfl rfl rfl (by kernel_rfl) func3 (by kernel_rfl)
  (of_decide_eq_true (by kernel_rfl)) (by unfold Func.isWrapper;first | (rw[if_pos (by decide +kernel)];kernel_rfl) | (rw[if_neg (by decide +kernel)];exact⟨rfl,rfl⟩))
  (fun os started H enc _=>lifted os started H enc)
end agentOnce
end Go.Proofs.YtcbapfgohocghaaDoor
