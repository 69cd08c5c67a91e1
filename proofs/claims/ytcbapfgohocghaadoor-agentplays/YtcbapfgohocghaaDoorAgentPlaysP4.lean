/- Contracts and facts on the way to AgentPlays, joined into one text: MsgTwo, ClassTwo, RefAgHear, ChangeOps, RefDo, RefAgWork, RefAgNew, AgentPgI, AgentLawMem, SmMsg. -/
import Derived.Test.YtcbapfgohocghaaDoorAgentPlaysP3
namespace Go.Proofs.YtcbapfgohocghaaDoor
set_option linter.unusedSimpArgs false
set_option linter.unusedVariables false
set_option maxHeartbeats 16000000
set_option maxRecDepth 100000
open Go.Proofs.Tryd
open IntKind (i64)
section
open Go.RowKit
def msgCD (w:World)(g o:Nat)(x0 x1 x2 x3 x4:Int)(x5:Bool)(x6 x7 x8 x9 x10 x11:Int)(g' o':Nat)(y0 y1 y2 y3 y4:Int)(y5:Bool)(y6 y7 y8 y9 y10 y11:Int)(w':World):Prop:=
 Below w.heap.size w w'∧(w'.cell? ⟨g,o,none⟩=some (.int i64 x0)∧w'.cell? ⟨g,o+1,none⟩=some (.int i64 x1)∧w'.cell? ⟨g,o+2,none⟩=some (.int i64 x2)∧w'.cell? ⟨g,o+3,none⟩=some (.int i64 x3)∧w'.cell? ⟨g,o+4,none⟩=some (.int i64 x4)∧w'.cell? ⟨g,o+5,none⟩=some (.bool x5)∧w'.cell? ⟨g,o+6,none⟩=some (.int i64 x6)∧w'.cell? ⟨g,o+7,none⟩=some (.int i64 x7)∧w'.cell? ⟨g,o+8,none⟩=some (.int i64 x8)∧w'.cell? ⟨g,o+9,none⟩=some (.int i64 x9)∧w'.cell? ⟨g,o+10,none⟩=some (.int i64 x10)∧w'.cell? ⟨g,o+11,none⟩=some (.int i64 x11)) ∧
 w'.cell? ⟨g',o',none⟩=some (.int i64 y0)∧w'.cell? ⟨g',o'+1,none⟩=some (.int i64 y1)∧w'.cell? ⟨g',o'+2,none⟩=some (.int i64 y2)∧w'.cell? ⟨g',o'+3,none⟩=some (.int i64 y3)∧w'.cell? ⟨g',o'+4,none⟩=some (.int i64 y4)∧w'.cell? ⟨g',o'+5,none⟩=some (.bool y5)∧w'.cell? ⟨g',o'+6,none⟩=some (.int i64 y6)∧w'.cell? ⟨g',o'+7,none⟩=some (.int i64 y7)∧w'.cell? ⟨g',o'+8,none⟩=some (.int i64 y8)∧w'.cell? ⟨g',o'+9,none⟩=some (.int i64 y9)∧w'.cell? ⟨g',o'+10,none⟩=some (.int i64 y10)∧w'.cell? ⟨g',o'+11,none⟩=some (.int i64 y11)
theorem msgCD.later {w W W':World}{g o:Nat}{x0 x1 x2 x3 x4:Int}{x5:Bool}{x6 x7 x8 x9 x10 x11:Int}{g' o':Nat}{y0 y1 y2 y3 y4:Int}{y5:Bool}{y6 y7 y8 y9 y10 y11:Int}(hb:Below W.heap.size W W')(h:msgCD w g o x0 x1 x2 x3 x4 x5 x6 x7 x8 x9 x10 x11 g' o' y0 y1 y2 y3 y4 y5 y6 y7 y8 y9 y10 y11 W):msgCD w g o x0 x1 x2 x3 x4 x5 x6 x7 x8 x9 x10 x11 g' o' y0 y1 y2 y3 y4 y5 y6 y7 y8 y9 y10 y11 W':=by
 obtain⟨h0,⟨h1,h2,h3,h4,h5,h6,h7,h8,h9,h10,h11,h12⟩,k1,k2,k3,k4,k5,k6,k7,k8,k9,k10,k11,k12⟩:=h;exact⟨h0.trans (hb.mono h0.size),⟨cell_later hb h1,cell_later hb h2,cell_later hb h3,cell_later hb h4,cell_later hb h5,cell_later hb h6,cell_later hb h7,cell_later hb h8,cell_later hb h9,cell_later hb h10,cell_later hb h11,cell_later hb h12⟩,cell_later hb k1,cell_later hb k2,cell_later hb k3,cell_later hb k4,cell_later hb k5,cell_later hb k6,cell_later hb k7,cell_later hb k8,cell_later hb k9,cell_later hb k10,cell_later hb k11,cell_later hb k12⟩
theorem below_grown {B:Nat}{w W:World}{row:Option Nat}(h:w.grownBy W row)(hB:B≤w.heap.size)(hr:∀k,row=some k→B≤k):Below B w W:=
 ⟨h.os,h.tape,h.output,h.size,fun k hk=>h.block k (by omega) (fun e=>by have:=hr k e.symm;omega)⟩
theorem step_append_blk {P:Program}{α:Type}{E:Enc α}(w:World){ops:Array Oper}{o:Oper}{a:Act}{K:Act→World→Prop}{Q:Exit→Act→World→Prop}{X:Prop}(hgd:o.guard=none)(s x:Operand)(t e:TypeId)
 (ho:o.op=.call { callee:=.builtin .append,args:=#[s,x],argTypes:=#[t,t] }) (ht:P.underlying t=some (.slice e)) (i:TypeInfo) (z:Value) (bytes:Nat) (hi:P.info? e=some i) (hz:i.zero=some z)
 (hsize:i.size=E.n) (hby:i.bytes=bytes) (hzs:z.cells.size=E.n) (base:Nat)
 (v:Value) (hs:a.eval s=v) (L:List α) (hown:w.ownsRow base e E.n v L.length (cellsG E L)) (g q c:Nat) (hx:a.eval x=.slice (some ⟨g,q,none⟩) 1 c) (y:α) (hM:VAt w g q (E.c y))
 (h63:L.length+1≤maxLen) (hbytes:(L.length+1)*bytes≤140737488355328) (hbase:base≤w.heap.size)
 (h:∀v' w',w'.ownsRow base e E.n v' (L++[y]).length (cellsG E (L++[y]))→w.grownBy w' v.ownBlock→v'.ownBlock=v.ownBlock∨v'.ownBlock=some w.heap.size→K (a.put o.dst v') w'):
 if Region.wanted o (yielded ops a.tmps)=true then Oper.wp P o a w K Q else X:=by
 have hw:Region.wanted o (yielded ops a.tmps)=true:=by simp[Region.wanted,hgd]
 rw[if_pos hw];have hG:GAt E w g q [y]:=by
  intro k hk;obtain rfl:k=0:=by simp at hk;omega
  simpa using hM
 have hc:=hG.cells;rw[cellsG_one] at hc;have hl:(E.c y).length=1*E.n:=by rw[E.len];omega
 obtain⟨v',w',hr,h2,h3,_⟩:=run_append_own (P:=P) w base t o.type e i z E.n bytes ht hi hz hsize hby hzs E.pos v _ _ hown ⟨g,q,none⟩ 1 c (E.c y) hl hc (E.one y) h63 hbytes hbase;have hb:=run_append_blk (P:=P) t o.type e i z ht hi hz v _ _ (by rw[hsize];exact hown) ⟨g,q,none⟩ c (E.c y) (by rw[hsize];exact hl) hc (E.one y) h63 (by rw[hby];exact hbytes) hr;unfold Oper.wp execOp;simp only[ho,resolve,invoke,builtin,Sem.run_bind,Sem.run_pure,Result.andThen_ok,List.map_toArray,List.map_cons,List.map_nil,hs,hx,hr];exact h v' w' (by rw[List.length_append,cellsG_app,cellsG_one];exact h2) h3 hb
section
variable {e1 e2:TypeId}{w W1 W1' W2 W2' Wf:World}{B:Nat}{v u v' u':Value}{vs us:List SlT}{Cs Ps:List (List Int)}
end
theorem rhear_any {p B0:Nat}{O:Nat→Prop}{N:Int}{a:AgT}{x:SlT}{vl vm vd:Value}(x0 x1 x2 x3 x4:Int)(x5:Bool)(x6 x7 x8 x9 x10 x11:Int)(w:World)(h:RfA w p B0 O N a x vl vm vd)(hm:a.m.length=20)(hl:a.l.length≤1000000):
 Calls prog 19 #[.pointer (some ⟨p,0,none⟩),.agg #[.int i64 x0,.int i64 x1,.int i64 x2,.int i64 x3,.int i64 x4,.bool x5,.int i64 x6,.int i64 x7,.int i64 x8,.int i64 x9,.int i64 x10,.int i64 x11]] w fun e w'=>HrP w p B0 O N (hrS N a ⟨x0,x1,x2,x3,⟨x4,x5,⟨x6,x7,x8,x9,x10,x11⟩⟩⟩) (hrN N ⟨x0,x1,x2,x3,⟨x4,x5,⟨x6,x7,x8,x9,x10,x11⟩⟩⟩) (hrA N a ⟨x0,x1,x2,x3,⟨x4,x5,⟨x6,x7,x8,x9,x10,x11⟩⟩⟩) e w':=by
 have HB0:Hid (Below w.heap.size w (w.alloc (.cells #[.int i64 x0,.int i64 x1,.int i64 x2,.int i64 x3,.int i64 x4,.bool x5,.int i64 x6,.int i64 x7,.int i64 x8,.int i64 x9,.int i64 x10,.int i64 x11] 50))):=(bRQ _ _).alloc (nLQ _) _;have HC0:Hid (MgC (w.alloc (.cells #[.int i64 x0,.int i64 x1,.int i64 x2,.int i64 x3,.int i64 x4,.bool x5,.int i64 x6,.int i64 x7,.int i64 x8,.int i64 x9,.int i64 x10,.int i64 x11] 50)) w.heap.size x0 x1 x2 x3 x4 x5 x6 x7 x8 x9 x10 x11):=mgc_new w x0 x1 x2 x3 x4 x5 x6 x7 x8 x9 x10 x11 _;have H0:Hid (RfA w p B0 O N a x vl vm vd):=h;have HMl:Hid (a.m.length=20):=hm;have HLl:Hid (a.l.length≤1000000):=hl;obtain⟨M,hM⟩:∃M:Mg,M=⟨x0,x1,x2,x3,⟨x4,x5,⟨x6,x7,x8,x9,x10,x11⟩⟩⟩:=⟨_,rfl⟩;have HM:Hid (M=⟨x0,x1,x2,x3,⟨x4,x5,⟨x6,x7,x8,x9,x10,x11⟩⟩⟩):=hM;rw[←hM];obtain⟨E,hE⟩:∃E,E=mgN M:=⟨_,rfl⟩;have HE:Hid (E=mgN M):=hE;have HE2:Hid (mgN ⟨x0,x1,x2,x3,⟨x4,x5,⟨x6,x7,x8,x9,x10,x11⟩⟩⟩=E):=by show _=_;rw[hE,hM]
 clear h hm hl hM hE;go_enter func19,ntmps19
 go_wp2_with fail
 refine (rmsg_any x0 x1 x2 x3 x4 x5 x6 x7 x8 x9 x10 x11 _).mono ?_;rintro e w1 ⟨rfl,hb1⟩;have HB1:Hid (Below w.heap.size w w1):=HB0.out.trans (hb1.mono HB0.out.size);have HC1:Hid (MgC w1 w.heap.size x0 x1 x2 x3 x4 x5 x6 x7 x8 x9 x10 x11):=HC0.out.later hb1;rw[HE2.out];clear hb1 HB0 HC0;by_cases h0:E=0
 ·subst h0;have H1:Hid (RfA w1 p B0 O N a x vl vm vd):=H0.out.later HB1.out;obtain⟨B1,hB1⟩:∃B1:Bool,B1=(x1 != N):=⟨_,rfl⟩;have HBN:Hid ((x1 != N)=B1):=hB1.symm;clear hB1;go_upto_region 4 with fail
  go_cut [19] from 13 to 18 (fun q w'=>q=.bool B1∧Below w1.heap.size w1 w')
  case first =>
   obtain⟨k0,k1,k2,k3,k4,k5,k6,k7,k8,k9,k10,k11⟩:=HC1.out;have c0:=H1.out.c0;clear HC1 H1 H0 HB1
   go_region
   all_goals (go_wp2_with fail;go_meet)
   all_goals exact⟨by rw[HBN.out],Below.drew (bRQ _ _)⟩
  case rest =>
   obtain⟨rfl,hbc⟩:=hcut;cases B1 with
   | false =>
     have hN:N=x1:=(by have:=HBN.out;simpa using this:x1=N).symm;have HC2:Hid (MgC wc w.heap.size x0 x1 x2 x3 x4 x5 x6 x7 x8 x9 x10 x11):=HC1.out.later hbc;have HB2:Hid (Below w.heap.size w wc):=HB1.out.trans (hbc.mono HB1.out.size);clear HC1 HB1 H1 hbc HBN;subst hN;by_cases h3:x0=3
     ·have HN6:Hid (hrN N M=6):=by
       show _=_;unfold hrN;rw[←HE.out,if_pos rfl,if_pos (by rw[HM.out]),if_pos (by rw[HM.out];exact h3)]
      obtain⟨k0,k1,k2,k3,k4,k5,k6,k7,k8,k9,k10,k11⟩:=HC2.out;subst h3;go_wp2;refine bodyPost_ret (v:=.tuple #[.slice none 0 0,.int i64 6]) (by simp[results,results19,go_sem]) rfl ?_;rw[HN6.out,(hr_else (a:=a) (by rw[HN6.out];decide)).1,(hr_else (a:=a) (by rw[HN6.out];decide)).2];exact hrp_none H0.out HB2.out
     have HN0:Hid (hrN N M=0):=hr_zero.2 ⟨HE.out.symm,by rw[HM.out],by rw[HM.out];exact h3⟩;have hr:=mg_rng.1 (mg_1 HE.out.symm).1;rw[HM.out] at hr;obtain⟨hr1,_,⟨hr2,hr3⟩,_⟩:=hr;simp only at hr1 hr2 hr3;obtain⟨r,hrr⟩:∃r:Nat,x2=(r:Int):=⟨x2.toNat,by omega⟩;subst hrr;have f3:(x0==3)=false:=by simpa using h3
     have H2:Hid (RfA wc p B0 O N a x vl vm vd):=H0.out.later HB2.out;obtain⟨ad,cd,e1⟩:=own_form H2.out.d;have hD:GS inE wc vd a.d:=own_GS H2.out.d;have h4:=H2.out.c4;rw[e1] at hD h4;obtain⟨nd,hnd⟩:∃nd,nd=a.d.length:=⟨_,rfl⟩;rw[←hnd] at hD h4;have HD:Hid (∀W,Below wc.heap.size wc W→GS inE W (.slice ad nd cd) a.d):=fun W hb=>hD.later hb
     obtain⟨dn,hdn⟩:∃dn,dn=doneK a (r:Int):=⟨_,rfl⟩;have HDN:Hid (doneK a M.r=dn):=by show _=_;rw[HM.out,hdn]
     have HDA:Hid ((a.d.any fun y=>y==(r:Int))=dn):=hdn.symm;clear e1 hD hnd hdn;obtain⟨k0,k1,k2,k3,k4,k5,k6,k7,k8,k9,k10,k11⟩:=HC2.out;clear HE2 HE;go_upto_region 8 with fail
     go_cut [7] from 23 to 29 (fun q w'=>q=.bool dn∧Below wc.heap.size wc w')
     case first =>
      clear HC2 H2 H0 HB2 HM HN0 HDN
      go_region_with (go_at_call 43;refine (in_any ad nd cd a.d (r:Int) _ (HD.out _ (Below.drew (bRQ _ _)))).mono ?_;rintro e w' ⟨rfl,rfl⟩)
      all_goals (go_wp2_with fail;go_meet)
      all_goals exact⟨by rw[HDA.out],Below.drew (bRQ _ _)⟩
     case rest =>
      obtain⟨rfl,hbd⟩:=hcut;have HC3:Hid (MgC wc w.heap.size x0 N (r:Int) x3 x4 x5 x6 x7 x8 x9 x10 x11):=HC2.out.later hbd;have HB3:Hid (Below w.heap.size w wc):=HB2.out.trans (hbd.mono HB2.out.size);have H3:Hid (RfA wc p B0 O N a x vl vm vd):=H0.out.later HB3.out;clear HC2 H2 HB2 HD HDA hbd h4 k0 k1 k2 k3 k4 k5 k6 k7 k8 k9 k10 k11;by_cases h2:x0=2
      ·subst h2;cases dn with
       | true =>
         have HS:Hid (hrS N a M=a):=by
          show _=_;rw[hrS,if_neg (fun e=>by have:=e.2;rw[HDN.out] at this;cases this)]
         have HA:Hid (hrA N a M=[yesM N (r:Int)]):=by
          show _=_;rw[hrA,if_pos ⟨HN0.out,by rw[HM.out],HDN.out⟩,HM.out]
         obtain⟨k0,k1,k2,k3,k4,k5,k6,k7,k8,k9,k10,k11⟩:=HC3.out;have c0:=H3.out.c0;go_upto_region 11 with fail
         go_region
         all_goals
          go_wp2;refine bodyPost_ret (v:=.tuple #[.slice (some ⟨wc.heap.size,0,none⟩) 1 1,.int i64 0]) (by simp[results,results19,go_sem]) rfl ?_;rw[HN0.out,HS.out,HA.out];exact hrp_yes H0.out (Below.drew HB3.out) (r:Int) _
       | false =>
         obtain⟨y,hy⟩:∃y,y=manyK a (r:Int):=⟨_,rfl⟩;have hrl:r<a.m.length:=by rw[HMl.out];omega
         obtain⟨g,cm,e2⟩:∃g cm,vm=.slice (some ⟨g,0,none⟩) a.m.length cm:=by
          rcases H3.out.m.2 with ⟨_,e⟩ | ⟨g,cm,cur,e,_⟩
          ·omega
          exact⟨g,cm,e⟩
         subst e2;have hyl:a.m[r]=y:=by
          rw[hy,manyK,Int.toNat_natCast,List.getD_eq_getElem?_getD,List.getElem?_eq_getElem hrl];rfl
         have hcy:wc.cell? ⟨g,r,none⟩=some (.int i64 y):=by
          rw[H3.out.m.cellAt r (by show r<a.m.length*1;omega),cells_in,List.getElem?_map,List.getElem?_eq_getElem hrl,hyl];rfl
         have hfy:=H3.out.m.frozenAt r;obtain⟨B2,hB2⟩:∃B2:Bool,B2=decide (y<0):=⟨_,rfl⟩;have HBY:Hid (decide (y<0)=B2):=hB2.symm;have HY:Hid (manyK a M.r=y):=by show _=_;rw[HM.out,hy]
         have HAN:Hid (hrA N a M=[]):=by
          show _=_;rw[hrA,if_neg (fun e=>by have:=e.2.2;rw[HDN.out] at this;cases this)]
         have hp3:=H3.out.c3;have rb0:(0:Int)≤(r:Int):=by omega
         have rb1:(r:Int)<(a.m.length:Int):=by omega
         obtain⟨nm,hnm⟩:∃nm,nm=a.m.length:=⟨_,rfl⟩;rw[←hnm] at hp3 rb1 H3 H0;obtain⟨k0,k1,k2,k3,k4,k5,k6,k7,k8,k9,k10,k11⟩:=HC3.out;have HCX:=HC3;clear hy hyl hrl hB2 hnm;go_upto_region 12 with fail
         go_cut [50] from 42 to 49 (fun q w'=>q=.bool B2∧Below wc.heap.size wc w')
         case first =>
          clear HC3 H3 H0 HB3 HM HN0 HDN HAN HY
          go_region
          all_goals (go_wp2_with fail;go_meet)
          all_goals exact⟨by rw[HBY.out],Below.drew (bRQ _ _)⟩
         case rest =>
          obtain⟨rfl,hbe⟩:=hcut;have HB4:Hid (Below w.heap.size w wc):=HB3.out.trans (hbe.mono HB3.out.size);have H4:Hid (RfA wc p B0 O N a x vl (.slice (some ⟨g,0,none⟩) nm cm) vd):=H0.out.later HB4.out;have HC4:Hid (MgC wc w.heap.size 2 N (r:Int) x3 x4 x5 x6 x7 x8 x9 x10 x11):=HCX.out.later hbe;have c0:=cell_later hbe hcy;have c1:=cell_later hbe hp3;have c2:wc.frozen? ⟨g,r,none⟩=false:=(hbe.frozen (p:=⟨g,r,none⟩) (bLQ _ _ hcy)).trans hfy;clear hfy hcy hp3 HC3 HCX H3 HB3 hbe k0 k1 k2 k3 k4 k5 k6 k7 k8 k9 k10 k11;cases B2 with
          | true =>
            have HS:Hid (hrS N a M={ a with m:=a.m.set r x3 }):=by
             show _=_;have h1:manyK a M.r<0:=by rw[HY.out];have:=HBY.out;simpa using this
             rw[hrS,if_pos ⟨HN0.out,HDN.out⟩,if_pos (by rw[HM.out]),if_pos h1,HM.out];rfl
            have HFX:Hid (∀W,Below w.heap.size w W→HrP w p B0 O N { a with m:=a.m.set r x3 } 0 [] (.returned (.tuple #[.slice none 0 0,.int i64 0])) (W.setCell ⟨g,r,none⟩ (.int i64 x3))):=fun W hb =>
             hrp_some ((H0.out.later hb).setM r x3) (fun b h=>.inl h) ((Kb.of_below hb fun b hl _=>hl).setCell (q:=⟨g,r,none⟩) (fun _ h=>h (H0.out.ob g (.inr (.inr (.inl rfl))))) _)
            obtain⟨k0,k1,k2,k3,k4,k5,k6,k7,k8,k9,k10,k11⟩:=HC4.out;clear HC4 H4 H0;go_upto_region 13 with fail
            go_region
            all_goals
             go_wp2;refine bodyPost_ret (v:=.tuple #[.slice none 0 0,.int i64 0]) (by simp[results,results19,go_sem]) rfl ?_;rw[HN0.out,HS.out,HAN.out];exact HFX.out _ (Below.drew HB4.out)
          | false =>
            have HS:Hid (hrS N a M=a):=by
             show _=_;have h1:¬manyK a M.r<0:=by rw[HY.out];have:=HBY.out;simpa using this
             rw[hrS,if_pos ⟨HN0.out,HDN.out⟩,if_pos (by rw[HM.out]),if_neg h1]
            go_wp2;refine bodyPost_ret (v:=.tuple #[.slice none 0 0,.int i64 0]) (by simp[results,results19,go_sem]) rfl ?_;rw[HN0.out,HS.out,HAN.out];exact hrp_none H0.out HB4.out
      have f2:(x0==2)=false:=by simpa using h2
      have HAN:Hid (hrA N a M=[]):=by
       show _=_;rw[hrA,if_neg (fun e=>by have:=e.2.1;rw[HM.out] at this;exact h2 this)]
      obtain⟨B3,hB3⟩:∃B3:Bool,B3=(!dn && !hasK a.l (r:Int) x3):=⟨_,rfl⟩;have HBK:Hid (B3=(!dn && !hasK a.l (r:Int) x3)):=hB3;clear hB3;obtain⟨k0,k1,k2,k3,k4,k5,k6,k7,k8,k9,k10,k11⟩:=HC3.out;go_upto_region 15 with fail
      go_cut [70] from 60 to 69 (fun q w'=>q=.bool B3∧w'=wc)
      case first =>
       cases dn with
       | true =>
         have hb:B3=false:=by rw[HBK.out];rfl
         subst hb;go_wp2
         go_meet
         case rel=>exact⟨rfl,rfl⟩
       | false =>
         go_wp2_with fail
         refine (rfind_any (r:Int) x3 _ H3.out).mono ?_;rintro e w4 ⟨rfl,rfl⟩;obtain⟨z,hz⟩:∃z,z=ixG (kpB (r:Int) x3) a.l:=⟨_,rfl⟩;rw[←hz];have HZ:Hid (decide (z<0)=B3):=by
          show _=_;rw[HBK.out,←ix_has,←hz];by_cases h:z<0
          ·have h2:¬0≤z:=by omega
           simp[h,h2]
          have h2:0≤z:=by omega
          simp[h,h2]
         clear hz;go_wp2
         go_meet
         case rel=>exact⟨by rw[HZ.out],rfl⟩
      case rest =>
       obtain⟨rfl,hwz⟩:=hcut;have hwy:=hwz.symm;subst hwy;clear hwz;cases B3 with
       | false =>
         have HS:Hid (hrS N a M=a):=by
          show _=_;have h1:¬M.k=2:=by rw[HM.out];exact h2
          by_cases hd:doneK a M.r=false
          ·have h3:hasK a.l M.r M.i=true:=by
            rw[HM.out];have:=HBK.out;rw[←HDN.out,hd] at this;simpa using this
           rw[hrS,if_pos ⟨HN0.out,hd⟩,if_neg h1,if_pos h3]
          rw[hrS,if_neg (fun e=>hd e.2)]
         go_wp2;refine bodyPost_ret (v:=.tuple #[.slice none 0 0,.int i64 0]) (by simp[results,results19,go_sem]) rfl ?_;rw[HN0.out,HS.out,HAN.out];exact hrp_none H0.out HB3.out
       | true =>
         have HS:Hid (hrS N a M={ a with l:=a.l++[⟨(r:Int),x3,⟨x4,x5,⟨x6,x7,x8,x9,x10,x11⟩⟩⟩] }):=by
          show _=_;have h1:¬M.k=2:=by rw[HM.out];exact h2
          have hb:=HBK.out;have hd:dn=false:=by
           cases dn
           ·rfl
           cases hb
          rw[hd] at hb;have h3:¬hasK a.l M.r M.i=true:=by
           rw[HM.out];simpa using hb.symm
          rw[hrS,if_pos ⟨HN0.out,by rw[HDN.out,hd]⟩,if_neg h1,if_neg h3,HM.out]
         obtain⟨al,cl,e5⟩:=own_form H3.out.l;obtain⟨nl,hnl⟩:∃nl,nl=a.l.length:=⟨_,rfl⟩;rw[←hnl] at e5;subst e5;have HK:Hid (∀V,Below wc.heap.size wc V→RfA V p B0 O N a x (.slice al nl cl) vm vd):=fun V hV=>H3.out.later hV
         have HST:Hid (∀V V2,Below wc.heap.size wc V→V.grownBy V2 (Value.slice al nl cl).ownBlock→V2.cell? ⟨p,2,none⟩=some (.slice al nl cl)∧V2.frozen? ⟨p,2,none⟩=false):=fun V V2 hV hg=>by
          have m:=HK.out V hV;have hne:some p≠(Value.slice al nl cl).ownBlock:=RfA.pne m.l;refine⟨hg.cell m.c2 hne,?_⟩;rw[World.frozen?_of_block (w:=V) (hg.block p m.pl hne)];exact m.f 2
         have HFX:Hid (∀V V2 u,Below wc.heap.size wc V→V.grownBy V2 (Value.slice al nl cl).ownBlock→V2.ownsRow (p+1) 104 kptE.n u (a.l++[(⟨(r:Int),x3,⟨x4,x5,⟨x6,x7,x8,x9,x10,x11⟩⟩⟩:Kp)]).length (cellsG kptE (a.l++[(⟨(r:Int),x3,⟨x4,x5,⟨x6,x7,x8,x9,x10,x11⟩⟩⟩:Kp)]))→(u.ownBlock=(Value.slice al nl cl).ownBlock∨u.ownBlock=some V.heap.size)→HrP w p B0 O N { a with l:=a.l++[(⟨(r:Int),x3,⟨x4,x5,⟨x6,x7,x8,x9,x10,x11⟩⟩⟩:Kp)] } 0 [] (.returned (.tuple #[.slice none 0 0,.int i64 0])) (V2.setCell ⟨p,2,none⟩ u)):=fun V V2 u hV hg ho hb=>by
          have m:=HK.out V hV;have hB:=HB3.out.trans (hV.mono HB3.out.size);refine hrp_some (m.addK hg ho hb) ?_ ?_
          ·rintro b (h | h)
           ·exact .inl h
           rcases hb with hb | hb
           ·rw[hb] at h;exact .inl (H0.out.ob b (.inr (.inl h)))
           rw[hb] at h;cases h;exact .inr hB.size
          exact ((Kb.of_below hB fun b hl _=>hl).grown hg fun b hb _ h=>h (H0.out.ob b (.inr (.inl hb)))).setCell (q:=⟨p,2,none⟩) (fun _ h=>h H0.out.pO) _
         obtain⟨j1,hj,hy0,hy1,hy2⟩:=info_parts kpt_info;have HI1:Hid (Tryd.prog.info? 104=some j1):=hj;have HI2:Hid (j1.zero=some (.agg #[.int i64 0,.int i64 0,.int i64 0,.bool false,.int i64 0,.int i64 0,.int i64 0,.int i64 0,.int i64 0,.int i64 0])):=hy0;have HI3:Hid (j1.size=10):=hy1;have HI4:Hid (j1.bytes=80):=hy2;have HLV1:Hid (a.l.length+1≤maxLen):=by
          have:=HLl.out;show _≤_;unfold maxLen;omega
         have HLV2:Hid ((a.l.length+1)*80≤140737488355328):=by
          have:=HLl.out;show _≤_;omega
         have HBB:Hid (p+1≤wc.heap.size):=H3.out.pl;have hp2:=H3.out.c2;have hpl:p<wc.heap.size:=H3.out.pl;clear HC3 H3 H0 HBK HDN HM hj hy0 hy1 hy2 HMl HLl hnl;go_upto_region 16 with fail
         go_region_law ((refine step_append_blk (E:=kptE) _ (by rfl) _ _ 67 104 (by rfl) underlying67 j1 _ 80 HI1.out HI2.out HI3.out HI4.out kpt_zero (p+1) (.slice al nl cl) (by rfl) a.l (HK.out _ (by first | exact (bRQ _ _).drew.alloc (nLQ _) _ | exact ((bRQ _ _).alloc (nLQ _) _).drew | exact (bRQ _ _).alloc (nLQ _) _)).l wc.heap.size 0 1 (by rfl) (⟨(r:Int),x3,⟨x4,x5,⟨x6,x7,x8,x9,x10,x11⟩⟩⟩:Kp) (kpt_new _ (r:Int) x3 x4 x5 x6 x7 x8 x9 x10 x11 104) HLV1.out HLV2.out ?_ ?_;(focus (have:=HBB.out;simp;omega));intro v5 w9 ho5 hg5 hb5;obtain⟨z1,zf1⟩:=HST.out _ _ (by first | exact (bRQ _ _).drew.alloc (nLQ _) _ | exact ((bRQ _ _).alloc (nLQ _) _).drew | exact (bRQ _ _).alloc (nLQ _) _) hg5;have HG:Hid _:=HFX.out _ _ _ (by first | exact (bRQ _ _).drew.alloc (nLQ _) _ | exact ((bRQ _ _).alloc (nLQ _) _).drew | exact (bRQ _ _).alloc (nLQ _) _) hg5 ho5 hb5;obtain⟨a9,n9,c9,rfl⟩:∃b1 m1 d1,v5=Value.slice b1 m1 d1:=(by obtain⟨a,c,h⟩:=own_form ho5;exact⟨a,_,c,h⟩);clear ho5 hg5 hb5))
         all_goals
          go_wp2;refine bodyPost_ret (v:=.tuple #[.slice none 0 0,.int i64 0]) (by simp[results,results19,go_sem]) rfl ?_;rw[HN0.out,HS.out,HAN.out];exact HG.out
   | true =>
     have hN:¬x1=N:=by have:=HBN.out;simpa using this
     have HN5:Hid (hrN N M=5):=by
      show _=_;unfold hrN;rw[←HE.out,if_pos rfl,if_neg (by rw[HM.out];exact hN)]
     have HB2:Hid (Below w.heap.size w wc):=HB1.out.trans (hbc.mono HB1.out.size);go_wp2;refine bodyPost_ret (v:=.tuple #[.slice none 0 0,.int i64 5]) (by simp[results,results19,go_sem]) rfl ?_;rw[HN5.out,(hr_else (a:=a) (by rw[HN5.out];decide)).1,(hr_else (a:=a) (by rw[HN5.out];decide)).2];exact hrp_none H0.out HB2.out
 have f0:(E != 0)=true:=by simpa using h0
 have HN5:Hid (hrN N M=E):=by
  show _=_;unfold hrN;rw[←HE.out,if_neg h0]
 go_wp2;refine bodyPost_ret (v:=.tuple #[.slice none 0 0,.int i64 E]) (by simp[results,results19,go_sem]) rfl ?_;rw[HN5.out,(hr_else (a:=a) (by rw[HN5.out];exact h0)).1,(hr_else (a:=a) (by rw[HN5.out];exact h0)).2];exact hrp_none H0.out HB1.out
theorem NR.ofn {w:World}{B n:Nat}{v:Value}{M:List Ru}(h:w.ownsRow B 41 6 v n (cellsR M))(hn:n=M.length):NR w B v M:=by subst hn;exact h
theorem eqR_sy (a b:Ru):eqR a b=eqR b a:=by
 cases h:eqR b a
 ·exact eq_no.2 (fun e=>(eq_no.1 h) e.symm)
 exact eq_R.2 (eq_R.1 h).symm
def atTo (L:List Ru)(r:Ru)(k:Nat):Int:=if inB (L.take k) r then (ixN L r:Int) else -1
theorem at_0 (L:List Ru)(r:Ru):atTo L r 0 = -1:=by simp[atTo,inB]
theorem at_no {L:List Ru}{r x:Ru}{k:Nat}(hk:k<L.length)(hx:L[k]=x)(h:eqR x r=false):atTo L r (k+1)=atTo L r k:=by
 have e:inB (L.take (k+1)) r=inB (L.take k) r:=by
  rw[List.take_succ_eq_append_getElem hk,hx];simp[inB,eqR_sy r x,h]
 rw[atTo,atTo,e]
theorem at_yes {L:List Ru}{r x:Ru}{k:Nat}(hk:k<L.length)(hx:L[k]=x)(hL:tbN L=0)(h:eqR x r=true):atTo L r (k+1)=(k:Int):=by
 obtain rfl:=eq_R.1 h;have e:inB (L.take (k+1)) x=true:=in_iff.2 (by rw[List.take_succ_eq_append_getElem hk,hx];simp);have hn:=tb_nodup hL;have hsp:L=L.take k++x :: L.drop (k+1):=by
  rw[←hx];simp
 have hno:x ∉ L.take k:=by
  intro hm;rw[hsp,List.nodup_append] at hn;exact hn.2.2 x hm x (by simp) rfl
 rw[atTo,e,if_pos rfl];have:=ix_split (M:=L.drop (k+1)) hno;rw[←hsp] at this;rw[this,List.length_take];omega
theorem key_of_eq {a b:Ru}(h:keyB a b=false):eqR a b=false:=by
 cases e:eqR a b
 ·rfl
 rw[eq_R.1 e,key_rf] at h;cases h
theorem at_all {L:List Ru}{r:Ru}:atTo L r L.length=if inB L r then (ixN L r:Int) else -1:=by rw[atTo,List.take_length]
theorem any_step {L:List Ru}{f:Ru→Bool}{k:Nat}{x:Ru}(hk:k<L.length)(hx:L[k]=x):(L.take (k+1)).any f=((L.take k).any f || f x):=by
 rw[List.take_succ_eq_append_getElem hk,hx];simp
theorem SR.later' {w w':World}{v:Value}{L:List Ru}(h:SR w v L)(hb:Below w.heap.size w w'):SR w' v L:=h.later hb
theorem append_le {L:List Ru}{n:Nat}(h:L.length=n)(h2:tbN L=0):n≤12:=by
 have:=(tb_iff.1 h2).1;omega
theorem refDo_any (ao:AdQ)(n cap:Nat)(a:Bool)(p m b o s v:Int)(L:List Ru)(w:World)(hs:SR w (.slice ao n cap) L)(h0:tbN L=0):
 Calls prog 45 #[.slice ao n cap,.bool a,.agg #[.int i64 p,.int i64 m,.int i64 b,.int i64 o,.int i64 s,.int i64 v]] w fun e w'=>∃u,e=.returned (.tuple #[u,.int i64 (chN L a ⟨p,m,b,o,s,v⟩)])∧NR w' w.heap.size u (chL L a ⟨p,m,b,o,s,v⟩)∧Below w.heap.size w w':=by
 obtain⟨ao',n',cap',e,hn,hn2,hn3,ha⟩:=hs.form;cases e;have HN:Hid (L.length=n):=hn;have HA:Hid (0<n→∃g o,ao=some ⟨g,o,none⟩∧RAt w g o L∧cap≤maxLen):=ha;have H0:Hid (tbN L=0):=h0;have HS:Hid (SR w (.slice ao n cap) L):=hs;have hn12:=append_le hn h0;have HC0:=C6.new w p m b o s v 41;have HB0:Hid (Below w.heap.size w (w.alloc (.cells #[.int i64 p,.int i64 m,.int i64 b,.int i64 o,.int i64 s,.int i64 v] 41))):=(bRQ _ _).alloc (nLQ _) _;clear hn ha hs hn2 h0;go_enter func45,ntmps45;go_wp2
 go_loopw [8,9,10] (fun x y i wr=>∃k:Nat,k≤n∧i=.int i64 k∧x=.int i64 (atTo L ⟨p,m,b,o,s,v⟩ k)∧y=.bool ((L.take k).any fun a=>keyB a ⟨p,m,b,o,s,v⟩)∧Below w.heap.size w wr∧C6 wr w.heap.size 0 ⟨p,m,b,o,s,v⟩)
  (fun x y i _=>n-(intOf i).toNat)
 case atStart=>exact⟨0,by omega,rfl,by rw[at_0],by simp,HB0.out,HC0⟩
 case round =>
  obtain⟨k,hk,rfl,rfl,rfl,hB,hC⟩:=hrel;have HB:Hid (Below w.heap.size w wr):=hB;have HC:Hid (C6 wr w.heap.size 0 ⟨p,m,b,o,s,v⟩):=hC;clear HC0 HB0;by_cases hlt:k<n
  ·obtain⟨g,og,hao,hc,_⟩:=HA.out (by omega);subst hao;obtain⟨p',m',b',o',s',v',hkl,hL,q0,q1,q2,q3,q4,q5⟩:=(hc.later hB).at HN.out hlt;have HL:Hid (L[k]=⟨p',m',b',o',s',v'⟩):=hL;obtain⟨r0,r1,r2,r3,r4,r5⟩:=hC;simp only[Nat.zero_add] at r0 r1 r2 r3 r4 r5;have HCE:Hid (CI wr w.heap.size p m b o s v g (og+k*6) p' m' b' o' s' v' wr):=⟨bRQ _ _,⟨r0,r1,r2,r3,r4,r5⟩,q0,q1,q2,q3,q4,q5⟩;obtain⟨X,hX⟩:∃X,X=atTo L ⟨p,m,b,o,s,v⟩ k:=⟨_,rfl⟩;obtain⟨Y,hY⟩:∃Y,Y=((L.take k).any fun a=>keyB a ⟨p,m,b,o,s,v⟩):=⟨_,rfl⟩;have HX:Hid (X=atTo L ⟨p,m,b,o,s,v⟩ k):=hX;have HY:Hid (Y=((L.take k).any fun a=>keyB a ⟨p,m,b,o,s,v⟩)):=hY;rw[←hX,←hY];clear hX hY hL hB HA q0 q1 q2 q3 q4 q5 r0 r1 r2 r3 r4 r5;go_upto_region 6 with fail;have kb0:(0:Int)≤(k:Int):=by omega
   have kb1:(k:Int)<(n:Int):=by omega
   go_cut [35] from 12 to 42 (fun c w'=>c=.bool (keyB ⟨p',m',b',o',s',v'⟩ ⟨p,m,b,o,s,v⟩)∧Below wr.heap.size wr w')
   case first =>
    as_aux_lemma =>
     by_cases e1:p'=p
     ·have f1:(p'==p)=true:=by simpa using e1
      by_cases e2:m'=m
      ·have f2:(m'==m)=true:=by simpa using e2
       by_cases e3:b'=b
       ·have f3:(b'==b)=true:=by simpa using e3
        have hky:keyB ⟨p',m',b',o',s',v'⟩ ⟨p,m,b,o,s,v⟩=true:=by rw[key_eq];simp[e1,e2,e3]
        clear e1 e2 e3;refine wp_region_quiet (C:=CI wr w.heap.size p m b o s v g (og+k*6) p' m' b' o' s' v') (by kernel_rfl) (by kernel_rfl) (CI.later (W:=wr) (Below.drew (bRQ _ _)) HCE.out) ?_;simp only[List.toList_toArray];go_big_quiet_want;refine qv (.slice (some ⟨g,og,none⟩) n cap) ?_ ?_
        ·rintro w' ⟨z0,⟨z1,z2,z3,z4,z5,z6⟩,y1,y2,y3,y4,y5,y6⟩;go_simp
        simp only[Act.put,AP];go_big_quiet_on;go_big_quiet_want;refine qv (.int i64 (k:Int)) ?_ ?_
        ·rintro w' ⟨z0,⟨z1,z2,z3,z4,z5,z6⟩,y1,y2,y3,y4,y5,y6⟩;go_simp
        simp only[Act.put,AP];go_big_quiet_on;go_big_quiet_want;refine qv (.pointer (some ⟨g,og+k*6,none⟩)) ?_ ?_
        ·rintro w' ⟨z0,⟨z1,z2,z3,z4,z5,z6⟩,y1,y2,y3,y4,y5,y6⟩;go_simp
        simp only[Act.put,AP];go_big_quiet_on;go_big_quiet_want;refine qv (.pointer (some ⟨g,og+k*6,none⟩)) ?_ ?_
        ·rintro w' ⟨z0,⟨z1,z2,z3,z4,z5,z6⟩,y1,y2,y3,y4,y5,y6⟩;go_simp
        simp only[Act.put,AP];go_big_quiet_on;go_big_quiet_want;refine qv (.int i64 p') ?_ ?_
        ·rintro w' ⟨z0,⟨z1,z2,z3,z4,z5,z6⟩,y1,y2,y3,y4,y5,y6⟩;go_simp
        simp only[Act.put,AP];go_big_quiet_on;go_big_quiet_want;refine qv (.pointer (some ⟨w.heap.size,0,none⟩)) ?_ ?_
        ·rintro w' ⟨z0,⟨z1,z2,z3,z4,z5,z6⟩,y1,y2,y3,y4,y5,y6⟩;go_simp
        simp only[Act.put,AP];go_big_quiet_on;go_big_quiet_want;refine qv (.int i64 p) ?_ ?_
        ·rintro w' ⟨z0,⟨z1,z2,z3,z4,z5,z6⟩,y1,y2,y3,y4,y5,y6⟩;go_simp
        simp only[Act.put,AP];go_big_quiet_on;go_big_quiet_want;refine qv (.bool true) ?_ ?_
        ·rintro w' ⟨z0,⟨z1,z2,z3,z4,z5,z6⟩,y1,y2,y3,y4,y5,y6⟩;go_simp
        simp only[Act.put,AP];go_big_quiet_on;go_big_quiet_want;refine qv (.bool true) ?_ ?_
        ·rintro w' ⟨z0,⟨z1,z2,z3,z4,z5,z6⟩,y1,y2,y3,y4,y5,y6⟩;go_simp
        simp only[Act.put,AP];go_big_quiet_on;go_big_quiet_want;refine qv (.slice (some ⟨g,og,none⟩) n cap) ?_ ?_
        ·rintro w' ⟨z0,⟨z1,z2,z3,z4,z5,z6⟩,y1,y2,y3,y4,y5,y6⟩;go_simp
        simp only[Act.put,AP];go_big_quiet_on;go_big_quiet_want;refine qv (.int i64 (k:Int)) ?_ ?_
        ·rintro w' ⟨z0,⟨z1,z2,z3,z4,z5,z6⟩,y1,y2,y3,y4,y5,y6⟩;go_simp
        simp only[Act.put,AP];go_big_quiet_on;go_big_quiet_want;refine qv (.pointer (some ⟨g,og+k*6,none⟩)) ?_ ?_
        ·rintro w' ⟨z0,⟨z1,z2,z3,z4,z5,z6⟩,y1,y2,y3,y4,y5,y6⟩;go_simp
        simp only[Act.put,AP];go_big_quiet_on;go_big_quiet_want;refine qv (.pointer (some ⟨g,og+k*6+1,none⟩)) ?_ ?_
        ·rintro w' ⟨z0,⟨z1,z2,z3,z4,z5,z6⟩,y1,y2,y3,y4,y5,y6⟩;go_simp
        simp only[Act.put,AP];go_big_quiet_on;go_big_quiet_want;refine qv (.agg #[.int i64 m',.int i64 b']) ?_ ?_
        ·rintro w' ⟨z0,⟨z1,z2,z3,z4,z5,z6⟩,y1,y2,y3,y4,y5,y6⟩;go_simp
        simp only[Act.put,AP];go_big_quiet_on;go_big_quiet_want;refine qv (.pointer (some ⟨w.heap.size,1,none⟩)) ?_ ?_
        ·rintro w' ⟨z0,⟨z1,z2,z3,z4,z5,z6⟩,y1,y2,y3,y4,y5,y6⟩;go_simp
        simp only[Act.put,AP];go_big_quiet_on;go_big_quiet_want;refine qv (.agg #[.int i64 m,.int i64 b]) ?_ ?_
        ·rintro w' ⟨z0,⟨z1,z2,z3,z4,z5,z6⟩,y1,y2,y3,y4,y5,y6⟩;go_simp
        simp only[Act.put,AP];go_big_quiet_on;go_big_quiet_want;refine qv (.bool true) ?_ ?_
        ·rintro w' ⟨z0,⟨z1,z2,z3,z4,z5,z6⟩,y1,y2,y3,y4,y5,y6⟩;go_simp
        simp only[Act.put,AP];go_big_quiet_on;go_big_quiet_want;refine qv (.bool true) ?_ ?_
        ·rintro w' ⟨z0,⟨z1,z2,z3,z4,z5,z6⟩,y1,y2,y3,y4,y5,y6⟩;go_simp
        simp only[Act.put,AP];go_big_quiet_on;refine wpQuiet_nil ?_;intro w' hC
        go_wp2_with fail
        go_meet
        case rel=>exact⟨by rw[hky],hC.1⟩
       have f3:(b'==b)=false:=by simpa using e3
       have hky:keyB ⟨p',m',b',o',s',v'⟩ ⟨p,m,b,o,s,v⟩=false:=by rw[key_eq];simp[e1,e2,e3]
       clear e1 e2 e3;refine wp_region_quiet (C:=CI wr w.heap.size p m b o s v g (og+k*6) p' m' b' o' s' v') (by kernel_rfl) (by kernel_rfl) (CI.later (W:=wr) (Below.drew (bRQ _ _)) HCE.out) ?_;simp only[List.toList_toArray];go_big_quiet_want;refine qv (.slice (some ⟨g,og,none⟩) n cap) ?_ ?_
       ·rintro w' ⟨z0,⟨z1,z2,z3,z4,z5,z6⟩,y1,y2,y3,y4,y5,y6⟩;go_simp
       simp only[Act.put,AP];go_big_quiet_on;go_big_quiet_want;refine qv (.int i64 (k:Int)) ?_ ?_
       ·rintro w' ⟨z0,⟨z1,z2,z3,z4,z5,z6⟩,y1,y2,y3,y4,y5,y6⟩;go_simp
       simp only[Act.put,AP];go_big_quiet_on;go_big_quiet_want;refine qv (.pointer (some ⟨g,og+k*6,none⟩)) ?_ ?_
       ·rintro w' ⟨z0,⟨z1,z2,z3,z4,z5,z6⟩,y1,y2,y3,y4,y5,y6⟩;go_simp
       simp only[Act.put,AP];go_big_quiet_on;go_big_quiet_want;refine qv (.pointer (some ⟨g,og+k*6,none⟩)) ?_ ?_
       ·rintro w' ⟨z0,⟨z1,z2,z3,z4,z5,z6⟩,y1,y2,y3,y4,y5,y6⟩;go_simp
       simp only[Act.put,AP];go_big_quiet_on;go_big_quiet_want;refine qv (.int i64 p') ?_ ?_
       ·rintro w' ⟨z0,⟨z1,z2,z3,z4,z5,z6⟩,y1,y2,y3,y4,y5,y6⟩;go_simp
       simp only[Act.put,AP];go_big_quiet_on;go_big_quiet_want;refine qv (.pointer (some ⟨w.heap.size,0,none⟩)) ?_ ?_
       ·rintro w' ⟨z0,⟨z1,z2,z3,z4,z5,z6⟩,y1,y2,y3,y4,y5,y6⟩;go_simp
       simp only[Act.put,AP];go_big_quiet_on;go_big_quiet_want;refine qv (.int i64 p) ?_ ?_
       ·rintro w' ⟨z0,⟨z1,z2,z3,z4,z5,z6⟩,y1,y2,y3,y4,y5,y6⟩;go_simp
       simp only[Act.put,AP];go_big_quiet_on;go_big_quiet_want;refine qv (.bool true) ?_ ?_
       ·rintro w' ⟨z0,⟨z1,z2,z3,z4,z5,z6⟩,y1,y2,y3,y4,y5,y6⟩;go_simp
       simp only[Act.put,AP];go_big_quiet_on;go_big_quiet_want;refine qv (.bool true) ?_ ?_
       ·rintro w' ⟨z0,⟨z1,z2,z3,z4,z5,z6⟩,y1,y2,y3,y4,y5,y6⟩;go_simp
       simp only[Act.put,AP];go_big_quiet_on;go_big_quiet_want;refine qv (.slice (some ⟨g,og,none⟩) n cap) ?_ ?_
       ·rintro w' ⟨z0,⟨z1,z2,z3,z4,z5,z6⟩,y1,y2,y3,y4,y5,y6⟩;go_simp
       simp only[Act.put,AP];go_big_quiet_on;go_big_quiet_want;refine qv (.int i64 (k:Int)) ?_ ?_
       ·rintro w' ⟨z0,⟨z1,z2,z3,z4,z5,z6⟩,y1,y2,y3,y4,y5,y6⟩;go_simp
       simp only[Act.put,AP];go_big_quiet_on;go_big_quiet_want;refine qv (.pointer (some ⟨g,og+k*6,none⟩)) ?_ ?_
       ·rintro w' ⟨z0,⟨z1,z2,z3,z4,z5,z6⟩,y1,y2,y3,y4,y5,y6⟩;go_simp
       simp only[Act.put,AP];go_big_quiet_on;go_big_quiet_want;refine qv (.pointer (some ⟨g,og+k*6+1,none⟩)) ?_ ?_
       ·rintro w' ⟨z0,⟨z1,z2,z3,z4,z5,z6⟩,y1,y2,y3,y4,y5,y6⟩;go_simp
       simp only[Act.put,AP];go_big_quiet_on;go_big_quiet_want;refine qv (.agg #[.int i64 m',.int i64 b']) ?_ ?_
       ·rintro w' ⟨z0,⟨z1,z2,z3,z4,z5,z6⟩,y1,y2,y3,y4,y5,y6⟩;go_simp
       simp only[Act.put,AP];go_big_quiet_on;go_big_quiet_want;refine qv (.pointer (some ⟨w.heap.size,1,none⟩)) ?_ ?_
       ·rintro w' ⟨z0,⟨z1,z2,z3,z4,z5,z6⟩,y1,y2,y3,y4,y5,y6⟩;go_simp
       simp only[Act.put,AP];go_big_quiet_on;go_big_quiet_want;refine qv (.agg #[.int i64 m,.int i64 b]) ?_ ?_
       ·rintro w' ⟨z0,⟨z1,z2,z3,z4,z5,z6⟩,y1,y2,y3,y4,y5,y6⟩;go_simp
       simp only[Act.put,AP];go_big_quiet_on;go_big_quiet_want;refine qv (.bool false) ?_ ?_
       ·rintro w' ⟨z0,⟨z1,z2,z3,z4,z5,z6⟩,y1,y2,y3,y4,y5,y6⟩;go_simp
       simp only[Act.put,AP];go_big_quiet_on;go_big_quiet_want;refine qv (.bool false) ?_ ?_
       ·rintro w' ⟨z0,⟨z1,z2,z3,z4,z5,z6⟩,y1,y2,y3,y4,y5,y6⟩;go_simp
       simp only[Act.put,AP];go_big_quiet_on;refine wpQuiet_nil ?_;intro w' hC
       go_wp2_with fail
       go_meet
       case rel=>exact⟨by rw[hky],hC.1⟩
      have f2:(m'==m)=false:=by simpa using e2
      have hky:keyB ⟨p',m',b',o',s',v'⟩ ⟨p,m,b,o,s,v⟩=false:=by rw[key_eq];simp[e1,e2]
      clear e1 e2;refine wp_region_quiet (C:=CI wr w.heap.size p m b o s v g (og+k*6) p' m' b' o' s' v') (by kernel_rfl) (by kernel_rfl) (CI.later (W:=wr) (Below.drew (bRQ _ _)) HCE.out) ?_;simp only[List.toList_toArray];go_big_quiet_want;refine qv (.slice (some ⟨g,og,none⟩) n cap) ?_ ?_
      ·rintro w' ⟨z0,⟨z1,z2,z3,z4,z5,z6⟩,y1,y2,y3,y4,y5,y6⟩;go_simp
      simp only[Act.put,AP];go_big_quiet_on;go_big_quiet_want;refine qv (.int i64 (k:Int)) ?_ ?_
      ·rintro w' ⟨z0,⟨z1,z2,z3,z4,z5,z6⟩,y1,y2,y3,y4,y5,y6⟩;go_simp
      simp only[Act.put,AP];go_big_quiet_on;go_big_quiet_want;refine qv (.pointer (some ⟨g,og+k*6,none⟩)) ?_ ?_
      ·rintro w' ⟨z0,⟨z1,z2,z3,z4,z5,z6⟩,y1,y2,y3,y4,y5,y6⟩;go_simp
      simp only[Act.put,AP];go_big_quiet_on;go_big_quiet_want;refine qv (.pointer (some ⟨g,og+k*6,none⟩)) ?_ ?_
      ·rintro w' ⟨z0,⟨z1,z2,z3,z4,z5,z6⟩,y1,y2,y3,y4,y5,y6⟩;go_simp
      simp only[Act.put,AP];go_big_quiet_on;go_big_quiet_want;refine qv (.int i64 p') ?_ ?_
      ·rintro w' ⟨z0,⟨z1,z2,z3,z4,z5,z6⟩,y1,y2,y3,y4,y5,y6⟩;go_simp
      simp only[Act.put,AP];go_big_quiet_on;go_big_quiet_want;refine qv (.pointer (some ⟨w.heap.size,0,none⟩)) ?_ ?_
      ·rintro w' ⟨z0,⟨z1,z2,z3,z4,z5,z6⟩,y1,y2,y3,y4,y5,y6⟩;go_simp
      simp only[Act.put,AP];go_big_quiet_on;go_big_quiet_want;refine qv (.int i64 p) ?_ ?_
      ·rintro w' ⟨z0,⟨z1,z2,z3,z4,z5,z6⟩,y1,y2,y3,y4,y5,y6⟩;go_simp
      simp only[Act.put,AP];go_big_quiet_on;go_big_quiet_want;refine qv (.bool true) ?_ ?_
      ·rintro w' ⟨z0,⟨z1,z2,z3,z4,z5,z6⟩,y1,y2,y3,y4,y5,y6⟩;go_simp
      simp only[Act.put,AP];go_big_quiet_on;go_big_quiet_want;refine qv (.bool true) ?_ ?_
      ·rintro w' ⟨z0,⟨z1,z2,z3,z4,z5,z6⟩,y1,y2,y3,y4,y5,y6⟩;go_simp
      simp only[Act.put,AP];go_big_quiet_on;go_big_quiet_want;refine qv (.slice (some ⟨g,og,none⟩) n cap) ?_ ?_
      ·rintro w' ⟨z0,⟨z1,z2,z3,z4,z5,z6⟩,y1,y2,y3,y4,y5,y6⟩;go_simp
      simp only[Act.put,AP];go_big_quiet_on;go_big_quiet_want;refine qv (.int i64 (k:Int)) ?_ ?_
      ·rintro w' ⟨z0,⟨z1,z2,z3,z4,z5,z6⟩,y1,y2,y3,y4,y5,y6⟩;go_simp
      simp only[Act.put,AP];go_big_quiet_on;go_big_quiet_want;refine qv (.pointer (some ⟨g,og+k*6,none⟩)) ?_ ?_
      ·rintro w' ⟨z0,⟨z1,z2,z3,z4,z5,z6⟩,y1,y2,y3,y4,y5,y6⟩;go_simp
      simp only[Act.put,AP];go_big_quiet_on;go_big_quiet_want;refine qv (.pointer (some ⟨g,og+k*6+1,none⟩)) ?_ ?_
      ·rintro w' ⟨z0,⟨z1,z2,z3,z4,z5,z6⟩,y1,y2,y3,y4,y5,y6⟩;go_simp
      simp only[Act.put,AP];go_big_quiet_on;go_big_quiet_want;refine qv (.agg #[.int i64 m',.int i64 b']) ?_ ?_
      ·rintro w' ⟨z0,⟨z1,z2,z3,z4,z5,z6⟩,y1,y2,y3,y4,y5,y6⟩;go_simp
      simp only[Act.put,AP];go_big_quiet_on;go_big_quiet_want;refine qv (.pointer (some ⟨w.heap.size,1,none⟩)) ?_ ?_
      ·rintro w' ⟨z0,⟨z1,z2,z3,z4,z5,z6⟩,y1,y2,y3,y4,y5,y6⟩;go_simp
      simp only[Act.put,AP];go_big_quiet_on;go_big_quiet_want;refine qv (.agg #[.int i64 m,.int i64 b]) ?_ ?_
      ·rintro w' ⟨z0,⟨z1,z2,z3,z4,z5,z6⟩,y1,y2,y3,y4,y5,y6⟩;go_simp
      simp only[Act.put,AP];go_big_quiet_on;go_big_quiet_want;refine qv (.bool false) ?_ ?_
      ·rintro w' ⟨z0,⟨z1,z2,z3,z4,z5,z6⟩,y1,y2,y3,y4,y5,y6⟩;go_simp
      simp only[Act.put,AP];go_big_quiet_on;go_big_quiet_want;refine qv (.bool false) ?_ ?_
      ·rintro w' ⟨z0,⟨z1,z2,z3,z4,z5,z6⟩,y1,y2,y3,y4,y5,y6⟩;go_simp
      simp only[Act.put,AP];go_big_quiet_on;refine wpQuiet_nil ?_;intro w' hC
      go_wp2_with fail
      go_meet
      case rel=>exact⟨by rw[hky],hC.1⟩
     have f1:(p'==p)=false:=by simpa using e1
     have hky:keyB ⟨p',m',b',o',s',v'⟩ ⟨p,m,b,o,s,v⟩=false:=by rw[key_eq];simp[e1]
     clear e1;refine wp_region_quiet (C:=CI wr w.heap.size p m b o s v g (og+k*6) p' m' b' o' s' v') (by kernel_rfl) (by kernel_rfl) (CI.later (W:=wr) (Below.drew (bRQ _ _)) HCE.out) ?_;simp only[List.toList_toArray];go_big_quiet_want;refine qv (.slice (some ⟨g,og,none⟩) n cap) ?_ ?_
     ·rintro w' ⟨z0,⟨z1,z2,z3,z4,z5,z6⟩,y1,y2,y3,y4,y5,y6⟩;go_simp
     simp only[Act.put,AP];go_big_quiet_on;go_big_quiet_want;refine qv (.int i64 (k:Int)) ?_ ?_
     ·rintro w' ⟨z0,⟨z1,z2,z3,z4,z5,z6⟩,y1,y2,y3,y4,y5,y6⟩;go_simp
     simp only[Act.put,AP];go_big_quiet_on;go_big_quiet_want;refine qv (.pointer (some ⟨g,og+k*6,none⟩)) ?_ ?_
     ·rintro w' ⟨z0,⟨z1,z2,z3,z4,z5,z6⟩,y1,y2,y3,y4,y5,y6⟩;go_simp
     simp only[Act.put,AP];go_big_quiet_on;go_big_quiet_want;refine qv (.pointer (some ⟨g,og+k*6,none⟩)) ?_ ?_
     ·rintro w' ⟨z0,⟨z1,z2,z3,z4,z5,z6⟩,y1,y2,y3,y4,y5,y6⟩;go_simp
     simp only[Act.put,AP];go_big_quiet_on;go_big_quiet_want;refine qv (.int i64 p') ?_ ?_
     ·rintro w' ⟨z0,⟨z1,z2,z3,z4,z5,z6⟩,y1,y2,y3,y4,y5,y6⟩;go_simp
     simp only[Act.put,AP];go_big_quiet_on;go_big_quiet_want;refine qv (.pointer (some ⟨w.heap.size,0,none⟩)) ?_ ?_
     ·rintro w' ⟨z0,⟨z1,z2,z3,z4,z5,z6⟩,y1,y2,y3,y4,y5,y6⟩;go_simp
     simp only[Act.put,AP];go_big_quiet_on;go_big_quiet_want;refine qv (.int i64 p) ?_ ?_
     ·rintro w' ⟨z0,⟨z1,z2,z3,z4,z5,z6⟩,y1,y2,y3,y4,y5,y6⟩;go_simp
     simp only[Act.put,AP];go_big_quiet_on;go_big_quiet_want;refine qv (.bool false) ?_ ?_
     ·rintro w' ⟨z0,⟨z1,z2,z3,z4,z5,z6⟩,y1,y2,y3,y4,y5,y6⟩;go_simp
     simp only[Act.put,AP];go_big_quiet_on;go_big_quiet_want;refine qv (.bool false) ?_ ?_
     ·rintro w' ⟨z0,⟨z1,z2,z3,z4,z5,z6⟩,y1,y2,y3,y4,y5,y6⟩;go_simp
     simp only[Act.put,AP];go_big_quiet_on;go_big_quiet_skip;go_big_quiet_skip;go_big_quiet_skip;go_big_quiet_skip;go_big_quiet_skip;go_big_quiet_skip;go_big_quiet_skip;go_big_quiet_skip;go_big_quiet_want;refine qv (.bool false) ?_ ?_
     ·rintro w' ⟨z0,⟨z1,z2,z3,z4,z5,z6⟩,y1,y2,y3,y4,y5,y6⟩;go_simp
     simp only[Act.put,AP];go_big_quiet_on;refine wpQuiet_nil ?_;intro w' hC
     go_wp2_with fail
     go_meet
     case rel=>exact⟨by rw[hky],hC.1⟩
   case rest =>
    obtain⟨rfl,hB2⟩:=hcut;have HBk:Hid (Below wr.heap.size wr wc):=hB2;have HB2:Hid (Below w.heap.size w wc):=HB.out.trans (hB2.mono HB.out.size);have HC2:Hid (C6 wc w.heap.size 0 ⟨p,m,b,o,s,v⟩):=HC.out.later hB2;have HCE2:Hid (CI wr w.heap.size p m b o s v g (og+k*6) p' m' b' o' s' v' wc):=CI.later hB2 HCE.out;clear hB2 HCE;cases hky:keyB ⟨p',m',b',o',s',v'⟩ ⟨p,m,b,o,s,v⟩
    ·go_wp2;go_roundw
     case rel=>exact⟨k+1,by omega,by go_num,by rw[HX.out,at_no hkl HL.out (key_of_eq hky)],by rw[HY.out,any_step hkl HL.out,hky,Bool.or_false],HB2.out,HC2.out⟩
     case measure=>simp[intOf];omega
    go_upto_region 8 with fail
    go_cut [41] from 12 to 42 (fun c w'=>c=.bool (eqR ⟨p',m',b',o',s',v'⟩ ⟨p,m,b,o,s,v⟩)∧Below wr.heap.size wr w')
    case first =>
     as_aux_lemma =>
      refine wp_region_quiet (C:=CI wr w.heap.size p m b o s v g (og+k*6) p' m' b' o' s' v') (by kernel_rfl) (by kernel_rfl) (CI.later (W:=wc) (Below.drew (bRQ _ _)) HCE2.out) ?_;simp only[List.toList_toArray];go_big_quiet_want;refine qv (.slice (some ⟨g,og,none⟩) n cap) ?_ ?_
      ·rintro w' ⟨z0,⟨z1,z2,z3,z4,z5,z6⟩,y1,y2,y3,y4,y5,y6⟩;go_simp
      simp only[Act.put,AP];go_big_quiet_on;go_big_quiet_want;refine qv (.int i64 (k:Int)) ?_ ?_
      ·rintro w' ⟨z0,⟨z1,z2,z3,z4,z5,z6⟩,y1,y2,y3,y4,y5,y6⟩;go_simp
      simp only[Act.put,AP];go_big_quiet_on;go_big_quiet_want;refine qv (.pointer (some ⟨g,og+k*6,none⟩)) ?_ ?_
      ·rintro w' ⟨z0,⟨z1,z2,z3,z4,z5,z6⟩,y1,y2,y3,y4,y5,y6⟩;go_simp
      simp only[Act.put,AP];go_big_quiet_on;go_big_quiet_want;refine qv (.agg #[.int i64 p',.int i64 m',.int i64 b',.int i64 o',.int i64 s',.int i64 v']) ?_ ?_
      ·rintro w' ⟨z0,⟨z1,z2,z3,z4,z5,z6⟩,y1,y2,y3,y4,y5,y6⟩;go_simp
      simp only[Act.put,AP];go_big_quiet_on;go_big_quiet_want;refine qv (.agg #[.int i64 p,.int i64 m,.int i64 b,.int i64 o,.int i64 s,.int i64 v]) ?_ ?_
      ·rintro w' ⟨z0,⟨z1,z2,z3,z4,z5,z6⟩,y1,y2,y3,y4,y5,y6⟩;go_simp
      simp only[Act.put,AP];go_big_quiet_on;go_big_quiet_want;refine quiet_val (v:=.bool (eqR ⟨p',m',b',o',s',v'⟩ ⟨p,m,b,o,s,v⟩)) (fun w' hC=>exec_bin rfl (by go_simp) (run_eqlR p' m' b' o' s' v' p m b o s v w')) ?_;simp only[Act.put,AP];go_big_quiet_on;refine wpQuiet_nil ?_;intro w' hC
      go_wp2_with fail
      go_meet
      case rel=>exact⟨rfl,hC.1⟩
    case rest =>
     obtain⟨rfl,hB3⟩:=hcut;have HB3:Hid (Below w.heap.size w wc):=HB.out.trans (hB3.mono HB.out.size);have HC3:Hid (C6 wc w.heap.size 0 ⟨p,m,b,o,s,v⟩):=HC.out.later hB3;clear hB3 HCE2 HBk HB2 HC2;cases ho:eqR ⟨p',m',b',o',s',v'⟩ ⟨p,m,b,o,s,v⟩
     ·go_wp2;go_roundw
      case rel=>exact⟨k+1,by omega,by go_num,by rw[HX.out,at_no hkl HL.out ho],by rw[any_step hkl HL.out,hky,Bool.or_true],HB3.out,HC3.out⟩
      case measure=>simp[intOf];omega
     go_wp2;go_roundw
     case rel=>exact⟨k+1,by omega,by go_num,by rw[at_yes hkl HL.out H0.out ho],by rw[any_step hkl HL.out,hky,Bool.or_true],HB3.out,HC3.out⟩
     case measure=>simp[intOf];omega
  obtain rfl:k=n:=by omega
  have HS1:Hid (SR wr (.slice ao k cap) L):=HS.out.later' HB.out;obtain⟨X,hX⟩:∃X,X=atTo L ⟨p,m,b,o,s,v⟩ k:=⟨_,rfl⟩;have HX:Hid (X=if inB L ⟨p,m,b,o,s,v⟩ then (ixN L ⟨p,m,b,o,s,v⟩:Int) else -1):=by
   show _=_;rw[hX,←HN.out,at_all]
  have hY:((L.take k).any fun a=>keyB a ⟨p,m,b,o,s,v⟩)=hitB L ⟨p,m,b,o,s,v⟩:=by rw[←HN.out,List.take_length];rfl
  rw[←hX,hY];obtain⟨r0,r1,r2,r3,r4,r5⟩:=hC;simp only[Nat.zero_add] at r0 r1 r2 r3 r4 r5;have hlt0:w.heap.size<wr.heap.size:=bLQ _ _ r0;clear hX hY hB hlt;cases a with
  | true =>
    cases hh:hitB L ⟨p,m,b,o,s,v⟩
    ·by_cases h12:12≤k
     ·have HCN:Hid (chN L true ⟨p,m,b,o,s,v⟩=4):=ch_full hh (by rw[HN.out];exact h12);have HCL:Hid (chL L true ⟨p,m,b,o,s,v⟩=[]):=chL_ne (by rw[ch_full hh (by rw[HN.out];exact h12)];decide);clear hh;go_wp2;refine bodyPost_ret (v:=.tuple #[.slice none 0 0,.int i64 4]) (by simp[results,results45,go_sem]) rfl ⟨_,by rw[HCN.out],by rw[HCL.out];exact NR.nil _ _,HB.out⟩
     have HCN:Hid (chN L true ⟨p,m,b,o,s,v⟩=0):=ch_add hh (by rw[HN.out];exact h12);have HCL:Hid (chL L true ⟨p,m,b,o,s,v⟩=L++[⟨p,m,b,o,s,v⟩]):=chL_add (ch_add hh (by rw[HN.out];exact h12));clear hh
     go_wp2_with (at_builtin;refine wpList_append_SR _ rfl _ _ 23 rfl underlying23 w.heap.size _ rfl [] (World.ownsRow_nil _ _ _ _) _ rfl _ HS1.out (by simp[HN.out];omega) HB.out.size ?_)
     intro v1 w1 hown1 hg1;have HB1:Hid (Below w.heap.size w w1):=HB.out.grown hg1 HB.out.size (fun g hg=>by cases hg);have hBr:Below wr.heap.size wr w1:=(bRQ _ _).grown hg1 (nLQ _) (fun g hg=>by cases hg);have HO1:Hid (w1.ownsRow w.heap.size 41 6 v1 L.length (cellsR L)):=hown1;obtain⟨d0,d1,d2,d3,d4,d5⟩:=HC.out.later hBr;simp only[Nat.zero_add] at d0 d1 d2 d3 d4 d5;have hlt1:w.heap.size<w1.heap.size:=bLQ _ _ d0;have hBB:Below w1.heap.size w1 (w1.alloc (.cells #[.int i64 p,.int i64 m,.int i64 b,.int i64 o,.int i64 s,.int i64 v] 41)):=(bRQ _ _).alloc (nLQ _) _;have HSO:=sr_one w1 p m b o s v 41;clear hown1 hg1 hBr r0 r1 r2 r3 r4 r5
     go_wp2_with (at_builtin;refine wpList_append_SR _ rfl _ _ 23 rfl underlying23 w.heap.size _ rfl L (own_below HO1.out hBB) _ rfl [⟨p,m,b,o,s,v⟩] HSO (by simp[HN.out];omega) (HB1.out.trans (hBB.mono HB1.out.size)).size ?_)
     intro v2 w2 hown2 hg2;have HO2:Hid (NR w2 w.heap.size v2 (L++[⟨p,m,b,o,s,v⟩])):=NR.ofn hown2 (by simp);have HB2:Hid (Below w.heap.size w w2):=(HB1.out.trans (hBB.mono HB1.out.size)).grown hg2 (HB1.out.trans (hBB.mono HB1.out.size)).size (fun g hg=>((own_below HO1.out hBB).lt g hg).1);clear hown2 hg2 hBB HSO d0 d1 d2 d3 d4 d5;go_wp2;refine bodyPost_ret (v:=.tuple #[v2,.int i64 0]) (by simp[results,results45,go_sem]) rfl ⟨_,by rw[HCN.out],by rw[HCL.out];exact HO2.out,HB2.out⟩
    have HCN:Hid (chN L true ⟨p,m,b,o,s,v⟩=7):=ch_hit hh;have HCL:Hid (chL L true ⟨p,m,b,o,s,v⟩=[]):=chL_ne (by rw[ch_hit hh];decide);clear hh;go_wp2;refine bodyPost_ret (v:=.tuple #[.slice none 0 0,.int i64 7]) (by simp[results,results45,go_sem]) rfl ⟨_,by rw[HCN.out],by rw[HCL.out];exact NR.nil _ _,HB.out⟩
  | false =>
    generalize hitB L ⟨p,m,b,o,s,v⟩=Y
    cases hh:inB L ⟨p,m,b,o,s,v⟩
    ·have HCN:Hid (chN L false ⟨p,m,b,o,s,v⟩=5):=ch_none hh;have HCL:Hid (chL L false ⟨p,m,b,o,s,v⟩=[]):=chL_ne (by rw[ch_none hh];decide);obtain rfl:X = -1:=by rw[HX.out,hh];rfl
     clear hh HX;go_wp2;refine bodyPost_ret (v:=.tuple #[.slice none 0 0,.int i64 5]) (by simp[results,results45,go_sem]) rfl ⟨_,by rw[HCN.out],by rw[HCL.out];exact NR.nil _ _,HB.out⟩
    have HCN:Hid (chN L false ⟨p,m,b,o,s,v⟩=0):=ch_take hh;have HCL:Hid (chL L false ⟨p,m,b,o,s,v⟩=L.take (ixN L ⟨p,m,b,o,s,v⟩)++L.drop (ixN L ⟨p,m,b,o,s,v⟩+1)):=chL_take (ch_take hh);obtain rfl:X=(ixN L ⟨p,m,b,o,s,v⟩:Int):=by rw[HX.out,hh,if_pos rfl]
    have hi:ixN L ⟨p,m,b,o,s,v⟩<k:=by
     have:=ix_lt hh;rw[HN.out] at this;exact this
    obtain⟨g,og,hao,hRA,hcm⟩:=HA.out (by omega);subst hao
    generalize ixN L ⟨p,m,b,o,s,v⟩=i at *
    have HRA:Hid (RAt wr g og L):=hRA.later HB.out;have HCM:Hid (cap≤maxLen):=hcm;have hc63:(cap:Int)≤9223372036854775807:=by unfold maxLen at hcm;omega
    clear hh hRA hcm HA HX;have i0:¬((i:Int)<0):=by omega
    have i01:(0:Int)≤(i:Int):=by omega
    have i1:(i:Int)≤(cap:Int):=by omega
    have i2:((i+1:Nat):Int)≤(k:Int):=by omega
    have i21:(0:Int)≤((i+1:Nat):Int):=by omega
    have i3:IntKind.i64.wrap ((i:Int)+1)=((i+1:Nat):Int):=by rw[IntKind.wrap_i64];omega
    have HT1:Hid (SR wr (.slice (some ⟨g,og,none⟩) i cap) (L.take i)):=by
     have e1:(L.take i).length=i:=by rw[List.length_take,HN.out];omega
     exact .inr ⟨g,og,cap,by rw[e1],by rw[e1];omega,HCM.out,HRA.out.take i⟩
    have HL1:Hid ((L.take i).length≤12):=by
     show _≤_;rw[List.length_take];omega
    have HL2:Hid ((L.drop (i+1)).length≤12):=by
     show _≤_;rw[List.length_drop,HN.out];omega
    go_wp2_with (at_builtin;refine wpList_append_SR _ rfl _ _ 23 rfl underlying23 w.heap.size _ rfl [] (World.ownsRow_nil _ _ _ _) _ rfl _ HT1.out (by have:=HL1.out;simp at this ⊢;omega) HB.out.size ?_)
    intro v1 w1 hown1 hg1;have HB1:Hid (Below w.heap.size w w1):=HB.out.grown hg1 HB.out.size (fun g hg=>by cases hg);have hBr:Below wr.heap.size wr w1:=(bRQ _ _).grown hg1 (nLQ _) (fun g hg=>by cases hg);have HO1:Hid (w1.ownsRow w.heap.size 41 6 v1 (L.take i).length (cellsR (L.take i))):=NR.ofn hown1 (by simp);have HR1:Hid (RAt w1 g og L):=HRA.out.later hBr;clear hown1 hg1 hBr r0 r1 r2 r3 r4 r5;by_cases hcj:cap=i+1
    ·have HT2:Hid (SR w1 (.slice (some ⟨g,og,none⟩) 0 0) (L.drop (i+1))):=.inl ⟨_,_,rfl,List.drop_eq_nil_of_le (by rw[HN.out];omega)⟩;have hkj:k=i+1:=by omega
     generalize hj:i+1=j at i2 i21 i3 hcj hkj HT2 HL2
     subst hcj
     go_wp2_with (at_builtin;refine wpList_append_SR _ rfl _ _ 23 rfl underlying23 w.heap.size _ rfl _ HO1.out _ rfl _ HT2.out (by have:=HL1.out;have:=HL2.out;omega) HB1.out.size ?_)
     intro v2 w2 hown2 hg2;have HO2:Hid (NR w2 w.heap.size v2 (L.take i++L.drop (i+1))):=by
      rw[hj];exact NR.ofn hown2 (by simp)
     have HB2:Hid (Below w.heap.size w w2):=HB1.out.grown hg2 HB1.out.size (fun g hg=>(HO1.out.lt g hg).1);clear hown2 hg2;go_wp2;refine bodyPost_ret (v:=.tuple #[v2,.int i64 0]) (by simp[results,results45,go_sem]) rfl ⟨_,by rw[HCN.out],by rw[HCL.out];exact HO2.out,HB2.out⟩
    have HT2:Hid (SR w1 (.slice (some ⟨g,og+(i+1)*6,none⟩) (k-(i+1)) (cap-(i+1))) (L.drop (i+1))):=by
     have e1:(L.drop (i+1)).length=k-(i+1):=by rw[List.length_drop,HN.out]
     exact .inr ⟨g,og+(i+1)*6,cap-(i+1),by rw[e1],by rw[e1];omega,Nat.le_trans (Nat.sub_le _ _) HCM.out,HR1.out.drop (i+1)⟩
    generalize hj:i+1=j at i2 i21 i3 hcj HT2 HL2
    go_wp2_with (at_builtin;refine wpList_append_SR _ rfl _ _ 23 rfl underlying23 w.heap.size _ rfl _ HO1.out _ rfl _ HT2.out (by have:=HL1.out;have:=HL2.out;omega) HB1.out.size ?_)
    intro v2 w2 hown2 hg2;have HO2:Hid (NR w2 w.heap.size v2 (L.take i++L.drop (i+1))):=by
     rw[hj];exact NR.ofn hown2 (by simp)
    have HB2:Hid (Below w.heap.size w w2):=HB1.out.grown hg2 HB1.out.size (fun g hg=>(HO1.out.lt g hg).1);clear hown2 hg2;go_wp2;refine bodyPost_ret (v:=.tuple #[v2,.int i64 0]) (by simp[results,results45,go_sem]) rfl ⟨_,by rw[HCN.out],by rw[HCL.out];exact HO2.out,HB2.out⟩
theorem hrp_yes3 {w wd:World}{p B0:Nat}{O O':Nat→Prop}{N:Int}{a':AgT}{x:SlT}{vl vm vd:Value}{E:Int}(h:RfA wd p B0 O' N a' x vl vm vd)(hO:∀b,O' b→O b∨w.heap.size≤b)(hk:Kb (fun b=>¬O b) w wd)(r:Int)(t:TypeId):
 HrP w p B0 O N a' E [yesM N r] (.returned (.tuple #[.slice (some ⟨wd.heap.size,0,none⟩) 1 1,.int i64 E])) (wd.alloc (.cells #[.int i64 3,.int i64 N,.int i64 r,.int i64 0,.int i64 0,.bool false,.int i64 0,.int i64 0,.int i64 0,.int i64 0,.int i64 0,.int i64 0] t)):=by
 refine⟨_,_,_,rfl,msg_row wd 3 N r 0 0 false 0 0 0 0 0 0 t,?_,O',⟨x,vl,vm,vd,h.later ((bRQ _ _).alloc (nLQ _) _)⟩,hO,?_,hk.alloc _⟩
 ·intro ad ha;cases ha;exact hk.size
 intro ad ha ho;cases ha;have h1:=(h.lt _ ho).2;simp only at h1;omega
theorem nr_form {w:World}{B:Nat}{v:Value}{L:List Ru}(h:NR w B v L):∃y:SlT,v=slV y∧(∀b,b<B→offB y b)∧∀ad,y.1=some ad→B≤ad.block:=by
 have hl:=World.ownsRow.lt h
 rcases h.2 with ⟨rfl,_⟩ | ⟨g,cap,cur,rfl,_⟩
 ·exact⟨(none,0,0),rfl,(fun b _=>.inl rfl),fun _ h=>by cases h⟩
 refine⟨(some ⟨g,0,none⟩,L.length,cap),rfl,(fun b hb=>.inr fun ad ha=>?_),fun ad ha=>?_⟩
 ·cases ha;have:=(hl g rfl).1;show g≠b;omega
 cases ha;exact (hl g rfl).1
theorem wk_tab {t:List Ru}{l:List Op8}{j:Nat}(h:alN t (l.take j)≠0):wkTab t l=t:=by
 have e:alN t l=alN t (l.take j):=by
  have:=al_stays (l.drop j) (l.take j) h
  rwa [List.take_append_drop] at this
 rw[wkTab,if_neg (by rw[e];exact h)]
theorem rwork_any {p B0:Nat}{O:Nat→Prop}{N:Int}{a:AgT}{x:SlT}{vl vm vd:Value}(w:World)(h:RfA w p B0 O N a x vl vm vd)(hm:a.m.length=20)(hy:∀y∈a.m,y≤1000)(hdl:a.d.length≤1000000)(ht:tbN a.t=0)(hk:∀k∈a.l,k.o.r.n=0):
 Calls prog 20 #[.pointer (some ⟨p,0,none⟩)] w fun e w'=>HrP w p B0 O N (wkS a) (wkN a) (wkA N a) e w':=by
 have HRD:=rready_any w h hm hy;have H0:Hid (RfA w p B0 O N a x vl vm vd):=h;have HMl:Hid (a.m.length=20):=hm;have HMy:Hid (∀y∈a.m,y≤1000):=hy;have HDl:Hid (a.d.length≤1000000):=hdl;have HT:Hid (tbN a.t=0):=ht;have HKR:Hid (∀k∈a.l,k.o.r.n=0):=hk;have HRD2:Hid (Calls prog 22 #[.pointer (some ⟨p,0,none⟩)] w fun e w'=>e=.returned (.int i64 (rdyN a))∧w'=w):=HRD;obtain⟨Z,hZ⟩:∃Z,Z=rdyN a:=⟨_,rfl⟩;have HZ:Hid (Z=rdyN a):=hZ;clear h hm hy hdl ht hk HRD hZ;go_enter func20,ntmps20
 go_wp2_with fail
 refine HRD2.out.mono ?_;rintro e w1 ⟨rfl,rfl⟩;rw[←HZ.out];clear HRD2;by_cases hz:Z<0
 ·have HN:Hid (wkN a=6∧wkS a=a∧wkA N a=[]):=by
   show _∧_∧_;rw[HZ.out] at hz;exact⟨by rw[wkN,if_pos hz],by rw[wkS,if_pos hz],by rw[wkA,if_pos hz]⟩
  go_wp2;refine bodyPost_ret (v:=.tuple #[.slice none 0 0,.int i64 6]) (by simp[results,results20,go_sem]) rfl ?_;rw[HN.out.1,HN.out.2.1,HN.out.2.2];exact hrp_none H0.out (bRQ _ _)
 obtain⟨i,n,hi1,hi2,hin,hhas⟩:=rdy_yes (a:=a) (by rw[←HZ.out];exact hz);have hzi:Z=(i:Int):=by rw[HZ.out,hi1]
 subst hzi;have HW:Hid (wkN a=0∧wkS a={ a with t:=wkTab a.t (opsK a (i:Int)),d:=a.d++[(i:Int)] }∧wkA N a=[yesM N (i:Int)]):=by
  show _∧_∧_;refine⟨?_,?_,?_⟩
  ·rw[wkN,hi1,if_neg (by omega)]
  ·rw[wkS,hi1,if_neg (by omega)]
  rw[wkA,hi1,if_neg (by omega)]
 have HIN:Hid (manyK a (i:Int)=(n:Int)):=hin;have HHS:Hid (∀k,k<n→hasK a.l (i:Int) (k:Int)=true):=hhas;have hn1:n≤1000:=by
  have hl:i<a.m.length:=by rw[HMl.out];exact hi2
  have h1:=HMy.out _ (List.getElem_mem hl);have h2:manyK a (i:Int)=a.m[i]:=by
   rw[manyK,Int.toNat_natCast,List.getD_eq_getElem?_getD,List.getElem?_eq_getElem hl];rfl
  rw[←h2,hin] at h1;omega
 obtain⟨ax,nx,cx⟩:=x;have hM:∃g cm,vm=.slice (some ⟨g,0,none⟩) 20 cm:=by
  rcases H0.out.m.2 with ⟨_,e⟩ | ⟨g,cm,cur,e,_⟩
  ·rw[HMl.out] at e;cases e
  rw[HMl.out] at e;exact⟨g,cm,e⟩
 obtain⟨gm,cm,e2⟩:=hM;subst e2;have HMC:Hid (∀W,Below w1.heap.size w1 W→W.cell? ⟨p,3,none⟩=some (.slice (some ⟨gm,0,none⟩) 20 cm)∧W.cell? ⟨gm,i,none⟩=some (.int i64 (n:Int))):=fun W hb=>by
  have m:=H0.out.later hb;have hl:i<a.m.length:=by rw[HMl.out];exact hi2
  have m2:=m.m;rw[HMl.out] at m2;refine⟨m.c3,?_⟩;rw[m2.cellAt i (by show i<20*1;omega),cells_in,List.getElem?_map,List.getElem?_eq_getElem hl];have h2:manyK a (i:Int)=a.m[i]:=by
   rw[manyK,Int.toNat_natCast,List.getD_eq_getElem?_getD,List.getElem?_eq_getElem hl];rfl
  rw[←h2,HIN.out];rfl
 obtain⟨ops,hops⟩:∃ops,ops=opsK a (i:Int):=⟨_,rfl⟩;have HOL:Hid (ops.length=n):=by show _=_;rw[hops];exact ops_len HIN.out
 have HOA:Hid (∀k,k<n→ops.take (k+1)=ops.take k++[opK a.l (i:Int) (k:Int)]):=fun k hk=>by rw[hops];exact ops_at HIN.out hk
 rw[←hops] at HW;have c1:=H0.out.c1;have c1':w1.cell? ⟨p,1,none⟩=some (.slice ax nx cx):=c1;clear hi1 hin hhas hops c1 hz;have ib0:(0:Int)≤(i:Int):=by omega
 have ib1:(i:Int)<20:=by omega
 go_wp2
 go_loopw [5,6,7] (fun t e k wr=>∃(j:Nat) (ay:AdQ) (ny cy:Nat) (f:Int) (Lt:List Ru),j≤n∧k=.int i64 j∧t=.slice ay ny cy∧e=.int i64 f∧f=alN a.t (ops.take j)∧SR wr (.slice ay ny cy) Lt∧(f=0→Lt=alL a.t (ops.take j))∧(∀b,AgO p vl (.slice (some ⟨gm,0,none⟩) 20 cm) vd b→offB (ay,ny,cy) b)∧(∀ad,ay=some ad→ny=0∨ad.block<B0∨O ad.block∨w1.heap.size≤ad.block)∧Below w1.heap.size w1 wr) (fun _ _ k _=>n-(intOf k).toNat)
 case atStart=>exact⟨0,ax,nx,cx,0,a.t,by omega,rfl,rfl,rfl,rfl,H0.out.t,fun _=>rfl,H0.out.tx,(fun ad ha=>by rcases H0.out.tr with h | h;(exact .inl h);(exact .inr ((h ad ha).imp id .inl))),bRQ _ _⟩
 case round =>
  obtain⟨j,ay,ny,cy,f,Lt,hj,rfl,rfl,rfl,hf,hs,hL,ho,hq,hB⟩:=hrel;obtain⟨wz,hwz⟩:∃V,V=wr:=⟨_,rfl⟩;subst hwz;have HB:Hid (Below w1.heap.size w1 wz):=hB;have HF:Hid (f=alN a.t (ops.take j)):=hf;have HSR:Hid (SR wz (.slice ay ny cy) Lt):=hs;have HLt:Hid (f=0→Lt=alL a.t (ops.take j)):=hL;have HOF:Hid (∀b,AgO p vl (.slice (some ⟨gm,0,none⟩) 20 cm) vd b→offB (ay,ny,cy) b):=ho;have HQ:Hid (∀ad,ay=some ad→ny=0∨ad.block<B0∨O ad.block∨w1.heap.size≤ad.block):=hq;have H1:Hid (RfA wz p B0 O N a (ax,nx,cx) vl (.slice (some ⟨gm,0,none⟩) 20 cm) vd):=H0.out.later HB.out;obtain⟨k3,k4⟩:=HMC.out wz HB.out;have jb0:(0:Int)≤(j:Int):=by omega
  obtain⟨B,hB⟩:∃B:Bool,B=(decide ((j:Int)<(n:Int))&&(f==0)):=⟨_,rfl⟩;have HBB:Hid ((decide ((j:Int)<(n:Int))&&(f==0))=B):=hB.symm;clear hf hs hL ho hq hB c1';go_upto_region 7 with fail
  go_cut [31] from 19 to 30 (fun q w'=>q=.bool B∧w'=wz)
  case first =>
   by_cases hlt:j<n
   ·have hlt2:(j:Int)<(n:Int):=by omega
    have hbb:B=(f==0):=by rw[←HBB.out];simp[hlt2]
    subst hbb;go_wp2
    go_meet
    case rel=>exact⟨rfl,rfl⟩
   have hlt2:¬(j:Int)<(n:Int):=by omega
   have hbb:B=false:=by rw[←HBB.out];simp[hlt2]
   subst hbb;go_wp2
   go_meet
   case rel=>exact⟨rfl,rfl⟩
  case rest =>
   obtain⟨rfl,hwy⟩:=hcut;have hwx:=hwy.symm;subst hwx;clear hwy;cases B with
   | true =>
     have hb:=HBB.out;simp only[Bool.and_eq_true,decide_eq_true_eq,beq_iff_eq] at hb;obtain⟨hjn,hf0⟩:=hb;have hjn2:j<n:=by omega
     subst hf0;obtain⟨J,hJ,hix,hop⟩:=ix_op (HHS.out j hjn2);have HIX:Hid (ixG (kpB (i:Int) (j:Int)) a.l=(J:Int)):=hix;have hG:GS kptE wz vl a.l:=own_GS H1.out.l;obtain⟨al,nl,cl,e5,hnl,hnl2,hncl,hga⟩:=hG.form;obtain⟨gl,ol,e6,hGA,_⟩:=hga (by omega);subst e6;subst e5;obtain⟨y0,y1,y2,y3,y4,y5,y6,y7,y8,y9,hl2,hLk,q0,q1,q2,q3,q4,q5,q6,q7,q8,q9⟩:=kpt_at hGA hnl (show J<nl by omega);have HOP:Hid (opK a.l (i:Int) (j:Int)=⟨y2,y3,⟨y4,y5,y6,y7,y8,y9⟩⟩):=by
      show _=_;rw[←hop,hLk]
     have HRN:Hid (Ru.n ⟨y4,y5,y6,y7,y8,y9⟩=0):=by
      show _=_;have h1:=HKR.out _ (List.getElem_mem hl2);rw[hLk] at h1;exact h1
     have HK1:Hid (∀V,Below wz.heap.size wz V→RfA V p B0 O N a (ax,nx,cx) (.slice (some ⟨gl,ol,none⟩) nl cl) (.slice (some ⟨gm,0,none⟩) 20 cm) vd):=fun V hV=>H1.out.later hV
     have c2:=H1.out.c2;have hpl:p<wz.heap.size:=H1.out.pl;have hgl:gl<wz.heap.size:=bLQ _ _ q0;have Jb0:(0:Int)≤(J:Int):=by omega
     have Jb1:(J:Int)<(nl:Int):=by omega
     have HTB:Hid (tbN Lt=0∧Lt=alL a.t (ops.take j)):=by
      have h1:=HLt.out rfl;refine⟨?_,h1⟩;rw[h1];exact al_right _ _ HT.out HF.out.symm
     have HFA:Hid (alN a.t (ops.take j)=0):=HF.out.symm;clear hix hop hG hga hGA hLk q0 q1 hl2 HBB H1 k3 k4;go_upto_region 9 with fail
     go_cut [8] from 34 to 44 (fun q w'=>q=.pointer (some ⟨wz.heap.size,0,none⟩)∧(w'.cell? ⟨wz.heap.size,0,none⟩=some (.int i64 y2)∧w'.cell? ⟨wz.heap.size,1,none⟩=some (.bool y3)∧w'.cell? ⟨wz.heap.size,2,none⟩=some (.int i64 y4)∧w'.cell? ⟨wz.heap.size,3,none⟩=some (.int i64 y5)∧w'.cell? ⟨wz.heap.size,4,none⟩=some (.int i64 y6)∧w'.cell? ⟨wz.heap.size,5,none⟩=some (.int i64 y7)∧w'.cell? ⟨wz.heap.size,6,none⟩=some (.int i64 y8)∧w'.cell? ⟨wz.heap.size,7,none⟩=some (.int i64 y9))∧Below wz.heap.size wz w')
     case first =>
      clear HB HF HSR HLt HOF HOP HRN HTB HFA H0 HZ HMl HMy HDl HT HKR HW HIN HHS HMC HOL HOA
      go_region_with (go_at_call 44;refine (rfind_any (i:Int) (j:Int) _ (HK1.out _ (by first | exact Below.drew (bRQ _ _) | exact (bRQ _ _).drew.alloc (nLQ _) _ | exact ((bRQ _ _).alloc (nLQ _) _).drew | exact bRQ _ _))).mono ?_;rintro e w' ⟨rfl,rfl⟩;rw[HIX.out])
      all_goals (go_wp2_with fail;go_meet)
      all_goals exact⟨rfl,⟨by simp,by simp,by simp,by simp,by simp,by simp,by simp,by simp⟩,by first | exact ((bRQ _ _).alloc (nLQ _) _).drew | exact (bRQ _ _).drew.alloc (nLQ _) _⟩
     case rest =>
      obtain⟨rfl,⟨r0,r1,r2,r3,r4,r5,r6,r7⟩,hbc⟩:=hcut;have HBC:Hid (Below w1.heap.size w1 wc):=HB.out.trans (hbc.mono HB.out.size);have HS2:Hid (SR wc (.slice ay ny cy) Lt):=HSR.out.later hbc;clear hbc q2 q3 q4 q5 q6 q7 q8 q9 c2 HSR
      go_wp2_with fail
      refine (refDo_any ay ny cy y3 y4 y5 y6 y7 y8 y9 Lt _ HS2.out HTB.out.1).mono ?_;rintro e w5 ⟨u,rfl,hnr,hb5⟩;obtain⟨⟨ao,no,co⟩,rfl,hoff,hblk⟩:=nr_form hnr;have HNX:Hid (chN Lt y3 ⟨y4,y5,y6,y7,y8,y9⟩=alN a.t (ops.take (j+1))∧chL Lt y3 ⟨y4,y5,y6,y7,y8,y9⟩=alL a.t (ops.take (j+1))):=by
       obtain⟨h1,h2⟩:=do_ch2 (a:=y3) HTB.out.1 HRN.out;obtain⟨h3,h4⟩:=al_snoc (ops.take j) a.t ⟨y2,y3,⟨y4,y5,y6,y7,y8,y9⟩⟩;rw[if_pos HFA.out,←HTB.out.2] at h3 h4;rw[HOA.out j hjn2,HOP.out,h3,h4];exact⟨h1.symm,h2.symm⟩
      have HSR2:Hid (SR w5 (.slice ao no co) (chL Lt y3 ⟨y4,y5,y6,y7,y8,y9⟩)):=hnr.sr;have HB5:Hid (Below w1.heap.size w1 w5):=HBC.out.trans (hb5.mono HBC.out.size);have HOF2:Hid (∀b,AgO p (.slice (some ⟨gl,ol,none⟩) nl cl) (.slice (some ⟨gm,0,none⟩) 20 cm) vd b→offB (ao,no,co) b):=fun b hb=>hoff b (Nat.lt_of_lt_of_le (H0.out.lt b (H0.out.ob b hb)).2 HBC.out.size)
      have HQ2:Hid (∀ad,ao=some ad→no=0∨ad.block<B0∨O ad.block∨w1.heap.size≤ad.block):=fun ad ha=>.inr (.inr (.inr (Nat.le_trans HBC.out.size (hblk ad ha))))
      clear hnr hb5 hoff hblk r0 r1 r2 r3 r4 r5 r6 r7;go_wp2;go_roundw
      case rel=>exact⟨j+1,ao,no,co,_,_,by omega,by go_num,rfl,rfl,HNX.out.1,HSR2.out,fun _=>HNX.out.2,HOF2.out,HQ2.out,HB5.out⟩
      case measure=>simp[intOf];omega
   | false =>
     have HWT:Hid ((f=0→wkTab a.t ops=Lt)∧(f≠0→wkTab a.t ops=a.t)):=by
      refine⟨fun h=>?_,fun h=>?_⟩
      ·have hjn:j=n:=by
        have hb:=HBB.out;rw[h] at hb;simp at hb;omega
       have h1:=HF.out;have h2:=HLt.out h;rw[hjn,←HOL.out,List.take_length] at h1 h2;rw[wkTab,if_pos (by rw[←h1,h]),h2]
      exact wk_tab (j:=j) (by rw[←HF.out];exact h)
     have c1:=H1.out.c1;have c1':wz.cell? ⟨p,1,none⟩=some (.slice ax nx cx):=c1;have hfz:=H1.out.f 1;clear c1 k3 k4 HBB;have HK0:Hid (Kb (fun b=>¬O b) w1 wz):=Kb.of_below HB.out fun b hl _=>hl
     by_cases hf:f=0
     ·subst hf;obtain⟨wc,hwc⟩:∃V,V=wz.setCell ⟨p,1,none⟩ (.slice ay ny cy):=⟨_,rfl⟩;have HWC:Hid (wz.setCell ⟨p,1,none⟩ (.slice ay ny cy)=wc):=hwc.symm;have HX5:Hid (∃(O1:Nat→Prop) (y1:SlT),RfA wc p B0 O1 N { a with t:=wkTab a.t ops } y1 vl (.slice (some ⟨gm,0,none⟩) 20 cm) vd∧(∀b,O1 b→O b∨w1.heap.size≤b)∧Kb (fun b=>¬O b) w1 wc):=by
       rw[HWT.out.1 rfl,hwc];refine⟨_,_,H1.out.setT (y:=(ay,ny,cy)) HSR.out HOF.out,?_,HK0.out.setCell (q:=⟨p,1,none⟩) (fun _ h=>h H0.out.pO) _⟩;rintro b (h | ⟨ad,h1,h2,h3,h4,rfl⟩)
       ·exact .inl h
       rcases HQ.out ad h2 with h5 | h5 | h5 | h5
       ·exact absurd h5 h1
       ·omega
       ·exact .inl h5
       exact .inr h5
      obtain⟨O1,y1,H5,HO1,HK5⟩:∃(O1:Nat→Prop) (y1:SlT),Hid (RfA wc p B0 O1 N { a with t:=wkTab a.t ops } y1 vl (.slice (some ⟨gm,0,none⟩) 20 cm) vd)∧Hid (∀b,O1 b→O b∨w1.heap.size≤b)∧Hid (Kb (fun b=>¬O b) w1 wc):=HX5.out;clear hwc HX5;go_upto_region 15 with fail;rw[HWC.out];have HD5:Hid (a.d.length+1≤maxLen∧(a.d.length+1)*8≤140737488355328):=by
       have:=HDl.out;show _∧_;unfold maxLen;exact⟨by omega,by omega⟩
      obtain⟨ad,cd,e5⟩:=own_form H5.out.d;obtain⟨nd,hnd⟩:∃nd,nd=a.d.length:=⟨_,rfl⟩;have e5':vd=.slice ad nd cd:=by rw[hnd];exact e5
      subst e5';obtain⟨j1,hj1,hz0,hz1,hz2⟩:=info_parts infoInt;have HI1:Hid (Tryd.prog.info? 3=some j1):=hj1;have HI2:Hid (j1.zero=some (.int i64 0)):=hz0;have HI3:Hid (j1.size=1):=hz1;have HI4:Hid (j1.bytes=8):=hz2;have HBB2:Hid (p+1≤wc.heap.size):=H5.out.pl;have d4:=H5.out.c4;have d0:=H5.out.c0;have hpl:p<wc.heap.size:=H5.out.pl;clear hj1 hz0 hz1 hz2 e5 hnd HF HSR HLt HOF HB H1 HIN HHS HMC HOL HOA c1' hfz
      go_wp2_with (at_builtin;refine wpList_append_blk (E:=inE) _ rfl _ _ 25 3 rfl underlying25 j1 (.int i64 0) 8 HI1.out HI2.out HI3.out HI4.out rfl (p+1) (.slice ad nd cd) rfl a.d (H5.out.d.alloc _) wc.heap.size 0 1 rfl (i:Int) (vat_new wc [.int i64 (i:Int)] _) HD5.out.1 HD5.out.2 ?mz ?_)
      case mz =>
       have:=HBB2.out;simp;omega
      intro v' w9 ho9 hg9 hb9;obtain⟨a9,n9,c9,hv9⟩:∃a n c,v'=.slice a n c:=by obtain⟨a,c,h⟩:=own_form ho9;exact⟨a,_,c,h⟩
      subst hv9
      replace ho9:w9.ownsRow (p+1) 3 inE.n (.slice a9 n9 c9) (a.d++[(i:Int)]).length (cellsG inE (a.d++[(i:Int)])):=by
       rw[List.length_append];exact ho9
      have hba:Below wc.heap.size wc (wc.alloc (.cells #[.int i64 (i:Int)] 3)):=(bRQ _ _).alloc (nLQ _) _;have H6:=H5.out.later hba;have H7:Hid (RfA (w9.setCell ⟨p,4,none⟩ (.slice a9 n9 c9)) p B0 _ N { a with t:=wkTab a.t ops,d:=a.d++[(i:Int)] } y1 vl (.slice (some ⟨gm,0,none⟩) 20 cm) (.slice a9 n9 c9)):=H6.addD hg9 ho9 (by simpa using hb9);have HO7:Hid (∀b,(O1 b∨(Value.slice a9 n9 c9).ownBlock=some b)→O b∨w1.heap.size≤b):=by
       rintro b (h | h)
       ·exact HO1.out b h
       rcases hb9 with h9 | h9
       ·rw[h9] at h;exact HO1.out b (H5.out.ob b (.inr (.inr (.inr h))))
       rw[h9] at h;cases h;have h1:=HK5.out.size;exact .inr (Nat.le_trans h1 (Nat.le_succ _))
      have HK7:Hid (Kb (fun b=>¬O b) w1 (w9.setCell ⟨p,4,none⟩ (.slice a9 n9 c9))):=by
       refine ((HK5.out.alloc _).grown hg9 fun b hb hl h=>?_).setCell (q:=⟨p,4,none⟩) (fun _ h=>h H0.out.pO) _
       rcases HO1.out b (H5.out.ob b (.inr (.inr (.inr hb)))) with h2 | h2
       ·exact h h2
       omega
      have hne:some p≠(Value.slice ad nd cd).ownBlock:=RfA.pne H5.out.d;have z4:=hg9.cell H6.c4 hne;have z0:=hg9.cell H6.c0 hne;have zf:w9.frozen? ⟨p,4,none⟩=false:=by
       rw[World.frozen?_of_block (w:=wc.alloc (.cells #[.int i64 (i:Int)] 3)) (hg9.block p H6.pl hne)];exact H6.f 4
      have z0l:=bLQ w9 _ z0;clear ho9 hg9 hb9 hba H6 hne d4 d0 hpl;go_wp2;refine bodyPost_ret (v:=.tuple #[.slice (some ⟨(w9.setCell ⟨p,4,none⟩ (.slice a9 n9 c9)).heap.size,0,none⟩) 1 1,.int i64 0]) (by simp[results,results20,go_sem]) rfl ?_;rw[HW.out.1,HW.out.2.1,HW.out.2.2];exact hrp_yes3 H7.out HO7.out HK7.out (i:Int) _
     have hf2:(f==0)=false:=by simpa using hf
     obtain⟨wc,hwc⟩:∃V,V=wz:=⟨_,rfl⟩;subst hwc;obtain⟨O1,y1,H5,HO1,HK5⟩:∃(O1:Nat→Prop) (y1:SlT),Hid (RfA wc p B0 O1 N { a with t:=wkTab a.t ops } y1 vl (.slice (some ⟨gm,0,none⟩) 20 cm) vd)∧Hid (∀b,O1 b→O b∨w1.heap.size≤b)∧Hid (Kb (fun b=>¬O b) w1 wc):=by
      rw[HWT.out.2 hf];exact⟨O,_,H1.out,fun b h=>.inl h,HK0.out⟩
     go_upto_region 15 with fail;have HD5:Hid (a.d.length+1≤maxLen∧(a.d.length+1)*8≤140737488355328):=by
      have:=HDl.out;show _∧_;unfold maxLen;exact⟨by omega,by omega⟩
     obtain⟨ad,cd,e5⟩:=own_form H5.out.d;obtain⟨nd,hnd⟩:∃nd,nd=a.d.length:=⟨_,rfl⟩;have e5':vd=.slice ad nd cd:=by rw[hnd];exact e5
     subst e5';obtain⟨j1,hj1,hz0,hz1,hz2⟩:=info_parts infoInt;have HI1:Hid (Tryd.prog.info? 3=some j1):=hj1;have HI2:Hid (j1.zero=some (.int i64 0)):=hz0;have HI3:Hid (j1.size=1):=hz1;have HI4:Hid (j1.bytes=8):=hz2;have HBB2:Hid (p+1≤wc.heap.size):=H5.out.pl;have d4:=H5.out.c4;have d0:=H5.out.c0;have hpl:p<wc.heap.size:=H5.out.pl;clear hj1 hz0 hz1 hz2 e5 hnd HF HSR HLt HOF HB H1 HIN HHS HMC HOL HOA c1' hfz
     go_wp2_with (at_builtin;refine wpList_append_blk (E:=inE) _ rfl _ _ 25 3 rfl underlying25 j1 (.int i64 0) 8 HI1.out HI2.out HI3.out HI4.out rfl (p+1) (.slice ad nd cd) rfl a.d (H5.out.d.alloc _) wc.heap.size 0 1 rfl (i:Int) (vat_new wc [.int i64 (i:Int)] _) HD5.out.1 HD5.out.2 ?mz ?_)
     case mz =>
      have:=HBB2.out;simp;omega
     intro v' w9 ho9 hg9 hb9;obtain⟨a9,n9,c9,hv9⟩:∃a n c,v'=.slice a n c:=by obtain⟨a,c,h⟩:=own_form ho9;exact⟨a,_,c,h⟩
     subst hv9
     replace ho9:w9.ownsRow (p+1) 3 inE.n (.slice a9 n9 c9) (a.d++[(i:Int)]).length (cellsG inE (a.d++[(i:Int)])):=by
      rw[List.length_append];exact ho9
     have hba:Below wc.heap.size wc (wc.alloc (.cells #[.int i64 (i:Int)] 3)):=(bRQ _ _).alloc (nLQ _) _;have H6:=H5.out.later hba;have H7:Hid (RfA (w9.setCell ⟨p,4,none⟩ (.slice a9 n9 c9)) p B0 _ N { a with t:=wkTab a.t ops,d:=a.d++[(i:Int)] } y1 vl (.slice (some ⟨gm,0,none⟩) 20 cm) (.slice a9 n9 c9)):=H6.addD hg9 ho9 (by simpa using hb9);have HO7:Hid (∀b,(O1 b∨(Value.slice a9 n9 c9).ownBlock=some b)→O b∨w1.heap.size≤b):=by
      rintro b (h | h)
      ·exact HO1.out b h
      rcases hb9 with h9 | h9
      ·rw[h9] at h;exact HO1.out b (H5.out.ob b (.inr (.inr (.inr h))))
      rw[h9] at h;cases h;have h1:=HK5.out.size;exact .inr (Nat.le_trans h1 (Nat.le_succ _))
     have HK7:Hid (Kb (fun b=>¬O b) w1 (w9.setCell ⟨p,4,none⟩ (.slice a9 n9 c9))):=by
      refine ((HK5.out.alloc _).grown hg9 fun b hb hl h=>?_).setCell (q:=⟨p,4,none⟩) (fun _ h=>h H0.out.pO) _
      rcases HO1.out b (H5.out.ob b (.inr (.inr (.inr hb)))) with h2 | h2
      ·exact h h2
      omega
     have hne:some p≠(Value.slice ad nd cd).ownBlock:=RfA.pne H5.out.d;have z4:=hg9.cell H6.c4 hne;have z0:=hg9.cell H6.c0 hne;have zf:w9.frozen? ⟨p,4,none⟩=false:=by
      rw[World.frozen?_of_block (w:=wc.alloc (.cells #[.int i64 (i:Int)] 3)) (hg9.block p H6.pl hne)];exact H6.f 4
     have z0l:=bLQ w9 _ z0;clear ho9 hg9 hb9 hba H6 hne d4 d0 hpl;go_wp2;refine bodyPost_ret (v:=.tuple #[.slice (some ⟨(w9.setCell ⟨p,4,none⟩ (.slice a9 n9 c9)).heap.size,0,none⟩) 1 1,.int i64 0]) (by simp[results,results20,go_sem]) rfl ?_;rw[HW.out.1,HW.out.2.1,HW.out.2.2];exact hrp_yes3 H7.out HO7.out HK7.out (i:Int) _
structure NwA (W:World)(p:Nat)(n:Int)(ao:AdQ)(k c:Nat)(v:Value)(m:Nat):Prop where
 c0:W.cell? ⟨p,0,none⟩=some (.int i64 n)
 c1:W.cell? ⟨p,1,none⟩=some (.slice ao k c)
 c2:W.cell? ⟨p,2,none⟩=some (.slice none 0 0)
 c3:W.cell? ⟨p,3,none⟩=some v
 c4:W.cell? ⟨p,4,none⟩=some (.slice none 0 0)
 f:∀i,W.frozen? ⟨p,i,none⟩=false
 r:W.ownsRow (p+1) 3 inE.n v (List.replicate m (-1:Int)).length (cellsG inE (List.replicate m (-1)))
section
variable {W W':World}{p k c m:Nat}{n:Int}{ao:AdQ}{v:Value}
theorem NwA.pl (h:NwA W p n ao k c v m):p<W.heap.size:=bLQ _ _ h.c0
theorem NwA.later (h:NwA W p n ao k c v m)(hb:Below W.heap.size W W'):NwA W' p n ao k c v m:=
 ⟨cell_later hb h.c0,cell_later hb h.c1,cell_later hb h.c2,cell_later hb h.c3,cell_later hb h.c4,fun i=>by rw[hb.frozen (p:=⟨p,i,none⟩) h.pl];exact h.f i,own_below h.r hb⟩
theorem NwA.add (h:NwA W p n ao k c v m){u:Value}(hg:W.grownBy W' v.ownBlock)(ho:W'.ownsRow (p+1) 3 inE.n u (List.replicate (m+1) (-1:Int)).length (cellsG inE (List.replicate (m+1) (-1)))):NwA (W'.setCell ⟨p,3,none⟩ u) p n ao k c u (m+1):=by
 have hne:some p≠v.ownBlock:=RfA.pne h.r;refine⟨?_,?_,?_,World.cell?_setCell_same _ _ _ (hg.cell h.c3 hne),?_,fun i=>?_,RfA.low ho⟩
 ·rw[World.cell?_setCell_other _ _ _ _ (by simp)];exact hg.cell h.c0 hne
 ·rw[World.cell?_setCell_other _ _ _ _ (by simp)];exact hg.cell h.c1 hne
 ·rw[World.cell?_setCell_other _ _ _ _ (by simp)];exact hg.cell h.c2 hne
 ·rw[World.cell?_setCell_other _ _ _ _ (by simp)];exact hg.cell h.c4 hne
 rw[World.frozen?_setCell,World.frozen?_of_block (w:=W) (hg.block p h.pl hne)];exact h.f i
theorem NwA.ag {w:World}{B0:Nat}{t:List Ru}(h:NwA W w.heap.size n ao k c v 20)(hb:Below w.heap.size w W)(hs:SR w (.slice ao k c) t)(hB:B0≤w.heap.size)(ht:k=0∨∀ad,ao=some ad→ad.block<B0):
 RfA W w.heap.size B0 (fun b=>w.heap.size≤b∧b<W.heap.size) n (ag0 t) (ao,k,c) (.slice none 0 0) v (.slice none 0 0):=by
 have hs':SR w (slV (ao,k,c)) t:=hs;refine⟨h.c0,h.c1,h.c2,h.c3,h.c4,h.f,hs'.later hb,?_,?_,World.ownsRow_nil _ _ _ _,h.r,World.ownsRow_nil _ _ _ _,?_,?_,fun b hb=>⟨Nat.le_trans hB hb.1,hb.2⟩⟩
 ·rintro b (rfl | hb1 | hb1 | hb1)
  ·exact hs'.off (nLQ _)
  ·cases hb1
  ·exact hs'.off (Nat.le_of_succ_le (h.r.lt b hb1).1)
  cases hb1
 ·rcases ht with h1 | h1
  ·exact .inl h1
  exact .inr fun ad ha=>.inl (h1 ad ha)
 ·cases hv:v.ownBlock with
  | none=>exact .inl rfl
  | some b=>exact .inr (by intro e;cases e)
 rintro b (rfl | hb1 | hb1 | hb1)
 ·exact⟨nLQ _,h.pl⟩
 ·cases hb1
 ·exact⟨Nat.le_of_succ_le (h.r.lt b hb1).1,(h.r.lt b hb1).2⟩
 cases hb1
end
theorem rnew_any (n:Int)(ao:AdQ)(k c:Nat)(t:List Ru)(B0:Nat)(w:World)(hs:SR w (.slice ao k c) t)(hB:B0≤w.heap.size)(ht:k=0∨∀ad,ao=some ad→ad.block<B0):
 Calls prog 18 #[.int i64 n,.slice ao k c] w fun e w'=>e=.returned (.pointer (some ⟨w.heap.size,0,none⟩))∧AgR w' w.heap.size B0 (fun b=>w.heap.size≤b∧b<w'.heap.size) n (ag0 t)∧Below w.heap.size w w':=by
 obtain⟨w1,hw1⟩:∃V,V=w.alloc (.cells #[.int i64 n,.slice ao k c,.slice none 0 0,.slice none 0 0,.slice none 0 0] 69):=⟨_,rfl⟩;have HW1:Hid (w.alloc (.cells #[.int i64 n,.slice ao k c,.slice none 0 0,.slice none 0 0,.slice none 0 0] 69)=w1):=hw1.symm;have HB1:Hid (Below w.heap.size w w1):=by rw[hw1];exact (bRQ _ _).alloc (nLQ _) _
 have HN1:Hid (NwA w1 w.heap.size n ao k c (.slice none 0 0) 0):=by
  have hv:=vat_new w [.int i64 n,.slice ao k c,.slice none 0 0,.slice none 0 0,.slice none 0 0] 69;rw[show w.alloc (.cells [.int i64 n,.slice ao k c,.slice none 0 0,.slice none 0 0,.slice none 0 0].toArray 69)=w1 from hw1.symm] at hv;have h0:=hv 0 _ rfl;have h1:=hv 1 _ rfl;have h2:=hv 2 _ rfl;have h3:=hv 3 _ rfl;have h4:=hv 4 _ rfl;simp only[Nat.zero_add] at h0 h1 h2 h3 h4;exact⟨h0,h1,h2,h3,h4,fun i=>by rw[hw1];simp,World.ownsRow_nil _ _ _ _⟩
 have HFIN:Hid (∀W v,NwA W w.heap.size n ao k c v 20→Below w.heap.size w W→AgR W w.heap.size B0 (fun b=>w.heap.size≤b∧b<W.heap.size) n (ag0 t)):=fun W v h hb=>⟨_,_,_,_,h.ag hb hs hB ht⟩
 clear hw1 hs hB ht;go_enter func18,ntmps18
 go_wp2_with fail
 rw[HW1.out];clear HW1
 go_loopw [6] (fun i wr=>∃(j:Nat) (v:Value),j≤20∧i=.int i64 j∧NwA wr w.heap.size n ao k c v j∧Below w.heap.size w wr) (fun i _=>20-(intOf i).toNat)
 case atStart=>exact⟨0,_,by omega,rfl,HN1.out,HB1.out⟩
 case round =>
  obtain⟨j,v,hj,rfl,hn,hb⟩:=hrel;have HN:Hid (NwA wr w.heap.size n ao k c v j):=hn;have HB:Hid (Below w.heap.size w wr):=hb;clear hn hb HN1 HB1;by_cases hlt:j<20
  ·obtain⟨av,cv,e5⟩:=own_form HN.out.r;rw[List.length_replicate] at e5;subst e5;obtain⟨j1,hj1,hz0,hz1,hz2⟩:=info_parts infoInt;have HI1:Hid (Tryd.prog.info? 3=some j1):=hj1;have HI2:Hid (j1.zero=some (.int i64 0)):=hz0;have HI3:Hid (j1.size=1):=hz1;have HI4:Hid (j1.bytes=8):=hz2;have HP:Hid (w.heap.size+1≤wr.heap.size):=HN.out.pl;have d3:=HN.out.c3;have HL1:Hid ((List.replicate j (-1:Int)).length+1≤maxLen∧((List.replicate j (-1:Int)).length+1)*8≤140737488355328):=by
    show _∧_;rw[List.length_replicate];unfold maxLen;exact⟨by omega,by omega⟩
   have hpl:w.heap.size<wr.heap.size:=HN.out.pl;have jb0:(0:Int)≤(j:Int):=by omega
   have jb1:(j:Int)<20:=by omega
   clear hj1 hz0 hz1 hz2
   go_wp2_with (at_builtin;refine wpList_append_blk (E:=inE) _ rfl _ _ 25 3 rfl underlying25 j1 (.int i64 0) 8 HI1.out HI2.out HI3.out HI4.out rfl (w.heap.size+1) (.slice av j cv) rfl (List.replicate j (-1)) (HN.out.r.alloc _) wr.heap.size 0 1 rfl (-1:Int) (vat_new wr [.int i64 (-1)] _) HL1.out.1 HL1.out.2 ?mz ?_)
   case mz =>
    have:=HP.out;simp;omega
   intro v' w9 ho9 hg9 hb9;obtain⟨a9,n9,c9,hv9⟩:∃a n c,v'=.slice a n c:=by obtain⟨a,c,h⟩:=own_form ho9;exact⟨a,_,c,h⟩
   subst hv9;have hba:Below wr.heap.size wr (wr.alloc (.cells #[.int i64 (-1)] 3)):=(bRQ _ _).alloc (nLQ _) _;have H6:=HN.out.later hba;have ho8:w9.ownsRow (w.heap.size+1) 3 inE.n (.slice a9 n9 c9) (List.replicate (j+1) (-1:Int)).length (cellsG inE (List.replicate (j+1) (-1))):=by
    rw[List.replicate_succ',List.length_append,List.length_replicate];exact ho9
   have H7:Hid (NwA (w9.setCell ⟨w.heap.size,3,none⟩ (.slice a9 n9 c9)) w.heap.size n ao k c (.slice a9 n9 c9) (j+1)):=H6.add hg9 ho8;have hb6:Below w.heap.size w (wr.alloc (.cells #[.int i64 (-1)] 3)):=HB.out.trans (hba.mono HB.out.size);have HB7:Hid (Below w.heap.size w (w9.setCell ⟨w.heap.size,3,none⟩ (.slice a9 n9 c9))):=
    (hb6.grown hg9 hb6.size (fun g hg=>Nat.le_of_succ_le (H6.r.lt g hg).1)).setCell (p:=⟨w.heap.size,3,none⟩) (nLQ _) _
   have hne:some w.heap.size≠(Value.slice av j cv).ownBlock:=RfA.pne HN.out.r;have z3:=hg9.cell H6.c3 hne;have zf:w9.frozen? ⟨w.heap.size,3,none⟩=false:=by
    rw[World.frozen?_of_block (w:=wr.alloc (.cells #[.int i64 (-1)] 3)) (hg9.block _ H6.pl hne)];exact H6.f 3
   clear ho9 ho8 hg9 hb9 hba H6 hne d3 hpl hb6;go_wp2;go_roundw
   case rel=>exact⟨j+1,_,by omega,by go_num,H7.out,HB7.out⟩
   case measure=>simp[intOf];omega
  obtain rfl:j=20:=by omega
  go_wp2;go_ret;exact⟨rfl,HFIN.out _ _ HN.out HB.out,HB.out⟩
theorem gs_kb {α:Type}{E:Enc α}{W W':World}{ao:AdQ}{n c:Nat}{L:List α}{p:Nat→Prop}(h:GS E W (.slice ao n c) L)(hk:Kb p W W')(hp:∀ad,ao=some ad→p ad.block):GS E W' (.slice ao n c) L:=by
 rcases h with ⟨ao',cap',e,rfl⟩ | ⟨g,o,cap',e,h1,h2,h3⟩
 ·exact .inl ⟨ao',cap',e,rfl⟩
 cases e;have hq:p g:=hp ⟨g,o,none⟩ rfl;exact .inr ⟨g,o,c,rfl,h1,h2,fun i hi j u hu=>hk.at (h3 i hi j u hu) hq⟩
structure AgOK (a:AgT)(k:Nat):Prop where
 m:a.m.length=20
 y:∀y∈a.m,y≤1000
 l:a.l.length≤k
 d:a.d.length≤k
 t:tbN a.t=0
 r:∀q∈a.l,q.o.r.n=0
theorem ok_new {t:List Ru}(h:tbN t=0):AgOK (ag0 t) 0:=by
 refine⟨by simp[ag0],fun y hy=>?_,by simp[ag0],by simp[ag0],h,fun q hq=>by simp[ag0] at hq⟩;have:y = -1:=by
  have h1:y∈List.replicate 20 (-1:Int):=hy;exact (List.mem_replicate.1 h1).2
 omega
theorem AgOK.mono {a:AgT}{k k':Nat}(h:AgOK a k)(hk:k≤k'):AgOK a k':=⟨h.m,h.y,Nat.le_trans h.l hk,Nat.le_trans h.d hk,h.t,h.r⟩
theorem ok_hr {a:AgT}{k:Nat}{n:Int}{m:Mg}(h:AgOK a k):AgOK (hrS n a m) (k+1):=by
 unfold hrS
 split
 ·next hc =>
  have hz:=hr_zero.1 hc.1;have hR:=mg_rng.1 (mg_1 hz.1).1
  split
  ·split
   ·refine⟨by rw[List.length_set];exact h.m,fun y hy=>?_,Nat.le_succ_of_le h.l,Nat.le_succ_of_le h.d,h.t,h.r⟩
    rcases List.mem_or_eq_of_mem_set hy with h1 | rfl
    ·exact h.y y h1
    omega
   exact h.mono (Nat.le_succ k)
  next h2 =>
  split
  ·exact h.mono (Nat.le_succ k)
  refine⟨h.m,h.y,by have:=h.l;simp;omega,Nat.le_succ_of_le h.d,h.t,fun q hq=>?_⟩
  rcases List.mem_append.1 hq with h1 | h1
  ·exact h.r q h1
  rw[List.mem_singleton] at h1;subst h1;exact ((mg_1 hz.1).2.1 (by omega)).1
 exact h.mono (Nat.le_succ k)
theorem ok_wk {a:AgT}{k:Nat}(h:AgOK a k):AgOK (wkS a) (k+1):=by
 unfold wkS
 split
 ·exact h.mono (Nat.le_succ k)
 refine⟨h.m,h.y,Nat.le_succ_of_le h.l,by have:=h.d;simp;omega,?_,h.r⟩;show tbN (wkTab a.t _)=0;unfold wkTab
 split
 ·next h1=>exact al_right _ _ h.t h1
 exact h.t
def HrG (Pg:World→Nat→Nat→(Nat→Prop)→Int→AgT→Prop)(vE:Int→Value)(w:World)(p B0:Nat)(O:Nat→Prop)(N:Int)(a':AgT)(E:Int)(l:List Mg)(e:Ending)(w':World):Prop:=
 ∃ a1 n1 c1,e=.returned (.tuple #[.slice a1 n1 c1,vE E])∧GS msgE w' (.slice a1 n1 c1) l∧(∀ad,a1=some ad→w.heap.size≤ad.block) ∧
   ∃O',Pg w' p B0 O' N a'∧(∀b,O' b→O b∨w.heap.size≤b)∧(∀ad,a1=some ad→¬O' ad.block)∧Kb (fun b=>¬O b) w w'
def nwN (n:Int)(t:List Ru):Int:=if 1≤n∧n≤6 then tbN t else 1
structure PgI (Pg:World→Nat→Nat→(Nat→Prop)→Int→AgT→Prop):Prop where
 kb:∀{W W':World} {p B0:Nat} {O:Nat→Prop} {n:Int} {a:AgT},Pg W p B0 O n a→Kb (fun b=>b<B0∨O b) W W'→Pg W' p B0 O n a
 lt:∀{W:World} {p B0:Nat} {O:Nat→Prop} {n:Int} {a:AgT},Pg W p B0 O n a→∀b,O b→B0≤b∧b<W.heap.size
 hear:∀{p B0:Nat} {O:Nat→Prop} {N:Int} {a:AgT} {k:Nat} (x0 x1 x2 x3 x4:Int) (x5:Bool) (x6 x7 x8 x9 x10 x11:Int) (w:World),Pg w p B0 O N a→AgOK a k→k≤1000 →
  Calls prog 8 #[.pointer (some ⟨p,0,none⟩),.agg #[.int i64 x0,.int i64 x1,.int i64 x2,.int i64 x3,.int i64 x4,.bool x5,.int i64 x6,.int i64 x7,.int i64 x8,.int i64 x9,.int i64 x10,.int i64 x11]] w fun e w' =>
   HrG Pg noV w p B0 O N (hrS N a ⟨x0,x1,x2,x3,⟨x4,x5,⟨x6,x7,x8,x9,x10,x11⟩⟩⟩) (hrN N ⟨x0,x1,x2,x3,⟨x4,x5,⟨x6,x7,x8,x9,x10,x11⟩⟩⟩) (hrA N a ⟨x0,x1,x2,x3,⟨x4,x5,⟨x6,x7,x8,x9,x10,x11⟩⟩⟩) e w'
 work:∀{p B0:Nat} {O:Nat→Prop} {N:Int} {a:AgT} {k:Nat} (w:World),Pg w p B0 O N a→AgOK a k→k≤1000 →
  Calls prog 13 #[.pointer (some ⟨p,0,none⟩)] w fun e w'=>HrG Pg noV w p B0 O N (wkS a) (wkN a) (wkA N a) e w'
 new:∀(n:Int) (ao:AdQ) (k c:Nat) (t:List Ru) (B0:Nat) (w:World),SR w (.slice ao k c) t→B0≤w.heap.size→(k=0∨∀ad,ao=some ad→ad.block<B0) →
  Calls prog 6 #[.int i64 n,.slice ao k c] w fun e w'=>∃v,e=.returned (.tuple #[v,noV (nwN n t)])∧Below w.heap.size w w'∧(nwN n t=0→∃p O,v=.pointer (some ⟨p,0,none⟩)∧Pg w' p B0 O n (ag0 t)∧∀b,O b→w.heap.size≤b)
 table:∀{p B0:Nat} {O:Nat→Prop} {N:Int} {a:AgT} {k:Nat} (w:World),Pg w p B0 O N a→AgOK a k→k≤1000 →
  Calls prog 11 #[.pointer (some ⟨p,0,none⟩)] w fun e w'=>∃a1 n1 c1,e=.returned (.slice a1 n1 c1)∧SR w' (.slice a1 n1 c1) a.t∧Below w.heap.size w w'
 done:∀{p B0:Nat} {O:Nat→Prop} {N:Int} {a:AgT} {k:Nat} (w:World),Pg w p B0 O N a→AgOK a k→k≤1000 →
  Calls prog 16 #[.pointer (some ⟨p,0,none⟩)] w fun e w'=>∃a1 n1 c1,e=.returned (.slice a1 n1 c1)∧GS inE w' (.slice a1 n1 c1) a.d∧Below w.heap.size w w'
 ready:∀{p B0:Nat} {O:Nat→Prop} {N:Int} {a:AgT} {k:Nat} (w:World),Pg w p B0 O N a→AgOK a k→k≤1000 →
  Calls prog 9 #[.pointer (some ⟨p,0,none⟩)] w fun e w'=>e=.returned (.int i64 (rdyN a))∧Below w.heap.size w w'
 heard:∀{p B0:Nat} {O:Nat→Prop} {N:Int} {a:AgT} {k:Nat} (r:Int) (w:World),Pg w p B0 O N a→AgOK a k→k≤1000 →
  Calls prog 12 #[.pointer (some ⟨p,0,none⟩),.int i64 r] w fun e w'=>e=.returned (.int i64 (hdN a.l r:Nat))∧Below w.heap.size w w'
structure AgS (Pg:World→Nat→Nat→(Nat→Prop)→Int→AgT→Prop)(w:World)(p1 p2:Nat)(O1 O2:Nat→Prop)(N:Int)(a:AgT)(k:Nat)(W:World):Prop where
 g:Pg W p1 w.heap.size O1 N a
 r:AgR W p2 w.heap.size O2 N a
 d:∀b,O1 b→¬O2 b
 ok:AgOK a k
 b:Below w.heap.size w W
 l2:∀b,O2 b→w.heap.size≤b∧b<W.heap.size
section
variable {Pg:World→Nat→Nat→(Nat→Prop)→Int→AgT→Prop}{w W W':World}{p1 p2:Nat}{O1 O2:Nat→Prop}{N:Int}{a:AgT}{k:Nat}
theorem AgR.lt {p B0:Nat}{O:Nat→Prop}(h:AgR W p B0 O N a):∀b,O b→B0≤b∧b<W.heap.size:=by
 obtain⟨x,vl,vm,vd,h⟩:=h;exact h.lt
theorem AgS.later (I:PgI Pg)(h:AgS Pg w p1 p2 O1 O2 N a k W)(hb:Below W.heap.size W W'):AgS Pg w p1 p2 O1 O2 N a k W':=
 ⟨I.kb h.g (Kb.of_below hb fun b hl _=>hl),h.r.kb (Kb.of_below hb fun b hl _=>hl),h.d,h.ok,h.b.trans (hb.mono h.b.size),fun b hb1=>⟨(h.l2 b hb1).1,Nat.lt_of_lt_of_le (h.l2 b hb1).2 hb.size⟩⟩
theorem ag_two (I:PgI Pg){W2 W3:World}{a':AgT}{O1' O2':Nat→Prop}(h:AgS Pg w p1 p2 O1 O2 N a k W)(hok:AgOK a' (k+1))
 (h2:AgR W2 p2 w.heap.size O2' N a') (hO2:∀b,O2' b→O2 b∨W.heap.size≤b) (k2:Kb (fun b=>¬O2 b) W W2)
 (h3:Pg W3 p1 w.heap.size O1' N a') (hO1:∀b,O1' b→O1 b∨W2.heap.size≤b) (k3:Kb (fun b=>¬O1 b) W2 W3):AgS Pg w p1 p2 O1' O2' N a' (k+1) W3:=by
 have l1:=I.lt h.g;have l2:=h.r.lt;have l22:=h2.lt;have hr3:AgR W3 p2 w.heap.size O2' N a':=h2.kb (k3.mono fun b hb hc=>by
  rcases hc with hc | hc
  ·exact fun h1=>by have:=(l1 b h1).1;omega
  rcases hO2 b hc with h5 | h5
  ·exact fun h1=>h.d b h1 h5
  exact fun h1=>by have:=(l1 b h1).2;omega)
 refine⟨h3,hr3,fun b h1 h5=>?_,hok,?_,hr3.lt⟩
 ·rcases hO1 b h1 with h6 | h6
  ·rcases hO2 b h5 with h7 | h7
   ·exact h.d b h6 h7
   have:=(l1 b h6).2;omega
  have:=(l22 b h5).2;omega
 have hs:=h.b.size;exact (h.b.trans (k2.below hs fun b hb hc=>by have:=(l2 b hc).1;omega)).trans (k3.below (Nat.le_trans hs k2.size) fun b hb hc=>by have:=(l1 b hc).1;omega)
theorem ag_keep (I:PgI Pg){W2:World}(h:AgS Pg w p1 p2 O1 O2 N a k W)(k2:Kb (fun b=>¬O2 b) W W2):Pg W2 p1 w.heap.size O1 N a:=
 I.kb h.g (k2.mono fun b hb hc=>by
  have l2:=h.r.lt
  rcases hc with hc | hc
  ·exact fun h1=>by have:=(l2 b h1).1;omega
  exact h.d b hc)
end
theorem rhear_R {p B0:Nat}{O:Nat→Prop}{N:Int}{a:AgT}{k:Nat}(x0 x1 x2 x3 x4:Int)(x5:Bool)(x6 x7 x8 x9 x10 x11:Int)(w:World)(h:AgR w p B0 O N a)(hok:AgOK a k)(hk:k≤1000):
 Calls prog 19 #[.pointer (some ⟨p,0,none⟩),.agg #[.int i64 x0,.int i64 x1,.int i64 x2,.int i64 x3,.int i64 x4,.bool x5,.int i64 x6,.int i64 x7,.int i64 x8,.int i64 x9,.int i64 x10,.int i64 x11]] w fun e w' =>
  HrG AgR (.int i64) w p B0 O N (hrS N a ⟨x0,x1,x2,x3,⟨x4,x5,⟨x6,x7,x8,x9,x10,x11⟩⟩⟩) (hrN N ⟨x0,x1,x2,x3,⟨x4,x5,⟨x6,x7,x8,x9,x10,x11⟩⟩⟩) (hrA N a ⟨x0,x1,x2,x3,⟨x4,x5,⟨x6,x7,x8,x9,x10,x11⟩⟩⟩) e w':=by
 obtain⟨x,vl,vm,vd,h⟩:=h;exact rhear_any x0 x1 x2 x3 x4 x5 x6 x7 x8 x9 x10 x11 w h hok.m (by have:=hok.l;omega)
theorem rwork_R {p B0:Nat}{O:Nat→Prop}{N:Int}{a:AgT}{k:Nat}(w:World)(h:AgR w p B0 O N a)(hok:AgOK a k)(hk:k≤1000):
 Calls prog 20 #[.pointer (some ⟨p,0,none⟩)] w fun e w'=>HrG AgR (.int i64) w p B0 O N (wkS a) (wkN a) (wkA N a) e w':=by
 obtain⟨x,vl,vm,vd,h⟩:=h;exact rwork_any w h hok.m hok.y (by have:=hok.d;omega) hok.t hok.r
theorem msg_same (ao:AdQ)(n cap:Nat)(ao2:AdQ)(n2 cap2:Nat)(L M:List (Mg))(w:World)(hs:GS msgE w (.slice ao n cap) L)(ht:GS msgE w (.slice ao2 n2 cap2) M):
 Calls prog 15 #[.slice ao n cap,.slice ao2 n2 cap2] w fun e w'=>e=.returned (.bool (smG msgB L M))∧Below w.heap.size w w':=by
 obtain⟨ao',n',cap',e,hn,hn2,hn3,ha⟩:=hs.form;cases e;obtain⟨ao',n',cap',e,hm,hm2,hm3,hb⟩:=ht.form;cases e;have HN:Hid (L.length=n):=hn;have HM:Hid (M.length=n2):=hm;have HA:Hid (0<n→∃g o,ao=some ⟨g,o,none⟩∧GAt msgE w g o L∧cap≤maxLen):=ha;have HA2:Hid (0<n2→∃g o,ao2=some ⟨g,o,none⟩∧GAt msgE w g o M∧cap2≤maxLen):=hb;have hn63:n≤9223372036854775807:=by unfold maxLen at hn2;omega
 clear hs ht hn ha hm hb hn2 hm2;obtain⟨R,hR⟩:∃R,R=smG msgB L M:=⟨_,rfl⟩;have HR:Hid (R=smG msgB L M):=hR;rw[←hR];clear hR;by_cases hl:n=n2
 ·subst hl;go_enter func15,ntmps15;go_wp2
  go_loopw [5] (fun i wr=>∃k:Nat,k≤n∧i=.int i64 k∧(∀j,j<k→∀(h1:j<L.length) (h2:j<M.length),msgB L[j] M[j]=true)∧Below w.heap.size w wr) (fun i _=>n-(intOf i).toNat)
  case atStart=>exact⟨0,by omega,rfl,fun j hj=>absurd hj (by omega),bRQ _ _⟩
  case round =>
   obtain⟨k,hk,rfl,hall,hB⟩:=hrel;have HB:Hid (Below w.heap.size w wr):=hB;have HALL:Hid (∀j,j<k→∀(h1:j<L.length) (h2:j<M.length),msgB L[j] M[j]=true):=hall;clear hall;by_cases hlt:k<n
   ·obtain⟨g,og,hao,hc,_⟩:=HA.out (by omega);obtain⟨g2,og2,hao2,hc2,_⟩:=HA2.out (by omega);subst hao hao2;obtain⟨x0,x1,x2,x3,x4,x5,x6,x7,x8,x9,x10,x11,hkl,hLk,q0,q1,q2,q3,q4,q5,q6,q7,q8,q9,q10,q11⟩:=msg_at (hc.later hB) HN.out hlt;obtain⟨y0,y1,y2,y3,y4,y5,y6,y7,y8,y9,y10,y11,hkm,hMk,r0,r1,r2,r3,r4,r5,r6,r7,r8,r9,r10,r11⟩:=msg_at (hc2.later hB) HM.out hlt;have HCE:Hid (msgCD w g (og+k*12) x0 x1 x2 x3 x4 x5 x6 x7 x8 x9 x10 x11 g2 (og2+k*12) y0 y1 y2 y3 y4 y5 y6 y7 y8 y9 y10 y11 wr):=⟨hB,⟨q0,q1,q2,q3,q4,q5,q6,q7,q8,q9,q10,q11⟩,r0,r1,r2,r3,r4,r5,r6,r7,r8,r9,r10,r11⟩;have HLK:Hid (L[k]=⟨x0,x1,x2,x3,⟨x4,x5,⟨x6,x7,x8,x9,x10,x11⟩⟩⟩∧M[k]=⟨y0,y1,y2,y3,⟨y4,y5,⟨y6,y7,y8,y9,y10,y11⟩⟩⟩):=⟨hLk,hMk⟩;clear q0 q1 q2 q3 q4 q5 q6 q7 q8 q9 q10 q11 r0 r1 r2 r3 r4 r5 r6 r7 r8 r9 r10 r11 hB hc hc2 hLk hMk HA HA2;go_upto_region 6 with fail;have kb0:(0:Int)≤(k:Int):=by omega
    have kb1:(k:Int)<(n:Int):=by omega
    go_cut [25] from 11 to 25 (fun c w'=>c=.bool (!msgB ⟨x0,x1,x2,x3,⟨x4,x5,⟨x6,x7,x8,x9,x10,x11⟩⟩⟩ ⟨y0,y1,y2,y3,⟨y4,y5,⟨y6,y7,y8,y9,y10,y11⟩⟩⟩)∧Below w.heap.size w w')
    case first =>
     as_aux_lemma =>
      refine wp_region_quiet (C:=msgCD w g (og+k*12) x0 x1 x2 x3 x4 x5 x6 x7 x8 x9 x10 x11 g2 (og2+k*12) y0 y1 y2 y3 y4 y5 y6 y7 y8 y9 y10 y11) (by kernel_rfl) (by kernel_rfl) (msgCD.later (W:=wr) (Below.drew (bRQ _ _)) HCE.out) ?_;simp only[List.toList_toArray];go_big_quiet_want;refine qv (.slice (some ⟨g,og,none⟩) n cap) ?_ ?_
      ·rintro w' ⟨z,⟨z0,z1,z2,z3,z4,z5,z6,z7,z8,z9,z10,z11⟩,u0,u1,u2,u3,u4,u5,u6,u7,u8,u9,u10,u11⟩;go_simp
      simp only[Act.put,AP];go_big_quiet_on;go_big_quiet_want;refine qv (.int i64 (k:Int)) ?_ ?_
      ·rintro w' ⟨z,⟨z0,z1,z2,z3,z4,z5,z6,z7,z8,z9,z10,z11⟩,u0,u1,u2,u3,u4,u5,u6,u7,u8,u9,u10,u11⟩;go_simp
      simp only[Act.put,AP];go_big_quiet_on;go_big_quiet_want;refine qv (.pointer (some ⟨g,og+k*12,none⟩)) ?_ ?_
      ·rintro w' ⟨z,⟨z0,z1,z2,z3,z4,z5,z6,z7,z8,z9,z10,z11⟩,u0,u1,u2,u3,u4,u5,u6,u7,u8,u9,u10,u11⟩;go_simp
      simp only[Act.put,AP];go_big_quiet_on;go_big_quiet_want;refine qv (.agg #[.int i64 x0,.int i64 x1,.int i64 x2,.int i64 x3,.int i64 x4,.bool x5,.int i64 x6,.int i64 x7,.int i64 x8,.int i64 x9,.int i64 x10,.int i64 x11]) ?_ ?_
      ·rintro w' ⟨z,⟨z0,z1,z2,z3,z4,z5,z6,z7,z8,z9,z10,z11⟩,u0,u1,u2,u3,u4,u5,u6,u7,u8,u9,u10,u11⟩;go_simp
      simp only[Act.put,AP];go_big_quiet_on;go_big_quiet_want;refine qv (.slice (some ⟨g2,og2,none⟩) n cap2) ?_ ?_
      ·rintro w' ⟨z,⟨z0,z1,z2,z3,z4,z5,z6,z7,z8,z9,z10,z11⟩,u0,u1,u2,u3,u4,u5,u6,u7,u8,u9,u10,u11⟩;go_simp
      simp only[Act.put,AP];go_big_quiet_on;go_big_quiet_want;refine qv (.int i64 (k:Int)) ?_ ?_
      ·rintro w' ⟨z,⟨z0,z1,z2,z3,z4,z5,z6,z7,z8,z9,z10,z11⟩,u0,u1,u2,u3,u4,u5,u6,u7,u8,u9,u10,u11⟩;go_simp
      simp only[Act.put,AP];go_big_quiet_on;go_big_quiet_want;refine qv (.pointer (some ⟨g2,og2+k*12,none⟩)) ?_ ?_
      ·rintro w' ⟨z,⟨z0,z1,z2,z3,z4,z5,z6,z7,z8,z9,z10,z11⟩,u0,u1,u2,u3,u4,u5,u6,u7,u8,u9,u10,u11⟩;go_simp
      simp only[Act.put,AP];go_big_quiet_on;go_big_quiet_want;refine qv (.agg #[.int i64 y0,.int i64 y1,.int i64 y2,.int i64 y3,.int i64 y4,.bool y5,.int i64 y6,.int i64 y7,.int i64 y8,.int i64 y9,.int i64 y10,.int i64 y11]) ?_ ?_
      ·rintro w' ⟨z,⟨z0,z1,z2,z3,z4,z5,z6,z7,z8,z9,z10,z11⟩,u0,u1,u2,u3,u4,u5,u6,u7,u8,u9,u10,u11⟩;go_simp
      simp only[Act.put,AP];go_big_quiet_on;go_big_quiet_want;refine quiet_val (v:=.bool (!msgB ⟨x0,x1,x2,x3,⟨x4,x5,⟨x6,x7,x8,x9,x10,x11⟩⟩⟩ ⟨y0,y1,y2,y3,⟨y4,y5,⟨y6,y7,y8,y9,y10,y11⟩⟩⟩)) (fun w' hC=>exec_bin rfl (by go_simp) (run_neq_of (msg_eq x0 x1 x2 x3 x4 x5 x6 x7 x8 x9 x10 x11 y0 y1 y2 y3 y4 y5 y6 y7 y8 y9 y10 y11 w'))) ?_;simp only[Act.put,AP];go_big_quiet_on;refine wpQuiet_nil ?_;intro w' hC
      go_wp2_with fail
      go_meet
      case rel=>exact⟨rfl,hC.1⟩
    case rest =>
     obtain⟨rfl,hB2⟩:=hcut;have HB2:Hid (Below w.heap.size w wc):=hB2;clear HCE hB2;cases ho:msgB ⟨x0,x1,x2,x3,⟨x4,x5,⟨x6,x7,x8,x9,x10,x11⟩⟩⟩ ⟨y0,y1,y2,y3,⟨y4,y5,⟨y6,y7,y8,y9,y10,y11⟩⟩⟩
     ·have HF:Hid (R=false):=by
       show R=false;rw[HR.out];exact smG_no hkl hkm (by rw[HLK.out.1,HLK.out.2];exact ho)
      go_wp2;go_ret;exact⟨by rw[HF.out];rfl,HB2.out⟩
     have HAL2:Hid (∀j,j<k+1→∀(h1:j<L.length) (h2:j<M.length),msgB L[j] M[j]=true):=by
      intro j hj h1 h2;by_cases e:j=k
      ·subst e;rw[HLK.out.1,HLK.out.2];exact ho
      exact HALL.out j (by omega) h1 h2
     clear ho;go_wp2;go_roundw
     case rel=>exact⟨k+1,by omega,by go_num,HAL2.out,HB2.out⟩
     case measure=>simp[intOf];omega
   obtain rfl:k=n:=by omega
   have HF:Hid (R=true):=by
    show R=true;rw[HR.out];refine smG_iff.2 ⟨by rw[HN.out,HM.out],fun i h1 h2=>HALL.out i (by rw[HN.out] at h1;exact h1) h1 h2⟩
   go_wp2;go_ret;exact⟨by rw[HF.out];rfl,HB.out⟩
 have HF:Hid (R=false):=by
  show R=false;rw[HR.out];exact smG_len (by rw[HN.out,HM.out];exact hl)
 have e1:((n:Int)==(n2:Int))=false:=beq_eq_false_iff_ne.2 (by omega);have e2:((n:Int) != (n2:Int))=true:=by simp;omega
 go_enter func15,ntmps15;go_wp2;go_ret;exact⟨by rw[HF.out];rfl,bRQ _ _⟩
end
end Go.Proofs.YtcbapfgohocghaaDoor
