/- Contracts and facts on the way to TopWire, joined into one text: AgentPgTb, AgentPgKeep, AgentPgHear, AgentWhole, AgentPgRd, AgentPgList, RefAgHrp, RefAgWork, AgentPgWork, AgentPg, TopoOf, NetOf. -/
import Derived.Test.YtpgjkmefomldfaaGreatTopWireP11
namespace Go.Proofs.YtpgjkmefomldfaaGreat
set_option linter.unusedSimpArgs false
set_option linter.unusedVariables false
set_option maxHeartbeats 16000000
set_option maxRecDepth 100000
open Go.Proofs.Tryz
open IntKind (i64)
section
open Go.RowKit
theorem ptable_any {p B0:Nat}{O:Nat→Prop}{N:Int}{a:AgT}(w:World)(h:Pg w p B0 O N a)(ht:a.t.length≤1000):
 Calls prog 15 #[.pointer (some ⟨p,0,none⟩)] w fun e w'=>∃a1 n1 c1,e=.returned (.slice a1 n1 c1)∧SR w' (.slice a1 n1 c1) a.t∧Below w.heap.size w w':=by
 obtain⟨⟨ao,n,c⟩,pt,mp,vd,h,_,_⟩:=h;have c1:w.cell? ⟨p,1,none⟩=some (.slice ao n c):=h.c1;have hs:SR w (.slice ao n c) a.t:=h.t;have hpl:=h.pl;have hp:=pat1 58 hs;have HP:Hid (PAt (w.alloc (.cells #[.slice ao n c] 58)) w.heap.size 0 [a.t]):=hp;have HB0:Hid (Below w.heap.size w (w.alloc (.cells #[.slice ao n c] 58))):=(bRQ _ _).alloc (nLQ _) _;have HL:Hid ([a.t].flatten.length≤1000):=by show _≤1000;simpa using ht
 obtain⟨t,hte⟩:∃t,t=a.t:=⟨_,rfl⟩;rw[←hte] at HP HL ⊢;clear h hs hp ht hte;go_enter func15,ntmps15
 go_wp2_with fail
 refine (concat_any _ 0 1 1 [t] _ rfl (by omega) HP.out HL.out).mono ?_;rintro e w1 ⟨u,rfl,hown,hb1⟩;have hsr:=own_SR hown;have e1:[t].flatten=t:=by simp
 rw[e1] at hsr;obtain⟨ao3,n3,cap3,rfl,_⟩:=hsr.form;have HS1:Hid (SR w1 (.slice ao3 n3 cap3) t):=hsr;have HB1:Hid (Below w.heap.size w w1):=HB0.out.trans (hb1.mono HB0.out.size);clear hown hb1 hsr HP HL e1;go_wp2;go_ret;exact⟨_,_,_,rfl,HS1.out,HB1.out⟩
theorem in_pt1 {W:World}{a1:AdQ}{n1 c1:Nat}{L1:List Int}(t:TypeId)(h1:GS inE W (.slice a1 n1 c1) L1):inPt (W.alloc (.cells #[.slice a1 n1 c1] t)) W.heap.size 0 [L1]:=by
 have hb:Below W.heap.size W (W.alloc (.cells #[.slice a1 n1 c1] t)):=(bRQ _ _).alloc (nLQ _) _;intro i hi
 match i,hi with
 | 0,_=>exact⟨a1,n1,c1,by simp,h1.later hb⟩
theorem pyes_any {p:Nat}{N:Int}(r:Int)(w:World)(h:w.cell? ⟨p,0,none⟩=some (.int i64 N)):
 Calls prog 35 #[.pointer (some ⟨p,0,none⟩),.int i64 r] w fun e w'=>e=.returned (.slice (some ⟨w.heap.size,0,none⟩) 1 1)∧w'=w.alloc (.cells #[.int i64 3,.int i64 N,.int i64 r,.int i64 0,.int i64 0,.bool false,.int i64 0,.int i64 0,.int i64 0,.int i64 0,.int i64 0,.int i64 0] 51):=by
 go_enter func35,ntmps35;go_wp2;go_ret;exact⟨rfl,rfl⟩
theorem pwenc_any (x0 x1 x2 x3 x4:Int)(x5:Bool)(x6 x7 x8 x9 x10 x11:Int)(w:World):
 Calls prog 8 #[.agg #[.int i64 x0,.int i64 x1,.int i64 x2,.int i64 x3,.int i64 x4,.bool x5,.int i64 x6,.int i64 x7,.int i64 x8,.int i64 x9,.int i64 x10,.int i64 x11]] w fun e w'=>e=.returned (.tuple #[.string (enT ⟨x0,x1,x2,x3,⟨x4,x5,⟨x6,x7,x8,x9,x10,x11⟩⟩⟩),noV (mgN ⟨x0,x1,x2,x3,⟨x4,x5,⟨x6,x7,x8,x9,x10,x11⟩⟩⟩)])∧Below w.heap.size w w':=by
 by_cases h:mgN ⟨x0,x1,x2,x3,⟨x4,x5,⟨x6,x7,x8,x9,x10,x11⟩⟩⟩=0
 ·exact wenc_yes x0 x1 x2 x3 x4 x5 x6 x7 x8 x9 x10 x11 w h
 exact wenc_no x0 x1 x2 x3 x4 x5 x6 x7 x8 x9 x10 x11 w h
theorem pcheck_any {p:Nat}{N:Int}(x0 x1 x2 x3 x4:Int)(x5:Bool)(x6 x7 x8 x9 x10 x11:Int)(w:World)(h:w.cell? ⟨p,0,none⟩=some (.int i64 N)):
 Calls prog 34 #[.pointer (some ⟨p,0,none⟩),.agg #[.int i64 x0,.int i64 x1,.int i64 x2,.int i64 x3,.int i64 x4,.bool x5,.int i64 x6,.int i64 x7,.int i64 x8,.int i64 x9,.int i64 x10,.int i64 x11]] w fun e w'=>e=.returned (noV (hrN N ⟨x0,x1,x2,x3,⟨x4,x5,⟨x6,x7,x8,x9,x10,x11⟩⟩⟩))∧Below w.heap.size w w':=by
 have HB0:Hid (Below w.heap.size w (w.alloc (.cells #[.int i64 x0,.int i64 x1,.int i64 x2,.int i64 x3,.int i64 x4,.bool x5,.int i64 x6,.int i64 x7,.int i64 x8,.int i64 x9,.int i64 x10,.int i64 x11] 51))):=(bRQ _ _).alloc (nLQ _) _;have HC:Hid (w.cell? ⟨p,0,none⟩=some (.int i64 N)):=h;have HM0:Hid ((w.alloc (.cells #[.int i64 x0,.int i64 x1,.int i64 x2,.int i64 x3,.int i64 x4,.bool x5,.int i64 x6,.int i64 x7,.int i64 x8,.int i64 x9,.int i64 x10,.int i64 x11] 51)).cell? ⟨w.heap.size,0,none⟩=some (.int i64 x0)∧(w.alloc (.cells #[.int i64 x0,.int i64 x1,.int i64 x2,.int i64 x3,.int i64 x4,.bool x5,.int i64 x6,.int i64 x7,.int i64 x8,.int i64 x9,.int i64 x10,.int i64 x11] 51)).cell? ⟨w.heap.size,1,none⟩=some (.int i64 x1)):=by constructor <;> simp
 obtain⟨Z,hZ⟩:∃Z,Z=mgN ⟨x0,x1,x2,x3,⟨x4,x5,⟨x6,x7,x8,x9,x10,x11⟩⟩⟩:=⟨_,rfl⟩;have HZ:Hid (Z=mgN ⟨x0,x1,x2,x3,⟨x4,x5,⟨x6,x7,x8,x9,x10,x11⟩⟩⟩):=hZ;have HH:Hid (hrN N ⟨x0,x1,x2,x3,⟨x4,x5,⟨x6,x7,x8,x9,x10,x11⟩⟩⟩=if Z=0 then (if x1=N then (if x0=3 then 6 else 0) else 5) else Z):=by rw[hZ];rfl
 obtain⟨H,hH⟩:∃H,H=hrN N ⟨x0,x1,x2,x3,⟨x4,x5,⟨x6,x7,x8,x9,x10,x11⟩⟩⟩:=⟨_,rfl⟩;rw[←hH] at HH ⊢;obtain⟨T,hT⟩:∃T,T=enT ⟨x0,x1,x2,x3,⟨x4,x5,⟨x6,x7,x8,x9,x10,x11⟩⟩⟩:=⟨_,rfl⟩;have HT:Hid (T=enT ⟨x0,x1,x2,x3,⟨x4,x5,⟨x6,x7,x8,x9,x10,x11⟩⟩⟩):=hT;clear h hZ hH hT;go_enter func34,ntmps34
 go_wp2_with fail
 refine (pwenc_any x0 x1 x2 x3 x4 x5 x6 x7 x8 x9 x10 x11 _).mono ?_;rintro e w1 ⟨rfl,hb1⟩;rw[←HZ.out,←HT.out];have m0:=cell_later hb1 HM0.out.1;have m1:=cell_later hb1 HM0.out.2;have HB1:Hid (Below w.heap.size w w1):=HB0.out.trans (hb1.mono HB0.out.size);have c0:=cell_later HB1.out HC.out;clear hb1 HM0 HC HT HZ;by_cases hz:Z=0
 ·subst hz;rw[no_ok rfl];obtain⟨B1,hB1⟩:∃B1:Bool,B1=(x1 != N):=⟨_,rfl⟩;have HBN:Hid ((x1 != N)=B1):=hB1.symm;clear hB1;go_upto_region 4 with fail
  go_cut [21] from 15 to 20 (fun q w'=>q=.bool B1∧Below w1.heap.size w1 w')
  case first =>
   clear HB1 HH
   go_region
   all_goals (go_wp2_with fail;go_meet)
   all_goals exact⟨by rw[HBN.out],Below.drew (bRQ _ _)⟩
  case rest =>
   obtain⟨rfl,hbc⟩:=hcut;have m2:=cell_later hbc m0;have HB2:Hid (Below w.heap.size w wc):=HB1.out.trans (hbc.mono HB1.out.size);clear m0 m1 c0 hbc;cases B1 with
   | false =>
     have hN:x1=N:=by have:=HBN.out;simpa using this
     by_cases h3:x0=3
     ·have HN:Hid (H=6):=by show _=_;rw[HH.out];simp[hN,h3]
      subst h3;clear hN HBN HH;go_wp2;go_ret;exact⟨by rw[HN.out];rfl,HB2.out⟩
     have HN:Hid (H=0):=by show _=_;rw[HH.out];simp[hN,h3]
     have h3b:(x0==3)=false:=by simpa using h3
     clear hN HBN HH;go_wp2;go_ret;exact⟨by rw[HN.out];rfl,HB2.out⟩
   | true =>
     have hN:x1≠N:=by have:=HBN.out;simpa using this
     have HN:Hid (H=5):=by show _=_;rw[HH.out];simp[hN]
     clear hN HBN HH;go_wp2;go_ret;exact⟨by rw[HN.out];rfl,HB2.out⟩
 have HN:Hid (H=Z):=by show _=_;rw[HH.out,if_neg hz]
 rw[no_ne hz];go_wp2;go_ret;exact⟨by rw[HN.out,no_ne hz];rfl,HB1.out⟩
def askS (a:AgT)(r:Nat)(i:Int):AgT:=if manyK a (r:Int)<0 then { a with m:=a.m.set r i } else a
def keepS (a:AgT)(r:Nat)(i:Int)(o:Op8):AgT:=if hasK a.l (r:Int) i=true then a else { a with l:=a.l++[⟨(r:Int),i,o⟩] }
theorem many_other {a:AgT}{r s:Nat}{i:Int}(h:s≠r):manyK { a with m:=a.m.set r i } (s:Int)=manyK a (s:Int):=by
 simp only[manyK,Int.toNat_natCast,List.getD_eq_getElem?_getD];rw[List.getElem?_set_ne (Ne.symm h)]
theorem ptm_ask {a:AgT}{r:Nat}{i:Int}{pt:Nat→Pt}{mp:Nat→List (Int×Op8)}(h:∀s,s<20→PtM a s (pt s) (mp s))(hr:r<20)(hm:a.m.length=20)(hi:0≤i∧i≤1000)(s:Nat)(hs:s<20):
 PtM { a with m:=a.m.set r i } s (updF pt r ⟨(pt r).m,(pt r).h,true,i,(pt r).d⟩ s) (updF mp r (mp r) s):=by
 have g:=h s hs;by_cases e:s=r
 ·subst e;have hy:manyK { a with m:=a.m.set s i } (s:Int)=i:=by
   have:=many_set (a:=a) (r:=(s:Int)) (i:=i) (by omega) (by omega);simp only[Int.toNat_natCast] at this;simp only[manyK,Int.toNat_natCast];exact this
  rw[upd_same,upd_same];exact⟨g.hh,g.hd,by rw[hy];simp[hi.1],fun _=>hy.symm,hi.2,g.hk⟩
 rw[upd_other _ _ e,upd_other _ _ e];exact⟨g.hh,g.hd,by rw[many_other e];exact g.ha,by rw[many_other e];exact g.hs,g.hl,g.hk⟩
theorem hd_app (l:List Kp)(x:Kp)(r:Int):hdN (l++[x]) r=hdN l r+if x.r=r then 1 else 0:=by
 rw[hdN,hdN,List.countP_append,List.countP_singleton];by_cases h:x.r=r
 ·rw[if_pos h,if_pos (by simpa using h)]
 rw[if_neg h,if_neg (by simpa using h)]
theorem ptm_keep {a:AgT}{r:Nat}{i:Int}{o:Op8}{pt:Nat→Pt}{mp:Nat→List (Int×Op8)}{m:Option Nat}(h:∀s,s<20→PtM a s (pt s) (mp s))(hr:r<20)(hn:hasK a.l (r:Int) i=false)(hd:(pt r).d=false)(s:Nat)(hs:s<20):
 PtM { a with l:=a.l++[⟨(r:Int),i,o⟩] } s (updF pt r ⟨m,(pt r).h+1,(pt r).a,(pt r).s,(pt r).d⟩ s) (updF mp r (mput qI i o (mp r)) s):=by
 have g:=h s hs;have hk:∀j,keptO (a.l++[⟨(r:Int),i,o⟩]) (s:Int) j=if (s:Int)=(r:Int)∧j=i then some o else keptO a.l (s:Int) j:=fun j=>kept_new hn _ _
 by_cases e:s=r
 ·subst e;rw[upd_same,upd_same];refine⟨?_,g.hd,g.ha,g.hs,g.hl,fun hd j=>?_⟩
  ·rw[hd_app,if_pos rfl];show (pt s).h+1=_;rw[g.hh];omega
  rw[hk j,mget_put qI_iff];by_cases e2:j=i
  ·subst e2;rw[if_pos ((qI_iff j j).2 rfl),if_pos ⟨rfl,rfl⟩]
  rw[if_neg (fun h=>e2 ((qI_iff j i).1 h)),if_neg (fun h=>e2 h.2)];exact g.hk hd j
 have e3:¬(s:Int)=(r:Int):=by omega
 rw[upd_other _ _ e,upd_other _ _ e];refine⟨?_,g.hd,g.ha,g.hs,g.hl,fun hd j=>?_⟩
 ·rw[hd_app,if_neg (fun h=>e3 h.symm)];exact g.hh
 rw[hk j,if_neg (fun h=>e3 h.1)];exact g.hk hd j
theorem pask_any {p B0:Nat}{O:Nat→Prop}{N:Int}{a:AgT}(r:Nat)(i:Int)(w:World)(h:Pg w p B0 O N a)(hr:r<20)(hm:a.m.length=20)(hi:0≤i∧i≤1000):
 Calls prog 36 #[.pointer (some ⟨p,2+r*5,none⟩),.int i64 i] w fun e w'=>e=.returned (.tuple #[])∧Pg w' p B0 O N (askS a r i)∧Kb (fun b=>¬O b) w w'∧w'.heap.size=w.heap.size:=by
 obtain⟨x,pt,mp,vd,h,h2,h3⟩:=h;have q:=h.pc r hr;have g:=h2 r hr;obtain⟨o,ho⟩:∃o,o=2+r*5:=⟨_,rfl⟩;obtain⟨q0,q1,q2,q3,q4⟩:=q;rw[←ho] at q2 q3;have f2:=h.f (o+2);have f3:=h.f (o+3);have HH:Hid (PgC w p B0 O N a.t a.d x pt mp vd):=h;have H2:Hid (∀r,r<20→PtM a r (pt r) (mp r)):=h2;have H3:Hid (∀q∈a.l,0≤q.r∧q.r<20):=h3;have hpl:=h.pl;cases hak:(pt r).a with
 | true =>
   rw[hak] at q2;have HA:Hid (askS a r i=a):=by
    have h5:=g.ha;rw[hak] at h5;exact if_neg (by simpa using h5.symm)
   rw[←ho];clear h h2 h3 g q0 q1 q3 q4 hak ho hi hm;go_enter func36,ntmps36;go_wp2;refine bodyPost_end (v:=.tuple #[]) (by simp[results,results36,go_sem]) rfl ?_;exact⟨rfl,by rw[HA.out];exact⟨x,pt,mp,vd,HH.out,H2.out,H3.out⟩,Kb.refl _ _,rfl⟩
 | false =>
   rw[hak] at q2;have HA:Hid (askS a r i={ a with m:=a.m.set r i }):=by
    have h5:=g.ha;rw[hak] at h5;exact if_pos (by simpa using h5.symm)
   have HF:Hid (Pg ((w.setCell ⟨p,o+2,none⟩ (.bool true)).setCell ⟨p,o+3,none⟩ (.int i64 i)) p B0 O N { a with m:=a.m.set r i }∧Kb (fun b=>¬O b) w ((w.setCell ⟨p,o+2,none⟩ (.bool true)).setCell ⟨p,o+3,none⟩ (.int i64 i))):=by
    subst ho;have hp:=h.pc r hr;have h4:=h.poke hr (j:=2) (by omega) (v:=.bool true) (q:={ pt r with a:=true }) (M:=mp r) ⟨cell_off hp.c0 (by omega) _,cell_off hp.c1 (by omega) _,World.cell?_setCell_same _ _ _ hp.c2,cell_off hp.c3 (by omega) _,cell_off hp.c4 (by omega) _⟩ (.inl ⟨rfl,rfl⟩);have hp2:=h4.pc r hr;have h5:=h4.poke hr (j:=3) (by omega) (v:=.int i64 i) (q:=⟨(pt r).m,(pt r).h,true,i,(pt r).d⟩) (M:=mp r) (by
     rw[upd_same] at hp2;exact⟨cell_off hp2.c0 (by omega) _,cell_off hp2.c1 (by omega) _,cell_off hp2.c2 (by omega) _,World.cell?_setCell_same _ _ _ hp2.c3,cell_off hp2.c4 (by omega) _⟩) (.inl ⟨by rw[upd_same],by rw[upd_same]⟩)
    refine⟨⟨x,_,_,vd,h5,fun s hs=>?_,h3⟩,((Kb.refl _ w).setCell (q:=⟨p,2+r*5+2,none⟩) (fun _ h6=>h6 h.pO) _).setCell (q:=⟨p,2+r*5+3,none⟩) (fun _ h6=>h6 h.pO) _⟩;have h6:=ptm_ask h2 hr hm hi s hs;by_cases e:s=r
    ·subst e;rw[upd_same,upd_same] at h6 ⊢;exact h6
    rw[upd_other _ _ e,upd_other _ _ e] at h6 ⊢;rw[upd_other _ _ e,upd_other _ _ e];exact h6
   rw[←ho];clear h h2 h3 g q0 q1 q4 hak ho hi hm;go_enter func36,ntmps36;go_wp2;refine bodyPost_end (v:=.tuple #[]) (by simp[results,results36,go_sem]) rfl ?_;exact⟨rfl,by rw[HA.out];exact HF.out.1,HF.out.2,by simp[World.setCell]⟩
theorem pkeep_any {p B0:Nat}{O:Nat→Prop}{N:Int}{a:AgT}(r:Nat)(i y0:Int)(y1:Bool)(y2 y3 y4 y5 y6 y7:Int)(w:World)(h:Pg w p B0 O N a)(hr:r<20)(hd:doneK a (r:Int)=false)(hl:a.l.length≤100000):
 Calls prog 37 #[.pointer (some ⟨p,2+r*5,none⟩),.int i64 i,.agg #[.int i64 y0,.bool y1,.int i64 y2,.int i64 y3,.int i64 y4,.int i64 y5,.int i64 y6,.int i64 y7]] w fun e w'=>e=.returned (.tuple #[]) ∧
  ∃O',Pg w' p B0 O' N (keepS a r i ⟨y0,y1,⟨y2,y3,y4,y5,y6,y7⟩⟩)∧(∀b,O' b→O b∨w.heap.size≤b)∧Kb (fun b=>¬O b) w w':=by
 obtain⟨x,pt,mp,vd,h,h2,h3⟩:=h;obtain⟨o,ho⟩:∃o,o=2+r*5:=⟨_,rfl⟩;have HO:Hid (o=2+r*5):=ho;have HH:Hid (PgC w p B0 O N a.t a.d x pt mp vd):=h;have H2:Hid (∀r,r<20→PtM a r (pt r) (mp r)):=h2;have H3:Hid (∀q∈a.l,0≤q.r∧q.r<20):=h3;have HR:Hid (r<20):=hr;have hpl:=h.pl;obtain⟨B,hB⟩:∃B,B=hasK a.l (r:Int) i:=⟨_,rfl⟩;have HBB:Hid (B=hasK a.l (r:Int) i):=hB;have HPD:Hid ((pt r).d=false):=by rw[(h2 r hr).hd];exact hd
 obtain⟨z,hz⟩:∃z,z=(mget qI i (mp r)).getD zeP:=⟨_,rfl⟩;have hb1:Below w.heap.size w (w.alloc (.cells #[.int i64 y0,.bool y1,.int i64 y2,.int i64 y3,.int i64 y4,.int i64 y5,.int i64 y6,.int i64 y7] 49)):=(bRQ _ _).alloc (nLQ _) _;have HB1:Hid (Below w.heap.size w (w.alloc (.cells #[.int i64 y0,.bool y1,.int i64 y2,.int i64 y3,.int i64 y4,.int i64 y5,.int i64 y6,.int i64 y7] 49))):=hb1;have hlk:=((h.later hb1).pm r hr).look i;rw[←hz,(h2 r hr).hk (by rw[(h2 r hr).hd];exact hd) i,kept_has,←hB] at hlk;obtain⟨m,hm⟩:∃m,m=(pt r).m:=⟨_,rfl⟩;have HM:Hid ((pt r).m=m):=hm.symm;rw[←hm] at hlk;have q0:=(h.pc r hr).c0;rw[←ho,←hm] at q0;obtain⟨z0,z1,⟨z2,z3,z4,z5,z6,z7⟩⟩:=z;have hlk2:(Instr.lookup 102 (.map m) (.int i64 i) true).run prog (w.alloc (.cells #[.int i64 y0,.bool y1,.int i64 y2,.int i64 y3,.int i64 y4,.int i64 y5,.int i64 y6,.int i64 y7] 49))=.ok (.tuple #[.agg #[.int i64 z0,.bool z1,.int i64 z2,.int i64 z3,.int i64 z4,.int i64 z5,.int i64 z6,.int i64 z7],.bool B]) (w.alloc (.cells #[.int i64 y0,.bool y1,.int i64 y2,.int i64 y3,.int i64 y4,.int i64 y5,.int i64 y6,.int i64 y7] 49)):=hlk;have HLl:Hid (a.l.length≤100000):=hl;rw[←ho];clear h h2 h3 hr hd hB hz hm hlk hb1 ho hl;have qT:∀(w:World) (r:Option Nat),(binOp .eql 102 (.map r) (.map none)).run prog w=.ok (.bool r.isNone) w:=fun w r=>run_eql_map_nil w _ _ _ r underlying102
 go_enter func37,ntmps37;cases B with
 | true =>
   have HS:Hid (keepS a r i ⟨y0,y1,⟨y2,y3,y4,y5,y6,y7⟩⟩=a):=if_pos HBB.out.symm;go_wp2;refine bodyPost_ret (v:=.tuple #[]) (by simp[results,results37,go_sem]) rfl ⟨rfl,?_⟩;rw[HS.out];have hb2:=HB1.out.alloc HB1.out.size (Obj.cells #[.int i64 z0,.bool z1,.int i64 z2,.int i64 z3,.int i64 z4,.int i64 z5,.int i64 z6,.int i64 z7] 49);exact⟨O,⟨x,pt,mp,vd,HH.out.later hb2,H2.out,H3.out⟩,fun b h=>.inl h,Kb.of_below hb2 fun b h _=>h⟩
 | false =>
   have HS:Hid (keepS a r i ⟨y0,y1,⟨y2,y3,y4,y5,y6,y7⟩⟩={ a with l:=a.l++[⟨(r:Int),i,⟨y0,y1,⟨y2,y3,y4,y5,y6,y7⟩⟩⟩] }):=if_neg (by rw[←HBB.out];simp);cases m with
   | some b =>
     go_upto_region 5 with fail;obtain⟨V,hV⟩:∃V,V=(w.alloc (.cells #[.int i64 y0,.bool y1,.int i64 y2,.int i64 y3,.int i64 y4,.int i64 y5,.int i64 y6,.int i64 y7] 49)).alloc (.cells #[.int i64 z0,.bool z1,.int i64 z2,.int i64 z3,.int i64 z4,.int i64 z5,.int i64 z6,.int i64 z7] 49):=⟨_,rfl⟩;have HVB:Hid (Below w.heap.size w V):=by rw[hV];exact HB1.out.alloc HB1.out.size _
     have r0:V.cell? ⟨w.heap.size,0,none⟩=some (.int i64 y0):=by rw[hV];simp
     have r1:V.cell? ⟨w.heap.size,1,none⟩=some (.bool y1):=by rw[hV];simp
     have r2:V.cell? ⟨w.heap.size,2,none⟩=some (.int i64 y2):=by rw[hV];simp
     have r3:V.cell? ⟨w.heap.size,3,none⟩=some (.int i64 y3):=by rw[hV];simp
     have r4:V.cell? ⟨w.heap.size,4,none⟩=some (.int i64 y4):=by rw[hV];simp
     have r5:V.cell? ⟨w.heap.size,5,none⟩=some (.int i64 y5):=by rw[hV];simp
     have r6:V.cell? ⟨w.heap.size,6,none⟩=some (.int i64 y6):=by rw[hV];simp
     have r7:V.cell? ⟨w.heap.size,7,none⟩=some (.int i64 y7):=by rw[hV];simp
     rw[←hV];clear hV;obtain⟨O1,pt1,mp1,HG,HM1,HP1,HE1,HE2,HO1,HKV⟩:∃(O1:Nat→Prop) (pt1:Nat→Pt) (mp1:Nat→List (Int×Op8)),Hid (PgC V p B0 O1 N a.t a.d x pt1 mp1 vd)∧Hid ((pt1 r).m=some b)∧Hid ((pt1 r).h=(pt r).h∧(pt1 r).a=(pt r).a∧(pt1 r).s=(pt r).s∧(pt1 r).d=(pt r).d)∧Hid (mp1 r=mp r)∧Hid (∀s,s≠r→pt1 s=pt s∧mp1 s=mp s)∧Hid (∀b,O1 b→O b∨w.heap.size≤b)∧Hid (Kb (fun b=>¬O b) w V):=
      ⟨O,pt,mp,HH.out.later HVB.out,HM.out,⟨rfl,rfl,rfl,rfl⟩,rfl,fun s _=>⟨rfl,rfl⟩,fun b h=>.inl h,Kb.of_below HVB.out fun b h _=>h⟩
     clear q0 hlk2 HB1;obtain⟨hh,hhh⟩:∃hh,hh=(pt r).h:=⟨_,rfl⟩;have HHH:Hid (hh=(pt r).h):=hhh;have hh0:0≤hh∧hh≤100000:=by
      rw[hhh,(H2.out r HR.out).hh];have h5:hdN a.l (r:Int)≤a.l.length:=List.countP_le_length;have h6:=HLl.out;omega
     have hwr:IntKind.i64.wrap (hh+1)=hh+1:=wrap_small (by omega) (by omega);have hmat:MAt intKey opV8 V b (mp1 r):=by
      rcases HG.out.pm r HR.out with ⟨e1,_⟩ | ⟨c,e1,e2⟩
      ·rw[HM1.out] at e1;cases e1
      rw[HM1.out] at e1;cases e1;exact e2
     obtain⟨V2,hrun,hM2,hg2⟩:=run_update_M (hmat.later (Below.drew (bRQ _ _))) 102 49 underlying102 i (⟨y0,y1,⟨y2,y3,y4,y5,y6,y7⟩⟩:Op8);have hrun2:(Instr.mapUpdate 102 (.map (some b)) (.int i64 i) (.agg #[.int i64 y0,.bool y1,.int i64 y2,.int i64 y3,.int i64 y4,.int i64 y5,.int i64 y6,.int i64 y7])).run prog V.drew=.ok () V2:=hrun;have g2:=(HG.out.later (Below.drew (bRQ _ _))).putMap HR.out HM1.out hg2 hM2;have HG2:Hid (PgC V2 p B0 O1 N a.t a.d x pt1 (updF mp1 r (mput qI i ⟨y0,y1,⟨y2,y3,y4,y5,y6,y7⟩⟩ (mp1 r))) vd):=g2;have hv2:Kb (fun b=>¬O b) w V2:=by
      refine Kb.grown (Kb.drew HKV.out) hg2 fun c e hl h6=>?_
      cases e
      rcases HO1.out b (HG.out.ob b (.inr (.inl ⟨r,HR.out,HM1.out⟩))) with h7 | h7
      ·exact h6 h7
      omega
     have HV2:Hid (Kb (fun b=>¬O b) w V2):=hv2;have u0:=(HG.out.pc r HR.out).c0;rw[←HO.out,HM1.out] at u0;have u1:=(g2.pc r HR.out).c1;rw[←HO.out,HP1.out.1,←HHH.out] at u1;have uf:=g2.f (o+1);have hpl2:=g2.pl;have hplV:=HG.out.pl;clear hrun hM2 hg2 g2 hmat hhh hv2
     go_region
     go_wp2;refine bodyPost_end (v:=.tuple #[]) (by simp[results,results37,go_sem]) rfl ⟨rfl,O1,?_,HO1.out,HV2.out.setCell (q:=⟨p,o+1,none⟩) (fun _ h6=>h6 HH.out.pO) _⟩;rw[HS.out];have hoo:=HO.out;subst hoo;have hp:=HG2.out.pc r HR.out;have hq:PtAt (V2.setCell ⟨p,2+r*5+1,none⟩ (.int i64 (hh+1))) p (2+r*5) ⟨some b,hh+1,(pt r).a,(pt r).s,(pt r).d⟩:=by
      refine⟨?_,World.cell?_setCell_same _ _ _ hp.c1,?_,?_,?_⟩
      ·have:=cell_off hp.c0 (j:=2+r*5+1) (by omega) (.int i64 (hh+1));rw[HM1.out] at this;exact this
      ·have:=cell_off hp.c2 (j:=2+r*5+1) (by omega) (.int i64 (hh+1));rw[HP1.out.2.1] at this;exact this
      ·have:=cell_off hp.c3 (j:=2+r*5+1) (by omega) (.int i64 (hh+1));rw[HP1.out.2.2.1] at this;exact this
      have:=cell_off hp.c4 (j:=2+r*5+1) (by omega) (.int i64 (hh+1));rw[HP1.out.2.2.2] at this;exact this
     have h5:=HG2.out.poke HR.out (j:=1) (by omega) hq (.inl ⟨HM1.out.symm,rfl⟩);have hn:hasK a.l (r:Int) i=false:=HBB.out.symm;refine⟨x,_,_,vd,h5,fun s hs=>?_,fun q hq=>?_⟩
     ·have h6:=ptm_keep (o:=⟨y0,y1,⟨y2,y3,y4,y5,y6,y7⟩⟩) (m:=some b) H2.out HR.out hn HPD.out s hs;by_cases e:s=r
      ·subst e;rw[upd_same,upd_same] at h6 ⊢;rw[upd_same,HE1.out,HHH.out];exact h6
      rw[upd_other _ _ e,upd_other _ _ e] at h6 ⊢;rw[upd_other _ _ e,(HE2.out s e).1,(HE2.out s e).2];exact h6
     rcases List.mem_append.1 hq with h6 | h6
     ·exact H3.out q h6
     rw[List.mem_singleton] at h6;subst h6;have:=HR.out;show (0:Int)≤(r:Int)∧(r:Int)<20;omega
   | none =>
     go_upto_region 3 with fail;obtain⟨V0,hV0⟩:∃V0,V0=(w.alloc (.cells #[.int i64 y0,.bool y1,.int i64 y2,.int i64 y3,.int i64 y4,.int i64 y5,.int i64 y6,.int i64 y7] 49)).alloc (.cells #[.int i64 z0,.bool z1,.int i64 z2,.int i64 z3,.int i64 z4,.int i64 z5,.int i64 z6,.int i64 z7] 49):=⟨_,rfl⟩;have HVB0:Hid (Below w.heap.size w V0):=by rw[hV0];exact HB1.out.alloc HB1.out.size _
     have s0:V0.cell? ⟨w.heap.size,0,none⟩=some (.int i64 y0):=by rw[hV0];simp
     have s1:V0.cell? ⟨w.heap.size,1,none⟩=some (.bool y1):=by rw[hV0];simp
     have s2:V0.cell? ⟨w.heap.size,2,none⟩=some (.int i64 y2):=by rw[hV0];simp
     have s3:V0.cell? ⟨w.heap.size,3,none⟩=some (.int i64 y3):=by rw[hV0];simp
     have s4:V0.cell? ⟨w.heap.size,4,none⟩=some (.int i64 y4):=by rw[hV0];simp
     have s5:V0.cell? ⟨w.heap.size,5,none⟩=some (.int i64 y5):=by rw[hV0];simp
     have s6:V0.cell? ⟨w.heap.size,6,none⟩=some (.int i64 y6):=by rw[hV0];simp
     have s7:V0.cell? ⟨w.heap.size,7,none⟩=some (.int i64 y7):=by rw[hV0];simp
     rw[←hV0];clear hV0;have hplV0:p<V0.heap.size:=Nat.lt_of_lt_of_le hpl HVB0.out.size;have u0:V0.cell? ⟨p,o,none⟩=some (.map none):=cell_later HVB0.out q0;have uf:V0.frozen? ⟨p,o,none⟩=false:=by rw[HVB0.out.frozen (p:=⟨p,o,none⟩) hpl];exact HH.out.f o
     obtain⟨V1,hV1⟩:∃V1,V1=V0.alloc (.map #[] 0):=⟨_,rfl⟩;obtain⟨b,hb⟩:∃b,b=V0.heap.size:=⟨_,rfl⟩;have hmk:(Instr.makeMap 102 none).run prog V0=.ok (.map (some b)) V1:=by rw[hV1,hb];exact run_makeMap (P:=prog) 102 V0
     have hv1:Below V0.heap.size V0 V1:=by rw[hV1];exact (bRQ _ _).alloc (nLQ _) _
     have hmn:MAt intKey opV8 V1 b []:=by rw[hV1,hb];exact mat_new _ _ _
     have hgn:=(HH.out).newMap HR.out HM.out (HVB0.out.trans (hv1.mono HVB0.out.size)) (by rw[hb];exact HVB0.out.size) hmn;rw[←HO.out] at hgn;have HGN:Hid (PgC (V1.setCell ⟨p,o,none⟩ (.map (some b))) p B0 (fun c=>O c∨c=b) N a.t a.d x (updF pt r { pt r with m:=some b }) (updF mp r []) vd):=hgn;have HV1:Hid (Below V0.heap.size V0 V1):=hv1;have HBL:Hid (w.heap.size≤b):=by show _≤_;rw[hb];exact HVB0.out.size
     have u1':V1.cell? ⟨p,o,none⟩=some (.map none):=cell_later hv1 u0;have uf1:V1.frozen? ⟨p,o,none⟩=false:=by rw[hv1.frozen (p:=⟨p,o,none⟩) hplV0];exact uf
     have hplV1:p<V1.heap.size:=Nat.lt_of_lt_of_le hplV0 hv1.size;have HC8:Hid (V1.cell? ⟨w.heap.size,0,none⟩=some (.int i64 y0)∧V1.cell? ⟨w.heap.size,1,none⟩=some (.bool y1)∧V1.cell? ⟨w.heap.size,2,none⟩=some (.int i64 y2)∧V1.cell? ⟨w.heap.size,3,none⟩=some (.int i64 y3)∧V1.cell? ⟨w.heap.size,4,none⟩=some (.int i64 y4)∧V1.cell? ⟨w.heap.size,5,none⟩=some (.int i64 y5)∧V1.cell? ⟨w.heap.size,6,none⟩=some (.int i64 y6)∧V1.cell? ⟨w.heap.size,7,none⟩=some (.int i64 y7)):=
      ⟨cell_later hv1 s0,cell_later hv1 s1,cell_later hv1 s2,cell_later hv1 s3,cell_later hv1 s4,cell_later hv1 s5,cell_later hv1 s6,cell_later hv1 s7⟩
     clear q0 hlk2 HB1 hV1 hb hv1 hmn hgn s0 s1 s2 s3 s4 s5 s6 s7;go_upto_region 5 with fail;obtain⟨V,hV⟩:∃V,V=V1.setCell ⟨p,o,none⟩ (.map (some b)):=⟨_,rfl⟩;obtain⟨r0,r1,r2,r3,r4,r5,r6,r7⟩:V.cell? ⟨w.heap.size,0,none⟩=some (.int i64 y0)∧V.cell? ⟨w.heap.size,1,none⟩=some (.bool y1)∧V.cell? ⟨w.heap.size,2,none⟩=some (.int i64 y2)∧V.cell? ⟨w.heap.size,3,none⟩=some (.int i64 y3)∧V.cell? ⟨w.heap.size,4,none⟩=some (.int i64 y4)∧V.cell? ⟨w.heap.size,5,none⟩=some (.int i64 y5)∧V.cell? ⟨w.heap.size,6,none⟩=some (.int i64 y6)∧V.cell? ⟨w.heap.size,7,none⟩=some (.int i64 y7):=by
      have hne:w.heap.size≠p:=by omega
      obtain⟨c0,c1,c2,c3,c4,c5,c6,c7⟩:=HC8.out;have hz:∀j v,V1.cell? ⟨w.heap.size,j,none⟩=some v→V.cell? ⟨w.heap.size,j,none⟩=some v:=fun j v h=>by
       rw[hV,World.cell?_setCell_other _ _ _ _ (by intro e;cases e;exact hne rfl)];exact h
      exact⟨hz _ _ c0,hz _ _ c1,hz _ _ c2,hz _ _ c3,hz _ _ c4,hz _ _ c5,hz _ _ c6,hz _ _ c7⟩
     have hgn:PgC V p B0 (fun c=>O c∨c=b) N a.t a.d x (updF pt r { pt r with m:=some b }) (updF mp r []) vd:=by rw[hV];exact HGN.out
     have hkv:Kb (fun b=>¬O b) w V:=by
      rw[hV];exact (Kb.of_below (HVB0.out.trans (HV1.out.mono HVB0.out.size)) fun b h _=>h).setCell (q:=⟨p,o,none⟩) (fun _ h6=>h6 HH.out.pO) _
     rw[←hV];obtain⟨O1,pt1,mp1,HG,HM1,HP1,HE1,HE2,HO1,HKV⟩:∃(O1:Nat→Prop) (pt1:Nat→Pt) (mp1:Nat→List (Int×Op8)),Hid (PgC V p B0 O1 N a.t a.d x pt1 mp1 vd)∧Hid ((pt1 r).m=some b)∧Hid ((pt1 r).h=(pt r).h∧(pt1 r).a=(pt r).a∧(pt1 r).s=(pt r).s∧(pt1 r).d=(pt r).d)∧Hid (mp1 r=mp r)∧Hid (∀s,s≠r→pt1 s=pt s∧mp1 s=mp s)∧Hid (∀b,O1 b→O b∨w.heap.size≤b)∧Hid (Kb (fun b=>¬O b) w V):=by
      have hm0:mp r=[]:=by
       rcases HH.out.pm r HR.out with ⟨_,e⟩ | ⟨c,e,_⟩
       ·exact e
       rw[HM.out] at e;cases e
      refine⟨_,_,_,hgn,?_,?_,?_,fun s hs=>⟨upd_other _ _ hs,upd_other _ _ hs⟩,?_,hkv⟩
      ·show (updF pt r { pt r with m:=some b } r).m=some b;rw[upd_same]
      ·show _∧_∧_∧_;rw[upd_same];exact⟨rfl,rfl,rfl,rfl⟩
      ·show updF mp r [] r=mp r;rw[upd_same,hm0]
      rintro c (h | rfl)
      ·exact .inl h
      exact .inr HBL.out
     clear hV hgn hkv u0 uf u1' uf1 hplV0 hplV1 hmk;obtain⟨hh,hhh⟩:∃hh,hh=(pt r).h:=⟨_,rfl⟩;have HHH:Hid (hh=(pt r).h):=hhh;have hh0:0≤hh∧hh≤100000:=by
      rw[hhh,(H2.out r HR.out).hh];have h5:hdN a.l (r:Int)≤a.l.length:=List.countP_le_length;have h6:=HLl.out;omega
     have hwr:IntKind.i64.wrap (hh+1)=hh+1:=wrap_small (by omega) (by omega);have hmat:MAt intKey opV8 V b (mp1 r):=by
      rcases HG.out.pm r HR.out with ⟨e1,_⟩ | ⟨c,e1,e2⟩
      ·rw[HM1.out] at e1;cases e1
      rw[HM1.out] at e1;cases e1;exact e2
     obtain⟨V2,hrun,hM2,hg2⟩:=run_update_M (hmat.later (Below.drew (bRQ _ _))) 102 49 underlying102 i (⟨y0,y1,⟨y2,y3,y4,y5,y6,y7⟩⟩:Op8);have hrun2:(Instr.mapUpdate 102 (.map (some b)) (.int i64 i) (.agg #[.int i64 y0,.bool y1,.int i64 y2,.int i64 y3,.int i64 y4,.int i64 y5,.int i64 y6,.int i64 y7])).run prog V.drew=.ok () V2:=hrun;have g2:=(HG.out.later (Below.drew (bRQ _ _))).putMap HR.out HM1.out hg2 hM2;have HG2:Hid (PgC V2 p B0 O1 N a.t a.d x pt1 (updF mp1 r (mput qI i ⟨y0,y1,⟨y2,y3,y4,y5,y6,y7⟩⟩ (mp1 r))) vd):=g2;have hv2:Kb (fun b=>¬O b) w V2:=by
      refine Kb.grown (Kb.drew HKV.out) hg2 fun c e hl h6=>?_
      cases e
      rcases HO1.out b (HG.out.ob b (.inr (.inl ⟨r,HR.out,HM1.out⟩))) with h7 | h7
      ·exact h6 h7
      omega
     have HV2:Hid (Kb (fun b=>¬O b) w V2):=hv2;have u0:=(HG.out.pc r HR.out).c0;rw[←HO.out,HM1.out] at u0;have u1:=(g2.pc r HR.out).c1;rw[←HO.out,HP1.out.1,←HHH.out] at u1;have uf:=g2.f (o+1);have hpl2:=g2.pl;have hplV:=HG.out.pl;clear hrun hM2 hg2 g2 hmat hhh hv2
     go_region
     go_wp2;refine bodyPost_end (v:=.tuple #[]) (by simp[results,results37,go_sem]) rfl ⟨rfl,O1,?_,HO1.out,HV2.out.setCell (q:=⟨p,o+1,none⟩) (fun _ h6=>h6 HH.out.pO) _⟩;rw[HS.out];have hoo:=HO.out;subst hoo;have hp:=HG2.out.pc r HR.out;have hq:PtAt (V2.setCell ⟨p,2+r*5+1,none⟩ (.int i64 (hh+1))) p (2+r*5) ⟨some b,hh+1,(pt r).a,(pt r).s,(pt r).d⟩:=by
      refine⟨?_,World.cell?_setCell_same _ _ _ hp.c1,?_,?_,?_⟩
      ·have:=cell_off hp.c0 (j:=2+r*5+1) (by omega) (.int i64 (hh+1));rw[HM1.out] at this;exact this
      ·have:=cell_off hp.c2 (j:=2+r*5+1) (by omega) (.int i64 (hh+1));rw[HP1.out.2.1] at this;exact this
      ·have:=cell_off hp.c3 (j:=2+r*5+1) (by omega) (.int i64 (hh+1));rw[HP1.out.2.2.1] at this;exact this
      have:=cell_off hp.c4 (j:=2+r*5+1) (by omega) (.int i64 (hh+1));rw[HP1.out.2.2.2] at this;exact this
     have h5:=HG2.out.poke HR.out (j:=1) (by omega) hq (.inl ⟨HM1.out.symm,rfl⟩);have hn:hasK a.l (r:Int) i=false:=HBB.out.symm;refine⟨x,_,_,vd,h5,fun s hs=>?_,fun q hq=>?_⟩
     ·have h6:=ptm_keep (o:=⟨y0,y1,⟨y2,y3,y4,y5,y6,y7⟩⟩) (m:=some b) H2.out HR.out hn HPD.out s hs;by_cases e:s=r
      ·subst e;rw[upd_same,upd_same] at h6 ⊢;rw[upd_same,HE1.out,HHH.out];exact h6
      rw[upd_other _ _ e,upd_other _ _ e] at h6 ⊢;rw[upd_other _ _ e,(HE2.out s e).1,(HE2.out s e).2];exact h6
     rcases List.mem_append.1 hq with h6 | h6
     ·exact H3.out q h6
     rw[List.mem_singleton] at h6;subst h6;have:=HR.out;show (0:Int)≤(r:Int)∧(r:Int)<20;omega
theorem hg_none {w w':World}{p B0:Nat}{O O':Nat→Prop}{N:Int}{a':AgT}{E:Int}(h:Pg w' p B0 O' N a')(hO:∀b,O' b→O b∨w.heap.size≤b)(hk:Kb (fun b=>¬O b) w w'):
 HrG Pg noV w p B0 O N a' E [] (.returned (.tuple #[.slice none 0 0,noV E])) w':=
 ⟨none,0,0,rfl,GS.nil _,(fun _ h=>by cases h),O',h,hO,(fun _ h=>by cases h),hk⟩
theorem hg_yes {w wd:World}{p B0:Nat}{O O':Nat→Prop}{N:Int}{a':AgT}{E:Int}(h:Pg wd p B0 O' N a')(hO:∀b,O' b→O b∨w.heap.size≤b)(hk:Kb (fun b=>¬O b) w wd)(r:Int)(t:TypeId):
 HrG Pg noV w p B0 O N a' E [yesM N r] (.returned (.tuple #[.slice (some ⟨wd.heap.size,0,none⟩) 1 1,noV E])) (wd.alloc (.cells #[.int i64 3,.int i64 N,.int i64 r,.int i64 0,.int i64 0,.bool false,.int i64 0,.int i64 0,.int i64 0,.int i64 0,.int i64 0,.int i64 0] t)):=by
 refine⟨_,_,_,rfl,msg_row wd 3 N r 0 0 false 0 0 0 0 0 0 t,?_,O',h.later ((bRQ _ _).alloc (nLQ _) _),hO,?_,hk.alloc _⟩
 ·intro ad ha;cases ha;exact hk.size
 intro ad ha ho;cases ha;have h1:=(h.lt _ ho).2;simp only at h1;omega
theorem hr_ask {a:AgT}{N:Int}{m:Mg}{r:Nat}(h0:hrN N m=0)(hr:m.r=(r:Int))(hd:doneK a (r:Int)=false)(h2:m.k=2):hrS N a m=askS a r m.i:=by
 rw[hrS,if_pos ⟨h0,by rw[hr];exact hd⟩,if_pos h2,hr,askS];rfl
theorem hr_keep {a:AgT}{N:Int}{m:Mg}{r:Nat}(h0:hrN N m=0)(hr:m.r=(r:Int))(hd:doneK a (r:Int)=false)(h2:m.k≠2):hrS N a m=keepS a r m.i m.o:=by
 rw[hrS,if_pos ⟨h0,by rw[hr];exact hd⟩,if_neg h2,hr,keepS]
theorem hr_done {a:AgT}{N:Int}{m:Mg}{r:Nat}(hr:m.r=(r:Int))(hd:doneK a (r:Int)=true):hrS N a m=a:=by
 rw[hrS,if_neg (fun e=>by have:=e.2;rw[hr,hd] at this;cases this)]
theorem hr_nil {a:AgT}{N:Int}{m:Mg}{r:Nat}(hr:m.r=(r:Int))(hd:doneK a (r:Int)=false∨m.k≠2):hrA N a m=[]:=by
 rw[hrA,if_neg];rintro⟨_,e1,e2⟩
 rcases hd with h | h
 ·rw[hr,h] at e2;cases e2
 exact h e1
theorem hr_yes {a:AgT}{N:Int}{m:Mg}{r:Nat}(h0:hrN N m=0)(hr:m.r=(r:Int))(hd:doneK a (r:Int)=true)(h2:m.k=2):hrA N a m=[yesM N (r:Int)]:=by
 rw[hrA,if_pos ⟨h0,h2,by rw[hr];exact hd⟩,hr]
theorem phear_any {p B0:Nat}{O:Nat→Prop}{N:Int}{a:AgT}{k:Nat}(x0 x1 x2 x3 x4:Int)(x5:Bool)(x6 x7 x8 x9 x10 x11:Int)(w:World)(h:Pg w p B0 O N a)(hok:AgOK a k)(hk:k≤1000):
 Calls prog 11 #[.pointer (some ⟨p,0,none⟩),.agg #[.int i64 x0,.int i64 x1,.int i64 x2,.int i64 x3,.int i64 x4,.bool x5,.int i64 x6,.int i64 x7,.int i64 x8,.int i64 x9,.int i64 x10,.int i64 x11]] w fun e w' =>
  HrG Pg noV w p B0 O N (hrS N a ⟨x0,x1,x2,x3,⟨x4,x5,⟨x6,x7,x8,x9,x10,x11⟩⟩⟩) (hrN N ⟨x0,x1,x2,x3,⟨x4,x5,⟨x6,x7,x8,x9,x10,x11⟩⟩⟩) (hrA N a ⟨x0,x1,x2,x3,⟨x4,x5,⟨x6,x7,x8,x9,x10,x11⟩⟩⟩) e w':=by
 have HP:Hid (Pg w p B0 O N a):=h;have HOK:Hid (AgOK a k):=hok;have HKK:Hid (k≤1000):=hk;have HB0:Hid (Below w.heap.size w (w.alloc (.cells #[.int i64 x0,.int i64 x1,.int i64 x2,.int i64 x3,.int i64 x4,.bool x5,.int i64 x6,.int i64 x7,.int i64 x8,.int i64 x9,.int i64 x10,.int i64 x11] 51))):=(bRQ _ _).alloc (nLQ _) _;have HC0:Hid (MgC (w.alloc (.cells #[.int i64 x0,.int i64 x1,.int i64 x2,.int i64 x3,.int i64 x4,.bool x5,.int i64 x6,.int i64 x7,.int i64 x8,.int i64 x9,.int i64 x10,.int i64 x11] 51)) w.heap.size x0 x1 x2 x3 x4 x5 x6 x7 x8 x9 x10 x11):=mgc_new w x0 x1 x2 x3 x4 x5 x6 x7 x8 x9 x10 x11 _;obtain⟨M,hM⟩:∃M:Mg,M=⟨x0,x1,x2,x3,⟨x4,x5,⟨x6,x7,x8,x9,x10,x11⟩⟩⟩:=⟨_,rfl⟩;have HM:Hid (M=⟨x0,x1,x2,x3,⟨x4,x5,⟨x6,x7,x8,x9,x10,x11⟩⟩⟩):=hM;rw[←hM];obtain⟨E,hE⟩:∃E,E=hrN N M:=⟨_,rfl⟩;have HE:Hid (E=hrN N M):=hE;have HE2:Hid (hrN N ⟨x0,x1,x2,x3,⟨x4,x5,⟨x6,x7,x8,x9,x10,x11⟩⟩⟩=E):=by show _=_;rw[hE,hM]
 rw[←hE];have HC1:Hid ((w.alloc (.cells #[.int i64 x0,.int i64 x1,.int i64 x2,.int i64 x3,.int i64 x4,.bool x5,.int i64 x6,.int i64 x7,.int i64 x8,.int i64 x9,.int i64 x10,.int i64 x11] 51)).cell? ⟨p,0,none⟩=some (.int i64 N)):=by
  obtain⟨x,pt,mp,vd,h1,_⟩:=h;exact cell_later HB0.out h1.c0
 clear h hok hk hM hE;go_enter func11,ntmps11
 go_wp2_with fail
 refine (pcheck_any x0 x1 x2 x3 x4 x5 x6 x7 x8 x9 x10 x11 _ HC1.out).mono ?_;rintro e w1 ⟨rfl,hb1⟩;have HB1:Hid (Below w.heap.size w w1):=HB0.out.trans (hb1.mono HB0.out.size);have HC2:Hid (MgC w1 w.heap.size x0 x1 x2 x3 x4 x5 x6 x7 x8 x9 x10 x11):=HC0.out.later hb1;rw[HE2.out];clear hb1 HB0 HC0 HC1 HE2;by_cases h0:E=0
 ·subst h0;rw[no_ok rfl];have hz:=hr_zero.1 HE.out.symm;have hr:=mg_rng.1 (mg_1 hz.1).1;have hs:=hz.2.1;rw[HM.out] at hr hs;obtain⟨_,_,⟨hr2,hr3⟩,⟨hi2,hi3⟩⟩:=hr;simp only at hr2 hr3 hi2 hi3 hs;obtain⟨r,hrr⟩:∃r:Nat,x2=(r:Int):=⟨x2.toNat,by omega⟩;subst hrr;subst hs;have rb0:(0:Int)≤(r:Int):=by omega
  have rb1:(r:Int)<20:=by omega
  have HR:Hid (r<20):=by show _<_;omega
  have HI:Hid (0≤x3∧x3≤1000):=⟨by omega,by omega⟩;have HMR:Hid (M.r=(r:Int)∧M.k=x0∧M.i=x3∧M.o=⟨x4,x5,⟨x6,x7,x8,x9,x10,x11⟩⟩):=by show _∧_;rw[HM.out];exact⟨rfl,rfl,rfl,rfl⟩
  have hpl:p<w1.heap.size:=Nat.lt_of_lt_of_le (by obtain⟨x,pt,mp,vd,h1,_⟩:=HP.out;exact h1.pl) HB1.out.size;clear hz hr2 hr3 hi2 hi3 HM;go_upto_region 4 with fail
  go_cut [7] from 14 to 19 (fun q w'=>q=.pointer (some ⟨p,2+r*5,none⟩)∧Below w1.heap.size w1 w')
  case first =>
   obtain⟨k0,k1,k2,k3,k4,k5,k6,k7,k8,k9,k10,k11⟩:=HC2.out;clear HC2 HB1 HP HOK HKK HE HMR HI
   go_region
   all_goals (go_wp2_with fail;go_meet)
   all_goals exact⟨rfl,Below.drew (bRQ _ _)⟩
  case rest =>
   obtain⟨rfl,hbc⟩:=hcut;have HC3:Hid (MgC wc w.heap.size x0 x1 (r:Int) x3 x4 x5 x6 x7 x8 x9 x10 x11):=HC2.out.later hbc;have HB2:Hid (Below w.heap.size w wc):=HB1.out.trans (hbc.mono HB1.out.size);have HP2:Hid (Pg wc p B0 O x1 a):=HP.out.later HB2.out;have HK2:Hid (Kb (fun b=>¬O b) w wc):=Kb.of_below HB2.out fun b h _=>h
   obtain⟨dn,hdn⟩:∃dn,dn=doneK a (r:Int):=⟨_,rfl⟩;have HD:Hid (doneK a (r:Int)=dn):=hdn.symm;obtain⟨d4,d0⟩:wc.cell? ⟨p,2+r*5+4,none⟩=some (.bool dn)∧wc.cell? ⟨p,0,none⟩=some (.int i64 x1):=by
    obtain⟨x,pt,mp,vd,h1,h2,_⟩:=HP2.out;have h3:=(h1.pc r HR.out).c4;rw[(h2 r HR.out).hd,←hdn] at h3;exact⟨h3,h1.c0⟩
   obtain⟨k0,k1,k2,k3,k4,k5,k6,k7,k8,k9,k10,k11⟩:=HC3.out;clear HC2 HB1 HC3 HP hpl hbc hdn;by_cases h2:x0=2
   ·have HS2:Hid (M.k=2):=by show _=_;rw[HMR.out.2.1,h2]
    subst h2;cases dn with
    | true =>
      have HS:Hid (hrS x1 a M=a):=hr_done HMR.out.1 HD.out;have HA:Hid (hrA x1 a M=[yesM x1 (r:Int)]):=hr_yes HE.out.symm HMR.out.1 HD.out HS2.out
      go_wp2_with fail
      refine (pyes_any (r:Int) _ d0).mono ?_;rintro e w2 ⟨rfl,rfl⟩;have HF:Hid (HrG Pg noV w p B0 O x1 a 0 [yesM x1 (r:Int)] (.returned (.tuple #[.slice (some ⟨wc.heap.size,0,none⟩) 1 1,noV 0])) (wc.alloc (.cells #[.int i64 3,.int i64 x1,.int i64 (r:Int),.int i64 0,.int i64 0,.bool false,.int i64 0,.int i64 0,.int i64 0,.int i64 0,.int i64 0,.int i64 0] 51))):=hg_yes HP2.out (fun b h=>.inl h) HK2.out (r:Int) _;clear d4 d0 k0 k1 k2 k3 k4 k5 k6 k7 k8 k9 k10 k11;go_wp2;refine bodyPost_ret (v:=.tuple #[.slice (some ⟨wc.heap.size,0,none⟩) 1 1,.nilIface]) (by simp[results,results11,go_sem]) rfl ?_;rw[HS.out,HA.out];exact HF.out
    | false =>
      have HS:Hid (hrS x1 a M=askS a r x3):=by show _=_;rw[hr_ask HE.out.symm HMR.out.1 HD.out HS2.out,HMR.out.2.2.1]
      have HA:Hid (hrA x1 a M=[]):=hr_nil HMR.out.1 (.inl HD.out)
      go_wp2_with fail
      refine (pask_any r x3 _ HP2.out HR.out HOK.out.m HI.out).mono ?_;rintro e w2 ⟨rfl,hp3,hk3,hs3⟩;have HF:Hid (HrG Pg noV w p B0 O x1 (askS a r x3) 0 [] (.returned (.tuple #[.slice none 0 0,noV 0])) w2):=hg_none hp3 (fun b h=>.inl h) (HK2.out.trans hk3);clear d4 d0 k0 k1 k2 k3 k4 k5 k6 k7 k8 k9 k10 k11 hp3 hk3 hs3;go_wp2;refine bodyPost_ret (v:=.tuple #[.slice none 0 0,.nilIface]) (by simp[results,results11,go_sem]) rfl ?_;rw[HS.out,HA.out];exact HF.out
   have f2:(x0==2)=false:=by simpa using h2
   have HS2:Hid (M.k≠2):=by show _≠_;rw[HMR.out.2.1];exact h2
   have HA:Hid (hrA x1 a M=[]):=hr_nil HMR.out.1 (.inr HS2.out);cases dn with
   | true =>
     have HS:Hid (hrS x1 a M=a):=hr_done HMR.out.1 HD.out;go_wp2;refine bodyPost_ret (v:=.tuple #[.slice none 0 0,.nilIface]) (by simp[results,results11,go_sem]) rfl ?_;rw[HS.out,HA.out];exact hg_none HP2.out (fun b h=>.inl h) HK2.out
   | false =>
     have HS:Hid (hrS x1 a M=keepS a r x3 ⟨x4,x5,⟨x6,x7,x8,x9,x10,x11⟩⟩):=by show _=_;rw[hr_keep HE.out.symm HMR.out.1 HD.out HS2.out,HMR.out.2.2.1,HMR.out.2.2.2]
     have HL:Hid (a.l.length≤100000):=by show _≤_;have:=HOK.out.l;have:=HKK.out;omega
     go_wp2_with fail
     refine (pkeep_any r x3 x4 x5 x6 x7 x8 x9 x10 x11 _ HP2.out HR.out HD.out HL.out).mono ?_;rintro e w2 ⟨rfl,O1,hp3,hO3,hk3⟩;have HF:Hid (HrG Pg noV w p B0 O x1 (keepS a r x3 ⟨x4,x5,⟨x6,x7,x8,x9,x10,x11⟩⟩) 0 [] (.returned (.tuple #[.slice none 0 0,noV 0])) w2):=hg_none hp3 (fun b h=>(hO3 b h).imp id fun h=>Nat.le_trans HB2.out.size h) (HK2.out.trans hk3);clear d4 d0 k0 k1 k2 k3 k4 k5 k6 k7 k8 k9 k10 k11 hp3 hk3 hO3;go_wp2;refine bodyPost_ret (v:=.tuple #[.slice none 0 0,.nilIface]) (by simp[results,results11,go_sem]) rfl ?_;rw[HS.out,HA.out];exact HF.out
 have HN:Hid (hrN N M≠0):=by show _≠_;rw[←HE.out];exact h0
 rw[no_ne h0];go_wp2;refine bodyPost_ret (v:=.tuple #[.slice none 0 0,.iface 81 (.int i64 E)]) (by simp[results,results11,go_sem]) rfl ?_;rw[(hr_else HN.out).1,(hr_else HN.out).2,←no_ne h0];exact hg_none (HP.out.later HB1.out) (fun b h=>.inl h) (Kb.of_below HB1.out fun b h _=>h)
def allM (M:List (Int×Op8))(n:Nat):Bool:=(List.range n).all fun (k:Nat)=>(mget qI (k:Int) M).isSome
theorem allM_next (M:List (Int×Op8))(k:Nat):allM M (k+1)=(allM M k&&(mget qI (k:Int) M).isSome):=by
 rw[allM,allM,List.range_succ,List.all_append];simp
theorem allM_less {M:List (Int×Op8)}{k n:Nat}(h:allM M k=false)(hk:k≤n):allM M n=false:=by
 cases e:allM M n with
 | false=>rfl
 | true =>
   rw[allM,List.all_eq_true] at e;have:allM M k=true:=by
    rw[allM,List.all_eq_true];intro x hx;exact e x (List.mem_range.2 (by have:=List.mem_range.1 hx;omega))
   rw[h] at this;cases this
theorem whole_any (b o:Nat)(m:Option Nat)(h s:Int)(ak dn:Bool)(M:List (Int×Op8))(w:World)(hp:PtAt w b o ⟨m,h,ak,s,dn⟩)(hm:MpA w m M)(hs:s≤1000):
 Calls prog 71 #[.pointer (some ⟨b,o,none⟩)] w fun e w'=>e=.returned (.bool (ak&&allM M s.toNat))∧Below w.heap.size w w':=by
 have HP:Hid (PtAt w b o ⟨m,h,ak,s,dn⟩):=hp;have HM:Hid (MpA w m M):=hm;have c2:=hp.c2;have c3:=hp.c3;simp only at c2 c3;clear hp hm;go_enter func71,ntmps71;cases ak with
 | false =>
   go_wp2;go_ret;exact⟨rfl,bRQ _ _⟩
 | true =>
   obtain⟨R,hR⟩:∃R,R=allM M s.toNat:=⟨_,rfl⟩;have HR:Hid (R=allM M s.toNat):=hR;rw[←hR];clear hR;go_wp2
   go_loopw [15] (fun i wr=>∃k:Nat,k≤s.toNat∧i=.int i64 k∧allM M k=true∧Below w.heap.size w wr) (fun i _=>s.toNat-(intOf i).toNat)
   case atStart=>exact⟨0,by omega,rfl,rfl,bRQ _ _⟩
   case round =>
    obtain⟨k,hk,rfl,ha,hb⟩:=hrel;have HB:Hid (Below w.heap.size w wr):=hb;have HA:Hid (allM M k=true):=ha;have d0:=(HP.out.later HB.out).c0;simp only at d0;clear ha hb c2 c3;by_cases hlt:(k:Int)<s
    ·have hlk:=(HM.out.later HB.out).look (k:Int);obtain⟨Y,hY⟩:∃Y,Y=(mget qI (k:Int) M).getD zeP:=⟨_,rfl⟩;obtain⟨B,hB⟩:∃B,B=(mget qI (k:Int) M).isSome:=⟨_,rfl⟩;rw[←hY,←hB] at hlk;have HBB:Hid (B=(mget qI (k:Int) M).isSome):=hB;clear hY hB;obtain⟨y0,y1,⟨y2,y3,y4,y5,y6,y7⟩⟩:=Y;have hlk2:(Instr.lookup 102 (.map m) (.int i64 (k:Int)) true).run prog wr=.ok (.tuple #[.agg #[.int i64 y0,.bool y1,.int i64 y2,.int i64 y3,.int i64 y4,.int i64 y5,.int i64 y6,.int i64 y7],.bool B]) wr:=hlk;clear hlk;cases B with
     | true =>
       have HN:Hid (allM M (k+1)=true):=by
        show _=_;rw[allM_next,HA.out,←HBB.out];rfl
       go_wp2;go_roundw
       case rel=>exact⟨k+1,by omega,by go_num,HN.out,HB.out.alloc HB.out.size _⟩
       case measure=>simp[intOf];omega
     | false =>
       have HN:Hid (R=false):=by
        show _=_;rw[HR.out];refine allM_less (k:=k+1) ?_ (by omega);rw[allM_next,←HBB.out,Bool.and_false]
       go_wp2;go_ret;exact⟨by rw[HN.out];rfl,HB.out.alloc HB.out.size _⟩
    have HN:Hid (R=true):=by
     show _=_;rw[HR.out,show s.toNat=k by omega];exact HA.out
    go_wp2;go_ret;exact⟨by rw[HN.out];rfl,HB.out⟩
theorem ready1_any (m:Option Nat)(h s:Int)(ak dn:Bool)(M:List (Int×Op8))(w:World)(hm:dn=false→MpA w m M)(hs:s≤1000):
 Calls prog 70 #[.agg #[.map m,.int i64 h,.bool ak,.int i64 s,.bool dn]] w fun e w'=>e=.returned (.bool (!dn&&(ak&&allM M s.toNat)))∧Below w.heap.size w w':=by
 have hb1:Below w.heap.size w (w.alloc (.cells #[Value.map m,.int i64 h,Value.bool ak,.int i64 s,Value.bool dn] 104)):=(bRQ _ _).alloc (nLQ _) _;have HB:Hid (Below w.heap.size w (w.alloc (.cells #[Value.map m,.int i64 h,Value.bool ak,.int i64 s,Value.bool dn] 104))):=hb1;have HP:Hid (PtAt (w.alloc (.cells #[Value.map m,.int i64 h,Value.bool ak,.int i64 s,Value.bool dn] 104)) w.heap.size 0 ⟨m,h,ak,s,dn⟩):=by
  refine⟨?_,?_,?_,?_,?_⟩ <;> simp
 have HM:Hid (dn=false→MpA w m M):=hm;clear hm hb1;go_enter func70,ntmps70;cases dn with
 | true =>
   go_wp2;go_ret;exact⟨rfl,HB.out⟩
 | false =>
   go_wp2_with fail
   refine (whole_any _ 0 m h s ak false M _ HP.out ((HM.out (by first | trivial | rfl)).later HB.out) hs).mono ?_;rintro e w1 ⟨rfl,hb⟩;have HB2:Hid (Below w.heap.size w w1):=HB.out.trans (hb.mono HB.out.size);clear hb;go_wp2;go_ret;exact⟨by simp,HB2.out⟩
theorem idxP_any (f:FuncId)(p o:Nat)(a:AgT)(pt:Nat→Pt)(w:World)(hc:∀r,r<20→PtAt w p (o+r*5) (pt r))(he:∀args w,(callFunc f args).run prog w=.ok (.enter f args) w)
 (hf:∀r,r<20→∀W,Below w.heap.size w W→Calls prog f #[.agg #[.map (pt r).m,.int i64 (pt r).h,.bool (pt r).a,.int i64 (pt r).s,.bool (pt r).d]] W fun e w'=>e=.returned (.bool (rdyB a (r:Int)))∧Below W.heap.size W w'):
 Calls prog 69 #[.slice (some ⟨p,o,none⟩) 20 20,.func (Fn.func f) #[] #[]] w fun e w'=>e=.returned (.int i64 (rdyN a))∧Below w.heap.size w w':=by
 have HC:Hid (∀r,r<20→PtAt w p (o+r*5) (pt r)):=hc;have HF:Hid (∀r,r<20→∀W,Below w.heap.size w W→Calls prog f #[.agg #[.map (pt r).m,.int i64 (pt r).h,.bool (pt r).a,.int i64 (pt r).s,.bool (pt r).d]] W fun e w'=>e=.returned (.bool (rdyB a (r:Int)))∧Below W.heap.size W w'):=hf;obtain⟨R,hR⟩:∃R,R=rdyN a:=⟨_,rfl⟩;have HR:Hid (R=rdyTo a 0 20):=hR;rw[←hR];clear hc hf hR;go_enter func69,ntmps69;go_wp2
 go_loopw [8] (fun i wr=>∃k:Nat,k≤20∧i=.int i64 k∧R=rdyTo a k (20-k)∧Below w.heap.size w wr) (fun i _=>20-(intOf i).toNat)
 case atStart=>exact⟨0,by omega,rfl,HR.out,bRQ _ _⟩
 case round =>
  obtain⟨k,hk,rfl,hr,hB⟩:=hrel;have HB:Hid (Below w.heap.size w wr):=hB;have HRK:Hid (R=rdyTo a k (20-k)):=hr;clear hr hB;by_cases hlt:k<20
  ·obtain⟨q0,q1,q2,q3,q4⟩:=(HC.out k hlt).later HB.out;have hcall:=HF.out k hlt wr HB.out
   generalize pt k=q at q0 q1 q2 q3 q4 hcall
   obtain⟨m,h,ak,s,dn⟩:=q;simp only at q0 q1 q2 q3 q4;have HCA:Hid (Calls prog f #[.agg #[.map m,.int i64 h,.bool ak,.int i64 s,.bool dn]] wr fun e w'=>e=.returned (.bool (rdyB a (k:Int)))∧Below wr.heap.size wr w'):=hcall;have HRS:Hid (R=if rdyB a (k:Int)=true then (k:Int) else rdyTo a (k+1) (20-(k+1))):=by
    show _=_;rw[HRK.out,show 20-k=(20-(k+1))+1 by omega,rdy_step]
   have kb0:(0:Int)≤(k:Int):=by omega
   have kb1:(k:Int)<20:=by omega
   clear hcall HRK;obtain⟨B,hB⟩:∃B,B=rdyB a (k:Int):=⟨_,rfl⟩;rw[←hB] at HCA HRS;clear hB;cases B with
   | false =>
     have HRN:Hid (R=rdyTo a (k+1) (20-(k+1))):=by
      show _=_;rw[HRS.out];rfl
     go_wp2_with fail
     refine HCA.out.mono ?_;rintro e w1 ⟨rfl,hb1⟩;have HB1:Hid (Below w.heap.size w w1):=HB.out.trans (hb1.mono HB.out.size);clear hb1 q0 q1 q2 q3 q4;go_wp2;go_roundw
     case rel=>exact⟨k+1,by omega,by go_num,HRN.out,HB1.out⟩
     case measure=>simp[intOf];omega
   | true =>
     have HRN:Hid (R=(k:Int)):=by
      show _=_;rw[HRS.out];rfl
     go_wp2_with fail
     refine HCA.out.mono ?_;rintro e w1 ⟨rfl,hb1⟩;have HB1:Hid (Below w.heap.size w w1):=HB.out.trans (hb1.mono HB.out.size);clear hb1 q0 q1 q2 q3 q4;go_wp2;go_ret;exact⟨by rw[HRN.out];rfl,HB1.out⟩
  obtain rfl:k=20:=by omega
  have HRN:Hid (R = -1):=by
   show _=_;rw[HRK.out];rfl
  go_wp2;go_ret;exact⟨by rw[HRN.out];rfl,HB.out⟩
theorem pready_any {p B0:Nat}{O:Nat→Prop}{N:Int}{a:AgT}(w:World)(h:Pg w p B0 O N a):
 Calls prog 38 #[.pointer (some ⟨p,0,none⟩)] w fun e w'=>e=.returned (.int i64 (rdyN a))∧Below w.heap.size w w':=by
 obtain⟨x,pt,mp,vd,h,hm,_⟩:=h;have HI:=idxP_any 70 p 2 a pt w h.pc (enters_of func70 (by kernel_rfl) rfl) (fun r hr W hW=>by
  have h1:=ready1_any (pt r).m (pt r).h (pt r).s (pt r).a (pt r).d (mp r) W (fun _=>(h.pm r hr).kb (p:=fun b=>b<w.heap.size) (Kb.of_below hW fun b _ h=>h) fun b hb=>(h.pm r hr).lt b hb) (hm r hr).hl;have h2:=pt_ready (hm r hr);rw[show allM (mp r) (pt r).s.toNat=((List.range (pt r).s.toNat).all fun (k:Nat)=>(mget qI (k:Int) (mp r)).isSome) from rfl,h2] at h1;exact h1)
 have HI2:Hid (Calls prog 69 #[.slice (some ⟨p,2,none⟩) 20 20,.func (Fn.func 70) #[] #[]] w fun e w'=>e=.returned (.int i64 (rdyN a))∧Below w.heap.size w w'):=HI;obtain⟨R,hR⟩:∃R,R=rdyN a:=⟨_,rfl⟩;rw[←hR] at HI2 ⊢;clear HI hR h hm;go_enter func38,ntmps38
 go_wp2_with fail
 refine HI2.out.mono ?_;rintro e w1 ⟨rfl,hb1⟩;go_wp2;go_ret;exact⟨rfl,hb1⟩
def opsM (M:List (Int×Op8))(n:Nat):List Op8:=(List.range n).map fun (k:Nat)=>(mget qI (k:Int) M).getD zeP
theorem opsM_next (M:List (Int×Op8))(k:Nat):opsM M (k+1)=opsM M k++[(mget qI (k:Int) M).getD zeP]:=by
 rw[opsM,opsM,List.range_succ,List.map_append];rfl
theorem opsM_len (M:List (Int×Op8))(k:Nat):(opsM M k).length=k:=by rw[opsM,List.length_map,List.length_range]
theorem plist_any (b o:Nat)(m:Option Nat)(h s:Int)(ak dn:Bool)(M:List (Int×Op8))(w:World)(hp:PtAt w b o ⟨m,h,ak,s,dn⟩)(hm:MpA w m M)(hs:s≤1000):
 Calls prog 40 #[.pointer (some ⟨b,o,none⟩)] w fun e w'=>∃a1 n1 c1,e=.returned (.slice a1 n1 c1)∧SO w' (.slice a1 n1 c1) (opsM M s.toNat)∧Below w.heap.size w w':=by
 have HP:Hid (PtAt w b o ⟨m,h,ak,s,dn⟩):=hp;have HM:Hid (MpA w m M):=hm;have c3:=hp.c3;simp only at c3;clear hp hm;go_enter func40,ntmps40;go_wp2
 go_loopw [3,9] (fun v i wr=>∃k:Nat,k≤s.toNat∧i=.int i64 k∧wr.ownsRow w.heap.size 49 8 v (opsM M k).length (cellsO (opsM M k))∧Below w.heap.size w wr) (fun _ i _=>s.toNat-(intOf i).toNat)
 case atStart=>exact⟨0,by omega,rfl,World.ownsRow_nil _ _ _ _,bRQ _ _⟩
 case round =>
  obtain⟨k,hk,rfl,hown,hb⟩:=hrel;have HB:Hid (Below w.heap.size w wr):=hb;have d0:=(HP.out.later HB.out).c0;simp only at d0;obtain⟨av,cv,e5⟩:=own_form hown;have hln:(opsM M k).length=k:=opsM_len M k;rw[hln] at e5;subst e5;have HOW:Hid (wr.ownsRow w.heap.size 49 8 (.slice av k cv) (opsM M k).length (cellsO (opsM M k))):=hown;clear hown hb c3 hln;by_cases hlt:(k:Int)<s
  ·have hlk:=(HM.out.later HB.out).look1 (k:Int);obtain⟨Y,hY⟩:∃Y,Y=(mget qI (k:Int) M).getD zeP:=⟨_,rfl⟩;have HN:Hid (opsM M (k+1)=opsM M k++[Y]):=by show _=_;rw[hY];exact opsM_next M k
   rw[←hY] at hlk;clear hY;obtain⟨y0,y1,⟨y2,y3,y4,y5,y6,y7⟩⟩:=Y;have hlk2:(Instr.lookup 102 (.map m) (.int i64 (k:Int)) false).run prog wr=.ok (.agg #[.int i64 y0,.bool y1,.int i64 y2,.int i64 y3,.int i64 y4,.int i64 y5,.int i64 y6,.int i64 y7]) wr:=hlk;have HK:Hid ((opsM M k).length≤1000):=by
    show _≤_;rw[opsM_len];omega
   have hBB:=(Below.refl wr.heap.size wr).alloc (nLQ _) (Obj.cells #[.int i64 y0,Value.bool y1,.int i64 y2,.int i64 y3,.int i64 y4,.int i64 y5,.int i64 y6,.int i64 y7] 49);have HBB:Hid (Below wr.heap.size wr (wr.alloc (.cells #[.int i64 y0,Value.bool y1,.int i64 y2,.int i64 y3,.int i64 y4,.int i64 y5,.int i64 y6,.int i64 y7] 49))):=hBB;have HC8:Hid (C8 (wr.alloc (.cells #[.int i64 y0,Value.bool y1,.int i64 y2,.int i64 y3,.int i64 y4,.int i64 y5,.int i64 y6,.int i64 y7] 49)) wr.heap.size 0 ⟨y0,y1,⟨y2,y3,y4,y5,y6,y7⟩⟩):=C8.new wr y0 y1 y2 y3 y4 y5 y6 y7 49;clear hlk hBB
   go_wp2_with (at_builtin;refine wpList_append_op _ rfl _ _ 29 rfl underlying29 w.heap.size _ rfl _ (own_below HOW.out HBB.out) _ rfl _ HC8.out HK.out (HB.out.trans (HBB.out.mono HB.out.size)).size ?_)
   intro v' w3 hown3 hgrow;have hO3:=own_below HOW.out HBB.out;have HB3:Hid (Below w.heap.size w w3):=(HB.out.trans (HBB.out.mono HB.out.size)).grown hgrow (HB.out.trans (HBB.out.mono HB.out.size)).size (fun g hg=>(hO3.lt g hg).1);have HO3:Hid (w3.ownsRow w.heap.size 49 8 v' (opsM M (k+1)).length (cellsO (opsM M (k+1)))):=by
    show World.ownsRow _ _ _ _ _ _ _;rw[HN.out,List.length_append];exact hown3
   clear hown3 hgrow hO3 d0 hlk2;go_wp2;go_roundw
   case rel=>exact⟨k+1,by omega,by go_num,HO3.out,HB3.out⟩
   case measure=>simp[intOf];omega
  have HF:Hid (SO wr (.slice av k cv) (opsM M s.toNat)):=by
   show SO _ _ _;rw[show s.toNat=k by omega];have h1:=own_SO HOW.out;exact h1
  go_wp2;go_ret;exact⟨_,_,_,rfl,HF.out,HB.out⟩
theorem nr_form {w:World}{B:Nat}{v:Value}{L:List Ru}(h:NR w B v L):∃y:SlT,v=slV y∧(∀b,b<B→offB y b)∧∀ad,y.1=some ad→B≤ad.block:=by
 have hl:=World.ownsRow.lt h
 rcases h.2 with ⟨rfl,_⟩ | ⟨g,cap,cur,rfl,_⟩
 ·exact⟨(none,0,0),rfl,(fun b _=>.inl rfl),fun _ h=>by cases h⟩
 refine⟨(some ⟨g,0,none⟩,L.length,cap),rfl,(fun b hb=>.inr fun ad ha=>?_),fun ad ha=>?_⟩
 ·cases ha;have:=(hl g rfl).1;show g≠b;omega
 cases ha;exact (hl g rfl).1
theorem pt_list {a:AgT}{r:Nat}{q:Pt}{M:List (Int×Op8)}(h:PtM a r q M)(hd:q.d=false)(ha:q.a=true):opsM M q.s.toNat=opsK a (r:Int):=by
 rw[opsM,opsK,←h.hs ha]
 congr 1
 funext k
 rw[h.hk hd,kept_op]
theorem rdy_open {a:AgT}(h:¬rdyN a<0):∃i:Nat,rdyN a=(i:Int)∧i<20∧doneK a (i:Int)=false∧0≤manyK a (i:Int):=by
 obtain⟨i,h1,h2,h3⟩:=rdyTo_yes 20 h;have e:rdyB a (i:Int)=(!doneK a (i:Int)&&decide (0≤manyK a (i:Int))&&allK a.l (i:Int) (manyK a (i:Int)).toNat):=rfl;rw[e,Bool.and_eq_true,Bool.and_eq_true] at h3;exact⟨i,h1,by omega,by simpa using h3.1.1,by simpa using h3.1.2⟩
theorem ptm_done {a:AgT}{r:Nat}{t:List Ru}{pt:Nat→Pt}{mp:Nat→List (Int×Op8)}(h:∀s,s<20→PtM a s (pt s) (mp s))(s:Nat)(hs:s<20):
 PtM { a with t:=t,d:=a.d++[(r:Int)] } s (updF pt r ⟨none,(pt r).h,(pt r).a,(pt r).s,true⟩ s) (updF mp r [] s):=by
 have g:=h s hs;have hd:doneK { a with t:=t,d:=a.d++[(r:Int)] } (s:Int)=(doneK a (s:Int) || ((r:Int)==(s:Int))):=by
  simp[doneK]
 by_cases e:s=r
 ·subst e;rw[upd_same,upd_same];refine⟨g.hh,?_,g.ha,g.hs,g.hl,fun h=>by cases h⟩;rw[hd];simp
 have e2:((r:Int)==(s:Int))=false:=by
  rw[beq_eq_false_iff_ne];omega
 rw[upd_other _ _ e,upd_other _ _ e];refine⟨g.hh,?_,g.ha,g.hs,g.hl,g.hk⟩;rw[hd,e2,Bool.or_false];exact g.hd
theorem pg_mark {V:World}{p B0:Nat}{O:Nat→Prop}{N:Int}{t:List Ru}{d:List Int}{x:SlT}{pt:Nat→Pt}{mp:Nat→List (Int×Op8)}{vd:Value}(h:PgC V p B0 O N t d x pt mp vd){r:Nat}(hr:r<20):
 PgC ((V.setCell ⟨p,2+r*5,none⟩ (.map none)).setCell ⟨p,2+r*5+4,none⟩ (.bool true)) p B0 O N t d x (updF (updF pt r { pt r with m:=none }) r ⟨none,(pt r).h,(pt r).a,(pt r).s,true⟩) (updF (updF mp r []) r []) vd:=by
 have hp:=h.pc r hr;have h4:PgC (V.setCell ⟨p,2+r*5,none⟩ (.map none)) p B0 O N t d x (updF pt r { pt r with m:=none }) (updF mp r []) vd:=h.poke hr (j:=0) (by omega) (v:=.map none) (q:={ pt r with m:=none }) (M:=[]) ⟨World.cell?_setCell_same _ _ _ hp.c0,cell_off hp.c1 (by omega) _,cell_off hp.c2 (by omega) _,cell_off hp.c3 (by omega) _,cell_off hp.c4 (by omega) _⟩ (.inr ⟨rfl,rfl⟩);have hp2:=h4.pc r hr;rw[upd_same] at hp2;exact h4.poke hr (j:=4) (by omega) (v:=.bool true) (q:=⟨none,(pt r).h,(pt r).a,(pt r).s,true⟩) (M:=[]) ⟨cell_off hp2.c0 (by omega) _,cell_off hp2.c1 (by omega) _,cell_off hp2.c2 (by omega) _,cell_off hp2.c3 (by omega) _,World.cell?_setCell_same _ _ _ hp2.c4⟩ (.inr ⟨rfl,rfl⟩)
theorem pwork_any {p B0:Nat}{O:Nat→Prop}{N:Int}{a:AgT}{k:Nat}(w:World)(h:Pg w p B0 O N a)(hok:AgOK a k)(hk:k≤1000):
 Calls prog 12 #[.pointer (some ⟨p,0,none⟩)] w fun e w'=>HrG Pg noV w p B0 O N (wkS a) (wkN a) (wkA N a) e w':=by
 have HP:Hid (Pg w p B0 O N a):=h;have HPW:Hid (Pg w p B0 O N a):=h;have HOK:Hid (AgOK a k):=hok;have HKK:Hid (k≤1000):=hk;have HRD:Hid (Calls prog 38 #[.pointer (some ⟨p,0,none⟩)] w fun e w'=>e=.returned (.int i64 (rdyN a))∧Below w.heap.size w w'):=pready_any w h;obtain⟨Z,hZ⟩:∃Z,Z=rdyN a:=⟨_,rfl⟩;have HZ:Hid (Z=rdyN a):=hZ;clear h hok hk hZ;go_enter func12,ntmps12
 go_wp2_with fail
 refine HRD.out.mono ?_;rintro e w1 ⟨rfl,hb1⟩;rw[←HZ.out];have HB1:Hid (Below w.heap.size w w1):=hb1;clear HRD hb1;by_cases hz:Z<0
 ·have HN:Hid (wkN a=6∧wkS a=a∧wkA N a=[]):=by
   show _∧_∧_;rw[HZ.out] at hz;exact⟨by rw[wkN,if_pos hz],by rw[wkS,if_pos hz],by rw[wkA,if_pos hz]⟩
  go_wp2;refine bodyPost_ret (v:=.tuple #[.slice none 0 0,.iface 81 (.int i64 6)]) (by simp[results,results12,go_sem]) rfl ?_;rw[HN.out.1,HN.out.2.1,HN.out.2.2];exact hg_none (HP.out.later HB1.out) (fun b h=>.inl h) (Kb.of_below HB1.out fun b h _=>h)
 obtain⟨i,hi1,hi2,hi3,hi4⟩:=rdy_open (a:=a) (by rw[←HZ.out];exact hz);have hzi:Z=(i:Int):=by rw[HZ.out,hi1]
 subst hzi;have HW:Hid (wkN a=0∧wkS a={ a with t:=wkTab a.t (opsK a (i:Int)),d:=a.d++[(i:Int)] }∧wkA N a=[yesM N (i:Int)]):=by
  show _∧_∧_;refine⟨?_,?_,?_⟩
  ·rw[wkN,hi1,if_neg (by omega)]
  ·rw[wkS,hi1,if_neg (by omega)]
  rw[wkA,hi1,if_neg (by omega)]
 obtain⟨x,pt,mp,vd,hg,hpm,hql⟩:=HP.out.later HB1.out;have HG1:Hid (PgC w1 p B0 O N a.t a.d x pt mp vd):=hg;have HPM:Hid (∀s,s<20→PtM a s (pt s) (mp s)):=hpm;have HQL:Hid (∀q∈a.l,0≤q.r∧q.r<20):=hql;have HI:Hid (i<20):=hi2;have hqd:(pt i).d=false:=by rw[(hpm i hi2).hd,hi3]
 have hqa:(pt i).a=true:=by rw[(hpm i hi2).ha];simpa using hi4
 have HOP:Hid (opsM (mp i) (pt i).s.toNat=opsK a (i:Int)):=pt_list (hpm i hi2) hqd hqa;have HLI:Hid (∀W,Below w1.heap.size w1 W→Calls prog 40 #[.pointer (some ⟨p,2+i*5,none⟩)] W fun e w'=>∃a1 n1 c1,e=.returned (.slice a1 n1 c1)∧SO w' (.slice a1 n1 c1) (opsK a (i:Int))∧Below W.heap.size W w'):=fun W hW=>by
  have h5:=plist_any p (2+i*5) (pt i).m (pt i).h (pt i).s (pt i).a (pt i).d (mp i) W ((hg.later hW).pc i hi2) ((hg.later hW).pm i hi2) (hpm i hi2).hl;rw[HOP.out] at h5;exact h5
 obtain⟨ops,hops⟩:∃ops,ops=opsK a (i:Int):=⟨_,rfl⟩;rw[←hops] at HW HLI;obtain⟨ax,nx,cx⟩:=x;have HST:Hid (∀W,Below w1.heap.size w1 W→W.cell? ⟨p,1,none⟩=some (.slice ax nx cx)∧SR W (.slice ax nx cx) a.t):=fun W hW=>⟨(hg.later hW).c1,(hg.later hW).t⟩
 have HT12:Hid (a.t.length≤1000):=by
  show _≤_;by_cases h12:12<a.t.length
  ·have:=tb_long h12;rw[HOK.out.t] at this;omega
  omega
 have hpl:p<w1.heap.size:=hg.pl;have ib0:(0:Int)≤(i:Int):=by omega
 have ib1:(i:Int)<20:=by omega
 have c1:=(HST.out w1 (bRQ _ _)).1;obtain⟨F,hF⟩:∃F,F=alN a.t ops:=⟨_,rfl⟩;have HF:Hid (F=alN a.t ops):=hF;clear hg hpm hql hi1 hi2 hi3 hi4 hqd hqa hops hz hF HOP HP;go_upto_region 5 with fail
 go_cut [6,7] from 18 to 27 (fun t e w'=>∃ay ny cy,t=.slice ay ny cy∧e=noV F∧NR w' w1.heap.size (.slice ay ny cy) (alL a.t ops)∧Below w1.heap.size w1 w')
 case first =>
  clear HZ HOK HKK HW HG1 HPM HQL HB1
  go_region_with (first | (go_at_call 40;refine (HLI.out _ (by first | exact Below.drew (bRQ _ _) | exact bRQ _ _)).mono ?_;rintro e w9 ⟨a5,n5,c5,rfl,hs5,hb5⟩;have HB9:Hid (Below w1.heap.size w1 w9):=(Below.drew (bRQ _ _)).trans hb5;have c1':=(HST.out w9 HB9.out).1) | (go_at_call 39;refine (all_own ax nx cx a5 n5 c5 a.t ops _ (HST.out _ HB9.out).2 hs5 HT12.out).mono ?_;rintro e w10 ⟨u,rfl,hnr,hb6⟩))
  all_goals (obtain⟨⟨ay,ny,cy⟩,rfl,_,_⟩:=nr_form hnr)
  all_goals (go_wp2_with fail;go_meet)
  all_goals exact⟨ay,ny,cy,rfl,by rw[HF.out],hnr.mono HB9.out.size,HB9.out.trans (hb6.mono HB9.out.size)⟩
 case rest =>
  obtain⟨ay,ny,cy,rfl,rfl,hnr,hbc⟩:=hcut;have HB2:Hid (Below w.heap.size w wc):=HB1.out.trans (hbc.mono HB1.out.size);have HG2:Hid (PgC wc p B0 O N a.t a.d (ax,nx,cx) pt mp vd):=HG1.out.later hbc;obtain⟨⟨_,_,_⟩,e9,hoff,hblk⟩:=nr_form hnr;simp only[slV,Value.slice.injEq] at e9;obtain⟨rfl,rfl,rfl⟩:=e9;have HNS:Hid (SR wc (slV (ay,ny,cy)) (alL a.t ops)):=hnr.sr;have HNO:Hid (∀b,PgO p pt vd b→offB (ay,ny,cy) b):=fun b hb=>hoff b (HG1.out.lt b (HG1.out.ob b hb)).2
  have HBK:Hid (∀ad,ay=some ad→w1.heap.size≤ad.block):=fun ad ha=>hblk ad ha
  have HNB:Hid (ny=0∨∀ad,ay=some ad→w1.heap.size≤ad.block∧ad.block<wc.heap.size):=by
   have h5:=hnr.sr
   rcases h5 with ⟨_,_,e,_⟩ | ⟨g,o,cap',e,h6,h7,h8⟩
   ·cases e;exact .inl rfl
   cases e;by_cases h0:(alL a.t ops).length=0
   ·exact .inl h0
   refine .inr fun ad ha=>⟨hblk ad ha,?_⟩
   cases ha;exact h8.lt (by omega)
  have hplc:p<wc.heap.size:=HG2.out.pl;have HB0w:Hid (B0≤w.heap.size∧w.heap.size≤w1.heap.size):=by
   have h5:=HG1.out.lt p HG1.out.pO;refine⟨?_,HB1.out.size⟩;obtain⟨x',pt',mp',vd',h6,_⟩:=HPW.out;have h7:=h6.lt p h6.pO;omega
  clear hnr hoff hblk hbc HG1 HST HLI HT12 HB1 c1;by_cases hf:F=0
  ·have HWT:Hid (wkTab a.t ops=alL a.t ops):=by show _=_;rw[wkTab,if_pos (by rw[←HF.out];exact hf)]
   rw[no_ok hf];have d1:=HG2.out.c1;have df:=HG2.out.f 1;go_upto_region 8 with fail;obtain⟨V,hV⟩:∃V,V=wc.setCell ⟨p,1,none⟩ (.slice ay ny cy):=⟨_,rfl⟩;obtain⟨O1,y1,H5,HO1,HK5⟩:∃(O1:Nat→Prop) (y1:SlT),Hid (PgC V p B0 O1 N (wkTab a.t ops) a.d y1 pt mp vd)∧Hid (∀b,O1 b→O b∨w.heap.size≤b)∧Hid (Kb (fun b=>¬O b) w V):=by
    rw[HWT.out,hV];have h5:=HG2.out.setT (y:=(ay,ny,cy)) HNS.out HNO.out (by
     rcases HNB.out with h6 | h6
     ·exact .inl h6
     exact .inr fun ad ha=>⟨by have:=(h6 ad ha).1;have:=HB0w.out;omega,(h6 ad ha).2⟩)
    refine⟨_,_,h5,?_,(Kb.of_below HB2.out fun b h _=>h).setCell (q:=⟨p,1,none⟩) (fun _ h6=>h6 HG2.out.pO) _⟩;rintro b (h6 | ⟨ad,ha,h6,h7,rfl⟩)
    ·exact .inl h6
    have:=HBK.out ad ha;have:=HB0w.out.2;exact .inr (by omega)
   have hplV:p<V.heap.size:=H5.out.pl;rw[←hV];clear hV d1 df hplc;have e0:=(H5.out.pc i HI.out).c0;have e4:=(H5.out.pc i HI.out).c4;have f0:=H5.out.f (2+i*5);have f4:=H5.out.f (2+i*5+4);clear HF HNS HNO HNB HG2 HB2;go_upto_region 9 with fail;obtain⟨V2,hV2⟩:∃V2,V2=(V.setCell ⟨p,2+i*5,none⟩ (.map none)).setCell ⟨p,2+i*5+4,none⟩ (.bool true):=⟨_,rfl⟩;have h6:=pg_mark H5.out HI.out;rw[←hV2] at h6;have H6:Hid (PgC V2 p B0 O1 N (wkTab a.t ops) a.d y1 _ _ vd):=h6;have HK6:Hid (Kb (fun b=>¬O b) w V2):=by
    show Kb _ _ _;rw[hV2];exact (HK5.out.setCell (q:=⟨p,2+i*5,none⟩) (fun hl h6=>by
     rcases HO1.out p H5.out.pO with h7 | h7
     ·exact h6 h7
     ·exact absurd hl (by show ¬p<_;omega)) _).setCell (q:=⟨p,2+i*5+4,none⟩) (fun hl h6=>by
     rcases HO1.out p H5.out.pO with h7 | h7
     ·exact h6 h7
     exact absurd hl (by show ¬p<_;omega)) _
   rw[←hV2];have HD5:Hid (a.d.length+1≤maxLen∧(a.d.length+1)*8≤140737488355328):=by
    have:=HOK.out.d;have:=HKK.out;show _∧_;unfold maxLen;exact⟨by omega,by omega⟩
   obtain⟨ad,cd,e5⟩:=own_form H6.out.d;obtain⟨nd,hnd⟩:∃nd,nd=a.d.length:=⟨_,rfl⟩;have e5':vd=.slice ad nd cd:=by rw[hnd];exact e5
   subst e5';obtain⟨j1,hj1,hz0,hz1,hz2⟩:=info_parts infoInt;have HI1:Hid (Tryz.prog.info? 3=some j1):=hj1;have HI2:Hid (j1.zero=some (.int i64 0)):=hz0;have HI3:Hid (j1.size=1):=hz1;have HI4:Hid (j1.bytes=8):=hz2;have HBB2:Hid (p+1≤V2.heap.size):=H6.out.pl;have d4:=H6.out.cd;have hpl2:p<V2.heap.size:=H6.out.pl;clear hj1 hz0 hz1 hz2 e5 hnd e0 e4 f0 f4 hV2 h6 hplV hpl
   go_wp2_with (at_builtin;refine wpList_append_blk (E:=inE) _ rfl _ _ 87 3 rfl underlying87 j1 (.int i64 0) 8 HI1.out HI2.out HI3.out HI4.out rfl (p+1) (.slice ad nd cd) rfl a.d (H6.out.d.alloc _) V2.heap.size 0 1 rfl (i:Int) (vat_new V2 [.int i64 (i:Int)] _) HD5.out.1 HD5.out.2 ?mz ?_)
   case mz =>
    have:=HBB2.out;simp;omega
   intro v' w9 ho9 hg9 hb9;obtain⟨a9,n9,c9,hv9⟩:∃a n c,v'=.slice a n c:=by obtain⟨a,c,h⟩:=own_form ho9;exact⟨a,_,c,h⟩
   subst hv9
   replace ho9:w9.ownsRow (p+1) 3 inE.n (.slice a9 n9 c9) (a.d++[(i:Int)]).length (cellsG inE (a.d++[(i:Int)])):=by
    rw[List.length_append];exact ho9
   have hba:Below V2.heap.size V2 (V2.alloc (.cells #[.int i64 (i:Int)] 3)):=(bRQ _ _).alloc (nLQ _) _;have H6a:=H6.out.later hba;have H7:Hid (PgC (w9.setCell ⟨p,102,none⟩ (.slice a9 n9 c9)) p B0 _ N (wkTab a.t ops) (a.d++[(i:Int)]) y1 _ _ (.slice a9 n9 c9)):=H6a.addD hg9 ho9 (by simpa using hb9);have HO7:Hid (∀b,(O1 b∨(Value.slice a9 n9 c9).ownBlock=some b)→O b∨w.heap.size≤b):=by
    rintro b (h | h)
    ·exact HO1.out b h
    rcases hb9 with h9 | h9
    ·rw[h9] at h;exact HO1.out b (H6.out.ob b (.inr (.inr h)))
    rw[h9] at h;cases h;have h1:=HK6.out.size;exact .inr (Nat.le_trans h1 (Nat.le_succ _))
   have HK7:Hid (Kb (fun b=>¬O b) w (w9.setCell ⟨p,102,none⟩ (.slice a9 n9 c9))):=by
    refine Kb.setCell ((HK6.out.alloc _).grown hg9 fun b hb hl h=>?_) (q:=⟨p,102,none⟩) (fun hl h=>?_) _
    ·rcases HO1.out b (H6.out.ob b (.inr (.inr hb))) with h2 | h2
     ·exact h h2
     omega
    rcases HO1.out p H6.out.pO with h2 | h2
    ·exact h h2
    exact absurd hl (by show ¬p<_;omega)
   have hne:some p≠(Value.slice ad nd cd).ownBlock:=fun e=>H6.out.dne e.symm rfl
   have z4:=hg9.cell H6a.cd hne;have zf:w9.frozen? ⟨p,102,none⟩=false:=by
    rw[World.frozen?_of_block (w:=V2.alloc (.cells #[.int i64 (i:Int)] 3)) (hg9.block p H6a.pl hne)];exact H6a.f 102
   have z4l:=bLQ w9 _ z4;clear ho9 hg9 hb9 hba H6a hne d4 hpl2
   go_wp2_with fail
   refine (pyes_any (i:Int) _ H7.out.c0).mono ?_;rintro e wy ⟨rfl,rfl⟩;have HFI:Hid (HrG Pg noV w p B0 O N { a with t:=wkTab a.t ops,d:=a.d++[(i:Int)] } 0 [yesM N (i:Int)] (.returned (.tuple #[.slice (some ⟨(w9.setCell ⟨p,102,none⟩ (.slice a9 n9 c9)).heap.size,0,none⟩) 1 1,noV 0])) ((w9.setCell ⟨p,102,none⟩ (.slice a9 n9 c9)).alloc (.cells #[.int i64 3,.int i64 N,.int i64 (i:Int),.int i64 0,.int i64 0,.bool false,.int i64 0,.int i64 0,.int i64 0,.int i64 0,.int i64 0,.int i64 0] 51))):=by
    refine hg_yes (a':={ a with t:=wkTab a.t ops,d:=a.d++[(i:Int)] }) ⟨y1,_,_,_,H7.out,fun s hs=>?_,HQL.out⟩ HO7.out HK7.out (i:Int) _;have h6:=ptm_done (r:=i) (t:=wkTab a.t ops) HPM.out s hs;by_cases e:s=i
    ·subst e;rw[upd_same,upd_same] at h6 ⊢;exact h6
    rw[upd_other _ _ e,upd_other _ _ e] at h6 ⊢;rw[upd_other _ _ e,upd_other _ _ e];exact h6
   clear z4 zf z4l;go_wp2;refine bodyPost_ret (v:=.tuple #[.slice (some ⟨(w9.setCell ⟨p,102,none⟩ (.slice a9 n9 c9)).heap.size,0,none⟩) 1 1,.nilIface]) (by simp[results,results12,go_sem]) rfl ?_;rw[HW.out.1,HW.out.2.1,HW.out.2.2];exact HFI.out
  have HWT:Hid (wkTab a.t ops=a.t):=by show _=_;rw[wkTab,if_neg (by rw[←HF.out];exact hf)]
  rw[no_ne hf];go_upto_region 8 with fail;obtain⟨V,hV⟩:∃V,V=wc:=⟨_,rfl⟩;obtain⟨O1,y1,H5,HO1,HK5⟩:∃(O1:Nat→Prop) (y1:SlT),Hid (PgC V p B0 O1 N (wkTab a.t ops) a.d y1 pt mp vd)∧Hid (∀b,O1 b→O b∨w.heap.size≤b)∧Hid (Kb (fun b=>¬O b) w V):=by
   rw[HWT.out,hV];exact⟨O,_,HG2.out,fun b h=>.inl h,Kb.of_below HB2.out fun b h _=>h⟩
  have hplV:p<V.heap.size:=H5.out.pl;rw[←hV];clear hV hplc;have e0:=(H5.out.pc i HI.out).c0;have e4:=(H5.out.pc i HI.out).c4;have f0:=H5.out.f (2+i*5);have f4:=H5.out.f (2+i*5+4);clear HF HNS HNO HNB HG2 HB2;go_upto_region 9 with fail;obtain⟨V2,hV2⟩:∃V2,V2=(V.setCell ⟨p,2+i*5,none⟩ (.map none)).setCell ⟨p,2+i*5+4,none⟩ (.bool true):=⟨_,rfl⟩;have h6:=pg_mark H5.out HI.out;rw[←hV2] at h6;have H6:Hid (PgC V2 p B0 O1 N (wkTab a.t ops) a.d y1 _ _ vd):=h6;have HK6:Hid (Kb (fun b=>¬O b) w V2):=by
   show Kb _ _ _;rw[hV2];exact (HK5.out.setCell (q:=⟨p,2+i*5,none⟩) (fun hl h6=>by
    rcases HO1.out p H5.out.pO with h7 | h7
    ·exact h6 h7
    ·exact absurd hl (by show ¬p<_;omega)) _).setCell (q:=⟨p,2+i*5+4,none⟩) (fun hl h6=>by
    rcases HO1.out p H5.out.pO with h7 | h7
    ·exact h6 h7
    exact absurd hl (by show ¬p<_;omega)) _
  rw[←hV2];have HD5:Hid (a.d.length+1≤maxLen∧(a.d.length+1)*8≤140737488355328):=by
   have:=HOK.out.d;have:=HKK.out;show _∧_;unfold maxLen;exact⟨by omega,by omega⟩
  obtain⟨ad,cd,e5⟩:=own_form H6.out.d;obtain⟨nd,hnd⟩:∃nd,nd=a.d.length:=⟨_,rfl⟩;have e5':vd=.slice ad nd cd:=by rw[hnd];exact e5
  subst e5';obtain⟨j1,hj1,hz0,hz1,hz2⟩:=info_parts infoInt;have HI1:Hid (Tryz.prog.info? 3=some j1):=hj1;have HI2:Hid (j1.zero=some (.int i64 0)):=hz0;have HI3:Hid (j1.size=1):=hz1;have HI4:Hid (j1.bytes=8):=hz2;have HBB2:Hid (p+1≤V2.heap.size):=H6.out.pl;have d4:=H6.out.cd;have hpl2:p<V2.heap.size:=H6.out.pl;clear hj1 hz0 hz1 hz2 e5 hnd e0 e4 f0 f4 hV2 h6 hplV hpl
  go_wp2_with (at_builtin;refine wpList_append_blk (E:=inE) _ rfl _ _ 87 3 rfl underlying87 j1 (.int i64 0) 8 HI1.out HI2.out HI3.out HI4.out rfl (p+1) (.slice ad nd cd) rfl a.d (H6.out.d.alloc _) V2.heap.size 0 1 rfl (i:Int) (vat_new V2 [.int i64 (i:Int)] _) HD5.out.1 HD5.out.2 ?mz ?_)
  case mz =>
   have:=HBB2.out;simp;omega
  intro v' w9 ho9 hg9 hb9;obtain⟨a9,n9,c9,hv9⟩:∃a n c,v'=.slice a n c:=by obtain⟨a,c,h⟩:=own_form ho9;exact⟨a,_,c,h⟩
  subst hv9
  replace ho9:w9.ownsRow (p+1) 3 inE.n (.slice a9 n9 c9) (a.d++[(i:Int)]).length (cellsG inE (a.d++[(i:Int)])):=by
   rw[List.length_append];exact ho9
  have hba:Below V2.heap.size V2 (V2.alloc (.cells #[.int i64 (i:Int)] 3)):=(bRQ _ _).alloc (nLQ _) _;have H6a:=H6.out.later hba;have H7:Hid (PgC (w9.setCell ⟨p,102,none⟩ (.slice a9 n9 c9)) p B0 _ N (wkTab a.t ops) (a.d++[(i:Int)]) y1 _ _ (.slice a9 n9 c9)):=H6a.addD hg9 ho9 (by simpa using hb9);have HO7:Hid (∀b,(O1 b∨(Value.slice a9 n9 c9).ownBlock=some b)→O b∨w.heap.size≤b):=by
   rintro b (h | h)
   ·exact HO1.out b h
   rcases hb9 with h9 | h9
   ·rw[h9] at h;exact HO1.out b (H6.out.ob b (.inr (.inr h)))
   rw[h9] at h;cases h;have h1:=HK6.out.size;exact .inr (Nat.le_trans h1 (Nat.le_succ _))
  have HK7:Hid (Kb (fun b=>¬O b) w (w9.setCell ⟨p,102,none⟩ (.slice a9 n9 c9))):=by
   refine Kb.setCell ((HK6.out.alloc _).grown hg9 fun b hb hl h=>?_) (q:=⟨p,102,none⟩) (fun hl h=>?_) _
   ·rcases HO1.out b (H6.out.ob b (.inr (.inr hb))) with h2 | h2
    ·exact h h2
    omega
   rcases HO1.out p H6.out.pO with h2 | h2
   ·exact h h2
   exact absurd hl (by show ¬p<_;omega)
  have hne:some p≠(Value.slice ad nd cd).ownBlock:=fun e=>H6.out.dne e.symm rfl
  have z4:=hg9.cell H6a.cd hne;have zf:w9.frozen? ⟨p,102,none⟩=false:=by
   rw[World.frozen?_of_block (w:=V2.alloc (.cells #[.int i64 (i:Int)] 3)) (hg9.block p H6a.pl hne)];exact H6a.f 102
  have z4l:=bLQ w9 _ z4;clear ho9 hg9 hb9 hba H6a hne d4 hpl2
  go_wp2_with fail
  refine (pyes_any (i:Int) _ H7.out.c0).mono ?_;rintro e wy ⟨rfl,rfl⟩;have HFI:Hid (HrG Pg noV w p B0 O N { a with t:=wkTab a.t ops,d:=a.d++[(i:Int)] } 0 [yesM N (i:Int)] (.returned (.tuple #[.slice (some ⟨(w9.setCell ⟨p,102,none⟩ (.slice a9 n9 c9)).heap.size,0,none⟩) 1 1,noV 0])) ((w9.setCell ⟨p,102,none⟩ (.slice a9 n9 c9)).alloc (.cells #[.int i64 3,.int i64 N,.int i64 (i:Int),.int i64 0,.int i64 0,.bool false,.int i64 0,.int i64 0,.int i64 0,.int i64 0,.int i64 0,.int i64 0] 51))):=by
   refine hg_yes (a':={ a with t:=wkTab a.t ops,d:=a.d++[(i:Int)] }) ⟨y1,_,_,_,H7.out,fun s hs=>?_,HQL.out⟩ HO7.out HK7.out (i:Int) _;have h6:=ptm_done (r:=i) (t:=wkTab a.t ops) HPM.out s hs;by_cases e:s=i
   ·subst e;rw[upd_same,upd_same] at h6 ⊢;exact h6
   rw[upd_other _ _ e,upd_other _ _ e] at h6 ⊢;rw[upd_other _ _ e,upd_other _ _ e];exact h6
  clear z4 zf z4l;go_wp2;refine bodyPost_ret (v:=.tuple #[.slice (some ⟨(w9.setCell ⟨p,102,none⟩ (.slice a9 n9 c9)).heap.size,0,none⟩) 1 1,.nilIface]) (by simp[results,results12,go_sem]) rfl ?_;rw[HW.out.1,HW.out.2.1,HW.out.2.2];exact HFI.out
theorem ok_short {t:List Ru}(h:tbN t=0):t.length≤1000:=by
 by_cases h12:12<t.length
 ·have:=tb_long h12;rw[h] at this;omega
 omega
theorem pgi:PgI Pg where
 kb:=fun h hk=>h.kb hk
 lt:=fun h=>h.lt
 hear:=fun x0 x1 x2 x3 x4 x5 x6 x7 x8 x9 x10 x11 w h hok hk=>phear_any x0 x1 x2 x3 x4 x5 x6 x7 x8 x9 x10 x11 w h hok hk
 work:=fun w h hok hk=>pwork_any w h hok hk
 new:=fun n ao k c t B0 w hs hB _=>pnew_any n ao k c t B0 w hs hB
 table:=fun w h hok hk=>ptable_any w h (ok_short hok.t)
 ready:=fun w h hok hk=>pready_any w h
end
section
open Go.ChangeShapes Go.WideShapes Go.ChangeAt Go.RowKit Go.Joins
section
variable {P:Program}{α:Type}{E:Enc α}
theorem gs_open {H:Type}{enc:TypeId×Value→H}{W:World}{fuel:Nat}{cs:List Value}{x:DataW H×List MemPlace}(ts te:TypeId)(hu:P.underlying ts=some (.slice te))(hC:P.cellsOf te=E.n)(x0:α)
 (hel:∀(n:Nat) (cs:List Value) (x:DataW H×List MemPlace),DataW.trod enc P W 0 (fun _=>true) true n te cs=some x→∃y,cs=E.c y)
 (hf2:DataW.trod enc P W 0 (fun _=>true) true fuel ts cs=some x):∃ao n cap L,cs=[.slice ao n cap]∧GS E W (.slice ao n cap) L:=by
 obtain⟨d,p⟩:=x
 rcases Go.Deep.open_slice hu hf2 with ⟨hc,hx⟩ | ⟨a,len0,cap,m,k,D,Pl,hc,_,hl,hm,hmm,hx,hall⟩
 ·exact⟨_,_,_,[],hc,.inl ⟨none,0,rfl,rfl⟩⟩
 simp only[if_true] at hmm;subst hmm
 rcases Nat.eq_zero_or_pos len0 with h0 | h0
 ·subst h0;exact⟨_,_,_,[],hc,.inl ⟨_,_,rfl,rfl⟩⟩
 have each:∀i,i<m→∃y:α,∀j,j<E.n→W.cell? (a.add (i*E.n+j))=(E.c y)[j]?:=by
  intro i hi;obtain⟨cs,h1,h2⟩:=hall i hi;rw[hC] at h1;obtain⟨_,hlen,hcell⟩:=World.cells?_some h1;obtain⟨y,rfl⟩:=hel _ _ _ h2;refine⟨y,fun j hj=>?_⟩;have:=hcell j (by omega);rw[Go.Deep.add_add] at this;exact this
 have iR:Inhabited α:=⟨x0⟩;obtain⟨R,hR⟩:=Go.Deep.choose_lt each;obtain⟨sb,so,spot⟩:=a;have hspot:spot=none:=by
  have h1:=hR 0 (by omega) 0 E.pos;have h2:(E.c (R 0))[0]?.isSome=true:=by
   rw[List.getElem?_eq_getElem (by rw[E.len];exact E.pos)];rfl
  obtain⟨u,hu2⟩:=Option.isSome_iff_exists.1 h2;rw[hu2] at h1;simpa[Addr.add] using World.cell?_spot h1
 subst hspot;have hadd:∀j,(⟨sb,so,none⟩:Addr).add j=⟨sb,so+j,none⟩:=by
  intro j;simp only[Addr.add]
  first
   | rfl
   | (split
      ·next h0=>rw[h0];rfl
      rfl)
 refine⟨_,_,_,(List.range len0).map R,hc,.inr ⟨sb,so,_,by simp,by simpa using hl,hm,fun i hi j u hu2=>?_⟩⟩;have hi2:i<len0:=by simpa using hi
 have e:((List.range len0).map R)[i]=R i:=by simp
 rw[e] at hu2;have hj:j<E.n:=by
  have:=(List.getElem?_eq_some_iff.1 hu2).1;rw[E.len] at this;exact this
 have hc:=hR i (by omega) j hj;rw[hadd,hu2,←Nat.add_assoc] at hc;exact hc
end
theorem topo_open {H:Type}{enc:TypeId×Value→H}{W:World}{n:Nat}{cs:List Value}{x:DataW H×List MemPlace}
 (h:DataW.trod enc prog W 0 (fun _=>true) true n 25 cs=some x):∃S ao n cap ao2 n2 cap2 Ls Hs,cs=[.int i64 S,.slice ao n cap,.slice ao2 n2 cap2]∧GS lnkE W (.slice ao n cap) Ls∧GS hstE W (.slice ao2 n2 cap2) Hs:=by
 obtain⟨xs,k,_,_,hl,hlen,hf⟩:=DataW.trod_struct underlying25 h;have hC:Tryz.prog.cellsOf 25=3:=by kernel_rfl
 have hT0:Tryz.prog.cellsOf 3=1:=by kernel_rfl
 have hT1:Tryz.prog.cellsOf 22=1:=by kernel_rfl
 have hT2:Tryz.prog.cellsOf 23=1:=by kernel_rfl
 rw[hC] at hl
 match cs,hl with
 | [c0,c1,c2],_ =>
   match xs,hlen with
   | [z0,z1,z2],_ =>
     have g0:=hf 0 _ rfl;have g1:=hf 1 _ rfl;have g2:=hf 2 _ rfl;simp[hT0,hT1,hT2] at g0 g1 g2;obtain⟨v0,e0,_,_⟩:=DataW.trod_int underlying3 g0;obtain⟨ao,n,cap,Ls,e1,hL⟩:=gs_open (E:=lnkE) 22 134 underlying22 (by kernel_rfl) ((0,0),(0,0)) (fun _ _ _ h=>lnk_open h) g1;obtain⟨ao2,n2,cap2,Hs,e2,hH⟩:=gs_open (E:=hstE) 23 67 underlying23 (by kernel_rfl) (ByteArray.empty,(0,0)) (fun _ _ _ h=>hst_open h) g2;simp at e0 e1 e2;exact⟨v0,ao,n,cap,ao2,n2,cap2,Ls,Hs,by simp[e0,e1,e2],hL,hH⟩
theorem gs_SR {w:World}{v:Value}{L:List Ru}(h:GS rlE w v L):SR w v L:=by
 rcases h with h | ⟨g,o,cap,h1,h2,h3,h4⟩
 ·exact .inl h
 refine .inr ⟨g,o,cap,h1,h2,h3,fun i hi=>?_⟩;have hv:=h4 i hi
 generalize L[i]=r at hv
 obtain⟨p,m,b,q,s,x⟩:=r;obtain⟨q0,q1,q2,q3,q4,q5⟩:=rl_cells hv;exact⟨q0,q1,q2,q3,q4,q5⟩
theorem table_open {H:Type}{enc:TypeId×Value→H}{W:World}{fuel:Nat}{cs:List Value}{x:DataW H×List MemPlace}
 (h:DataW.trod enc prog W 0 (fun _=>true) true fuel 58 cs=some x):∃ao n cap L,cs=[.slice ao n cap]∧SR W (.slice ao n cap) L:=by
 obtain⟨ao,n,cap,L,e,hL⟩:=gs_open (E:=rlE) 58 47 underlying58 (by kernel_rfl) zeR (fun _ _ _ h=>rl_open h) h;exact⟨ao,n,cap,L,e,gs_SR hL⟩
theorem tables_open {H:Type}{enc:TypeId×Value→H}{W:World}{fuel:Nat}{cs:List Value}{x:DataW H×List MemPlace}
 (hf2:DataW.trod enc prog W 0 (fun _=>true) true fuel 26 cs=some x):∃ao n cap Ts,cs=[.slice ao n cap]∧TS W (.slice ao n cap) Ts:=by
 obtain⟨d,p⟩:=x;have hC:Tryz.prog.cellsOf 58=1:=by kernel_rfl
 rcases Go.Deep.open_slice underlying26 hf2 with ⟨hc,hx⟩ | ⟨a,len0,cap,m,k,D,Pl,hc,_,hl,hm,hmm,hx,hall⟩
 ·exact⟨_,_,_,[],hc,.inl ⟨none,0,rfl,rfl⟩⟩
 simp only[if_true] at hmm;subst hmm
 rcases Nat.eq_zero_or_pos len0 with h0 | h0
 ·subst h0;exact⟨_,_,_,[],hc,.inl ⟨_,_,rfl,rfl⟩⟩
 have each:∀i,i<m→∃L:List Ru,∃ao n cap,W.cell? (a.add i)=some (.slice ao n cap)∧SR W (.slice ao n cap) L:=by
  intro i hi;obtain⟨cs,h1,h2⟩:=hall i hi;rw[hC] at h1;obtain⟨_,hlen,hcell⟩:=World.cells?_some h1;obtain⟨ao,n,cap,L,rfl,hL⟩:=table_open h2;refine⟨L,ao,n,cap,?_,hL⟩;have:=hcell 0 (by simp);rw[Go.Deep.add_add] at this;simpa using this
 obtain⟨R,hR⟩:=Go.Deep.choose_lt each;obtain⟨sb,so,spot⟩:=a;have hspot:spot=none:=by
  obtain⟨ao,n,cap,h1,_⟩:=hR 0 (by omega);simpa[Addr.add] using World.cell?_spot h1
 subst hspot;have hadd:∀j,(⟨sb,so,none⟩:Addr).add j=⟨sb,so+j,none⟩:=by
  intro j;simp only[Addr.add]
  first
   | rfl
   | (split
      ·next h0=>rw[h0];rfl
      rfl)
 refine⟨_,_,_,(List.range len0).map R,hc,.inr ⟨sb,so,_,by simp,by simpa using hl,hm,fun i hi=>?_⟩⟩;have hi2:i<len0:=by simpa using hi
 have e:((List.range len0).map R)[i]=R i:=by simp
 rw[e];obtain⟨ao,n,cap,h1,h2⟩:=hR i (by omega);rw[hadd] at h1;exact⟨ao,n,cap,h1,h2⟩
theorem net_open {H:Type}{enc:TypeId×Value→H}{W:World}{n:Nat}{cs:List Value}{x:DataW H×List MemPlace}
 (h:DataW.trod enc prog W 0 (fun _=>true) true n 28 cs=some x):∃S ao n cap ao2 n2 cap2 ao3 n3 cap3 Ls Hs Ts,cs=[.int i64 S,.slice ao n cap,.slice ao2 n2 cap2,.slice ao3 n3 cap3]∧GS lnkE W (.slice ao n cap) Ls∧GS hstE W (.slice ao2 n2 cap2) Hs∧TS W (.slice ao3 n3 cap3) Ts:=by
 obtain⟨xs,k,_,_,hl,hlen,hf⟩:=DataW.trod_struct underlying28 h;have hC:Tryz.prog.cellsOf 28=4:=by kernel_rfl
 have hT0:Tryz.prog.cellsOf 25=3:=by kernel_rfl
 have hT1:Tryz.prog.cellsOf 26=1:=by kernel_rfl
 rw[hC] at hl
 match cs,hl with
 | [c0,c1,c2,c3],_ =>
   match xs,hlen with
   | [z0,z1],_ =>
     have g0:=hf 0 _ rfl;have g1:=hf 1 _ rfl;simp[hT0,hT1] at g0 g1;obtain⟨S,ao,n,cap,ao2,n2,cap2,Ls,Hs,e0,hL,hH⟩:=topo_open g0;obtain⟨ao3,n3,cap3,Ts,e1,hT⟩:=tables_open g1;simp at e0 e1;exact⟨S,ao,n,cap,ao2,n2,cap2,ao3,n3,cap3,Ls,Hs,Ts,by simp[e0,e1],hL,hH,hT⟩
theorem net_of {H:Type}{enc:TypeId×Value→H}{W:World}{base:Nat}{v:Value}{d:DataW H}{p:List MemPlace}
 (hv:Value.okWide prog W .any base 28 v) (h:DataW.Trod enc prog W 0 (fun _=>true) true 28 v d p):∃S ao n cap ao2 n2 cap2 ao3 n3 cap3 Ls Hs Ts,v=.agg #[.int i64 S,.slice ao n cap,.slice ao2 n2 cap2,.slice ao3 n3 cap3]∧GS lnkE W (.slice ao n cap) Ls∧GS hstE W (.slice ao2 n2 cap2) Hs∧TS W (.slice ao3 n3 cap3) Ts:=by
 obtain⟨cs,rfl,hsz⟩:=okWide_struct underlying28 hv;obtain⟨n,hn⟩:=h;obtain⟨S,ao,n,cap,ao2,n2,cap2,ao3,n3,cap3,Ls,Hs,Ts,e,h1,h2,h3⟩:=net_open hn;refine⟨S,ao,n,cap,ao2,n2,cap2,ao3,n3,cap3,Ls,Hs,Ts,?_,h1,h2,h3⟩;simp only[Value.cells] at e;rw[←Array.toArray_toList (xs:=cs),e]
end
end Go.Proofs.YtpgjkmefomldfaaGreat
