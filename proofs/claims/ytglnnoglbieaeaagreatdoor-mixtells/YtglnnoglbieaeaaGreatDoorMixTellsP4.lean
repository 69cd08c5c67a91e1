/- Contracts and facts on the way to MixTells, joined into one text: NetStep1, TopoPeers, TopoPeer, SlHop, HopHas, SlHost, OwnRow, OwnInts, NetLeg, StLeg, RuleOwn, TableApp, TableConcat, TableIdx, TableDo. -/
import Derived.Test.YtglnnoglbieaeaaGreatDoorMixTellsP3
namespace Go.Proofs.YtglnnoglbieaeaaGreatDoor
set_option linter.unusedSimpArgs false
set_option linter.unusedVariables false
set_option maxHeartbeats 16000000
set_option maxRecDepth 100000
section
open Go.RowKit
theorem st_a {t:List Ru}{x y h:Int}(e:luN t h≠0):stT t ((x,y),h)=none:=if_neg e
theorem st_b {t:List Ru}{x y h p m b o s v:Int}(e:luN t h=0)(hr:roR t h=⟨p,m,b,o,s,v⟩)(ha:apN p m b o s v h≠0):stT t ((x,y),h)=none:=by
 unfold stT;simp only;rw[if_pos e,hr];exact if_neg ha
theorem st_c {t:List Ru}{x y h p m b o s v:Int}(e:luN t h=0)(hr:roR t h=⟨p,m,b,o,s,v⟩)(ha:apN p m b o s v h=0):stT t ((x,y),h)=some ((x,o),apR p m b o s v h):=by
 unfold stT;simp only;rw[if_pos e,hr];exact if_pos ha
def sbox (w:World)(S:Int)(v1 v2 v3:Value)(x y h:Int):World:=((w.alloc (Obj.cells #[.int .i64 S,v1,v2,v3] 28)).alloc (Obj.cells #[.int .i64 x,.int .i64 y,.int .i64 h] 74)).alloc (Obj.cells #[.int .i64 0,.int .i64 0,.int .i64 0] 74)
structure SBox (w W:World)(S:Int)(v1 v2 v3:Value)(x y h:Int):Prop where
 below:Below w.heap.size w W
 n:NeBox W w.heap.size S v1 v2 v3
 i0:W.cell? ⟨w.heap.size+1,0,none⟩=some (.int .i64 x)
 i1:W.cell? ⟨w.heap.size+1,1,none⟩=some (.int .i64 y)
 i2:W.cell? ⟨w.heap.size+1,2,none⟩=some (.int .i64 h)
 r0:W.cell? ⟨w.heap.size+1+1,0,none⟩=some (.int .i64 0)
 r1:W.cell? ⟨w.heap.size+1+1,1,none⟩=some (.int .i64 0)
 r2:W.cell? ⟨w.heap.size+1+1,2,none⟩=some (.int .i64 0)
 f:∀i,W.frozen? ⟨w.heap.size+1+1,i,none⟩=false
theorem sbox_new (w:World)(S:Int)(v1 v2 v3:Value)(x y h:Int):SBox w (sbox w S v1 v2 v3 x y h) S v1 v2 v3 x y h:=by
 have e1:(w.alloc (Obj.cells #[.int .i64 S,v1,v2,v3] 28)).heap.size=w.heap.size+1:=by simp
 have e2:((w.alloc (Obj.cells #[.int .i64 S,v1,v2,v3] 28)).alloc (Obj.cells #[.int .i64 x,.int .i64 y,.int .i64 h] 74)).heap.size=w.heap.size+1+1:=by simp
 have hb:∀(W:World) (o:Obj),Below W.heap.size W (W.alloc o):=fun W o=>(Below.refl _ _).alloc (Nat.le_refl _) _
 have hs:=(vat_new (w.alloc (Obj.cells #[.int .i64 S,v1,v2,v3] 28)) [.int .i64 x,.int .i64 y,.int .i64 h] 74).later (hb _ (Obj.cells #[.int .i64 0,.int .i64 0,.int .i64 0] 74));rw[e1] at hs;have hr:=vat_new ((w.alloc (Obj.cells #[.int .i64 S,v1,v2,v3] 28)).alloc (Obj.cells #[.int .i64 x,.int .i64 y,.int .i64 h] 74)) [.int .i64 0,.int .i64 0,.int .i64 0] 74;rw[e2] at hr;have hf:∀k,(sbox w S v1 v2 v3 x y h).frozen? ⟨((w.alloc (Obj.cells #[.int .i64 S,v1,v2,v3] 28)).alloc (Obj.cells #[.int .i64 x,.int .i64 y,.int .i64 h] 74)).heap.size,k,none⟩=false:=fun k=>by
  unfold sbox
  generalize (w.alloc (Obj.cells #[.int .i64 S,v1,v2,v3] 28)).alloc (Obj.cells #[.int .i64 x,.int .i64 y,.int .i64 h] 74)=X
  simp
 rw[e2] at hf;exact⟨(((Below.refl _ _).alloc (Nat.le_refl _) _).alloc (by rw[e1];omega) _).alloc (by rw[e2];omega) _,((nebox_new w S v1 v2 v3 28).later (hb _ _)).later (hb _ _),hs 0 _ rfl,hs 1 _ rfl,hs 2 _ rfl,hr 0 _ rfl,hr 1 _ rfl,hr 2 _ rfl,hf⟩
theorem SBox.later {w W W':World}{S:Int}{v1 v2 v3:Value}{x y h:Int}(k:SBox w W S v1 v2 v3 x y h)(hb:Below W.heap.size W W'):SBox w W' S v1 v2 v3 x y h:=
 ⟨k.below.trans (hb.mono k.below.size),k.n.later hb,cell_later hb k.i0,cell_later hb k.i1,cell_later hb k.i2,cell_later hb k.r0,cell_later hb k.r1,cell_later hb k.r2,fun i=>(hb.frozen (p:=⟨w.heap.size+1+1,i,none⟩) (show (⟨w.heap.size+1+1,0,none⟩:Addr).block<W.heap.size from World.block_lt_of_cell? W ⟨w.heap.size+1+1,0,none⟩ k.r0)).trans (k.f i)⟩
theorem below_three {w W:World}(h:Below w.heap.size w W)(g:Nat)(hg:w.heap.size≤g)(u v x:Value):Below w.heap.size w (((W.setCell ⟨g,0,none⟩ u).setCell ⟨g,1,none⟩ v).setCell ⟨g,2,none⟩ x):=((h.setCell (p:=⟨g,0,none⟩) hg u).setCell (p:=⟨g,1,none⟩) hg v).setCell (p:=⟨g,2,none⟩) hg x
theorem step_any (S:Int)(ao:Option Addr)(n cap:Nat)(ao2:Option Addr)(n2 cap2:Nat)(ao3:Option Addr)(n3 cap3:Nat)(Ts:List (List Ru))(x y h:Int)(w:World)
 (hT:TS w (.slice ao3 n3 cap3) Ts) (hG:∀k,k<Ts.length→tbN (Ts.getD k [])=0) (h1:1≤x) (h2:x≤(n3:Int)) (h6:n3≤6):
 Calls Tryz.prog 125 #[.agg #[.int .i64 S,.slice ao n cap,.slice ao2 n2 cap2,.slice ao3 n3 cap3],.agg #[.int .i64 x,.int .i64 y,.int .i64 h]] w fun e w'=>e=.returned (.tuple #[.agg #[.int .i64 ((stO Ts ((x,y),h)).getD zeH).1.1,.int .i64 ((stO Ts ((x,y),h)).getD zeH).1.2,.int .i64 ((stO Ts ((x,y),h)).getD zeH).2],.bool (stO Ts ((x,y),h)).isSome])∧Below w.heap.size w w':=by
 obtain⟨k,rfl⟩:∃k:Nat,x=(k:Int)+1:=⟨(x-1).toNat,by omega⟩;have hk:k<n3:=by omega
 obtain⟨_,_,_,e1,hTn,hTm,_,hTa⟩:=hT.form;cases e1;obtain⟨g,o,rfl,hc,_⟩:=hTa (by omega);have hX:=sbox_new w S (.slice ao n cap) (.slice ao2 n2 cap2) (.slice (some ⟨g,o,none⟩) n3 cap3) ((k:Int)+1) y h;obtain⟨a4,n4,c4,q0,hs⟩:=(hc.later hX.below) k (by rw[hTn];exact hk);obtain⟨t,ht⟩:∃t,t=Ts.getD k []:=⟨_,rfl⟩;have hs2:SR (sbox w S (.slice ao n cap) (.slice ao2 n2 cap2) (.slice (some ⟨g,o,none⟩) n3 cap3) ((k:Int)+1) y h) (.slice a4 n4 c4) t:=by
  rw[ht,getT (by rw[hTn];exact hk)];exact hs
 have HTB:Hid (tbN t=0):=by
  show _=_;rw[ht];exact hG k (by rw[hTn];exact hk)
 have HST:Hid (stO Ts (((k:Int)+1,y),h)=stT t (((k:Int)+1,y),h)):=by
  show _=_;unfold stO taT;simp only;rw[ht]
  congr 2
  omega
 obtain⟨A,hA⟩:∃A,A=stO Ts (((k:Int)+1,y),h):=⟨_,rfl⟩;have HA:Hid (A=stT t (((k:Int)+1,y),h)):=hA.trans HST.out;rw[←hA];obtain⟨w0,hw0⟩:∃W,W=sbox w S (.slice ao n cap) (.slice ao2 n2 cap2) (.slice (some ⟨g,o,none⟩) n3 cap3) ((k:Int)+1) y h:=⟨_,rfl⟩;rw[←hw0] at hX q0 hs2;have HX:Hid (SBox w w0 S (.slice ao n cap) (.slice ao2 n2 cap2) (.slice (some ⟨g,o,none⟩) n3 cap3) ((k:Int)+1) y h):=hX;have HS:Hid (SR w0 (.slice a4 n4 c4) t):=hs2;have HW0:Hid (((w.alloc (Obj.cells #[.int .i64 S,.slice ao n cap,.slice ao2 n2 cap2,.slice (some ⟨g,o,none⟩) n3 cap3] 28)).alloc (Obj.cells #[.int .i64 ((k:Int)+1),.int .i64 y,.int .i64 h] 74)).alloc (Obj.cells #[.int .i64 0,.int .i64 0,.int .i64 0] 74)=w0):=hw0.symm;have hw:IntKind.i64.wrap ((k:Int)+1-1)=(k:Int):=by rw[show (k:Int)+1-1=(k:Int) from by omega];exact wrap_small (by omega) (by omega)
 have kb0:(0:Int)≤(k:Int):=by omega
 have kb1:(k:Int)<(n3:Int):=by omega
 clear hT hTn hTm hTa hc hs hs2 hX hA HST hw0 ht hG;go_enter Tryz.func125,Tryz.ntmps125;go_upto_region 1 with fail;rw[HW0.out];obtain⟨_,⟨b0,b1,b2,b3⟩,i0,i1,i2,r0,r1,r2,f⟩:=HX.out;clear HW0 f r0 r1 r2
 go_wp2_with fail
 refine (counting_any (.slice a4 n4 c4) t h _ HS.out).mono ?_;rintro e w1 ⟨rfl,hb1⟩;have HX1:Hid (SBox w w1 S (.slice ao n cap) (.slice ao2 n2 cap2) (.slice (some ⟨g,o,none⟩) n3 cap3) ((k:Int)+1) y h):=HX.out.later hb1;have HS1:Hid (SR w1 (.slice a4 n4 c4) t):=HS.out.later hb1;obtain⟨I,hI⟩:∃I,I=beTo t h t.length:=⟨_,rfl⟩;have HI:Hid (I=beTo t h t.length):=hI;rw[←hI];clear hI hb1 HX HS b0 b1 b2 b3 i0 i1 i2 q0;by_cases h0:I<0
 ·have HA2:Hid (A=none):=by
   show _=_;rw[HA.out,st_a (fun e=>by have:=(lu_0.1 e).2.2;rw[←HI.out] at this;omega)]
  obtain⟨hB2,⟨b0,b1,b2,b3⟩,i0,i1,i2,r0,r1,r2,f⟩:=HX1.out;have HB2:Hid (Below w.heap.size w w1):=hB2;have f0:=f 0;have f1:=f 1;have f2:=f 2;clear f hB2;go_wp2;refine bodyPost_ret (v:=.tuple #[.agg #[.int .i64 0,.int .i64 0,.int .i64 0],.bool false]) (by simp[results,Tryz.results125,go_sem, *]) rfl ⟨by rw[HA2.out];rfl,below_three HB2.out _ (by omega) _ _ _⟩
 have hbd:=be_bd t h t.length;obtain⟨j,rfl⟩:∃j:Nat,I=(j:Int):=⟨I.toNat,by omega⟩;have hjl:j<t.length:=by
  have:=HI.out;omega
 obtain⟨_,_,_,e4,hn4,hm4,_,ha4⟩:=HS1.out.form;cases e4;obtain⟨g4,o4,rfl,hc4,_⟩:=ha4 (by omega);have hjn:j<n4:=by omega
 obtain⟨p,m,b,q,s,v,hl,hLj,c0,c1,c2,c3,c4',c5⟩:=hc4.at hn4 hjn;have HRO:Hid (luN t h=0→roR t h=⟨p,m,b,q,s,v⟩):=by
  intro e;rw[roR,luI,if_pos e,←HI.out,Int.toNat_natCast,getD_at hjl,hLj]
 have HLT:Hid (hdrB h=true→luN t h=0):=fun e=>lu_0.2 ⟨HTB.out,e,by rw[←HI.out];omega⟩
 have HC4:Hid (RAt w1 g4 o4 t):=hc4;have HN4:Hid (t.length=n4):=hn4;have HLJ:Hid (t[j]=⟨p,m,b,q,s,v⟩):=hLj;have jb0:(0:Int)≤(j:Int):=by omega
 have jb1:(j:Int)<(n4:Int):=by omega
 obtain⟨_,⟨b0,b1,b2,b3⟩,i0,i1,i2,r0,r1,r2,f⟩:=HX1.out;have hlt4:g4<w1.heap.size:=World.block_lt_of_cell? _ _ c0;have hlt1:w.heap.size+1<w1.heap.size:=World.block_lt_of_cell? _ _ i0;obtain⟨V,hV⟩:∃V,V=apR p m b q s v h:=⟨_,rfl⟩;obtain⟨N,hN⟩:∃N,N=apN p m b q s v h:=⟨_,rfl⟩;have HV:Hid (V=apR p m b q s v h):=hV;have HN:Hid (N=apN p m b q s v h):=hN;clear hV hN h0 hbd hn4 hm4 ha4 hc4 hLj f HI HTB r0 r1 r2;go_upto_region 5 with fail
 go_cut [8,9] from 26 to 35 (fun hd er w'=>hd=.int .i64 V∧er=noV N∧Below w1.heap.size w1 w')
 case first =>
  go_region_with (go_at_call 154;refine (apply_any p m b q s v h _).mono ?_;rintro e w' ⟨rfl,hb⟩;rw[←HV.out,←HN.out];have HBX:Hid (Below w1.heap.size w1 w'):=(Below.drew (Below.refl _ _)).trans (hb.mono (by simp));clear hb)
  all_goals (go_wp2_with fail;go_meet)
  all_goals exact⟨rfl,rfl,HBX.out⟩
 case rest =>
  obtain⟨rfl,rfl,hbw⟩:=hcut;have HX2:Hid (SBox w wc S (.slice ao n cap) (.slice ao2 n2 cap2) (.slice (some ⟨g,o,none⟩) n3 cap3) ((k:Int)+1) y h):=HX1.out.later hbw;obtain⟨p',m',b',q',s',v',hl',hLj',c0,c1,c2,c3,c4',c5⟩:=(HC4.out.later hbw).at HN4.out hjn;rw[HLJ.out] at hLj';cases hLj';obtain⟨hB2,⟨b0,b1,b2,b3⟩,i0,i1,i2,r0,r1,r2,f⟩:=HX2.out;have HB2:Hid (Below w.heap.size w wc):=hB2;have hlt4:g4<wc.heap.size:=World.block_lt_of_cell? _ _ c0;have hlt1:w.heap.size+1<wc.heap.size:=World.block_lt_of_cell? _ _ i0;have hlt2:w.heap.size+1+1<wc.heap.size:=World.block_lt_of_cell? _ _ r0;have f0:=f 0;have f1:=f 1;have f2:=f 2;clear hbw f hB2 HX1 HC4;by_cases h5:N=0
  ·subst h5;rw[no_ok rfl];have HA2:Hid (A=some (((k:Int)+1,q),V)):=by
    show _=_;have hl:=HLT.out (ap_yes HN.out.symm).2.1;rw[HA.out,st_c hl (HRO.out hl) HN.out.symm,HV.out]
   go_upto_region 8 with fail
   go_region
   all_goals
    go_wp2;refine bodyPost_ret (v:=.tuple #[.agg #[.int .i64 ((k:Int)+1),.int .i64 q,.int .i64 V],.bool true]) (by simp[results,Tryz.results125,go_sem, *]) rfl ⟨by rw[HA2.out];rfl,?_⟩
    first
     | exact below_three (HB2.out.trans ((Below.drew (Below.refl _ _)).mono HB2.out.size)) _ (by omega) _ _ _
  rw[no_ne h5];have HA2:Hid (A=none):=by
   show _=_;by_cases hl:luN t h=0
   ·rw[HA.out,st_b hl (HRO.out hl) (by rw[←HN.out];exact h5)]
   rw[HA.out,st_a hl]
  clear h5;go_wp2;refine bodyPost_ret (v:=.tuple #[.agg #[.int .i64 0,.int .i64 0,.int .i64 0],.bool false]) (by simp[results,Tryz.results125,go_sem, *]) rfl ⟨by rw[HA2.out];rfl,below_three HB2.out _ (by omega) _ _ _⟩
def veS (p:Int×Int):Value:=.agg #[.int .i64 p.1,.int .i64 p.2]
theorem peers_any (ao:Option Addr)(n cap:Nat)(Ls:List ((Int×Int)×(Int×Int)))(w:World)(hL:GS lnkE w (.slice ao n cap) Ls)(hd:(spsL Ls).Nodup)(h1000:n≤1000):
 Calls Tryz.prog 78 #[.slice ao n cap] w fun e w'=>∃B M,e=.returned (.map (some B))∧MAt spotKey veS w' B M∧PM M Ls∧Below w.heap.size w w':=by
 obtain⟨_,_,_,e1,hLn,hLm,_,hLa⟩:=hL.form;cases e1;have HLN:Hid (Ls.length=n):=hLn;have HLA:Hid (0<n→∃g o,ao=some ⟨g,o,none⟩∧GAt lnkE w g o Ls∧cap≤maxLen):=hLa;have HND:Hid ((spsL Ls).Nodup):=hd;have hmk:=run_makeMap (P:=Tryz.prog) 151 w;have HM1:Hid (MAt spotKey veS (w.alloc (.map #[] 0)) w.heap.size []):=mat_new spotKey veS w;clear hL hLn hLm hLa hd;go_enter Tryz.func78,Tryz.ntmps78;go_wp2;obtain⟨B,hB⟩:∃x,w.heap.size=x:=⟨_,rfl⟩;have HB:Hid (w.heap.size=B):=hB
 go_loopw [9] (fun i wr=>∃k:Nat,k≤n∧i=.int .i64 k∧(∃M,MAt spotKey veS wr w.heap.size M∧PM M (Ls.take k))∧Below w.heap.size w wr) (fun i _=>n-(intOf i).toNat)
 case atStart=>exact⟨0,by omega,rfl,⟨[],HM1.out,by simpa using pm_nil⟩,(Below.refl _ _).alloc (Nat.le_refl _) _⟩
 case round =>
  obtain⟨k,hk,rfl,⟨M,hM,hP⟩,hBw⟩:=hrel;have HM:Hid (MAt spotKey veS wr w.heap.size M):=hM;have HP:Hid (PM M (Ls.take k)):=hP;have HBw:Hid (Below w.heap.size w wr):=hBw;clear hB;by_cases hlt:k<n
  ·obtain⟨g,o,hao,hc,_⟩:=HLA.out (by omega);subst hao;obtain⟨x0,x1,x2,x3,hkl,hLk,q0,q1,q2,q3⟩:=lnk_at (hc.later hBw) HLN.out hlt;have HLk:Hid (Ls[k]=((x0,x1),(x2,x3))):=hLk;obtain⟨W0,hW0⟩:∃W0,wr.alloc (Obj.cells #[.int .i64 x0,.int .i64 x1,.int .i64 x2,.int .i64 x3] 105)=W0:=⟨_,rfl⟩;have hBA:Below wr.heap.size wr W0:=by
    rw[←hW0];exact (Below.refl _ _).alloc (Nat.le_refl _) _
   obtain⟨c0,c1,c2,c3⟩:=lnk_cells (lnk_new wr x0 x1 x2 x3 105);simp only[Nat.zero_add] at c0 c1 c2 c3;rw[hW0] at c0 c1 c2 c3;have hM0:MAt spotKey veS W0.drew w.heap.size M:=hM.later hBA.drew;obtain⟨w3,hu1,hM3,hg3⟩:=run_update_M hM0 151 39 Tryz.underlying151 (x0,x1) (x2,x3);obtain⟨w4,hu2,hM4,hg4⟩:=run_update_M hM3 151 39 Tryz.underlying151 (x2,x3) (x0,x1);have hlw:w.heap.size<wr.heap.size:=hM.lt;have hlW:wr.heap.size<W0.drew.heap.size:=World.block_lt_of_cell? _ _ c0;have hk3:∀i,w3.cell? ⟨wr.heap.size,i,none⟩=W0.cell? ⟨wr.heap.size,i,none⟩:=fun i=>World.cell?_of_block (w:=W0) (a:=⟨wr.heap.size,i,none⟩) (hg3.block wr.heap.size hlW (fun e=>by simp only[Option.some.injEq] at e;omega))
   have d0:=(hk3 0).trans c0;have d1:=(hk3 1).trans c1;have d2:=(hk3 2).trans c2;have d3:=(hk3 3).trans c3;have v1:(Instr.mapUpdate 151 (.map (some w.heap.size)) (.agg #[.int .i64 x0,.int .i64 x1]) (.agg #[.int .i64 x2,.int .i64 x3])).run Tryz.prog W0.drew=.ok () w3:=hu1;have v2:(Instr.mapUpdate 151 (.map (some w.heap.size)) (.agg #[.int .i64 x2,.int .i64 x3]) (.agg #[.int .i64 x0,.int .i64 x1])).run Tryz.prog w3=.ok () w4:=hu2;have HM4:Hid (MAt spotKey veS w4 w.heap.size (mput sq (x2,x3) (x0,x1) (mput sq (x0,x1) (x2,x3) M))):=hM4;have HP4:Hid (PM (mput sq (x2,x3) (x0,x1) (mput sq (x0,x1) (x2,x3) M)) (Ls.take (k+1))):=by
    have e:Ls.take (k+1)=Ls.take k++[((x0,x1),(x2,x3))]:=by rw[List.take_succ_eq_append_getElem hkl,hLk]
    show PM _ _;rw[e];refine pm_put hP ?_;rw[←e];exact sps_nd HND.out _
   have HB4:Hid (Below w.heap.size w w4):=by
    have h0:Below w.heap.size w W0.drew:=(hBw.trans (hBA.mono hBw.size)).drew;exact (h0.grown hg3 h0.size (fun j e=>by cases e;exact Nat.le_refl _)).grown hg4 (Nat.le_trans h0.size hg3.size) (fun j e=>by cases e;exact Nat.le_refl _)
   have kb0:(0:Int)≤(k:Int):=by omega
   have kb1:(k:Int)<(n:Int):=by omega
   clear hk3 hlw hlW hu1 hu2 hM3 hM4 hg3 hg4 hM0 hM hP hc hLk hBw hBA;go_upto_region 5 with fail;clear q0 q1 q2 q3
   go_region
   go_wp2;go_roundw
   case rel=>exact⟨k+1,by omega,by go_num,⟨_,HM4.out,HP4.out⟩,HB4.out⟩
   case measure=>simp[intOf];omega
  obtain rfl:k=n:=by omega
  clear hM hP hBw;go_wp2;go_ret;exact⟨_,M,rfl,HM.out,by have:=HP.out;rw[←HLN.out,List.take_length] at this;exact this,HBw.out⟩
theorem froz_new2 (w:World)(cs:Array Value)(t:TypeId)(k:Nat):(w.alloc (.cells cs t)).frozen? ⟨w.heap.size,k,none⟩=false:=by simp
theorem bdrew {w w':World}(hb:Below w.drew.heap.size w.drew w'):Below w.heap.size w w':=(Below.drew (Below.refl _ _)).trans hb
theorem balloc {w w':World}{o:Obj}(hb:Below (w.drew.alloc o).heap.size (w.drew.alloc o) w'):Below w.heap.size w w':=((Below.drew (Below.refl _ _)).alloc (Nat.le_refl _) o).trans (hb.mono (by simp))
theorem peer_look {W:World}{B:Nat}{M Ls:List ((Int×Int)×(Int×Int))}(hM:MAt spotKey veS W B M)(hP:PM M Ls)(x y:Int):
 (Instr.lookup 151 (.map (some B)) (.agg #[.int .i64 x,.int .i64 y]) true).run Tryz.prog W=.ok (.tuple #[.agg #[.int .i64 ((peerO Ls (x,y)).getD (0,0)).1,.int .i64 ((peerO Ls (x,y)).getD (0,0)).2],.bool (peerO Ls (x,y)).isSome]) W:=by
 have h:=run_lookup_M hM 151 39 Tryz.underlying151 (.agg #[.int .i64 0,.int .i64 0]) (fun w=>by kernel_rfl) (x,y) true;rw[show mget spotKey.q (x,y) M=peerO Ls (x,y) from hP (x,y)] at h;simp only[if_true] at h;cases hp:peerO Ls (x,y) with
 | none=>rw[hp] at h;exact h
 | some p=>rw[hp] at h;exact h
def hopCI (w:World)(B:Nat)(x0 x1 x2:Int)(g o:Nat)(y0 y1 y2:Int)(w':World):Prop:=
 Below w.heap.size w w'∧(w'.cell? ⟨B,0,none⟩=some (.int .i64 x0)∧w'.cell? ⟨B,1,none⟩=some (.int .i64 x1)∧w'.cell? ⟨B,2,none⟩=some (.int .i64 x2)) ∧
 w'.cell? ⟨g,o,none⟩=some (.int .i64 y0)∧w'.cell? ⟨g,o+1,none⟩=some (.int .i64 y1)∧w'.cell? ⟨g,o+2,none⟩=some (.int .i64 y2)
theorem hopCI.later {w W W':World}{B:Nat}{x0 x1 x2:Int}{g o:Nat}{y0 y1 y2:Int}(hb:Below W.heap.size W W')(h:hopCI w B x0 x1 x2 g o y0 y1 y2 W):hopCI w B x0 x1 x2 g o y0 y1 y2 W':=by
 obtain⟨h0,⟨h1,h2,h3⟩,k1,k2,k3⟩:=h;exact⟨h0.trans (hb.mono h0.size),⟨cell_later hb h1,cell_later hb h2,cell_later hb h3⟩,cell_later hb k1,cell_later hb k2,cell_later hb k3⟩
theorem hop_idx (ao:Option Addr)(n cap:Nat)(x0 x1 x2:Int)(L:List ((Int×Int)×Int))(w:World)(hn:L.length=n)(hn2:n≤maxLen)(ha:0<n→∃g o,ao=some ⟨g,o,none⟩∧GAt hopE w g o L∧cap≤maxLen):
 Calls Tryz.prog 157 #[.slice ao n cap,.agg #[.int .i64 x0,.int .i64 x1,.int .i64 x2]] w fun e w'=>e=.returned (.int .i64 (ixG (fun a=>hopB ((x0,x1),x2) a) L))∧Below w.heap.size w w':=by
 have HN:Hid (L.length=n):=hn;have HA:Hid (0<n→∃g o,ao=some ⟨g,o,none⟩∧GAt hopE w g o L∧cap≤maxLen):=ha;have HC0:=hop_new w x0 x1 x2 74;have HB0:Hid (Below w.heap.size w (w.alloc (Obj.cells #[.int .i64 x0,.int .i64 x1,.int .i64 x2] 74))):=(Below.refl _ _).alloc (Nat.le_refl _) _;unfold maxLen at hn2;clear hn ha;go_enter Tryz.func157,Tryz.ntmps157;go_wp2
 go_loopw [8] (fun i wr=>∃k:Nat,k≤n∧i=.int .i64 k∧(L.take k).any (fun a=>hopB ((x0,x1),x2) a)=false∧Below w.heap.size w wr∧VAt wr w.heap.size 0 (hopE.c ((x0,x1),x2)))
  (fun i _=>n-(intOf i).toNat)
 case atStart=>exact⟨0,by omega,rfl,by simp,HB0.out,HC0⟩
 case round =>
  obtain⟨k,hk,rfl,hno,hB,hC⟩:=hrel;have HB:Hid (Below w.heap.size w wr):=hB;have HC:Hid (VAt wr w.heap.size 0 (hopE.c ((x0,x1),x2))):=hC;have HNO:Hid ((L.take k).any (fun a=>hopB ((x0,x1),x2) a)=false):=hno;clear hno HC0 HB0;by_cases hlt:k<n
  ·obtain⟨g,og,hao,hc,_⟩:=HA.out (by omega);subst hao;obtain⟨y0,y1,y2,hkl,hL,q0,q1,q2⟩:=hop_at (hc.later hB) HN.out hlt;have HL:Hid (L[k]=((y0,y1),y2)):=hL;obtain⟨r0,r1,r2⟩:=hop_cells hC;simp only[Nat.zero_add] at r0 r1 r2;have HCE:Hid (hopCI wr w.heap.size x0 x1 x2 g (og+k*3) y0 y1 y2 wr):=⟨Below.refl _ _,⟨r0,r1,r2⟩,q0,q1,q2⟩;clear hL hB hC HA q0 q1 q2 r0 r1 r2;go_upto_region 4 with fail;have kb0:(0:Int)≤(k:Int):=by omega
   have kb1:(k:Int)<(n:Int):=by omega
   go_cut [16] from 9 to 18 (fun c w'=>c=.bool (hopB ((x0,x1),x2) ((y0,y1),y2))∧Below wr.heap.size wr w')
   case first =>
    as_aux_lemma =>
     refine wp_region_quiet (C:=hopCI wr w.heap.size x0 x1 x2 g (og+k*3) y0 y1 y2) (by kernel_rfl) (by kernel_rfl) (hopCI.later (W:=wr) (Below.drew (Below.refl _ _)) HCE.out) ?_;simp only[List.toList_toArray];go_big_quiet_want;refine qv (.agg #[.int .i64 x0,.int .i64 x1,.int .i64 x2]) ?_ ?_
     ·rintro w' ⟨z,⟨z0,z1,z2⟩,u0,u1,u2⟩;go_simp
     simp only[Act.put,AP];go_big_quiet_on;go_big_quiet_want;refine qv (.slice (some ⟨g,og,none⟩) n cap) ?_ ?_
     ·rintro w' ⟨z,⟨z0,z1,z2⟩,u0,u1,u2⟩;go_simp
     simp only[Act.put,AP];go_big_quiet_on;go_big_quiet_want;refine qv (.int .i64 (k:Int)) ?_ ?_
     ·rintro w' ⟨z,⟨z0,z1,z2⟩,u0,u1,u2⟩;go_simp
     simp only[Act.put,AP];go_big_quiet_on;go_big_quiet_want;refine qv (.pointer (some ⟨g,og+k*3,none⟩)) ?_ ?_
     ·rintro w' ⟨z,⟨z0,z1,z2⟩,u0,u1,u2⟩;go_simp
     simp only[Act.put,AP];go_big_quiet_on;go_big_quiet_want;refine qv (.agg #[.int .i64 y0,.int .i64 y1,.int .i64 y2]) ?_ ?_
     ·rintro w' ⟨z,⟨z0,z1,z2⟩,u0,u1,u2⟩;go_simp
     simp only[Act.put,AP];go_big_quiet_on;go_big_quiet_want;refine quiet_val (v:=.bool (hopB ((x0,x1),x2) ((y0,y1),y2))) (fun w' hC=>exec_bin rfl (by go_simp) (run_eql_of (hop_eq x0 x1 x2 y0 y1 y2 w'))) ?_;simp only[Act.put,AP];go_big_quiet_on;refine wpQuiet_nil ?_;intro w' hC
     go_wp2_with fail
     go_meet
     case rel=>exact⟨rfl,hC.1⟩
   case rest =>
    obtain⟨rfl,hB2⟩:=hcut;have HB2:Hid (Below w.heap.size w wc):=HB.out.trans (hB2.mono HB.out.size);have HC2:Hid (VAt wc w.heap.size 0 (hopE.c ((x0,x1),x2))):=HC.out.later hB2;clear hB2;cases ho:hopB ((x0,x1),x2) ((y0,y1),y2)
    ·go_wp2;go_roundw
     case rel=>exact⟨k+1,by omega,by go_num,any_nextG hkl HNO.out (by rw[HL.out];exact ho),HB2.out,HC2.out⟩
     case measure=>simp[intOf];omega
    go_wp2;go_ret;exact⟨by rw[ixG_hit hkl HNO.out (by rw[HL.out];exact ho)];rfl,HB2.out⟩
  obtain rfl:k=n:=by omega
  go_wp2;go_ret;exact⟨by have:=HNO.out;rw[←HN.out,List.take_length] at this;rw[ixG_no this];rfl,HB.out⟩
theorem hop_has (ao:Option Addr)(n cap:Nat)(x y h:Int)(L:List ((Int×Int)×Int))(w:World)(hs:GS hopE w (.slice ao n cap) L):
 Calls Tryz.prog 129 #[.slice ao n cap,.agg #[.int .i64 x,.int .i64 y,.int .i64 h]] w fun e w'=>e=.returned (.bool (L.any fun a=>hopB ((x,y),h) a))∧Below w.heap.size w w':=by
 obtain⟨ao',n',cap',e,hn,hn2,hn3,ha⟩:=hs.form;cases e;have HN:Hid (L.length=n):=hn;have hB0:Below w.heap.size w (w.alloc (Obj.cells #[.int .i64 x,.int .i64 y,.int .i64 h] 74)):=(Below.refl _ _).alloc (Nat.le_refl _) _;have HA:Hid (0<n→∃g o,ao=some ⟨g,o,none⟩∧GAt hopE w g o L∧cap≤maxLen):=ha;have HB0:Hid (Below w.heap.size w (w.alloc (Obj.cells #[.int .i64 x,.int .i64 y,.int .i64 h] 74))):=hB0;have HM:Hid (n≤maxLen):=hn2;have HX:Hid ((L.any fun a=>hopB ((x,y),h) a)=decide (0≤ixG (fun a=>hopB ((x,y),h) a) L)):=(ixG_any L (fun a=>hopB ((x,y),h) a)).symm;rw[HX.out];clear hn ha hs hn2 hB0 HX;obtain⟨z,hz⟩:∃z,z=ixG (fun a=>hopB ((x,y),h) a) L:=⟨_,rfl⟩;rw[←hz];have HX:Hid (z=ixG (fun a=>hopB ((x,y),h) a) L):=hz;clear hz;go_enter Tryz.func129,Tryz.ntmps129
 go_wp2_with fail
 refine (hop_idx ao n cap x y h L _ HN.out HM.out (fun h0=>by
  obtain⟨g,o,e1,e2,e3⟩:=HA.out h0;exact⟨g,o,e1,e2.later HB0.out,e3⟩)).mono ?_
 rintro e w2 ⟨rfl,hb2⟩;have HB2:Hid (Below w.heap.size w w2):=HB0.out.trans (hb2.mono HB0.out.size);rw[←HX.out];clear hb2;go_wp2;go_ret;exact⟨rfl,HB2.out⟩
def hstAsks (w:World)(f:FuncId)(c:Value)(P:ByteArray×(Int×Int)→Bool):Prop:=
 ∀(x0:ByteArray) (x1:Int) (x2:Int) (W:World),Below w.heap.size w W→Calls Tryz.prog f #[.agg #[.string x0,.int .i64 x1,.int .i64 x2],c] W fun e w'=>e=.returned (.bool (P (x0,(x1,x2))))∧Below W.heap.size W w'
theorem hstAsks.later {w w':World}{f:FuncId}{c:Value}{P:ByteArray×(Int×Int)→Bool}(h:hstAsks w f c P)(hb:Below w.heap.size w w'):hstAsks w' f c P:=
 fun x0 x1 x2 W hW=>h x0 x1 x2 W (hb.trans (hW.mono hb.size))
theorem hst_idxF (ao:Option Addr)(n cap:Nat)(f:FuncId)(c:Value)(P:ByteArray×(Int×Int)→Bool)(L:List (ByteArray×(Int×Int)))(w:World)(hn:L.length=n)(hn2:n≤maxLen)(ha:0<n→∃g o,ao=some ⟨g,o,none⟩∧GAt hstE w g o L∧cap≤maxLen)(he:∀args w,(callFunc f args).run Tryz.prog w=.ok (.enter f args) w)(hf:hstAsks w f c P):
 Calls Tryz.prog 49 #[.slice ao n cap,.func (Fn.func f) #[] #[c]] w fun e w'=>e=.returned (.int .i64 (ixG P L))∧Below w.heap.size w w':=by
 have HN:Hid (L.length=n):=hn;have HF:Hid (hstAsks w f c P):=hf;have HA:Hid (0<n→∃g o,ao=some ⟨g,o,none⟩∧GAt hstE w g o L∧cap≤maxLen):=ha;unfold maxLen at hn2;clear hn hf ha;go_enter Tryz.func49,Tryz.ntmps49;go_wp2
 go_loopw [8] (fun i wr=>∃k:Nat,k≤n∧i=.int .i64 k∧(L.take k).any P=false∧Below w.heap.size w wr)
  (fun i _=>n-(intOf i).toNat)
 case atStart=>exact⟨0,by omega,rfl,by simp,Below.refl _ _⟩
 case round =>
  obtain⟨k,hk,rfl,hno,hB⟩:=hrel;have HB:Hid (Below w.heap.size w wr):=hB;have HNO:Hid ((L.take k).any P=false):=hno;clear hno;by_cases hlt:k<n
  ·obtain⟨g,o,hao,hc,_⟩:=HA.out (by omega);subst hao;obtain⟨x0,x1,x2,hkl,hL,q0,q1,q2⟩:=hst_at (hc.later hB) HN.out hlt;have HL:Hid (L[k]=(x0,(x1,x2))):=hL;clear hL hB;cases ho:P (x0,(x1,x2))
   ·go_wp2_with fail
    refine (HF.out x0 x1 x2 _ HB.out).mono ?_;rintro e w1 ⟨rfl,hb1⟩;rw[ho];have HB1:=HB.out.trans (hb1.mono HB.out.size);clear hb1;go_wp2;go_roundw
    case rel=>exact⟨k+1,by omega,by go_num,any_nextG hkl HNO.out (by rw[HL.out];exact ho),HB1⟩
    case measure=>simp[intOf];omega
   go_wp2_with fail
   refine (HF.out x0 x1 x2 _ HB.out).mono ?_;rintro e w1 ⟨rfl,hb1⟩;rw[ho];go_wp2;go_ret;exact⟨by rw[ixG_hit hkl HNO.out (by rw[HL.out];exact ho)];rfl,HB.out.trans (hb1.mono HB.out.size)⟩
  obtain rfl:k=n:=by omega
  go_wp2;go_ret;exact⟨by have:=HNO.out;rw[←HN.out,List.take_length] at this;rw[ixG_no this];rfl,HB.out⟩
theorem own_below {w w':World}{B e size n:Nat}{v:Value}{xs:List Value}(h:w.ownsRow B e size v n xs)(hb:Below w.heap.size w w'):w'.ownsRow B e size v n xs:=by
 obtain⟨h1,h2 | ⟨g,cap,cur,hv,hB,hg,h3⟩⟩:=h
 ·exact⟨h1,.inl h2⟩
 have hlt:g<w.heap.size:=by
  rcases Nat.lt_or_ge g w.heap.size with h | h
  ·exact h
  rw[Array.getElem?_eq_none h] at hg;cases hg
 exact⟨h1,.inr ⟨g,cap,cur,hv,hB,(hb.block g hlt).trans hg,h3⟩⟩
theorem own_mono {w:World}{B B' e size n:Nat}{v:Value}{xs:List Value}(h:w.ownsRow B e size v n xs)(hB:B'≤B):w.ownsRow B' e size v n xs:=by
 obtain⟨h1,h2 | ⟨g,cap,cur,hv,hb,h3⟩⟩:=h
 ·exact⟨h1,.inl h2⟩
 exact⟨h1,.inr ⟨g,cap,cur,hv,Nat.le_trans hB hb,h3⟩⟩
theorem infoInt:(Tryz.prog.info? 3).map (fun i=>(i.zero,i.size,i.bytes))=some (some (.int .i64 0),1,8):=by kernel_rfl
theorem own_form {w:World}{B e size n:Nat}{v:Value}{xs:List Value}(h:w.ownsRow B e size v n xs):∃ao cap,v=.slice ao n cap:=by
 rcases h.2 with ⟨rfl,rfl⟩ | ⟨g,cap,cur,rfl,_⟩
 ·exact⟨none,0,rfl⟩
 exact⟨_,cap,rfl⟩
def legV (g:Lg):Value:=.agg #[.int .i64 g.1,.string g.2.1,.int .i64 g.2.2.1.1,.int .i64 g.2.2.1.2,.int .i64 g.2.2.2]
theorem leg1_any (n:ByteArray)(x0 x1:Int)(B:Nat)(x y:Int)(w:World)(h0:w.cell? ⟨B,0,none⟩=some (.int .i64 x))(h1:w.cell? ⟨B,1,none⟩=some (.int .i64 y)):
 Calls Tryz.prog 126 #[.agg #[.string n,.int .i64 x0,.int .i64 x1],.pointer (some ⟨B,0,none⟩)] w fun e w'=>e=.returned (.bool (sq (x0,x1) (x,y)))∧Below w.heap.size w w':=by
 have hlt:B<w.heap.size:=World.block_lt_of_cell? _ _ h0;have HB0:Hid (Below w.heap.size w (w.alloc (Obj.cells #[Value.string n,.int .i64 x0,.int .i64 x1] 41))):=(Below.refl _ _).alloc (Nat.le_refl _) _;have hr:sq (x0,x1) (x,y)=(x0==x&&x1==y):=rfl;rw[hr];clear hr;cases g1:(x0==x) <;> cases g2:(x1==y)
 all_goals
  simp only[Bool.and_true,Bool.and_false,Bool.and_self];go_enter Tryz.func126,Tryz.ntmps126;go_wp2;go_ret;exact⟨rfl,HB0.out⟩
theorem leg1_asks (B:Nat)(x y:Int)(w:World)(h0:w.cell? ⟨B,0,none⟩=some (.int .i64 x))(h1:w.cell? ⟨B,1,none⟩=some (.int .i64 y)):hstAsks w 126 (.pointer (some ⟨B,0,none⟩)) (fun h=>sq h.2 (x,y)):=
 fun n x0 x1 W hW=>leg1_any n x0 x1 B x y W (cell_later hW h0) (cell_later hW h1)
def put5 (W:World)(g:Nat)(a b c d e:Value):World:=((((W.setCell ⟨g,0,none⟩ a).setCell ⟨g,1,none⟩ b).setCell ⟨g,2,none⟩ c).setCell ⟨g,3,none⟩ d).setCell ⟨g,4,none⟩ e
theorem below_put5 {B:Nat}{w W:World}(h:Below B w W)(g:Nat)(hg:B≤g)(a b c d e:Value):Below B w (put5 W g a b c d e):=((((h.setCell (p:=⟨g,0,none⟩) hg a).setCell (p:=⟨g,1,none⟩) hg b).setCell (p:=⟨g,2,none⟩) hg c).setCell (p:=⟨g,3,none⟩) hg d).setCell (p:=⟨g,4,none⟩) hg e
def lgbox (w:World)(S:Int)(v1 v2 v3:Value)(x y h:Int):World:=((w.alloc (Obj.cells #[.int .i64 S,v1,v2,v3] 28)).alloc (Obj.cells #[.int .i64 x,.int .i64 y,.int .i64 h] 74)).alloc (Obj.cells #[.int .i64 0,.string ⟨#[]⟩,.int .i64 0,.int .i64 0,.int .i64 0] 155)
structure LgBox (w W:World)(S:Int)(v1 v2 v3:Value)(x y h:Int):Prop where
 below:Below w.heap.size w W
 n:NeBox W w.heap.size S v1 v2 v3
 i0:W.cell? ⟨w.heap.size+1,0,none⟩=some (.int .i64 x)
 i1:W.cell? ⟨w.heap.size+1,1,none⟩=some (.int .i64 y)
 i2:W.cell? ⟨w.heap.size+1,2,none⟩=some (.int .i64 h)
 r0:W.cell? ⟨w.heap.size+1+1,0,none⟩=some (.int .i64 0)
 r1:W.cell? ⟨w.heap.size+1+1,1,none⟩=some (.string ⟨#[]⟩)
 r2:W.cell? ⟨w.heap.size+1+1,2,none⟩=some (.int .i64 0)
 r3:W.cell? ⟨w.heap.size+1+1,3,none⟩=some (.int .i64 0)
 r4:W.cell? ⟨w.heap.size+1+1,4,none⟩=some (.int .i64 0)
 f:∀i,W.frozen? ⟨w.heap.size+1+1,i,none⟩=false
theorem lgbox_new (w:World)(S:Int)(v1 v2 v3:Value)(x y h:Int):LgBox w (lgbox w S v1 v2 v3 x y h) S v1 v2 v3 x y h:=by
 have e1:(w.alloc (Obj.cells #[.int .i64 S,v1,v2,v3] 28)).heap.size=w.heap.size+1:=by simp
 have e2:((w.alloc (Obj.cells #[.int .i64 S,v1,v2,v3] 28)).alloc (Obj.cells #[.int .i64 x,.int .i64 y,.int .i64 h] 74)).heap.size=w.heap.size+1+1:=by simp
 have hb:∀(W:World) (o:Obj),Below W.heap.size W (W.alloc o):=fun W o=>(Below.refl _ _).alloc (Nat.le_refl _) _
 have hs:=(vat_new (w.alloc (Obj.cells #[.int .i64 S,v1,v2,v3] 28)) [.int .i64 x,.int .i64 y,.int .i64 h] 74).later (hb _ (Obj.cells #[.int .i64 0,.string ⟨#[]⟩,.int .i64 0,.int .i64 0,.int .i64 0] 155));rw[e1] at hs;have hr:=vat_new ((w.alloc (Obj.cells #[.int .i64 S,v1,v2,v3] 28)).alloc (Obj.cells #[.int .i64 x,.int .i64 y,.int .i64 h] 74)) [.int .i64 0,.string ⟨#[]⟩,.int .i64 0,.int .i64 0,.int .i64 0] 155;rw[e2] at hr;have hf:∀k,(lgbox w S v1 v2 v3 x y h).frozen? ⟨((w.alloc (Obj.cells #[.int .i64 S,v1,v2,v3] 28)).alloc (Obj.cells #[.int .i64 x,.int .i64 y,.int .i64 h] 74)).heap.size,k,none⟩=false:=fun k=>by
  unfold lgbox
  generalize (w.alloc (Obj.cells #[.int .i64 S,v1,v2,v3] 28)).alloc (Obj.cells #[.int .i64 x,.int .i64 y,.int .i64 h] 74)=X
  simp
 rw[e2] at hf;exact⟨(((Below.refl _ _).alloc (Nat.le_refl _) _).alloc (by rw[e1];omega) _).alloc (by rw[e2];omega) _,((nebox_new w S v1 v2 v3 28).later (hb _ _)).later (hb _ _),hs 0 _ rfl,hs 1 _ rfl,hs 2 _ rfl,hr 0 _ rfl,hr 1 _ rfl,hr 2 _ rfl,hr 3 _ rfl,hr 4 _ rfl,hf⟩
theorem LgBox.later {w W W':World}{S:Int}{v1 v2 v3:Value}{x y h:Int}(k:LgBox w W S v1 v2 v3 x y h)(hb:Below W.heap.size W W'):LgBox w W' S v1 v2 v3 x y h:=
 ⟨k.below.trans (hb.mono k.below.size),k.n.later hb,cell_later hb k.i0,cell_later hb k.i1,cell_later hb k.i2,cell_later hb k.r0,cell_later hb k.r1,cell_later hb k.r2,cell_later hb k.r3,cell_later hb k.r4,fun i=>(hb.frozen (p:=⟨w.heap.size+1+1,i,none⟩) (show (⟨w.heap.size+1+1,0,none⟩:Addr).block<W.heap.size from World.block_lt_of_cell? W ⟨w.heap.size+1+1,0,none⟩ k.r0)).trans (k.f i)⟩
theorem leg_any (S:Int)(ao:Option Addr)(n cap:Nat)(ao2:Option Addr)(n2 cap2:Nat)(ao3:Option Addr)(n3 cap3:Nat)(Ls:List ((Int×Int)×(Int×Int)))(Hs:List (ByteArray×(Int×Int)))(Ts:List (List Ru))(B:Nat)(M:List ((Int×Int)×(Int×Int)))(x y h:Int)(w:World)
 (hH:GS hstE w (.slice ao2 n2 cap2) Hs) (hT:TS w (.slice ao3 n3 cap3) Ts) (hM:MAt spotKey veS w B M) (hPM:PM M Ls) (hG:∀k,k<Ts.length→tbN (Ts.getD k [])=0) (h1:1≤x) (h2:x≤(n3:Int)) (h6:n3≤6):
 Calls Tryz.prog 79 #[.agg #[.int .i64 S,.slice ao n cap,.slice ao2 n2 cap2,.slice ao3 n3 cap3],.map (some B),.agg #[.int .i64 x,.int .i64 y,.int .i64 h]] w fun e w'=>e=.returned (legV (lgT Ls Hs (taT Ts x) ((x,y),h)))∧Below w.heap.size w w':=by
 obtain⟨G,hGd⟩:∃G,G=lgT Ls Hs (taT Ts x) ((x,y),h):=⟨_,rfl⟩;have HG:Hid (G=lgT Ls Hs (taT Ts x) ((x,y),h)):=hGd;rw[←hGd];have HHW:Hid (∀W,Below w.heap.size w W→GS hstE W (.slice ao2 n2 cap2) Hs):=fun W hb=>hH.later hb
 have HTW:Hid (∀W,Below w.heap.size w W→TS W (.slice ao3 n3 cap3) Ts):=fun W hb=>hT.later hb
 have HMW:Hid (∀W,Below w.heap.size w W→MAt spotKey veS W B M):=fun W hb=>hM.later hb
 have HPM:Hid (PM M Ls):=hPM;have HTT:Hid (∀k,k<Ts.length→tbN (Ts.getD k [])=0):=hG;have HS1:Hid (1≤x):=h1;have HS2:Hid (x≤(n3:Int)):=h2;have H36:Hid (n3≤6):=h6;have hX:=lgbox_new w S (.slice ao n cap) (.slice ao2 n2 cap2) (.slice ao3 n3 cap3) x y h;obtain⟨w0,hw0⟩:∃W,W=lgbox w S (.slice ao n cap) (.slice ao2 n2 cap2) (.slice ao3 n3 cap3) x y h:=⟨_,rfl⟩;rw[←hw0] at hX;have HX:Hid (LgBox w w0 S (.slice ao n cap) (.slice ao2 n2 cap2) (.slice ao3 n3 cap3) x y h):=hX;have HW0:Hid (((w.alloc (Obj.cells #[.int .i64 S,.slice ao n cap,.slice ao2 n2 cap2,.slice ao3 n3 cap3] 28)).alloc (Obj.cells #[.int .i64 x,.int .i64 y,.int .i64 h] 74)).alloc (Obj.cells #[.int .i64 0,.string ⟨#[]⟩,.int .i64 0,.int .i64 0,.int .i64 0] 155)=w0):=hw0.symm;clear hH hT hM hPM hG h1 h2 h6 hGd hX hw0;go_enter Tryz.func79,Tryz.ntmps79;go_upto_region 1 with fail;rw[HW0.out];obtain⟨_,⟨b0,b1,b2,b3⟩,i0,i1,i2,r0,r1,r2,r3,r4,f⟩:=HX.out;clear HW0 f r0 r1 r2 r3 r4
 go_wp2_with fail
 refine (step_any S ao n cap ao2 n2 cap2 ao3 n3 cap3 Ts x y h _ (HTW.out _ HX.out.below) HTT.out HS1.out HS2.out H36.out).mono ?_;rintro e w1 ⟨rfl,hb1⟩;obtain⟨A,hA⟩:∃A,A=stO Ts ((x,y),h):=⟨_,rfl⟩;have HA:Hid (stT (taT Ts x) ((x,y),h)=A):=hA.symm;rw[←hA];obtain⟨Q1,hQ1⟩:∃q,q=(A.getD zeH).1.1:=⟨_,rfl⟩;obtain⟨Q2,hQ2⟩:∃q,q=(A.getD zeH).1.2:=⟨_,rfl⟩;obtain⟨Q3,hQ3⟩:∃q,q=(A.getD zeH).2:=⟨_,rfl⟩;obtain⟨okb,hokb⟩:∃q,q=A.isSome:=⟨_,rfl⟩;have HQ1:Hid ((A.getD zeH).1.1=Q1):=hQ1.symm;have HQ2:Hid ((A.getD zeH).1.2=Q2):=hQ2.symm;have HQ3:Hid ((A.getD zeH).2=Q3):=hQ3.symm;have HOKB:Hid (A.isSome=okb):=hokb.symm;rw[←hQ1,←hQ2,←hQ3,←hokb];have hal:Below w1.heap.size w1 (w1.alloc (Obj.cells #[.int .i64 Q1,.int .i64 Q2,.int .i64 Q3] 74)):=(Below.refl _ _).alloc (Nat.le_refl _) _;have hXa:=(HX.out.later hb1).later hal;have hva:=hop_new w1 Q1 Q2 Q3 74;obtain⟨w2,hw2⟩:∃W,w1.alloc (Obj.cells #[.int .i64 Q1,.int .i64 Q2,.int .i64 Q3] 74)=W:=⟨_,rfl⟩;obtain⟨g,hg⟩:∃g,w1.heap.size=g:=⟨_,rfl⟩;rw[hw2] at hXa hva;rw[hg] at hva;have HD:Hid (VAt w2 g 0 (hopE.c ((Q1,Q2),Q3))):=hva;have HX2:Hid (LgBox w w2 S (.slice ao n cap) (.slice ao2 n2 cap2) (.slice ao3 n3 cap3) x y h):=hXa;have HW2:Hid (w1.alloc (Obj.cells #[.int .i64 Q1,.int .i64 Q2,.int .i64 Q3] 74)=w2):=hw2;have HGG:Hid (w1.heap.size=g):=hg;obtain⟨d0,d1,d2⟩:=hop_cells HD.out;simp only[Nat.zero_add] at d0 d1 d2;obtain⟨hB2,⟨b0,b1,b2,b3⟩,i0,i1,i2,r0,r1,r2,r3,r4,f⟩:=HX2.out;have HB2:Hid (Below w.heap.size w w2):=hB2;have f0:=f 0;have f1:=f 1;have f2:=f 2;have f3:=f 3;have f4:=f 4;clear hb1 hA hQ1 hQ2 hQ3 hokb hal hXa hva hw2 hg HX f hB2;go_upto_region 2 with fail;rw[HW2.out,HGG.out];clear HW2 HGG;cases okb with
 | false =>
   have HF2:Hid (G=(2,ByteArray.empty,zeH)):=by
    show _=_;rw[HG.out];refine lg_2 ?_;rw[HA.out];have:=HOKB.out;cases A with
    | none=>rfl
    | some _=>cases this
   go_wp2;refine bodyPost_ret (v:=.agg #[.int .i64 2,.string ⟨#[]⟩,.int .i64 0,.int .i64 0,.int .i64 0]) (by simp[results,Tryz.results79,go_sem, *]) rfl ⟨by rw[HF2.out];rfl,below_put5 HB2.out _ (by omega) _ _ _ _ _⟩
 | true =>
   have HAS:Hid (A=some ((Q1,Q2),Q3)):=by
    show _=_;have h1:=HOKB.out;have h2:=HQ1.out;have h3:=HQ2.out;have h4:=HQ3.out;cases A with
    | none=>cases h1
    | some q =>
      obtain⟨⟨q1,q2⟩,q3⟩:=q;simp only[Option.getD_some] at h2 h3 h4;rw[h2,h3,h4]
   have HK:Hid (hstAsks w2 126 (.pointer (some ⟨g,0,none⟩)) (fun h=>sq h.2 (Q1,Q2))):=leg1_asks g Q1 Q2 w2 d0 d1;obtain⟨_,_,_,e6,hHn,hHm,_,hHa⟩:=(HHW.out _ HB2.out).form;cases e6;have HHN:Hid (Hs.length=n2):=hHn;have HHM:Hid (n2≤maxLen):=hHm;have HHA:Hid (0<n2→∃g o,ao2=some ⟨g,o,none⟩∧GAt hstE w2 g o Hs∧cap2≤maxLen):=hHa;clear hHn hHm hHa r0 r1 r2 r3 r4 f0 f1 f2 f3 f4
   go_wp2_with fail
   refine (hst_idxF ao2 n2 cap2 _ _ (fun h=>sq h.2 (Q1,Q2)) Hs _ HHN.out HHM.out HHA.out (enters_of Tryz.func126 (by kernel_rfl) rfl) HK.out).mono ?_;rintro e w3 ⟨rfl,hb3⟩;have HX3:Hid (LgBox w w3 S (.slice ao n cap) (.slice ao2 n2 cap2) (.slice ao3 n3 cap3) x y h):=HX2.out.later hb3;have HHA3:Hid (0<n2→∃g o,ao2=some ⟨g,o,none⟩∧GAt hstE w3 g o Hs∧cap2≤maxLen):=fun h=>by
    obtain⟨g,o,e1,e2,e3⟩:=HHA.out h;exact⟨g,o,e1,e2.later hb3,e3⟩
   have HD3:Hid (VAt w3 g 0 (hopE.c ((Q1,Q2),Q3))):=HD.out.later hb3;obtain⟨d0,d1,d2⟩:=hop_cells HD3.out;simp only[Nat.zero_add] at d0 d1 d2;obtain⟨hB3,⟨b0,b1,b2,b3⟩,i0,i1,i2,r0,r1,r2,r3,r4,f⟩:=HX3.out;have HB3:Hid (Below w.heap.size w w3):=hB3;have f0:=f 0;have f1:=f 1;have f2:=f 2;have f3:=f 3;have f4:=f 4;have hlg:g<w3.heap.size:=World.block_lt_of_cell? _ _ d0;have hlr:w.heap.size+1+1<w3.heap.size:=World.block_lt_of_cell? _ _ r0;have hlw:w.heap.size<w3.heap.size:=World.block_lt_of_cell? _ _ b0;clear hb3 f hB3 HX2 HHA HK HD HB2
   rcases at_ix Hs (Q1,Q2) with ⟨hi,ho⟩ | ⟨k,hk,hi,ho⟩
   ·rw[hi];have HAT:Hid (atO Hs (Q1,Q2)=none):=ho;have hlk:=peer_look (HMW.out _ HB3.out) HPM.out Q1 Q2;obtain⟨P,hP⟩:∃P,P=peerO Ls (Q1,Q2):=⟨_,rfl⟩;have HP:Hid (peerO Ls (Q1,Q2)=P):=hP.symm;rw[←hP] at hlk;clear hi ho hP;cases P with
    | none =>
      have HF2:Hid (G=(3,ByteArray.empty,zeH)):=by
       show _=_;rw[HG.out];exact lg_3 (HA.out.trans HAS.out) HAT.out HP.out
      simp only[Option.getD_none,Option.isSome_none] at hlk;have hlr3:w.heap.size+1+1<w3.heap.size+1:=by omega
      go_wp2;refine bodyPost_ret (v:=.agg #[.int .i64 3,.string ⟨#[]⟩,.int .i64 0,.int .i64 0,.int .i64 0]) (by simp[results,Tryz.results79,go_sem, *]) rfl ⟨by rw[HF2.out];rfl,(below_put5 HB3.out _ (by omega) _ _ _ _ _).alloc (below_put5 HB3.out _ (by omega) _ _ _ _ _).size _⟩
    | some s =>
      obtain⟨P1,P2⟩:=s;have HF2:Hid (G=(0,ByteArray.empty,((P1,P2),Q3))):=by
       show _=_;rw[HG.out];exact lg_0 (HA.out.trans HAS.out) HAT.out HP.out
      simp only[Option.getD_some,Option.isSome_some] at hlk;have hlr3:w.heap.size+1+1<w3.heap.size+1:=by omega
      go_wp2;refine bodyPost_ret (v:=.agg #[.int .i64 0,.string ⟨#[]⟩,.int .i64 P1,.int .i64 P2,.int .i64 Q3]) (by simp[results,Tryz.results79,go_sem, *]) rfl ⟨by rw[HF2.out];rfl,(below_put5 HB3.out _ (by omega) _ _ _ _ _).alloc (below_put5 HB3.out _ (by omega) _ _ _ _ _).size _⟩
   rw[hi];have hlt:k<n2:=by rw[←HHN.out];exact hk
   obtain⟨gh,oh,hao,hc,_⟩:=HHA3.out (by omega);subst hao;obtain⟨y0,y1,y2,hkl,hHk,q0,q1,q2⟩:=hst_at hc HHN.out hlt;have HF2:Hid (G=(1,y0,zeH)):=by
    show _=_;rw[HG.out];refine lg_1 (HA.out.trans HAS.out) ?_;rw[ho,hHk]
   have kb0:(0:Int)≤(k:Int):=by omega
   have kb1:(k:Int)<(n2:Int):=by omega
   clear hi ho hHk hc HHA3;go_wp2;refine bodyPost_ret (v:=.agg #[.int .i64 1,.string y0,.int .i64 0,.int .i64 0,.int .i64 0]) (by simp[results,Tryz.results79,go_sem, *]) rfl ⟨by rw[HF2.out];rfl,below_put5 HB3.out _ (by omega) _ _ _ _ _⟩
structure ABox (w W:World)(a:Int)(b:ByteArray)(c d e:Int):Prop where
 below:Below w.heap.size w W
 i0:W.cell? ⟨w.heap.size,0,none⟩=some (.int .i64 a)
 i1:W.cell? ⟨w.heap.size,1,none⟩=some (.string b)
 i2:W.cell? ⟨w.heap.size,2,none⟩=some (.int .i64 c)
 i3:W.cell? ⟨w.heap.size,3,none⟩=some (.int .i64 d)
 i4:W.cell? ⟨w.heap.size,4,none⟩=some (.int .i64 e)
 r0:W.cell? ⟨w.heap.size+1,0,none⟩=some (.int .i64 0)
 r1:W.cell? ⟨w.heap.size+1,1,none⟩=some (.string ⟨#[]⟩)
 r2:W.cell? ⟨w.heap.size+1,2,none⟩=some (.int .i64 0)
 r3:W.cell? ⟨w.heap.size+1,3,none⟩=some (.int .i64 0)
 r4:W.cell? ⟨w.heap.size+1,4,none⟩=some (.int .i64 0)
 f:∀i,W.frozen? ⟨w.heap.size+1,i,none⟩=false
theorem abox_new (w:World)(a:Int)(b:ByteArray)(c d e:Int):ABox w ((w.alloc (Obj.cells #[.int .i64 a,.string b,.int .i64 c,.int .i64 d,.int .i64 e] 155)).alloc (Obj.cells #[.int .i64 0,.string ⟨#[]⟩,.int .i64 0,.int .i64 0,.int .i64 0] 155)) a b c d e:=by
 have e1:(w.alloc (Obj.cells #[.int .i64 a,.string b,.int .i64 c,.int .i64 d,.int .i64 e] 155)).heap.size=w.heap.size+1:=by simp
 have hb:∀(W:World) (o:Obj),Below W.heap.size W (W.alloc o):=fun W o=>(Below.refl _ _).alloc (Nat.le_refl _) _
 have hs:=(vat_new w [.int .i64 a,.string b,.int .i64 c,.int .i64 d,.int .i64 e] 155).later (hb _ (Obj.cells #[.int .i64 0,.string ⟨#[]⟩,.int .i64 0,.int .i64 0,.int .i64 0] 155));have hB:=((Below.refl w.heap.size w).alloc (Nat.le_refl _) (Obj.cells #[.int .i64 a,.string b,.int .i64 c,.int .i64 d,.int .i64 e] 155)).alloc (by rw[e1];omega) (Obj.cells #[.int .i64 0,.string ⟨#[]⟩,.int .i64 0,.int .i64 0,.int .i64 0] 155);have h0:=hs 0 _ rfl;have h1:=hs 1 _ rfl;have h2:=hs 2 _ rfl;have h3:=hs 3 _ rfl;have h4:=hs 4 _ rfl;clear hs
 generalize w.alloc (Obj.cells #[.int .i64 a,.string b,.int .i64 c,.int .i64 d,.int .i64 e] 155)=X at e1 h0 h1 h2 h3 h4 hB
 have hr:=vat_new X [.int .i64 0,.string ⟨#[]⟩,.int .i64 0,.int .i64 0,.int .i64 0] 155;have hf:=froz_new2 X #[.int .i64 0,.string ⟨#[]⟩,.int .i64 0,.int .i64 0,.int .i64 0] 155;rw[e1] at hr hf;exact⟨hB,h0,h1,h2,h3,h4,hr 0 _ rfl,hr 1 _ rfl,hr 2 _ rfl,hr 3 _ rfl,hr 4 _ rfl,hf⟩
theorem ABox.later {w W W':World}{a:Int}{b:ByteArray}{c d e:Int}(k:ABox w W a b c d e)(hb:Below W.heap.size W W'):ABox w W' a b c d e:=
 ⟨k.below.trans (hb.mono k.below.size),cell_later hb k.i0,cell_later hb k.i1,cell_later hb k.i2,cell_later hb k.i3,cell_later hb k.i4,cell_later hb k.r0,cell_later hb k.r1,cell_later hb k.r2,cell_later hb k.r3,cell_later hb k.r4,fun i=>(hb.frozen (p:=⟨w.heap.size+1,i,none⟩) (show (⟨w.heap.size+1,0,none⟩:Addr).block<W.heap.size from World.block_lt_of_cell? W ⟨w.heap.size+1,0,none⟩ k.r0)).trans (k.f i)⟩
theorem after_any (g:Lg)(ao:Option Addr)(n cap:Nat)(l:List ((Int×Int)×Int))(w:World)(hl:GS hopE w (.slice ao n cap) l):
 Calls Tryz.prog 82 #[legV g,.slice ao n cap] w fun e w'=>e=.returned (legV (afL g l))∧Below w.heap.size w w':=by
 have hn:=hl.len;obtain⟨G,hG⟩:∃G,G=afL g l:=⟨_,rfl⟩;have HG:Hid (G=afL g l):=hG;rw[←hG];clear hG;obtain⟨a,b,⟨c,d⟩,e⟩:=g;have HL:Hid (GS hopE w (.slice ao n cap) l):=hl;have HN:Hid (l.length=n):=by
  show _=_
  first | exact hn | exact hn.symm
 have hX:=abox_new w a b c d e;obtain⟨w0,hw0⟩:∃W,(w.alloc (Obj.cells #[.int .i64 a,.string b,.int .i64 c,.int .i64 d,.int .i64 e] 155)).alloc (Obj.cells #[.int .i64 0,.string ⟨#[]⟩,.int .i64 0,.int .i64 0,.int .i64 0] 155)=W:=⟨_,rfl⟩;rw[hw0] at hX;have HX:Hid (ABox w w0 a b c d e):=hX;have HW0:Hid ((w.alloc (Obj.cells #[.int .i64 a,.string b,.int .i64 c,.int .i64 d,.int .i64 e] 155)).alloc (Obj.cells #[.int .i64 0,.string ⟨#[]⟩,.int .i64 0,.int .i64 0,.int .i64 0] 155)=w0):=hw0;unfold legV
 dsimp only
 clear hl hn hX hw0;go_enter Tryz.func82,Tryz.ntmps82;go_upto_region 1 with fail;rw[HW0.out];obtain⟨hB0,i0,i1,i2,i3,i4,r0,r1,r2,r3,r4,f⟩:=HX.out;have HB0:Hid (Below w.heap.size w w0):=hB0;have f0:=f 0;have f1:=f 1;have f2:=f 2;have f3:=f 3;have f4:=f 4;clear HW0 f hB0;by_cases ha:a=0
 ·subst ha;by_cases h24:n=24
  ·have HF:Hid (G=(4,ByteArray.empty,zeH)):=by
    show _=_;rw[HG.out,afL,if_pos];simp[afB,HN.out,h24]
   have e24:((n:Int)==24)=true:=by simp[h24]
   clear h24;go_wp2;refine bodyPost_ret (v:=.agg #[.int .i64 4,.string ⟨#[]⟩,.int .i64 0,.int .i64 0,.int .i64 0]) (by simp[results,Tryz.results82,go_sem, *]) rfl ⟨by rw[HF.out];rfl,below_put5 HB0.out _ (by omega) _ _ _ _ _⟩
  have e24:((n:Int)==24)=false:=by simp;omega
  have HN24:Hid (l.length≠24):=by
   show _≠_;rw[HN.out];exact h24
  clear h24 r0 r1 r2 r3 r4 f0 f1 f2 f3 f4
  go_wp2_with fail
  refine (hop_has ao n cap c d e l _ (HL.out.later HB0.out)).mono ?_;rintro e5 w1 ⟨rfl,hb1⟩;obtain⟨q,hq⟩:∃q,q=l.any fun x=>hopB ((c,d),e) x:=⟨_,rfl⟩
  have HQ:Hid ((l.any fun x=>heB ((c,d),e) x)=q):=hq.symm;rw[←hq];have HX1:Hid (ABox w w1 0 b c d e):=HX.out.later hb1;obtain⟨hB1,i0,i1,i2,i3,i4,r0,r1,r2,r3,r4,f⟩:=HX1.out;have HB1:Hid (Below w.heap.size w w1):=hB1;have f0:=f 0;have f1:=f 1;have f2:=f 2;have f3:=f 3;have f4:=f 4;clear hq hb1 f hB1;cases q with
  | true =>
    have HF:Hid (G=(4,ByteArray.empty,zeH)):=by
     show _=_;rw[HG.out,afL,if_pos];simp only[afB,HQ.out];simp
    go_wp2;refine bodyPost_ret (v:=.agg #[.int .i64 4,.string ⟨#[]⟩,.int .i64 0,.int .i64 0,.int .i64 0]) (by simp[results,Tryz.results82,go_sem, *]) rfl ⟨by rw[HF.out];rfl,below_put5 HB1.out _ (by omega) _ _ _ _ _⟩
  | false =>
    have HF:Hid (G=(0,b,((c,d),e))):=by
     show _=_;rw[HG.out,afL,if_neg];simp only[afB,HQ.out];simp[HN24.out]
    go_wp2;refine bodyPost_ret (v:=.agg #[.int .i64 0,.string b,.int .i64 c,.int .i64 d,.int .i64 e]) (by simp[results,Tryz.results82,go_sem, *]) rfl ⟨by rw[HF.out],below_put5 HB1.out _ (by omega) _ _ _ _ _⟩
 have HF:Hid (G=(a,b,((c,d),e))):=by
  show _=_;rw[HG.out,afL,if_neg];simp[afB,ha]
 have ea:(a==0)=false:=by simp[ha]
 clear ha;go_wp2;refine bodyPost_ret (v:=.agg #[.int .i64 a,.string b,.int .i64 c,.int .i64 d,.int .i64 e]) (by simp[results,Tryz.results82,go_sem, *]) rfl ⟨by rw[HF.out],below_put5 HB0.out _ (by omega) _ _ _ _ _⟩
end
section
open Go.ChangeShapes Go.WideShapes Go.ChangeAt Go.RowKit Go.Joins
def legE:Enc (Int×ByteArray×((Int×Int)×Int)) where
 c:=fun x=>[.int .i64 x.1,.string x.2.1,.int .i64 x.2.2.1.1,.int .i64 x.2.2.1.2,.int .i64 x.2.2.2]
 n:=5
 len:=fun _=>rfl
 pos:=by decide
 one:=by
  intro x u hu;simp at hu
  rcases hu with rfl | rfl | rfl | rfl | rfl <;> rfl
theorem leg_cells {w:World}{g o:Nat}{x0:Int}{x1:ByteArray}{x2 x3 x4:Int}(h:VAt w g o (legE.c (x0,x1,((x2,x3),x4)))):w.cell? ⟨g,o,none⟩=some (.int .i64 x0)∧w.cell? ⟨g,o+1,none⟩=some (.string x1)∧w.cell? ⟨g,o+2,none⟩=some (.int .i64 x2)∧w.cell? ⟨g,o+3,none⟩=some (.int .i64 x3)∧w.cell? ⟨g,o+4,none⟩=some (.int .i64 x4):=
 ⟨h 0 _ rfl,h 1 _ rfl,h 2 _ rfl,h 3 _ rfl,h 4 _ rfl⟩
def legB (a b:Int×ByteArray×((Int×Int)×Int)):Bool:=(a.1==b.1)&&((a.2.1==b.2.1)&&((a.2.2.1.1==b.2.2.1.1)&&((a.2.2.1.2==b.2.2.1.2)&&((a.2.2.2==b.2.2.2)))))
theorem leg_ways (x0:Int)(x1:ByteArray)(x2 x3 x4 y0:Int)(y1:ByteArray)(y2 y3 y4:Int):
 ((x0==y0)=false∧legB (x0,x1,((x2,x3),x4)) (y0,y1,((y2,y3),y4))=false) ∨
 ((x0==y0)=true∧(x1.toList==y1.toList)=false∧legB (x0,x1,((x2,x3),x4)) (y0,y1,((y2,y3),y4))=false) ∨
 ((x0==y0)=true∧(x1.toList==y1.toList)=true∧(x2==y2)=false∧legB (x0,x1,((x2,x3),x4)) (y0,y1,((y2,y3),y4))=false) ∨
 ((x0==y0)=true∧(x1.toList==y1.toList)=true∧(x2==y2)=true∧(x3==y3)=false∧legB (x0,x1,((x2,x3),x4)) (y0,y1,((y2,y3),y4))=false) ∨
 ((x0==y0)=true∧(x1.toList==y1.toList)=true∧(x2==y2)=true∧(x3==y3)=true∧(x4==y4)=false∧legB (x0,x1,((x2,x3),x4)) (y0,y1,((y2,y3),y4))=false) ∨
 ((x0==y0)=true∧(x1.toList==y1.toList)=true∧(x2==y2)=true∧(x3==y3)=true∧(x4==y4)=true∧legB (x0,x1,((x2,x3),x4)) (y0,y1,((y2,y3),y4))=true):=by
 have e:legB (x0,x1,((x2,x3),x4)) (y0,y1,((y2,y3),y4))=((x0==y0)&&((x1.toList==y1.toList)&&((x2==y2)&&((x3==y3)&&((x4==y4)))))):=by simp only[legB,beq_toListBytes]
 rw[e];cases h0:(x0==y0)
 ·simp
 skip;cases h1:(x1.toList==y1.toList)
 ·simp
 skip;cases h2:(x2==y2)
 ·simp
 skip;cases h3:(x3==y3)
 ·simp
 skip;cases h4:(x4==y4)
 ·simp
 skip;simp
theorem leg_info:(Tryz.prog.info? 155).map (fun i=>(i.zero,i.size,i.bytes))=some (some (.agg #[.int .i64 0,.string ByteArray.empty,.int .i64 0,.int .i64 0,.int .i64 0]),5,48):=by kernel_rfl
theorem leg_zero:(Value.agg #[.int .i64 0,.string ByteArray.empty,.int .i64 0,.int .i64 0,.int .i64 0]).cells.size=5:=by simp[Value.cells]
end
section
open Go.ChangeShapes Go.WideShapes Go.ChangeAt Go.RowKit
def cellsR (L:List Ru):List Value:=L.flatMap fun r=>[.int .i64 r.p,.int .i64 r.m,.int .i64 r.b,.int .i64 r.o,.int .i64 r.s,.int .i64 r.v]
theorem cellsR_len (L:List Ru):(cellsR L).length=L.length*6:=by
 induction L with
 | nil=>rfl
 | cons p r ih=>simp only[cellsR,List.flatMap_cons,List.length_append,List.length_cons,List.length_nil] at *;omega
theorem cellsR_app (L M:List Ru):cellsR (L++M)=cellsR L++cellsR M:=by simp[cellsR]
theorem cellsR_at (L:List Ru)(i:Nat)(h:i<L.length):(cellsR L)[i*6]?=some (.int .i64 (L[i]).p)∧(cellsR L)[i*6+1]?=some (.int .i64 (L[i]).m)∧(cellsR L)[i*6+2]?=some (.int .i64 (L[i]).b) ∧
 (cellsR L)[i*6+3]?=some (.int .i64 (L[i]).o)∧(cellsR L)[i*6+4]?=some (.int .i64 (L[i]).s)∧(cellsR L)[i*6+5]?=some (.int .i64 (L[i]).v):=by
 induction L generalizing i with
 | nil=>simp at h
 | cons p r ih =>
   cases i with
   | zero=>simp[cellsR]
   | succ i =>
     have:=ih i (by simpa using h);have e1:(i+1)*6=i*6+1+1+1+1+1+1:=by omega
     simpa[cellsR,e1] using this
theorem cellsR_one (L:List Ru):∀u∈cellsR L,u.oneCell'=true:=by
 intro u hu;simp only[cellsR,List.mem_flatMap] at hu;obtain⟨p,_,hp⟩:=hu;simp at hp
 rcases hp with rfl | rfl | rfl | rfl | rfl | rfl <;> rfl
theorem own_SR {w:World}{B e:Nat}{v:Value}{L:List Ru}(h:w.ownsRow B e 6 v L.length (cellsR L)):SR w v L:=by
 rcases h.2 with ⟨rfl,h0⟩ | ⟨g,cap,cur,rfl,_,_,h1,h2,_⟩
 ·exact .inl ⟨none,0,rfl,List.length_eq_zero_iff.1 h0⟩
 refine .inr ⟨g,0,cap,rfl,h1,h2,fun i hi=>?_⟩;obtain⟨a0,a1,a2,a3,a4,a5⟩:=cellsR_at L i hi;refine⟨?_,?_,?_,?_,?_,?_⟩
 ·have:=h.cellAt (i*6) (by omega);rw[a0] at this;simpa using this
 ·have:=h.cellAt (i*6+1) (by omega);rw[a1] at this;simpa using this
 ·have:=h.cellAt (i*6+2) (by omega);rw[a2] at this;simpa using this
 ·have:=h.cellAt (i*6+3) (by omega);rw[a3] at this;simpa using this
 ·have:=h.cellAt (i*6+4) (by omega);rw[a4] at this;simpa using this
 have:=h.cellAt (i*6+5) (by omega);rw[a5] at this;simpa using this
theorem infoRule:(Tryz.prog.info? 66).map (fun i=>(i.zero,i.size,i.bytes))=some (some (.agg #[.int .i64 0,.int .i64 0,.int .i64 0,.int .i64 0,.int .i64 0,.int .i64 0]),6,48):=by kernel_rfl
theorem sixCells:(Value.agg #[.int .i64 0,.int .i64 0,.int .i64 0,.int .i64 0,.int .i64 0,.int .i64 0]).cells.size=6:=by simp[Value.cells]
end
section
open Go.RowKit
theorem addr_add (g o j:Nat):(⟨g,o,none⟩:Addr).add j=⟨g,o+j,none⟩:=by
 simp only[Addr.add]
 first
  | rfl
  | (split
     ·next h0=>rw[h0];rfl
     rfl)
theorem RAt.cells {w:World}{g o:Nat}{M:List Ru}(h:RAt w g o M):∀j u,(cellsR M)[j]?=some u→w.cell? ((⟨g,o,none⟩:Addr).add j)=some u:=by
 intro j u hu;have hj:j<M.length*6:=by
  have:=(List.getElem?_eq_some_iff.1 hu).1;rw[cellsR_len] at this;exact this
 rw[addr_add];have hi:j / 6<M.length:=by omega
 obtain⟨c0,c1,c2,c3,c4,c5⟩:=h (j / 6) hi;obtain⟨a0,a1,a2,a3,a4,a5⟩:=cellsR_at M (j / 6) hi;have h6:j=j / 6*6∨j=j / 6*6+1∨j=j / 6*6+2∨j=j / 6*6+3∨j=j / 6*6+4∨j=j / 6*6+5:=by omega
 generalize j / 6=i at *
 rcases h6 with e | e | e | e | e | e
 ·subst e;rw[a0] at hu;cases hu;exact c0
 ·subst e;rw[a1] at hu;cases hu;rw[←Nat.add_assoc];exact c1
 ·subst e;rw[a2] at hu;cases hu;rw[←Nat.add_assoc];exact c2
 ·subst e;rw[a3] at hu;cases hu;rw[←Nat.add_assoc];exact c3
 ·subst e;rw[a4] at hu;cases hu;rw[←Nat.add_assoc];exact c4
 subst e;rw[a5] at hu;cases hu;rw[←Nat.add_assoc];exact c5
theorem run_append_own_none {w:World}(base:Nat)(t ty e:TypeId)(i:TypeInfo)(size cap2:Nat)(ht:Tryz.prog.underlying t=some (.slice e))(hi:Tryz.prog.info? e=some i)
 (v:Value) (n:Nat) (xs:List Value) (hown:w.ownsRow base e size v n xs):
 (Builtin.append_ #[t,t] ty #[v,.slice none 0 cap2]).run Tryz.prog w=.ok v w:=by
 rcases hown.2 with ⟨rfl,rfl⟩ | ⟨g,cap,cur,rfl,_,_,hnc,_⟩
 ·simp[Builtin.append_,run_underlying ht,sizeOf,typeInfo,hi,Builtin.lenOf,Builtin.firstCells]
 simp[Builtin.append_,run_underlying ht,sizeOf,typeInfo,hi,Builtin.lenOf,Builtin.firstCells,hnc,storeCells]
theorem wpList_append_SR (w:World){ops:Array Oper}{rest:List Oper}{o:Oper}{a:Act}{Q:Exit→Act→World→Prop}(hgd:o.guard=none)(s x:Operand)(t:TypeId)
 (ho:o.op=.call { callee:=.builtin .append,args:=#[s,x],argTypes:=#[t,t] }) (ht:Tryz.prog.underlying t=some (.slice 66)) (base:Nat)
 (v:Value) (hs:a.eval s=v) (L:List Ru) (hown:w.ownsRow base 66 6 v L.length (cellsR L)) (u:Value) (hx:a.eval x=u) (M:List Ru) (hM:SR w u M)
 (h100:L.length+M.length≤1000) (hbase:base≤w.heap.size)
 (h:∀v' w',w'.ownsRow base 66 6 v' (L++M).length (cellsR (L++M))→w.grownBy w' v.ownBlock→wpList Tryz.prog ops Q rest (a.put o.dst v') w'):wpList Tryz.prog ops Q (o :: rest) a w:=by
 obtain⟨i0,hi,hz0,hz1,hz2⟩:=info_parts infoRule;have key:∀(ad:Addr) (m c:Nat) (news:List Value),a.eval x=.slice (some ad) m c→news.length=m*6→(∀j u,news[j]?=some u→w.cell? (ad.add j)=some u)→(∀u∈news,u.oneCell'=true)→m=M.length→news=cellsR M→wpList Tryz.prog ops Q (o :: rest) a w:=by
  intro ad m c news e1 e2 e3 e4 e5 e6;refine wpList_append_own w hgd s x t ho base 66 i0 (.agg #[.int .i64 0,.int .i64 0,.int .i64 0,.int .i64 0,.int .i64 0,.int .i64 0]) 6 48 ht hi hz0 hz1 hz2 sixCells (by decide) v _ _ hs hown ad m c news e1 e2 e3 e4 (by unfold maxLen;omega) (by omega) hbase ?_;intro v' w' h1 h2 _;refine h v' w' ?_ h2;rw[List.length_append,cellsR_app,←e5,←e6];exact h1
 rcases hM with ⟨ao,cap,rfl,rfl⟩ | ⟨g,q,cap,rfl,h1,h2,h3⟩
 ·cases ao with
  | none =>
    refine wpList_plain hgd fun K hK=>?_
    have hrun:=run_append_own_none (w:=w) base t o.type 66 i0 6 cap ht hi v _ _ hown;unfold Oper.wp;simp[execOp,ho,resolve,invoke,builtin,hs,hx,hrun,Result.andThen];exact hK _ _ (h v w (by rw[List.append_nil];exact hown) ⟨rfl,rfl,rfl,Nat.le_refl _,fun _ _ _=>rfl⟩)
  | some ad=>exact key ad 0 cap [] hx rfl (by intro j u hu;simp at hu) (by intro u hu;cases hu) rfl rfl
 exact key ⟨g,q,none⟩ M.length cap (cellsR M) hx (cellsR_len M) h3.cells (cellsR_one M) rfl rfl
theorem grow_nil (n:Nat)(w:World)(hn:n≤1000):
 Calls Tryz.prog 149 #[.slice none 0 0,.int .i64 n] w fun e w'=>∃v,e=.returned v∧w'.ownsRow w.heap.size 66 6 v 0 []∧Below w.heap.size w w':=by
 have h1:¬((n:Int)<0):=by omega
 by_cases h0:n=0
 ·subst h0;go_enter Tryz.func149,Tryz.ntmps149;go_wp2;go_ret;exact⟨_,rfl,World.ownsRow_nil _ _ _ _,Below.refl _ _⟩
 obtain⟨i0,hi,hz0,hz1,hz2⟩:=info_parts infoRule;have h3:wrap64 ((n:Int)-0)=(n:Int):=by unfold wrap64;omega
 have h4:(n:Int) > 0:=by omega
 have hrz:∀ty,(Builtin.append_ #[62,3] ty #[.slice none 0 0,.int .i64 n]).run Tryz.prog w =
  .ok (.slice (some ⟨w.heap.size,0,none⟩) n (grownCap w n 0 66)) (w.drew.alloc (.cells (Builtin.zeroCells (Value.agg #[.int .i64 0,.int .i64 0,.int .i64 0,.int .i64 0,.int .i64 0,.int .i64 0]).cells n++Builtin.zeroCells (Value.agg #[.int .i64 0,.int .i64 0,.int .i64 0,.int .i64 0,.int .i64 0,.int .i64 0]).cells (grownCap w n 0 66-n)) 66)):=fun ty =>
  Lib.run_append_nil_zeros w 62 3 ty 66 i0 _ .i64 .i64 Tryz.underlying62 Tryz.underlying3 hi hz0 n (by omega) (by rw[hz1];decide) (by omega) (by rw[hz2];omega)
 have hGn:n≤grownCap w n 0 66:=grownCap_ge w _ _ _;have hGm:grownCap w n 0 66≤maxLen:=grownCap_le_maxLen w n 0 66 (by unfold maxLen;omega)
 generalize grownCap w n 0 66=G at *
 have HM:Hid (G≤maxLen):=hGm;have hG63:G≤9223372036854775807:=by unfold maxLen at hGm;omega
 have HO:Hid ((w.drew.alloc (.cells (Builtin.zeroCells (Value.agg #[.int .i64 0,.int .i64 0,.int .i64 0,.int .i64 0,.int .i64 0,.int .i64 0]).cells n++Builtin.zeroCells (Value.agg #[.int .i64 0,.int .i64 0,.int .i64 0,.int .i64 0,.int .i64 0,.int .i64 0]).cells (G-n)) 66)).ownsRow w.heap.size 66 6 (.slice (some ⟨w.heap.size,0,none⟩) 0 G) 0 []):=
  World.ownsRow_made w.drew _ G (Nat.le_refl _) HM.out (by
   simp only[Array.size_append,size_zeroCells,sixCells,←Nat.add_mul]
   congr 1
   omega)
 clear hGm;go_enter Tryz.func149,Tryz.ntmps149
 go_wp2_with (at_builtin;refine Lib.wpList_append_run _ rfl _ _ _ _ rfl _ _ rfl rfl _ _ (hrz _) ?_)
 all_goals (go_ret;exact⟨_,rfl,HO.out,((Below.refl _ _).drew).alloc (Nat.le_refl _) _⟩)
def PAt (w:World)(g o:Nat)(Ls:List (List Ru)):Prop:=∀i (h:i<Ls.length),∃ao n cap,w.cell? ⟨g,o+i,none⟩=some (.slice ao n cap)∧SR w (.slice ao n cap) Ls[i]
theorem PAt.later {w w':World}{g o:Nat}{Ls:List (List Ru)}(h:PAt w g o Ls)(hb:Below w.heap.size w w'):PAt w' g o Ls:=fun i hi=>by
 obtain⟨ao,n,cap,h1,h2⟩:=h i hi;exact⟨ao,n,cap,cell_later hb h1,h2.later hb⟩
theorem SR.len {w:World}{ao:Option Addr}{n cap:Nat}{L:List Ru}(h:SR w (.slice ao n cap) L):L.length=n:=by
 rcases h with ⟨_,_,e,rfl⟩ | ⟨_,_,_,e,_⟩
 ·simp at e;simp[e]
 simp at e;exact e.2.1.symm
theorem flat_next {Ls:List (List Ru)}{k:Nat}(hk:k<Ls.length):(Ls.take (k+1)).flatten=(Ls.take k).flatten++Ls[k]:=by
 rw[List.take_succ_eq_append_getElem hk];simp only[List.flatten_append,List.flatten_cons,List.flatten_nil,List.append_nil]
theorem flat_le {Ls:List (List Ru)}(k:Nat):(Ls.take k).flatten.length≤Ls.flatten.length:=by
 have:Ls.flatten=(Ls.take k).flatten++(Ls.drop k).flatten:=by rw[←List.flatten_append,List.take_append_drop]
 rw[this,List.length_append];omega
theorem concat_any (g o m cap:Nat)(Ls:List (List Ru))(w:World)(hm:Ls.length=m)(hm2:m≤1000)(hc:PAt w g o Ls)(hs:Ls.flatten.length≤1000):
 Calls Tryz.prog 121 #[.slice (some ⟨g,o,none⟩) m cap] w fun e w'=>∃v,e=.returned v∧w'.ownsRow w.heap.size 66 6 v Ls.flatten.length (cellsR Ls.flatten)∧Below w.heap.size w w':=by
 have HM:Hid (Ls.length=m):=hm;have HC:Hid (PAt w g o Ls):=hc;have HS:Hid (Ls.flatten.length≤1000):=hs;obtain⟨N,hN⟩:∃N,N=Ls.flatten.length:=⟨_,rfl⟩;have HN:Hid (N=Ls.flatten.length):=hN;have hN2:N≤1000:=by omega
 clear hm hc hs hN;go_enter Tryz.func121,Tryz.ntmps121
 go_upto_block 0 with fail
 go_cut [3] from 3 (fun z w'=>z=.int .i64 (N:Int)∧w'=w)
 case first =>
  go_wp2
  go_loopw [3,11] (fun z i wr=>∃k:Nat,k≤m∧i=.int .i64 k∧z=.int .i64 ((Ls.take k).flatten.length:Int)∧wr=w) (fun _ i _=>m-(intOf i).toNat)
  case atStart=>exact⟨0,by omega,rfl,rfl,rfl⟩
  case round =>
   obtain⟨k,hk,rfl,rfl,rfl⟩:=hrel;by_cases hlt:k<m
   ·have hkl:k<Ls.length:=by rw[HM.out];exact hlt
    obtain⟨ao,n,cap2,q0,hsr⟩:=HC.out k hkl;have HT:Hid ((Ls.take (k+1)).flatten.length=(Ls.take k).flatten.length+n):=by
     show _=_;rw[flat_next hkl,List.length_append,hsr.len]
    have hb1:(Ls.take k).flatten.length+n≤1000:=by
     have h1:=flat_le (Ls:=Ls) (k+1);have h2:=HS.out;have h3:=HT.out;omega
    generalize (Ls.take k).flatten.length=z at *
    clear hsr;go_wp2;go_roundw
    case rel=>exact⟨k+1,by omega,by go_num,by rw[HT.out];go_num,by simp⟩
    case measure=>simp[intOf];omega
   obtain rfl:k=m:=by omega
   go_wp2_with fail
   go_meet
   case rel=>exact⟨by rw[←HM.out,List.take_length,HN.out],rfl⟩
 case rest =>
  obtain⟨rfl,rfl⟩:=hcut
  go_wp2_with fail
  refine (grow_nil N _ hN2).mono ?_;rintro e w1 ⟨v,rfl,hown,hB⟩;have HO:Hid (w1.ownsRow wc.heap.size 66 6 v 0 []):=hown;have HB:Hid (Below wc.heap.size wc w1):=hB;clear hown hB;go_wp2
  go_loopw [6,27] (fun u i wr=>∃k:Nat,k≤m∧i=.int .i64 k∧wr.ownsRow wc.heap.size 66 6 u (Ls.take k).flatten.length (cellsR (Ls.take k).flatten)∧Below wc.heap.size wc wr) (fun _ i _=>m-(intOf i).toNat)
  case atStart=>exact⟨0,by omega,rfl,HO.out,HB.out⟩
  case round =>
   obtain⟨k,hk,rfl,hown,hB⟩:=hrel;have HOW:Hid (wr.ownsRow wc.heap.size 66 6 u6 (Ls.take k).flatten.length (cellsR (Ls.take k).flatten)):=hown;have HBW:Hid (Below wc.heap.size wc wr):=hB;clear hown;by_cases hlt:k<m
   ·have hkl:k<Ls.length:=by rw[HM.out];exact hlt
    obtain⟨ao,n,cap2,q0,hsr⟩:=(HC.out.later hB) k hkl;have HSR:Hid (SR wr (.slice ao n cap2) Ls[k]):=hsr;have HL1:Hid ((Ls.take k).flatten.length+Ls[k].length≤1000):=by
     have h1:=flat_le (Ls:=Ls) (k+1);rw[flat_next hkl,List.length_append] at h1;have h2:=HS.out;show _≤_;omega
    clear hsr hB
    go_wp2_with (at_builtin;refine wpList_append_SR _ rfl _ _ 62 rfl Tryz.underlying62 wc.heap.size _ rfl _ HOW.out _ rfl _ HSR.out HL1.out HBW.out.size ?_)
    intro v' w3 hown3 hgrow;have HO5:Hid (w3.ownsRow wc.heap.size 66 6 v' (Ls.take (k+1)).flatten.length (cellsR (Ls.take (k+1)).flatten)):=by
     show w3.ownsRow _ _ _ _ _ _;rw[flat_next hkl,show ((Ls.take k).flatten++Ls[k]).length=(List.take k (List.map List.length Ls)).sum+Ls[k].length by simp];exact hown3
    have HB5:Hid (Below wc.heap.size wc w3):=HBW.out.grown hgrow HBW.out.size (fun g hg=>(HOW.out.lt g hg).1);clear hown3 hgrow q0;go_wp2;go_roundw
    case rel=>exact⟨k+1,by omega,by go_num,HO5.out,HB5.out⟩
    case measure=>simp[intOf];omega
   obtain rfl:k=m:=by omega
   go_wp2;go_ret;refine⟨_,rfl,?_,HBW.out⟩;have:=HOW.out;rw[←HM.out,List.take_length] at this;exact this
theorem eq_ways (p m b o s v p' m' b' o' s' v':Int):
 ((p==p')=false∧eqR ⟨p,m,b,o,s,v⟩ ⟨p',m',b',o',s',v'⟩=false) ∨
 ((p==p')=true∧(m==m')=false∧eqR ⟨p,m,b,o,s,v⟩ ⟨p',m',b',o',s',v'⟩=false) ∨
 ((p==p')=true∧(m==m')=true∧(b==b')=false∧eqR ⟨p,m,b,o,s,v⟩ ⟨p',m',b',o',s',v'⟩=false) ∨
 ((p==p')=true∧(m==m')=true∧(b==b')=true∧(o==o')=false∧eqR ⟨p,m,b,o,s,v⟩ ⟨p',m',b',o',s',v'⟩=false) ∨
 ((p==p')=true∧(m==m')=true∧(b==b')=true∧(o==o')=true∧(s==s')=false∧eqR ⟨p,m,b,o,s,v⟩ ⟨p',m',b',o',s',v'⟩=false) ∨
 ((p==p')=true∧(m==m')=true∧(b==b')=true∧(o==o')=true∧(s==s')=true∧(v==v')=false∧eqR ⟨p,m,b,o,s,v⟩ ⟨p',m',b',o',s',v'⟩=false) ∨
 ((p==p')=true∧(m==m')=true∧(b==b')=true∧(o==o')=true∧(s==s')=true∧(v==v')=true∧eqR ⟨p,m,b,o,s,v⟩ ⟨p',m',b',o',s',v'⟩=true):=by
 unfold eqR;by_cases h1:p=p'
 ·by_cases h2:m=m'
  ·by_cases h3:b=b'
   ·by_cases h4:o=o'
    ·by_cases h5:s=s'
     ·by_cases h6:v=v'
      ·simp[h1,h2,h3,h4,h5,h6]
      simp[h1,h2,h3,h4,h5,h6]
     simp[h1,h2,h3,h4,h5]
    simp[h1,h2,h3,h4]
   simp[h1,h2,h3]
  simp[h1,h2]
 simp[h1]
theorem run_eqlR (p m b o s v p' m' b' o' s' v':Int)(w:World):(binOp .eql 66 (.agg #[.int .i64 p,.int .i64 m,.int .i64 b,.int .i64 o,.int .i64 s,.int .i64 v]) (.agg #[.int .i64 p',.int .i64 m',.int .i64 b',.int .i64 o',.int .i64 s',.int .i64 v'])).run Tryz.prog w=.ok (.bool (eqR ⟨p,m,b,o,s,v⟩ ⟨p',m',b',o',s',v'⟩)) w:=by
 rcases eq_ways p m b o s v p' m' b' o' s' v' with ⟨e1,e⟩ | ⟨e1,e2,e⟩ | ⟨e1,e2,e3,e⟩ | ⟨e1,e2,e3,e4,e⟩ | ⟨e1,e2,e3,e4,e5,e⟩ | ⟨e1,e2,e3,e4,e5,e6,e⟩ | ⟨e1,e2,e3,e4,e5,e6,e⟩
 all_goals
  rw[e];go_simp
def CI (w:World)(B:Nat)(p m b q s v:Int)(g o:Nat)(p' m' b' q' s' v':Int)(w':World):Prop:=
 Below w.heap.size w w'∧(w'.cell? ⟨B,0,none⟩=some (.int .i64 p)∧w'.cell? ⟨B,1,none⟩=some (.int .i64 m)∧w'.cell? ⟨B,2,none⟩=some (.int .i64 b) ∧
  w'.cell? ⟨B,3,none⟩=some (.int .i64 q)∧w'.cell? ⟨B,4,none⟩=some (.int .i64 s)∧w'.cell? ⟨B,5,none⟩=some (.int .i64 v)) ∧
 w'.cell? ⟨g,o,none⟩=some (.int .i64 p')∧w'.cell? ⟨g,o+1,none⟩=some (.int .i64 m')∧w'.cell? ⟨g,o+2,none⟩=some (.int .i64 b') ∧
  w'.cell? ⟨g,o+3,none⟩=some (.int .i64 q')∧w'.cell? ⟨g,o+4,none⟩=some (.int .i64 s')∧w'.cell? ⟨g,o+5,none⟩=some (.int .i64 v')
theorem CI.later {w W W':World}{B:Nat}{p m b q s v:Int}{g o:Nat}{p' m' b' q' s' v':Int}(hb:Below W.heap.size W W')(h:CI w B p m b q s v g o p' m' b' q' s' v' W):CI w B p m b q s v g o p' m' b' q' s' v' W':=by
 obtain⟨h0,⟨h1,h2,h3,h4,h5,h6⟩,k1,k2,k3,k4,k5,k6⟩:=h;exact⟨h0.trans (hb.mono h0.size),⟨cell_later hb h1,cell_later hb h2,cell_later hb h3,cell_later hb h4,cell_later hb h5,cell_later hb h6⟩,cell_later hb k1,cell_later hb k2,cell_later hb k3,cell_later hb k4,cell_later hb k5,cell_later hb k6⟩
theorem index_any (ao:Option Addr)(n cap:Nat)(p m b o s v:Int)(L:List Ru)(w:World)(hn:L.length=n)(hn2:n≤maxLen)(ha:0<n→∃g o,ao=some ⟨g,o,none⟩∧RAt w g o L∧cap≤maxLen):
 Calls Tryz.prog 152 #[.slice ao n cap,.agg #[.int .i64 p,.int .i64 m,.int .i64 b,.int .i64 o,.int .i64 s,.int .i64 v]] w fun e w'=>e=.returned (.int .i64 (ixP (fun a=>eqR ⟨p,m,b,o,s,v⟩ a) L))∧Below w.heap.size w w':=by
 have HN:Hid (L.length=n):=hn;have HA:Hid (0<n→∃g o,ao=some ⟨g,o,none⟩∧RAt w g o L∧cap≤maxLen):=ha;have HC0:=C6.new w p m b o s v 66;have HB0:Hid (Below w.heap.size w (w.alloc (Obj.cells #[.int .i64 p,.int .i64 m,.int .i64 b,.int .i64 o,.int .i64 s,.int .i64 v] 66))):=(Below.refl _ _).alloc (Nat.le_refl _) _;unfold maxLen at hn2;clear hn ha;go_enter Tryz.func152,Tryz.ntmps152;go_wp2
 go_loopw [8] (fun i wr=>∃k:Nat,k≤n∧i=.int .i64 k∧(L.take k).any (fun a=>eqR ⟨p,m,b,o,s,v⟩ a)=false∧Below w.heap.size w wr∧C6 wr w.heap.size 0 ⟨p,m,b,o,s,v⟩)
  (fun i _=>n-(intOf i).toNat)
 case atStart=>exact⟨0,by omega,rfl,by simp,HB0.out,HC0⟩
 case round =>
  obtain⟨k,hk,rfl,hno,hB,hC⟩:=hrel;have HB:Hid (Below w.heap.size w wr):=hB;have HC:Hid (C6 wr w.heap.size 0 ⟨p,m,b,o,s,v⟩):=hC;have HNO:Hid ((L.take k).any (fun a=>eqR ⟨p,m,b,o,s,v⟩ a)=false):=hno;clear hno HC0 HB0;by_cases hlt:k<n
  ·obtain⟨g,og,hao,hc,_⟩:=HA.out (by omega);subst hao;obtain⟨p',m',b',o',s',v',hkl,hL,q0,q1,q2,q3,q4,q5⟩:=(hc.later hB).at HN.out hlt;have HL:Hid (L[k]=⟨p',m',b',o',s',v'⟩):=hL;obtain⟨r0,r1,r2,r3,r4,r5⟩:=hC;simp only[Nat.zero_add] at r0 r1 r2 r3 r4 r5;have HCE:Hid (CI wr w.heap.size p m b o s v g (og+k*6) p' m' b' o' s' v' wr):=⟨Below.refl _ _,⟨r0,r1,r2,r3,r4,r5⟩,q0,q1,q2,q3,q4,q5⟩;clear hL hB HA q0 q1 q2 q3 q4 q5 r0 r1 r2 r3 r4 r5;go_upto_region 4 with fail;have kb0:(0:Int)≤(k:Int):=by omega
   have kb1:(k:Int)<(n:Int):=by omega
   go_cut [16] from 9 to 18 (fun c w'=>c=.bool (eqR ⟨p,m,b,o,s,v⟩ ⟨p',m',b',o',s',v'⟩)∧Below wr.heap.size wr w')
   case first =>
    as_aux_lemma =>
     refine wp_region_quiet (C:=CI wr w.heap.size p m b o s v g (og+k*6) p' m' b' o' s' v') (by kernel_rfl) (by kernel_rfl) (CI.later (W:=wr) (Below.drew (Below.refl _ _)) HCE.out) ?_;simp only[List.toList_toArray];go_big_quiet_want;refine qv (.agg #[.int .i64 p,.int .i64 m,.int .i64 b,.int .i64 o,.int .i64 s,.int .i64 v]) ?_ ?_
     ·rintro w' ⟨z0,⟨z1,z2,z3,z4,z5,z6⟩,y1,y2,y3,y4,y5,y6⟩;go_simp
     simp only[Act.put,AP];go_big_quiet_on;go_big_quiet_want;refine qv (.slice (some ⟨g,og,none⟩) n cap) ?_ ?_
     ·rintro w' ⟨z0,⟨z1,z2,z3,z4,z5,z6⟩,y1,y2,y3,y4,y5,y6⟩;go_simp
     simp only[Act.put,AP];go_big_quiet_on;go_big_quiet_want;refine qv (.int .i64 (k:Int)) ?_ ?_
     ·rintro w' ⟨z0,⟨z1,z2,z3,z4,z5,z6⟩,y1,y2,y3,y4,y5,y6⟩;go_simp
     simp only[Act.put,AP];go_big_quiet_on;go_big_quiet_want;refine qv (.pointer (some ⟨g,og+k*6,none⟩)) ?_ ?_
     ·rintro w' ⟨z0,⟨z1,z2,z3,z4,z5,z6⟩,y1,y2,y3,y4,y5,y6⟩;go_simp
     simp only[Act.put,AP];go_big_quiet_on;go_big_quiet_want;refine qv (.agg #[.int .i64 p',.int .i64 m',.int .i64 b',.int .i64 o',.int .i64 s',.int .i64 v']) ?_ ?_
     ·rintro w' ⟨z0,⟨z1,z2,z3,z4,z5,z6⟩,y1,y2,y3,y4,y5,y6⟩;go_simp
     simp only[Act.put,AP];go_big_quiet_on;go_big_quiet_want;refine quiet_val (v:=.bool (eqR ⟨p,m,b,o,s,v⟩ ⟨p',m',b',o',s',v'⟩)) (fun w' hC=>exec_bin rfl (by go_simp) (run_eqlR p m b o s v p' m' b' o' s' v' w')) ?_;simp only[Act.put,AP];go_big_quiet_on;refine wpQuiet_nil ?_;intro w' hC
     go_wp2_with fail
     go_meet
     case rel=>exact⟨rfl,hC.1⟩
   case rest =>
    obtain⟨rfl,hB2⟩:=hcut;have HB2:Hid (Below w.heap.size w wc):=HB.out.trans (hB2.mono HB.out.size);have HC2:Hid (C6 wc w.heap.size 0 ⟨p,m,b,o,s,v⟩):=HC.out.later hB2;clear hB2;cases ho:eqR ⟨p,m,b,o,s,v⟩ ⟨p',m',b',o',s',v'⟩
    ·go_wp2;go_roundw
     case rel=>exact⟨k+1,by omega,by go_num,any_nextR hkl HNO.out (by rw[HL.out];exact ho),HB2.out,HC2.out⟩
     case measure=>simp[intOf];omega
    go_wp2;go_ret;exact⟨by rw[ixP_hit hkl HNO.out (by rw[HL.out];exact ho)];rfl,HB2.out⟩
  obtain rfl:k=n:=by omega
  go_wp2;go_ret;exact⟨by have:=HNO.out;rw[←HN.out,List.take_length] at this;rw[ixP_no this];rfl,HB.out⟩
theorem with1_any (p m b o s v:Int)(r:Ru)(B:Nat)(w:World)(hc:C6 w B 0 r):
 Calls Tryz.prog 151 #[.agg #[.int .i64 p,.int .i64 m,.int .i64 b,.int .i64 o,.int .i64 s,.int .i64 v],.pointer (some ⟨B,0,none⟩)] w fun e w'=>e=.returned (.bool (keyB ⟨p,m,b,o,s,v⟩ r))∧Below w.heap.size w w':=by
 obtain⟨p',m',b',o',s',v'⟩:=r;obtain⟨c0,c1,c2,c3,c4,c5⟩:=hc;simp only[Nat.zero_add] at c0 c1 c2 c3 c4 c5;have hlt:B<w.heap.size:=World.block_lt_of_cell? _ _ c0;go_enter Tryz.func151,Tryz.ntmps151
 go_wp2_with fail
 refine (clash_any _ _ _ _ _ _ _ _ _ _ _ _ _).mono ?_;rintro e w1 ⟨rfl,hb1⟩;go_wp2;go_ret;exact⟨rfl,((Below.refl _ _).alloc (Nat.le_refl _) _).trans (hb1.mono (by simp))⟩
theorem with1_asks (r:Ru)(B:Nat)(w:World)(hc:C6 w B 0 r):Asks w 151 (.pointer (some ⟨B,0,none⟩)) (fun a=>keyB a r):=
 fun p m b o s v W hW=>with1_any p m b o s v r B W (hc.later hW)
theorem SR.nil (w:World):SR w (.slice none 0 0) []:=.inl ⟨none,0,rfl,rfl⟩
def NR (w:World)(B:Nat)(v:Value)(L:List Ru):Prop:=w.ownsRow B 66 6 v L.length (cellsR L)
theorem NR.sr {w:World}{B:Nat}{v:Value}{L:List Ru}(h:NR w B v L):SR w v L:=own_SR h
theorem NR.nil (w:World)(B:Nat):NR w B (.slice none 0 0) []:=World.ownsRow_nil w B _ 6
theorem NR.mono {w:World}{B B':Nat}{v:Value}{L:List Ru}(h:NR w B v L)(hB:B'≤B):NR w B' v L:=by
 obtain⟨h1,h2 | ⟨g,cap,cur,hv,hb,h3⟩⟩:=h
 ·exact⟨h1,.inl h2⟩
 exact⟨h1,.inr ⟨g,cap,cur,hv,Nat.le_trans hB hb,h3⟩⟩
theorem NR.later {w w':World}{B:Nat}{v:Value}{L:List Ru}(h:NR w B v L)(hb:Below w.heap.size w w'):NR w' B v L:=h.kept ⟨hb.os,hb.tape,hb.output,hb.size,fun k hk _=>hb.block k hk⟩ (Classical.em _)
theorem NR.of {w:World}{B:Nat}{v:Value}{L M:List Ru}(h:w.ownsRow B 66 6 v L.length (cellsR L))(e:L=M):NR w B v M:=by subst e;exact h
theorem sr_one (w:World)(p m b o s v:Int)(t:TypeId):SR (w.alloc (.cells #[.int .i64 p,.int .i64 m,.int .i64 b,.int .i64 o,.int .i64 s,.int .i64 v] t)) (.slice (some ⟨w.heap.size,0,none⟩) 1 1) [⟨p,m,b,o,s,v⟩]:=by
 refine .inr ⟨w.heap.size,0,1,rfl,Nat.le_refl _,by unfold maxLen;omega,fun i hi=>?_⟩;obtain rfl:i=0:=by simp at hi;omega
 have h:=C6.new w p m b o s v t;simp only[Nat.zero_mul,Nat.add_zero,List.getElem_cons_zero];exact h
theorem pat2 {W:World}{a1 a2:Option Addr}{n1 c1 n2 c2:Nat}{L1 L2:List Ru}(t:TypeId)(h1:SR W (.slice a1 n1 c1) L1)(h2:SR W (.slice a2 n2 c2) L2):
 PAt (W.alloc (.cells #[.slice a1 n1 c1,.slice a2 n2 c2] t)) W.heap.size 0 [L1,L2]:=by
 have hb:Below W.heap.size W (W.alloc (.cells #[.slice a1 n1 c1,.slice a2 n2 c2] t)):=(Below.refl _ _).alloc (Nat.le_refl _) _;intro i hi
 match i,hi with
 | 0,_=>exact⟨a1,n1,c1,by simp,h1.later hb⟩
 | 1,_=>exact⟨a2,n2,c2,by simp,h2.later hb⟩
theorem RAt.drop {w:World}{g o:Nat}{L:List Ru}(h:RAt w g o L)(k:Nat):RAt w g (o+k*6) (L.drop k):=by
 intro i hi;have hi2:k+i<L.length:=by simp at hi;omega
 have:=h (k+i) hi2;rw[List.getElem_drop];have e:o+(k+i)*6=o+k*6+i*6:=by omega
 rw[←e];exact this
theorem ch_hit {L:List Ru}{r:Ru}(h:hitB L r=true):chN L true r=7:=by simp[chN,h]
theorem ch_full {L:List Ru}{r:Ru}(h:hitB L r=false)(h2:12≤L.length):chN L true r=4:=by simp[chN,h,h2]
theorem ch_add {L:List Ru}{r:Ru}(h:hitB L r=false)(h2:¬12≤L.length):chN L true r=0:=by simp[chN,h,h2]
theorem chL_ne {L:List Ru}{a:Bool}{r:Ru}(h:chN L a r≠0):chL L a r=[]:=by simp[chL,h]
theorem chL_add {L:List Ru}{r:Ru}(h:chN L true r=0):chL L true r=L++[r]:=by simp[chL,h]
theorem ch_none {L:List Ru}{r:Ru}(h:inB L r=false):chN L false r=5:=by simp[chN,h]
theorem ch_take {L:List Ru}{r:Ru}(h:inB L r=true):chN L false r=0:=by simp[chN,h]
theorem chL_take {L:List Ru}{r:Ru}(h:chN L false r=0):chL L false r=L.take (ixN L r)++L.drop (ixN L r+1):=by simp[chL,h]
theorem with_any (ao:Option Addr)(n cap:Nat)(p m b o s v:Int)(L:List Ru)(w:World)(hs:SR w (.slice ao n cap) L):
 Calls Tryz.prog 123 #[.slice ao n cap,.agg #[.int .i64 p,.int .i64 m,.int .i64 b,.int .i64 o,.int .i64 s,.int .i64 v]] w fun e w'=>∃u,e=.returned (.tuple #[u,noV (chN L true ⟨p,m,b,o,s,v⟩)])∧NR w' w.heap.size u (chL L true ⟨p,m,b,o,s,v⟩)∧Below w.heap.size w w':=by
 obtain⟨ao',n',cap',e,hn,hn2,hn3,ha⟩:=hs.form;cases e;have HN:Hid (L.length=n):=hn;have HC0:=C6.new w p m b o s v 66;have hB0:Below w.heap.size w (w.alloc (Obj.cells #[.int .i64 p,.int .i64 m,.int .i64 b,.int .i64 o,.int .i64 s,.int .i64 v] 66)):=(Below.refl _ _).alloc (Nat.le_refl _) _;have HS0:Hid (SR (w.alloc (Obj.cells #[.int .i64 p,.int .i64 m,.int .i64 b,.int .i64 o,.int .i64 s,.int .i64 v] 66)) (.slice ao n cap) L):=hs.later hB0;have HA:Hid (0<n→∃g o,ao=some ⟨g,o,none⟩∧RAt w g o L∧cap≤maxLen):=ha;have HB0:Hid (Below w.heap.size w (w.alloc (Obj.cells #[.int .i64 p,.int .i64 m,.int .i64 b,.int .i64 o,.int .i64 s,.int .i64 v] 66))):=hB0;have HM:Hid (n≤maxLen):=hn2;have hn63:n≤9223372036854775807:=by unfold maxLen at hn2;omega
 clear hn ha hs hn2 hB0;cases hh:hitB L ⟨p,m,b,o,s,v⟩
 ·have HH:Hid (L.any (fun a=>keyB a ⟨p,m,b,o,s,v⟩)=false):=hh;by_cases h12:12≤n
  ·rw[ch_full hh (by rw[HN.out];exact h12),chL_ne (by rw[ch_full hh (by rw[HN.out];exact h12)];decide)];clear hh;go_enter Tryz.func123,Tryz.ntmps123
   go_wp2_with fail
   refine (containsF ao n cap _ _ _ L _ HN.out HM.out (fun h=>by obtain⟨g,o,e1,e2,e3⟩:=HA.out h;exact⟨g,o,e1,e2.later HB0.out,e3⟩) (enters_of Tryz.func151 (by kernel_rfl) rfl) (with1_asks ⟨p,m,b,o,s,v⟩ _ _ HC0)).mono ?_;rintro e w1 ⟨rfl,hb1⟩;rw[HH.out];have HB1:Hid (Below w.heap.size w w1):=HB0.out.trans (hb1.mono HB0.out.size);clear hb1;go_wp2;refine bodyPost_ret (v:=.tuple #[.slice none 0 0,.iface 85 (.int .i64 4)]) (by simp[results,Tryz.results123,go_sem]) rfl ⟨_,rfl,NR.nil _ _,HB1.out⟩
  rw[ch_add hh (by rw[HN.out];exact h12),chL_add (ch_add hh (by rw[HN.out];exact h12))];clear hh;go_enter Tryz.func123,Tryz.ntmps123
  go_wp2_with fail
  refine (containsF ao n cap _ _ _ L _ HN.out HM.out (fun h=>by obtain⟨g,o,e1,e2,e3⟩:=HA.out h;exact⟨g,o,e1,e2.later HB0.out,e3⟩) (enters_of Tryz.func151 (by kernel_rfl) rfl) (with1_asks ⟨p,m,b,o,s,v⟩ _ _ HC0)).mono ?_;rintro e w1 ⟨rfl,hb1⟩;rw[HH.out];have HB1:Hid (Below w.heap.size w w1):=HB0.out.trans (hb1.mono HB0.out.size);have HS1:Hid (SR w1 (.slice ao n cap) L):=HS0.out.later hb1;obtain⟨c0,c1,c2,c3,c4,c5⟩:=HC0.later hb1;simp only[Nat.zero_add] at c0 c1 c2 c3 c4 c5;have hlt:w.heap.size<w1.heap.size:=World.block_lt_of_cell? _ _ c0;clear hb1
  go_wp2_with fail
  have hB2:Below w1.heap.size w1 (w1.alloc (Obj.cells #[.int .i64 p,.int .i64 m,.int .i64 b,.int .i64 o,.int .i64 s,.int .i64 v] 66)):=(Below.refl _ _).alloc (Nat.le_refl _) _;have hp:=pat2 62 (HS1.out.later hB2) (sr_one w1 p m b o s v 66);have hB3:=hB2.trans (((Below.refl _ _).alloc (Nat.le_refl _) (.cells #[.slice ao n cap,.slice (some ⟨w1.heap.size,0,none⟩) 1 1] 62)).mono hB2.size);simp only[World.size_alloc] at hp;refine (concat_any _ 0 2 2 [L,[⟨p,m,b,o,s,v⟩]] _ rfl (by omega) hp (by simp[HN.out];omega)).mono ?_;rintro e w2 ⟨u,rfl,hown,hb2⟩;have HB2:Hid (Below w.heap.size w w2):=HB1.out.trans ((hB3.trans (hb2.mono hB3.size)).mono HB1.out.size);have HO:Hid (NR w2 w.heap.size u (L++[⟨p,m,b,o,s,v⟩])):=(NR.of hown (by simp)).mono (by have:=HB1.out.size;simp;omega);clear hb2 hown hp hB2 hB3;go_wp2;refine bodyPost_ret (v:=.tuple #[u,.nilIface]) (by simp[results,Tryz.results123,go_sem]) rfl ⟨_,rfl,HO.out,HB2.out⟩
 have HH:Hid (L.any (fun a=>keyB a ⟨p,m,b,o,s,v⟩)=true):=hh;rw[ch_hit hh,chL_ne (by rw[ch_hit hh];decide)];clear hh;go_enter Tryz.func123,Tryz.ntmps123
 go_wp2_with fail
 refine (containsF ao n cap _ _ _ L _ HN.out HM.out (fun h=>by obtain⟨g,o,e1,e2,e3⟩:=HA.out h;exact⟨g,o,e1,e2.later HB0.out,e3⟩) (enters_of Tryz.func151 (by kernel_rfl) rfl) (with1_asks ⟨p,m,b,o,s,v⟩ _ _ HC0)).mono ?_;rintro e w1 ⟨rfl,hb1⟩;rw[HH.out];have HB1:Hid (Below w.heap.size w w1):=HB0.out.trans (hb1.mono HB0.out.size);clear hb1;go_wp2;refine bodyPost_ret (v:=.tuple #[.slice none 0 0,.iface 85 (.int .i64 7)]) (by simp[results,Tryz.results123,go_sem]) rfl ⟨_,rfl,NR.nil _ _,HB1.out⟩
theorem keepQ {w1 W W':World}(hb:Below W.heap.size W W')(h:Below w1.heap.size w1 W):Below w1.heap.size w1 W':=h.trans (hb.mono h.size)
theorem ix_no {L:List Ru}{r:Ru}(h:inB L r=false):ixP (fun a=>eqR r a) L = -1:=ixP_no h
theorem ix_yes {L:List Ru}{r:Ru}(h:inB L r=true):ixP (fun a=>eqR r a) L=(ixN L r:Int):=by
 unfold ixP;rw[if_pos (show L.any (fun a=>eqR r a)=true from h)];rfl
theorem ix_lt {L:List Ru}{r:Ru}(h:inB L r=true):ixN L r<L.length:=by
 unfold ixN;rw[List.findIdx_lt_length];simpa[inB] using h
theorem without_any (ao:Option Addr)(n cap:Nat)(p m b o s v:Int)(L:List Ru)(w:World)(hs:SR w (.slice ao n cap) L)(h1000:n≤1000):
 Calls Tryz.prog 124 #[.slice ao n cap,.agg #[.int .i64 p,.int .i64 m,.int .i64 b,.int .i64 o,.int .i64 s,.int .i64 v]] w fun e w'=>∃u,e=.returned (.tuple #[u,noV (chN L false ⟨p,m,b,o,s,v⟩)])∧NR w' w.heap.size u (chL L false ⟨p,m,b,o,s,v⟩)∧Below w.heap.size w w':=by
 obtain⟨ao',n',cap',e,hn,hn2,hn3,ha⟩:=hs.form;cases e;have HN:Hid (L.length=n):=hn;have hB0:Below w.heap.size w (w.alloc (Obj.cells #[.int .i64 p,.int .i64 m,.int .i64 b,.int .i64 o,.int .i64 s,.int .i64 v] 66)):=(Below.refl _ _).alloc (Nat.le_refl _) _;have HA:Hid (0<n→∃g o,ao=some ⟨g,o,none⟩∧RAt w g o L∧cap≤maxLen):=ha;have HB0:Hid (Below w.heap.size w (w.alloc (Obj.cells #[.int .i64 p,.int .i64 m,.int .i64 b,.int .i64 o,.int .i64 s,.int .i64 v] 66))):=hB0;have HM:Hid (n≤maxLen):=hn2;clear hn ha hs hn2 hB0;cases hh:inB L ⟨p,m,b,o,s,v⟩
 ·rw[ch_none hh,chL_ne (by rw[ch_none hh];decide)];have HH:Hid (ixP (fun a=>eqR ⟨p,m,b,o,s,v⟩ a) L = -1):=ix_no hh;clear hh;go_enter Tryz.func124,Tryz.ntmps124
  go_wp2_with fail
  refine (index_any ao n cap p m b o s v L _ HN.out HM.out (fun h=>by obtain⟨g,o,e1,e2,e3⟩:=HA.out h;exact⟨g,o,e1,e2.later HB0.out,e3⟩)).mono ?_;rintro e w1 ⟨rfl,hb1⟩;rw[HH.out];have HB1:Hid (Below w.heap.size w w1):=HB0.out.trans (hb1.mono HB0.out.size);clear hb1;go_wp2;refine bodyPost_ret (v:=.tuple #[.slice none 0 0,.iface 85 (.int .i64 5)]) (by simp[results,Tryz.results124,go_sem]) rfl ⟨_,rfl,NR.nil _ _,HB1.out⟩
 rw[ch_take hh,chL_take (ch_take hh)];have HH:Hid (ixP (fun a=>eqR ⟨p,m,b,o,s,v⟩ a) L=(ixN L ⟨p,m,b,o,s,v⟩:Int)):=ix_yes hh;have hi:ixN L ⟨p,m,b,o,s,v⟩<n:=by
  have:=ix_lt hh;rw[HN.out] at this;exact this
 obtain⟨g,og,hao,hRA,hcm⟩:=HA.out (by omega);subst hao
 generalize ixN L ⟨p,m,b,o,s,v⟩=i at *
 have HRA:Hid (RAt w g og L):=hRA;have HCM:Hid (cap≤maxLen):=hcm;have hc63:(cap:Int)≤9223372036854775807:=by unfold maxLen at hcm;omega
 clear hh hRA hcm HA;go_enter Tryz.func124,Tryz.ntmps124
 go_wp2_with fail
 refine (index_any _ n cap p m b o s v L _ HN.out HM.out (fun h=>⟨g,og,rfl,HRA.out.later HB0.out,HCM.out⟩)).mono ?_;rintro e w1 ⟨rfl,hb1⟩;rw[HH.out];have HB1:Hid (Below w.heap.size w w1):=HB0.out.trans (hb1.mono HB0.out.size);have HR1:Hid (RAt w1 g og L):=(HRA.out.later HB0.out).later hb1;clear hb1;have i0:¬((i:Int)<0):=by omega
 have i01:(0:Int)≤(i:Int):=by omega
 have i1:(i:Int)≤(cap:Int):=by omega
 have i2:((i+1:Nat):Int)≤(n:Int):=by omega
 have i21:(0:Int)≤((i+1:Nat):Int):=by omega
 have i3:IntKind.i64.wrap ((i:Int)+1)=((i+1:Nat):Int):=by rw[IntKind.wrap_i64];omega
 have HT1:Hid (SR w1 (.slice (some ⟨g,og,none⟩) i cap) (L.take i)):=by
  have e1:(L.take i).length=i:=by rw[List.length_take,HN.out];omega
  exact .inr ⟨g,og,cap,by rw[e1],by rw[e1];omega,HCM.out,HR1.out.take i⟩
 have HLEN:Hid ([L.take i,L.drop (i+1)].flatten.length≤1000):=by
  show _≤1000;simp only[List.flatten_cons,List.flatten_nil,List.append_nil,List.length_append,List.length_take,List.length_drop,HN.out];omega
 by_cases hcj:cap=i+1
 ·have HT2:Hid (SR w1 (.slice (some ⟨g,og,none⟩) 0 0) (L.drop (i+1))):=.inl ⟨_,_,rfl,List.drop_eq_nil_of_le (by rw[HN.out];omega)⟩
  generalize hj:i+1=j at i2 i21 i3 hcj
  subst hcj;go_wp2
  go_region_held3 (fun w'=>Below w1.heap.size w1 w') (first | assumption | exact Below.drew (Below.refl _ _) | exact keepQ (by assumption) (by assumption) | exact keepQ (Below.drew (Below.refl _ _)) (by assumption) | exact keepQ (Below.alloc (Below.refl _ _) (Nat.le_refl _) _) (by assumption))
   (first | (go_at_call 121;refine (concat_any _ 0 2 2 [L.take i,L.drop (i+1)] _ rfl (by omega) ((pat2 _ HT1.out HT2.out).later (Below.drew (Below.refl _ _))) HLEN.out).mono ?_;rintro e w' ⟨u,rfl,hown,hb⟩))
  have HO:Hid (NR w' w.heap.size u (L.take i++L.drop (i+1))):=(NR.of hown (by simp)).mono (by have:=HB1.out.size;simp;omega);have HB2:Hid (Below w.heap.size w w'):=HB1.out.trans ((‹Below w1.heap.size w1 w'›).mono HB1.out.size);clear hown;go_wp2;refine bodyPost_ret (v:=.tuple #[u,.nilIface]) (by simp[results,Tryz.results124,go_sem]) rfl ⟨_,rfl,HO.out,HB2.out⟩
 have HT2:Hid (SR w1 (.slice (some ⟨g,og+(i+1)*6,none⟩) (n-(i+1)) (cap-(i+1))) (L.drop (i+1))):=by
  have e1:(L.drop (i+1)).length=n-(i+1):=by rw[List.length_drop,HN.out]
  exact .inr ⟨g,og+(i+1)*6,cap-(i+1),by rw[e1],by rw[e1];omega,Nat.le_trans (Nat.sub_le _ _) HCM.out,HR1.out.drop (i+1)⟩
 generalize hj:i+1=j at i2 i21 i3 hcj HT2 HLEN
 go_wp2
 go_region_held3 (fun w'=>Below w1.heap.size w1 w') (first | assumption | exact Below.drew (Below.refl _ _) | exact keepQ (by assumption) (by assumption) | exact keepQ (Below.drew (Below.refl _ _)) (by assumption) | exact keepQ (Below.alloc (Below.refl _ _) (Nat.le_refl _) _) (by assumption))
  (first | (go_at_call 121;refine (concat_any _ 0 2 2 [L.take i,L.drop j] _ rfl (by omega) ((pat2 _ HT1.out HT2.out).later (Below.drew (Below.refl _ _))) HLEN.out).mono ?_;rintro e w' ⟨u,rfl,hown,hb⟩))
 have HO:Hid (NR w' w.heap.size u (L.take i++L.drop (i+1))):=(NR.of hown (by rw[hj];simp)).mono (by have:=HB1.out.size;simp;omega);have HB2:Hid (Below w.heap.size w w'):=HB1.out.trans ((‹Below w1.heap.size w1 w'›).mono HB1.out.size);clear hown;go_wp2;refine bodyPost_ret (v:=.tuple #[u,.nilIface]) (by simp[results,Tryz.results124,go_sem]) rfl ⟨_,rfl,HO.out,HB2.out⟩
end
end Go.Proofs.YtglnnoglbieaeaaGreatDoor
