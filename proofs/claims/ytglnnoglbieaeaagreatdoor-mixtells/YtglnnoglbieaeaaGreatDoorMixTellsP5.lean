/- Contracts and facts on the way to MixTells, joined into one text: TableDo2, TableBey, MixLegs, CcLink, StCube, StRule, StOp, ClassMem, ChangeMem, ChangeOps, ClassTwo, StrClone, AlikeMath, RuleTwo, SmNet, ChangeBox. -/
import Derived.Test.YtglnnoglbieaeaaGreatDoorMixTellsP4
namespace Go.Proofs.YtglnnoglbieaeaaGreatDoor
set_option linter.unusedSimpArgs false
set_option linter.unusedVariables false
set_option maxHeartbeats 16000000
set_option maxRecDepth 100000
section
open Go.RowKit
theorem do_tb {L:List Ru}{a:Bool}{r:Ru}(h:tbN L≠0):doN L a r=tbN L∧doL L a r=[]:=by
 have e:doN L a r=tbN L:=by simp[doN,h]
 exact⟨e,by rw[doL,e,if_neg h]⟩
theorem do_ru {L:List Ru}{a:Bool}{r:Ru}(h:tbN L=0)(h2:r.n≠0):doN L a r=r.n∧doL L a r=[]:=by
 have e:doN L a r=r.n:=by simp[doN,h,h2]
 exact⟨e,by rw[doL,e,if_neg h2]⟩
theorem do_ch {L:List Ru}{a:Bool}{r:Ru}(h:tbN L=0)(h2:r.n=0):doN L a r=chN L a r∧doL L a r=chL L a r:=by
 have e:doN L a r=chN L a r:=by simp[doN,h,h2]
 refine⟨e,?_⟩;by_cases h3:chN L a r=0
 ·rw[doL,e,if_pos h3]
 rw[doL,e,if_neg h3,chL_ne h3]
theorem do_own (ao:Option Addr)(n cap:Nat)(a:Bool)(p m b o s v:Int)(L:List Ru)(w:World)(hs:SR w (.slice ao n cap) L):
 Calls Tryz.prog 77 #[.slice ao n cap,.bool a,.agg #[.int .i64 p,.int .i64 m,.int .i64 b,.int .i64 o,.int .i64 s,.int .i64 v]] w fun e w'=>∃u,e=.returned (.tuple #[u,noV (doN L a ⟨p,m,b,o,s,v⟩)])∧NR w' w.heap.size u (doL L a ⟨p,m,b,o,s,v⟩)∧Below w.heap.size w w':=by
 have hB0:Below w.heap.size w (w.alloc (Obj.cells #[.int .i64 p,.int .i64 m,.int .i64 b,.int .i64 o,.int .i64 s,.int .i64 v] 66)):=(Below.refl _ _).alloc (Nat.le_refl _) _;have HC0:=C6.new w p m b o s v 66;have HS0:Hid (SR (w.alloc (Obj.cells #[.int .i64 p,.int .i64 m,.int .i64 b,.int .i64 o,.int .i64 s,.int .i64 v] 66)) (.slice ao n cap) L):=hs.later hB0;have HB0:Hid (Below w.heap.size w (w.alloc (Obj.cells #[.int .i64 p,.int .i64 m,.int .i64 b,.int .i64 o,.int .i64 s,.int .i64 v] 66))):=hB0;have HLN:Hid (L.length=n):=hs.len;clear hs hB0;by_cases h1:tbN L=0
 ·have HT:Hid (tbN L=0):=h1;by_cases h2:(⟨p,m,b,o,s,v⟩:Ru).n=0
  ·have HR:Hid (ruN p m b o s v=0):=h2;have HN1:Hid (n≤1000):=by
    have:=(tb_iff.1 h1).1;have:=HLN.out;show n≤1000;omega
   rw[(do_ch h1 h2).1,(do_ch h1 h2).2];clear h1 h2;cases a
   ·go_enter Tryz.func77,Tryz.ntmps77
    go_wp2_with fail
    refine (table_any _ L _ HS0.out).mono ?_;rintro e w1 ⟨rfl,hb1⟩;rw[no_ok HT.out];have HB1:Hid (Below w.heap.size w w1):=HB0.out.trans (hb1.mono HB0.out.size);have HS1:Hid (SR w1 (.slice ao n cap) L):=HS0.out.later hb1;have HC1:Hid (C6 w1 w.heap.size 0 ⟨p,m,b,o,s,v⟩):=HC0.later hb1;obtain⟨c0,c1,c2,c3,c4,c5⟩:=HC0.later hb1;simp only[Nat.zero_add] at c0 c1 c2 c3 c4 c5;have hlt:w.heap.size<w1.heap.size:=World.block_lt_of_cell? _ _ c0;clear hb1
    go_wp2_with fail
    refine (ruCheck_any _ _ _ _ _ _ _).mono ?_;rintro e w2 ⟨rfl,hb2⟩;rw[no_ok HR.out];have HB2:Hid (Below w.heap.size w w2):=HB1.out.trans (hb2.mono HB1.out.size);have HS2:Hid (SR w2 (.slice ao n cap) L):=HS1.out.later hb2;obtain⟨d0,d1,d2,d3,d4,d5⟩:=HC1.out.later hb2;simp only[Nat.zero_add] at d0 d1 d2 d3 d4 d5;have hlt2:w.heap.size<w2.heap.size:=World.block_lt_of_cell? _ _ d0;clear hb2 c0 c1 c2 c3 c4 c5
    go_wp2_with fail
    refine (without_any ao n cap p m b o s v L _ HS2.out HN1.out).mono ?_;rintro e w3 ⟨u,rfl,hsr,hb3⟩;have HB3:Hid (Below w.heap.size w w3):=HB2.out.trans (hb3.mono HB2.out.size);have HO:Hid (NR w3 w.heap.size u (chL L false ⟨p,m,b,o,s,v⟩)):=hsr.mono HB2.out.size;clear hb3 hsr d0 d1 d2 d3 d4 d5
    generalize hE:noV (chN L false ⟨p,m,b,o,s,v⟩)=E
    have HE:Hid (noV (chN L false ⟨p,m,b,o,s,v⟩)=E):=hE;clear hE;go_wp2;refine bodyPost_ret (v:=.tuple #[u,E]) (by simp[results,Tryz.results77,go_sem]) rfl ⟨_,by rw[HE.out],HO.out,HB3.out⟩
   go_enter Tryz.func77,Tryz.ntmps77
   go_wp2_with fail
   refine (table_any _ L _ HS0.out).mono ?_;rintro e w1 ⟨rfl,hb1⟩;rw[no_ok HT.out];have HB1:Hid (Below w.heap.size w w1):=HB0.out.trans (hb1.mono HB0.out.size);have HS1:Hid (SR w1 (.slice ao n cap) L):=HS0.out.later hb1;have HC1:Hid (C6 w1 w.heap.size 0 ⟨p,m,b,o,s,v⟩):=HC0.later hb1;obtain⟨c0,c1,c2,c3,c4,c5⟩:=HC0.later hb1;simp only[Nat.zero_add] at c0 c1 c2 c3 c4 c5;have hlt:w.heap.size<w1.heap.size:=World.block_lt_of_cell? _ _ c0;clear hb1
   go_wp2_with fail
   refine (ruCheck_any _ _ _ _ _ _ _).mono ?_;rintro e w2 ⟨rfl,hb2⟩;rw[no_ok HR.out];have HB2:Hid (Below w.heap.size w w2):=HB1.out.trans (hb2.mono HB1.out.size);have HS2:Hid (SR w2 (.slice ao n cap) L):=HS1.out.later hb2;obtain⟨d0,d1,d2,d3,d4,d5⟩:=HC1.out.later hb2;simp only[Nat.zero_add] at d0 d1 d2 d3 d4 d5;have hlt2:w.heap.size<w2.heap.size:=World.block_lt_of_cell? _ _ d0;clear hb2 c0 c1 c2 c3 c4 c5
   go_wp2_with fail
   refine (with_any ao n cap p m b o s v L _ HS2.out).mono ?_;rintro e w3 ⟨u,rfl,hsr,hb3⟩;have HB3:Hid (Below w.heap.size w w3):=HB2.out.trans (hb3.mono HB2.out.size);have HO:Hid (NR w3 w.heap.size u (chL L true ⟨p,m,b,o,s,v⟩)):=hsr.mono HB2.out.size;clear hb3 hsr d0 d1 d2 d3 d4 d5
   generalize hE:noV (chN L true ⟨p,m,b,o,s,v⟩)=E
   have HE:Hid (noV (chN L true ⟨p,m,b,o,s,v⟩)=E):=hE;clear hE;go_wp2;refine bodyPost_ret (v:=.tuple #[u,E]) (by simp[results,Tryz.results77,go_sem]) rfl ⟨_,by rw[HE.out],HO.out,HB3.out⟩
  have HR:Hid (ruN p m b o s v≠0):=h2;rw[(do_ru h1 h2).1,(do_ru h1 h2).2];have HRV:Hid (noV (Ru.n ⟨p,m,b,o,s,v⟩)=.iface 85 (.int .i64 (ruN p m b o s v))):=no_ne h2;clear h1 h2;go_enter Tryz.func77,Tryz.ntmps77
  go_wp2_with fail
  refine (table_any _ L _ HS0.out).mono ?_;rintro e w1 ⟨rfl,hb1⟩;rw[no_ok HT.out];have HB1:Hid (Below w.heap.size w w1):=HB0.out.trans (hb1.mono HB0.out.size);obtain⟨c0,c1,c2,c3,c4,c5⟩:=HC0.later hb1;simp only[Nat.zero_add] at c0 c1 c2 c3 c4 c5;have hlt:w.heap.size<w1.heap.size:=World.block_lt_of_cell? _ _ c0;clear hb1
  go_wp2_with fail
  refine (ruCheck_any _ _ _ _ _ _ _).mono ?_;rintro e w2 ⟨rfl,hb2⟩;rw[no_ne HR.out];have HB2:Hid (Below w.heap.size w w2):=HB1.out.trans (hb2.mono HB1.out.size);clear hb2 c0 c1 c2 c3 c4 c5;go_wp2;refine bodyPost_ret (v:=.tuple #[.slice none 0 0,.iface 85 (.int .i64 (ruN p m b o s v))]) (by simp[results,Tryz.results77,go_sem]) rfl ⟨_,by rw[HRV.out],NR.nil _ _,HB2.out⟩
 have HT:Hid (tbN L≠0):=h1;rw[(do_tb h1).1,(do_tb h1).2,no_ne h1];clear h1;go_enter Tryz.func77,Tryz.ntmps77
 go_wp2_with fail
 refine (table_any _ L _ HS0.out).mono ?_;rintro e w1 ⟨rfl,hb1⟩;rw[no_ne HT.out];have HB1:Hid (Below w.heap.size w w1):=HB0.out.trans (hb1.mono HB0.out.size);clear hb1;go_wp2;refine bodyPost_ret (v:=.tuple #[.slice none 0 0,.iface 85 (.int .i64 (tbN L))]) (by simp[results,Tryz.results77,go_sem]) rfl ⟨_,rfl,NR.nil _ _,HB1.out⟩
theorem own_apart {w:World}{b1 e1 s1 n1 b2 e2 s2 n2:Nat}{v1 v2:Value}{x1 x2:List Value}(h1:w.ownsRow b1 e1 s1 v1 n1 x1)(h2:w.ownsRow b2 e2 s2 v2 n2 x2)(he:e1≠e2):v1.ownBlock=none∨v1.ownBlock≠v2.ownBlock:=by
 rcases h1.2 with ⟨rfl,_⟩ | ⟨g,cap,cur,rfl,_,hg,_⟩
 ·exact .inl rfl
 refine .inr ?_
 rcases h2.2 with ⟨rfl,_⟩ | ⟨g2,cap2,cur2,rfl,_,hg2,_⟩
 ·exact fun h=>by cases h
 intro h;simp only[Value.ownBlock,Option.some.injEq] at h;subst h;rw[hg] at hg2;simp only[Option.some.injEq,Obj.cells.injEq] at hg2;exact he hg2.2.1
theorem pat1 {W:World}{a1:Option Addr}{n1 c1:Nat}{L1:List Ru}(t:TypeId)(h1:SR W (.slice a1 n1 c1) L1):
 PAt (W.alloc (.cells #[.slice a1 n1 c1] t)) W.heap.size 0 [L1]:=by
 have hb:Below W.heap.size W (W.alloc (.cells #[.slice a1 n1 c1] t)):=(Below.refl _ _).alloc (Nat.le_refl _) _;intro i hi
 match i,hi with
 | 0,_=>exact⟨a1,n1,c1,by simp,h1.later hb⟩
def LGs (W:World)(B:Nat)(v:Value)(f:Nat→Nat→Lg)(k:Nat):Prop:=
 ∃vs:List Value,W.ownsRow B 153 1 v k vs∧∀i,i<k→∃u,vs[i]?=some u∧W.ownsRow B 155 5 u 16 (cellsG legE ((List.range 16).map (f i)))
theorem LGs.later {W W':World}{B:Nat}{v:Value}{f:Nat→Nat→Lg}{k:Nat}(h:LGs W B v f k)(hb:Below W.heap.size W W'):LGs W' B v f k:=by
 obtain⟨vs,h1,h2⟩:=h;refine⟨vs,own_below h1 hb,fun i hi=>?_⟩;obtain⟨u,e,h3⟩:=h2 i hi;exact⟨u,e,own_below h3 hb⟩
theorem LGs.mono {W:World}{B B':Nat}{v:Value}{f:Nat→Nat→Lg}{k:Nat}(h:LGs W B v f k)(hB:B'≤B):LGs W B' v f k:=by
 obtain⟨vs,h1,h2⟩:=h;refine⟨vs,own_mono h1 hB,fun i hi=>?_⟩;obtain⟨u,e,h3⟩:=h2 i hi;exact⟨u,e,own_mono h3 hB⟩
theorem lgs_nil (W:World)(B:Nat)(f:Nat→Nat→Lg):LGs W B (.slice none 0 0) f 0:=⟨[],World.ownsRow_nil _ _ _ _,fun i hi=>by omega⟩
theorem LGs.push {W W':World}{B:Nat}{v v' u:Value}{f:Nat→Nat→Lg}{k:Nat}(h:LGs W B v f k)(hu:W.ownsRow B 155 5 u 16 (cellsG legE ((List.range 16).map (f k))))(hg:W.grownBy W' v.ownBlock)(hv:∀vs,W.ownsRow B 153 1 v k vs→W'.ownsRow B 153 1 v' (k+1) (vs++[u])):LGs W' B v' f (k+1):=by
 obtain⟨vs,h1,h2⟩:=h;have hl:vs.length=k:=by simpa using h1.1
 refine⟨vs++[u],hv vs h1,fun i hi=>?_⟩;by_cases e:i=k
 ·subst e;refine⟨u,by rw[List.getElem?_append_right (by omega),hl];simp,hu.kept hg ?_⟩;exact own_apart hu h1 (by decide)
 obtain⟨y,e1,h3⟩:=h2 i (by omega);refine⟨y,by rw[List.getElem?_append_left (by omega)];exact e1,h3.kept hg ?_⟩;exact own_apart h3 h1 (by decide)
theorem own_uniq {W:World}{B B' e size n:Nat}{v:Value}{xs ys:List Value}(h:W.ownsRow B e size v n xs)(k:W.ownsRow B' e size v n ys):xs=ys:=by
 rcases h.2 with ⟨rfl,rfl⟩ | ⟨g,cap,cur,rfl,_,hg,_,_,_,ht⟩
 ·have h1:=h.1;have h2:=k.1;simp at h1 h2;rw[h1,h2]
 rcases k.2 with ⟨h,_⟩ | ⟨g',cap',cur',e,_,hg',_,_,_,ht'⟩
 ·simp at h
 simp only[Value.slice.injEq,Option.some.injEq,Addr.mk.injEq,and_true,true_and] at e;obtain⟨rfl,rfl⟩:=e;rw[hg] at hg';cases hg';rw[←ht,←ht']
theorem legs_info:(Tryz.prog.info? 153).map (fun i=>(i.zero,i.size,i.bytes))=some (some (.slice none 0 0),1,24):=by kernel_rfl
theorem range_succ_map {α:Type}(f:Nat→α)(h:Nat):(List.range (h+1)).map f=(List.range h).map f++[f h]:=by simp[List.range_succ]
theorem legs_any (S:Int)(ao:Option Addr)(n cap:Nat)(ao2:Option Addr)(n2 cap2:Nat)(ao3:Option Addr)(n3 cap3:Nat)(Ls:List ((Int×Int)×(Int×Int)))(Hs:List (ByteArray×(Int×Int)))(Ts:List (List Ru))(w:World)
 (hL:GS lnkE w (.slice ao n cap) Ls) (hH:GS hstE w (.slice ao2 n2 cap2) Hs) (hT:TS w (.slice ao3 n3 cap3) Ts) (hN:ntN S Ls Hs Ts=0):
 Calls Tryz.prog 47 #[.agg #[.int .i64 S,.slice ao n cap,.slice ao2 n2 cap2,.slice ao3 n3 cap3]] w fun e w'=>∃v,e=.returned v∧LGs w' w.heap.size v (fun (a h:Nat)=>lgT Ls Hs (taT Ts ((a:Int)+1)) (((a:Int)+1,0),(h:Int))) n3∧Below w.heap.size w w':=by
 obtain⟨hTP,hTL,hTT⟩:=nt_0 hN;have hS:=(tp_0 hTP).1;have hnd:=(tp_0 hTP).2.2.2.1;have hTn:=hT.len;have hLn:=hL.len;have hl2:=(tp_0 hTP).2.1;have H36:Hid (n3≤6):=by show _≤_;omega
 have h36:n3≤6:=H36.out;obtain rfl:S=(n3:Int):=by omega
 have HND:Hid ((spsL Ls).Nodup):=hnd;have HN1:Hid (n≤1000):=by show _≤_;omega
 have HTT:Hid (∀k,k<Ts.length→tbN (Ts.getD k [])=0):=hTT;have HLW:Hid (∀W,Below w.heap.size w W→GS lnkE W (.slice ao n cap) Ls):=fun W hb=>hL.later hb
 have HHW:Hid (∀W,Below w.heap.size w W→GS hstE W (.slice ao2 n2 cap2) Hs):=fun W hb=>hH.later hb
 have HTW:Hid (∀W,Below w.heap.size w W→TS W (.slice ao3 n3 cap3) Ts):=fun W hb=>hT.later hb
 obtain⟨f,hf⟩:∃f:Nat→Nat→Lg,f=fun (a h:Nat)=>lgT Ls Hs (taT Ts ((a:Int)+1)) (((a:Int)+1,0),(h:Int)):=⟨_,rfl⟩
 have HF:Hid (∀a h:Nat,lgT Ls Hs (taT Ts ((a:Int)+1)) (((a:Int)+1,0),(h:Int))=f a h):=fun a h=>by rw[hf]
 rw[←hf];have hX:=nebox_new w (n3:Int) (.slice ao n cap) (.slice ao2 n2 cap2) (.slice ao3 n3 cap3) 28;have hB0:Below w.heap.size w (w.alloc (Obj.cells #[.int .i64 (n3:Int),.slice ao n cap,.slice ao2 n2 cap2,.slice ao3 n3 cap3] 28)):=(Below.refl _ _).alloc (Nat.le_refl _) _;obtain⟨w0,hw0⟩:∃W,w.alloc (Obj.cells #[.int .i64 (n3:Int),.slice ao n cap,.slice ao2 n2 cap2,.slice ao3 n3 cap3] 28)=W:=⟨_,rfl⟩;rw[hw0] at hX hB0;have HX:Hid (NeBox w0 w.heap.size (n3:Int) (.slice ao n cap) (.slice ao2 n2 cap2) (.slice ao3 n3 cap3)):=hX;have HB0:Hid (Below w.heap.size w w0):=hB0;have HW0:Hid (w.alloc (Obj.cells #[.int .i64 (n3:Int),.slice ao n cap,.slice ao2 n2 cap2,.slice ao3 n3 cap3] 28)=w0):=hw0;clear hL hH hT hN hTP hTL hTT hS hnd hTn hLn hl2 hf hX hB0 hw0;go_enter Tryz.func47,Tryz.ntmps47;go_upto_region 1 with fail;rw[HW0.out];clear HW0;obtain⟨b0,b1,b2,b3⟩:=HX.out
 go_wp2_with fail
 refine (peers_any ao n cap Ls _ (HLW.out _ HB0.out) HND.out HN1.out).mono ?_;rintro e w1 ⟨B,M,rfl,hM,hPM,hb1⟩;have HM:Hid (MAt spotKey veS w1 B M):=hM;have HPM:Hid (PM M Ls):=hPM;have HX1:Hid (NeBox w1 w.heap.size (n3:Int) (.slice ao n cap) (.slice ao2 n2 cap2) (.slice ao3 n3 cap3)):=HX.out.later hb1;have HB1:Hid (Below w.heap.size w w1):=HB0.out.trans (hb1.mono HB0.out.size);clear hM hPM hb1 HX HB0 b0 b1 b2 b3;go_wp2
 go_loopw [4,5] (fun v i wr=>∃k:Nat,k≤n3∧i=.int .i64 ((k:Int)+1)∧LGs wr w1.heap.size v f k∧Below w1.heap.size w1 wr) (fun _ i _=>n3+1-(intOf i).toNat)
 case atStart=>exact⟨0,by omega,rfl,lgs_nil _ _ _,Below.refl _ _⟩
 case round =>
  obtain⟨k,hk,rfl,hG,hB⟩:=hrel;obtain⟨v4,hv4⟩:∃X,X=u4:=⟨_,rfl⟩;subst hv4;obtain⟨wo,hwo⟩:∃X,X=wr:=⟨_,rfl⟩;subst hwo;have HG:Hid (LGs wo w1.heap.size v4 f k):=hG;have HB:Hid (Below w1.heap.size w1 wo):=hB;have HBw:Hid (Below w.heap.size w wo):=HB1.out.trans (hB.mono HB1.out.size);have HXr:Hid (NeBox wo w.heap.size (n3:Int) (.slice ao n cap) (.slice ao2 n2 cap2) (.slice ao3 n3 cap3)):=HX1.out.later hB;have HMr:Hid (MAt spotKey veS wo B M):=HM.out.later hB;obtain⟨b0,b1,b2,b3⟩:=HXr.out;clear hG hB;by_cases hlt:k<n3
  ·have dk:decide (((k:Int)+1)≤(n3:Int))=true:=by simp;omega
   have hle:(k:Int)+1≤(n3:Int):=by omega
   go_upto_region 7 with fail;clear dk hle;go_wp2
   go_loopw [6,19] (fun u i W=>∃h:Nat,h≤16∧i=.int .i64 h∧W.ownsRow wo.heap.size 155 5 u h (cellsG legE ((List.range h).map (f k)))∧Below wo.heap.size wo W) (fun _ i _=>16-(intOf i).toNat)
   case atStart=>exact⟨0,by omega,rfl,World.ownsRow_nil _ _ _ _,Below.refl _ _⟩
   case round =>
    obtain⟨h,hh,rfl,hown,hBi⟩:=hrel;obtain⟨ao6,cap6,rfl⟩:=own_form hown;have HOWN:Hid (wr.ownsRow wo.heap.size 155 5 (.slice ao6 h cap6) h (cellsG legE ((List.range h).map (f k)))):=hown;have HBi:Hid (Below wo.heap.size wo wr):=hBi;have HBw2:Hid (Below w.heap.size w wr):=HBw.out.trans (hBi.mono HBw.out.size);obtain⟨b0,b1,b2,b3⟩:=HXr.out.later hBi;clear hown;by_cases hlt16:h<16
    ·obtain⟨G,hG⟩:∃G,G=f k h:=⟨_,rfl⟩;have HLEG:Hid (Calls Tryz.prog 79 #[.agg #[.int .i64 (n3:Int),.slice ao n cap,.slice ao2 n2 cap2,.slice ao3 n3 cap3],.map (some B),.agg #[.int .i64 ((k:Int)+1),.int .i64 0,.int .i64 (h:Int)]] wr fun e w'=>e=.returned (legV G)∧Below wr.heap.size wr w'):=by
      have h:=leg_any (n3:Int) ao n cap ao2 n2 cap2 ao3 n3 cap3 Ls Hs Ts B M ((k:Int)+1) 0 (h:Int) wr (HHW.out _ HBw2.out) (HTW.out _ HBw2.out) (HMr.out.later hBi) HPM.out HTT.out (by omega) (by omega) H36.out;rw[HF.out,←hG] at h;exact h
     have HG5:Hid ((List.range (h+1)).map (f k)=(List.range h).map (f k)++[G]):=by
      show _=_;rw[range_succ_map,hG]
     clear hBi hG;obtain⟨x0,x1,⟨x2,x3⟩,x4⟩:=G;unfold legV at HLEG
     dsimp only at HLEG
     go_wp2_with fail
     refine HLEG.out.mono ?_;rintro e w3 ⟨rfl,hb3⟩;have HO3:Hid (w3.ownsRow wo.heap.size 155 5 (.slice ao6 h cap6) h (cellsG legE ((List.range h).map (f k)))):=own_below HOWN.out hb3;have HB3:Hid (Below wo.heap.size wo w3):=HBi.out.trans (hb3.mono HBi.out.size);have hs3:wo.heap.size≤w3.heap.size:=HB3.out.size;obtain⟨j0,hj,hy0,hy1,hy2⟩:=info_parts leg_info;clear hb3 b0 b1 b2 b3 HLEG
     go_wp2_with (at_builtin;refine wpList_append_own _ rfl _ _ 153 rfl wo.heap.size 155 j0 (.agg #[.int .i64 0,.string ByteArray.empty,.int .i64 0,.int .i64 0,.int .i64 0]) 5 48 Tryz.underlying153 hj hy0 hy1 hy2 leg_zero (by decide) _ _ _ rfl (HO3.out.alloc _) ⟨w3.heap.size,0,none⟩ 1 1 [.int .i64 x0,.string x1,.int .i64 x2,.int .i64 x3,.int .i64 x4] rfl rfl ?m1 ?m2 ?m3 ?m4 ?m5 ?_)
     case m1 =>
      intro j u hj
      match j,hj with
      | 0,hj=>simp at hj;subst hj;simp[Addr.add]
      | 1,hj=>simp at hj;subst hj;simp[Addr.add]
      | 2,hj=>simp at hj;subst hj;simp[Addr.add]
      | 3,hj=>simp at hj;subst hj;simp[Addr.add]
      | 4,hj=>simp at hj;subst hj;simp[Addr.add]
     case m2=>intro u hu;simp at hu;rcases hu with rfl | rfl | rfl | rfl | rfl <;> rfl
     case m3=>unfold maxLen;omega
     case m4=>omega
     case m5=>simp;omega
     intro v5 w5 hown5 hgrow5 _;obtain⟨ao7,cap7,rfl⟩:=own_form hown5;have hb5:Below wo.heap.size w3 w5:=((Below.refl _ w3).alloc hs3 _).grown hgrow5 (by simp;omega) (fun g hg=>(HO3.out.lt g hg).1);have HB5:Hid (Below wo.heap.size wo w5):=HB3.out.trans hb5;have HO5:Hid (w5.ownsRow wo.heap.size 155 5 (.slice ao7 (h+1) cap7) (h+1) (cellsG legE ((List.range (h+1)).map (f k)))):=by
      show World.ownsRow _ _ _ _ _ _ _;rw[HG5.out,cellsG_app,cellsG_one];exact hown5
     clear hb5 hgrow5 hown5;go_wp2;go_roundw
     case rel=>exact⟨h+1,by omega,by go_num,HO5.out,HB5.out⟩
     case measure=>simp[intOf];omega
    obtain rfl:h=16:=by omega
    have HG3:Hid (LGs wr w1.heap.size v4 f k):=HG.out.later hBi;have HU3:Hid (wr.ownsRow w1.heap.size 155 5 (.slice ao6 16 cap6) 16 (cellsG legE ((List.range 16).map (f k)))):=own_mono HOWN.out HB.out.size;have HB3:Hid (Below w1.heap.size w1 wr):=HB.out.trans (hBi.mono HB.out.size);have hs3:w1.heap.size≤wr.heap.size:=HB3.out.size;obtain⟨vs,hvs,_⟩:=HG3.out;have HVS:Hid (wr.ownsRow w1.heap.size 153 1 v4 k vs):=hvs;obtain⟨ao8,cap8,rfl⟩:=own_form hvs;obtain⟨j0,hj,hy0,hy1,hy2⟩:=info_parts legs_info;clear hBi hvs b0 b1 b2 b3
    go_wp2_with (at_builtin;refine wpList_append_own _ rfl _ _ 78 rfl w1.heap.size 153 j0 (.slice none 0 0) 1 24 Tryz.underlying78 hj hy0 hy1 hy2 rfl (by decide) _ _ _ rfl (HVS.out.alloc _) ⟨wr.heap.size,0,none⟩ 1 1 [.slice ao6 16 cap6] rfl rfl ?n1 ?n2 ?n3 ?n4 ?n5 ?_)
    case n1 =>
     intro j u hj
     match j,hj with
     | 0,hj=>simp at hj;subst hj;simp[Addr.add]
    case n2=>intro u hu;simp at hu;subst hu;rfl
    case n3=>unfold maxLen;omega
    case n4=>omega
    case n5=>simp;omega
    intro v5 w5 hown5 hgrow5 _;obtain⟨ao7,cap7,rfl⟩:=own_form hown5;have hal:Below wr.heap.size wr (wr.alloc (Obj.cells #[.slice ao6 16 cap6] 153)):=(Below.refl _ _).alloc (Nat.le_refl _) _;have hb5:Below w1.heap.size wr w5:=((Below.refl _ wr).alloc hs3 _).grown hgrow5 (by simp;omega) (fun g hg=>(HVS.out.lt g hg).1);have HB5:Hid (Below w1.heap.size w1 w5):=HB3.out.trans hb5;have HG5:Hid (LGs w5 w1.heap.size (.slice ao7 (k+1) cap7) f (k+1)):=by
     refine LGs.push (HG3.out.later hal) (own_below HU3.out hal) hgrow5 (fun vs' h'=>?_);have e:vs'=vs:=by
      have h2:=own_below HVS.out hal;exact own_uniq h' h2
     rw[e];exact hown5
    clear hb5 hgrow5 hown5 hal;go_wp2;go_roundw
    case rel=>exact⟨k+1,by omega,by go_num,HG5.out,HB5.out⟩
    case measure=>simp[intOf];omega
  obtain rfl:k=n3:=by omega
  have dk:decide (((k:Int)+1)≤(k:Int))=false:=by simp;omega
  have hle:¬((k:Int)+1≤(k:Int)):=by omega
  go_wp2;go_ret;exact⟨_,rfl,HG.out.mono HB1.out.size,HB1.out.trans (HB.out.mono HB1.out.size)⟩
theorem lnk_grow_nil (n:Nat)(w:World)(hn:n≤1000):
 Calls Tryz.prog 148 #[.slice none 0 0,.int .i64 n] w fun e w'=>∃v,e=.returned v∧w'.ownsRow w.heap.size 105 4 v 0 []∧Below w.heap.size w w':=by
 have h1:¬((n:Int)<0):=by omega
 by_cases h0:n=0
 ·subst h0;go_enter Tryz.func148,Tryz.ntmps148;go_wp2;go_ret;exact⟨_,rfl,World.ownsRow_nil _ _ _ _,Below.refl _ _⟩
 obtain⟨i0,hi,hz0,hz1,hz2⟩:=info_parts lnk_info;have h3:wrap64 ((n:Int)-0)=(n:Int):=by unfold wrap64;omega
 have h4:(n:Int) > 0:=by omega
 have hrz:∀ty,(Builtin.append_ #[22,3] ty #[.slice none 0 0,.int .i64 n]).run Tryz.prog w =
  .ok (.slice (some ⟨w.heap.size,0,none⟩) n (grownCap w n 0 105)) (w.drew.alloc (.cells (Builtin.zeroCells (Value.agg #[.int .i64 0,.int .i64 0,.int .i64 0,.int .i64 0]).cells n++Builtin.zeroCells (Value.agg #[.int .i64 0,.int .i64 0,.int .i64 0,.int .i64 0]).cells (grownCap w n 0 105-n)) 105)):=fun ty =>
  Lib.run_append_nil_zeros w 22 3 ty 105 i0 _ .i64 .i64 Tryz.underlying22 Tryz.underlying3 hi hz0 n (by omega) (by rw[hz1];decide) (by omega) (by rw[hz2];omega)
 have hGn:n≤grownCap w n 0 105:=grownCap_ge w _ _ _;have hGm:grownCap w n 0 105≤maxLen:=grownCap_le_maxLen w n 0 105 (by unfold maxLen;omega)
 generalize grownCap w n 0 105=G at *
 have HM:Hid (G≤maxLen):=hGm;have hG63:G≤9223372036854775807:=by unfold maxLen at hGm;omega
 have HO:Hid ((w.drew.alloc (.cells (Builtin.zeroCells (Value.agg #[.int .i64 0,.int .i64 0,.int .i64 0,.int .i64 0]).cells n++Builtin.zeroCells (Value.agg #[.int .i64 0,.int .i64 0,.int .i64 0,.int .i64 0]).cells (G-n)) 105)).ownsRow w.heap.size 105 4 (.slice (some ⟨w.heap.size,0,none⟩) 0 G) 0 []):=
  World.ownsRow_made w.drew _ G (Nat.le_refl _) HM.out (by
   simp only[Array.size_append,size_zeroCells,lnk_zero,←Nat.add_mul]
   congr 1
   omega)
 clear hGm;go_enter Tryz.func148,Tryz.ntmps148
 go_wp2_with (at_builtin;refine Lib.wpList_append_run _ rfl _ _ _ _ rfl _ _ rfl rfl _ _ (hrz _) ?_)
 all_goals (go_ret;exact⟨_,rfl,HO.out,((Below.refl _ _).drew).alloc (Nat.le_refl _) _⟩)
def lnkPt (w:World)(g o:Nat)(Ls:List (List ((Int×Int)×(Int×Int)))):Prop:=∀i (h:i<Ls.length),∃ao n cap,w.cell? ⟨g,o+i,none⟩=some (.slice ao n cap)∧GS lnkE w (.slice ao n cap) Ls[i]
theorem lnkPt.later {w w':World}{g o:Nat}{Ls:List (List ((Int×Int)×(Int×Int)))}(h:lnkPt w g o Ls)(hb:Below w.heap.size w w'):lnkPt w' g o Ls:=fun i hi=>by
 obtain⟨ao,n,cap,h1,h2⟩:=h i hi;exact⟨ao,n,cap,cell_later hb h1,h2.later hb⟩
theorem lnk_flat_next {Ls:List (List ((Int×Int)×(Int×Int)))}{k:Nat}(hk:k<Ls.length):(Ls.take (k+1)).flatten=(Ls.take k).flatten++Ls[k]:=by
 rw[List.take_succ_eq_append_getElem hk];simp only[List.flatten_append,List.flatten_cons,List.flatten_nil,List.append_nil]
theorem lnk_flat_le {Ls:List (List ((Int×Int)×(Int×Int)))}(k:Nat):(Ls.take k).flatten.length≤Ls.flatten.length:=by
 have:Ls.flatten=(Ls.take k).flatten++(Ls.drop k).flatten:=by rw[←List.flatten_append,List.take_append_drop]
 rw[this,List.length_append];omega
theorem lnk_append (w:World){ops:Array Oper}{rest:List Oper}{o:Oper}{a:Act}{Q:Exit→Act→World→Prop}(hgd:o.guard=none)(s x:Operand)(t:TypeId)
 (ho:o.op=.call { callee:=.builtin .append,args:=#[s,x],argTypes:=#[t,t] }) (ht:Tryz.prog.underlying t=some (.slice 105)) (base:Nat)
 (v:Value) (hs:a.eval s=v) (L:List ((Int×Int)×(Int×Int))) (hown:w.ownsRow base 105 4 v L.length (cellsG lnkE L)) (u:Value) (hx:a.eval x=u) (M:List ((Int×Int)×(Int×Int))) (hM:GS lnkE w u M)
 (h100:L.length+M.length≤1000000) (hbase:base≤w.heap.size)
 (h:∀v' w',w'.ownsRow base 105 4 v' (L++M).length (cellsG lnkE (L++M))→w.grownBy w' v.ownBlock→wpList Tryz.prog ops Q rest (a.put o.dst v') w'):wpList Tryz.prog ops Q (o :: rest) a w:=by
 obtain⟨i0,hi,hz0,hz1,hz2⟩:=info_parts lnk_info;exact wpList_append_GS (E:=lnkE) w hgd s x t 105 ho ht i0 _ 32 hi hz0 hz1 hz2 lnk_zero base v hs L hown u hx M hM (by unfold maxLen;omega) (by omega) hbase h
theorem lnk_concat (g o m cap:Nat)(Ls:List (List ((Int×Int)×(Int×Int))))(w:World)(hm:Ls.length=m)(hm2:m≤1000)(hc:lnkPt w g o Ls)(hs:Ls.flatten.length≤1000):
 Calls Tryz.prog 120 #[.slice (some ⟨g,o,none⟩) m cap] w fun e w'=>∃v,e=.returned v∧w'.ownsRow w.heap.size 105 4 v Ls.flatten.length (cellsG lnkE Ls.flatten)∧Below w.heap.size w w':=by
 have HM:Hid (Ls.length=m):=hm;have HC:Hid (lnkPt w g o Ls):=hc;have HS:Hid (Ls.flatten.length≤1000):=hs;obtain⟨N,hN⟩:∃N,N=Ls.flatten.length:=⟨_,rfl⟩;have HN:Hid (N=Ls.flatten.length):=hN;have hN2:N≤1000:=by omega
 clear hm hc hs hN;go_enter Tryz.func120,Tryz.ntmps120
 go_upto_block 0 with fail
 go_cut [3] from 3 (fun z w'=>z=.int .i64 (N:Int)∧w'=w)
 case first =>
  go_wp2
  go_loopw [3,11] (fun z i wr=>∃k:Nat,k≤m∧i=.int .i64 k∧z=.int .i64 ((Ls.take k).flatten.length:Int)∧wr=w) (fun _ i _=>m-(intOf i).toNat)
  case atStart=>exact⟨0,by omega,rfl,rfl,rfl⟩
  case round =>
   obtain⟨k,hk,rfl,rfl,rfl⟩:=hrel;by_cases hlt:k<m
   ·have hkl:k<Ls.length:=by rw[HM.out];exact hlt
    obtain⟨ao,n,cap2,q0,hsr⟩:=HC.out k hkl;have HT:Hid ((Ls.take (k+1)).flatten.length=(Ls.take k).flatten.length+n):=by
     show _=_;rw[lnk_flat_next hkl,List.length_append,hsr.len]
    have hb1:(Ls.take k).flatten.length+n≤1000:=by
     have h1:=lnk_flat_le (Ls:=Ls) (k+1);have h2:=HS.out;have h3:=HT.out;omega
    generalize (Ls.take k).flatten.length=z at *
    clear hsr;go_wp2;go_roundw
    case rel=>exact⟨k+1,by omega,by go_num,by rw[HT.out];go_num,by simp⟩
    case measure=>simp[intOf];omega
   obtain rfl:k=m:=by omega
   go_wp2_with fail
   go_meet
   case rel=>exact⟨by rw[←HM.out,List.take_length,HN.out],rfl⟩
 case rest =>
  obtain⟨rfl,rfl⟩:=hcut
  go_wp2_with fail
  refine (lnk_grow_nil N _ hN2).mono ?_;rintro e w1 ⟨v,rfl,hown,hB⟩;have HO:Hid (w1.ownsRow wc.heap.size 105 4 v 0 []):=hown;have HB:Hid (Below wc.heap.size wc w1):=hB;clear hown hB;go_wp2
  go_loopw [6,27] (fun u i wr=>∃k:Nat,k≤m∧i=.int .i64 k∧wr.ownsRow wc.heap.size 105 4 u (Ls.take k).flatten.length (cellsG lnkE (Ls.take k).flatten)∧Below wc.heap.size wc wr) (fun _ i _=>m-(intOf i).toNat)
  case atStart=>exact⟨0,by omega,rfl,HO.out,HB.out⟩
  case round =>
   obtain⟨k,hk,rfl,hown,hB⟩:=hrel;have HOW:Hid (wr.ownsRow wc.heap.size 105 4 u6 (Ls.take k).flatten.length (cellsG lnkE (Ls.take k).flatten)):=hown;have HBW:Hid (Below wc.heap.size wc wr):=hB;clear hown;by_cases hlt:k<m
   ·have hkl:k<Ls.length:=by rw[HM.out];exact hlt
    obtain⟨ao,n,cap2,q0,hsr⟩:=(HC.out.later hB) k hkl;have HSR:Hid (GS lnkE wr (.slice ao n cap2) Ls[k]):=hsr;have HL1:Hid ((Ls.take k).flatten.length+Ls[k].length≤1000000):=by
     have h1:=lnk_flat_le (Ls:=Ls) (k+1);rw[lnk_flat_next hkl,List.length_append] at h1;have h2:=HS.out;show _≤_;omega
    clear hsr hB
    go_wp2_with (at_builtin;refine lnk_append _ rfl _ _ 22 rfl Tryz.underlying22 wc.heap.size _ rfl _ HOW.out _ rfl _ HSR.out HL1.out HBW.out.size ?_)
    intro v' w3 hown3 hgrow;have HO5:Hid (w3.ownsRow wc.heap.size 105 4 v' (Ls.take (k+1)).flatten.length (cellsG lnkE (Ls.take (k+1)).flatten)):=by
     show w3.ownsRow _ _ _ _ _ _;rw[lnk_flat_next hkl,show ((Ls.take k).flatten++Ls[k]).length=(List.take k (List.map List.length Ls)).sum+Ls[k].length by simp];exact hown3
    have HB5:Hid (Below wc.heap.size wc w3):=HBW.out.grown hgrow HBW.out.size (fun g hg=>(HOW.out.lt g hg).1);clear hown3 hgrow q0;go_wp2;go_roundw
    case rel=>exact⟨k+1,by omega,by go_num,HO5.out,HB5.out⟩
    case measure=>simp[intOf];omega
   obtain rfl:k=m:=by omega
   go_wp2;go_ret;refine⟨_,rfl,?_,HBW.out⟩;have:=HOW.out;rw[←HM.out,List.take_length] at this;exact this
end
section
open Go.ChangeShapes Go.WideShapes Go.ChangeAt Go.RowKit Go.Joins
def cuE:Enc (Int×Int) where
 c:=fun x=>[.int .i64 x.1,.int .i64 x.2]
 n:=2
 len:=fun _=>rfl
 pos:=by decide
 one:=by
  intro x u hu;simp at hu
  rcases hu with rfl | rfl <;> rfl
theorem cu_open {H:Type}{enc:TypeId×Value→H}{W:World}{n:Nat}{cs:List Value}{x:DataW H×List MemPlace}
 (h:DataW.trod enc Tryz.prog W 0 (fun _=>true) true n 64 cs=some x):∃y,cs=cuE.c y:=by
 obtain⟨xs,k,_,_,hl,hlen,hf⟩:=DataW.trod_struct Tryz.underlying64 h;have hC:Tryz.prog.cellsOf 64=2:=by kernel_rfl
 have hT0:Tryz.prog.cellsOf 3=1:=by kernel_rfl
 rw[hC] at hl
 match cs,hl with
 | [c0,c1],_ =>
   match xs,hlen with
   | [z0,z1],_ =>
     have g0:=hf 0 _ rfl;have g1:=hf 1 _ rfl;simp[hT0] at g0 g1;obtain⟨v0,e0,_,_⟩:=DataW.trod_int Tryz.underlying3 g0;obtain⟨v1,e1,_,_⟩:=DataW.trod_int Tryz.underlying3 g1;simp[] at e0 e1;refine⟨(v0,v1),?_⟩;simp[cuE,e0,e1]
def rlE:Enc (Ru) where
 c:=fun x=>[.int .i64 x.p,.int .i64 x.m,.int .i64 x.b,.int .i64 x.o,.int .i64 x.s,.int .i64 x.v]
 n:=6
 len:=fun _=>rfl
 pos:=by decide
 one:=by
  intro x u hu;simp at hu
  rcases hu with rfl | rfl | rfl | rfl | rfl | rfl <;> rfl
theorem rl_cells {w:World}{g o:Nat}{x0 x1 x2 x3 x4 x5:Int}(h:VAt w g o (rlE.c ⟨x0,x1,x2,x3,x4,x5⟩)):w.cell? ⟨g,o,none⟩=some (.int .i64 x0)∧w.cell? ⟨g,o+1,none⟩=some (.int .i64 x1)∧w.cell? ⟨g,o+2,none⟩=some (.int .i64 x2)∧w.cell? ⟨g,o+3,none⟩=some (.int .i64 x3)∧w.cell? ⟨g,o+4,none⟩=some (.int .i64 x4)∧w.cell? ⟨g,o+5,none⟩=some (.int .i64 x5):=
 ⟨h 0 _ rfl,h 1 _ rfl,h 2 _ rfl,h 3 _ rfl,h 4 _ rfl,h 5 _ rfl⟩
theorem rl_open {H:Type}{enc:TypeId×Value→H}{W:World}{n:Nat}{cs:List Value}{x:DataW H×List MemPlace}
 (h:DataW.trod enc Tryz.prog W 0 (fun _=>true) true n 66 cs=some x):∃y,cs=rlE.c y:=by
 obtain⟨xs,k,_,_,hl,hlen,hf⟩:=DataW.trod_struct Tryz.underlying66 h;have hC:Tryz.prog.cellsOf 66=6:=by kernel_rfl
 have hT0:Tryz.prog.cellsOf 3=1:=by kernel_rfl
 have hT1:Tryz.prog.cellsOf 64=2:=by kernel_rfl
 rw[hC] at hl
 match cs,hl with
 | [c0,c1,c2,c3,c4,c5],_ =>
   match xs,hlen with
   | [z0,z1,z2,z3,z4],_ =>
     have g0:=hf 0 _ rfl;have g1:=hf 1 _ rfl;have g2:=hf 2 _ rfl;have g3:=hf 3 _ rfl;have g4:=hf 4 _ rfl;simp[hT0,hT1] at g0 g1 g2 g3 g4;obtain⟨v0,e0,_,_⟩:=DataW.trod_int Tryz.underlying3 g0;obtain⟨s1,e1⟩:=cu_open g1;obtain⟨v3,e2,_,_⟩:=DataW.trod_int Tryz.underlying3 g2;obtain⟨v4,e3,_,_⟩:=DataW.trod_int Tryz.underlying3 g3;obtain⟨v5,e4,_,_⟩:=DataW.trod_int Tryz.underlying3 g4;simp[cuE] at e0 e1 e2 e3 e4;refine⟨⟨v0,s1.1,s1.2,v3,v4,v5⟩,?_⟩;simp[rlE,e0,e1,e2,e3,e4]
def opE:Enc (Op8) where
 c:=fun x=>[.int .i64 x.w,.bool x.a,.int .i64 x.r.p,.int .i64 x.r.m,.int .i64 x.r.b,.int .i64 x.r.o,.int .i64 x.r.s,.int .i64 x.r.v]
 n:=8
 len:=fun _=>rfl
 pos:=by decide
 one:=by
  intro x u hu;simp at hu
  rcases hu with rfl | rfl | rfl | rfl | rfl | rfl | rfl | rfl <;> rfl
theorem op_cells {w:World}{g o:Nat}{x0:Int}{x1:Bool}{x2 x3 x4 x5 x6 x7:Int}(h:VAt w g o (opE.c ⟨x0,x1,⟨x2,x3,x4,x5,x6,x7⟩⟩)):w.cell? ⟨g,o,none⟩=some (.int .i64 x0)∧w.cell? ⟨g,o+1,none⟩=some (.bool x1)∧w.cell? ⟨g,o+2,none⟩=some (.int .i64 x2)∧w.cell? ⟨g,o+3,none⟩=some (.int .i64 x3)∧w.cell? ⟨g,o+4,none⟩=some (.int .i64 x4)∧w.cell? ⟨g,o+5,none⟩=some (.int .i64 x5)∧w.cell? ⟨g,o+6,none⟩=some (.int .i64 x6)∧w.cell? ⟨g,o+7,none⟩=some (.int .i64 x7):=
 ⟨h 0 _ rfl,h 1 _ rfl,h 2 _ rfl,h 3 _ rfl,h 4 _ rfl,h 5 _ rfl,h 6 _ rfl,h 7 _ rfl⟩
theorem op_at {w:World}{g o:Nat}{L:List (Op8)}(h:GAt opE w g o L){n k:Nat}(hn:L.length=n)(hk:k<n):
 ∃(x0:Int) (x1:Bool) (x2:Int) (x3:Int) (x4:Int) (x5:Int) (x6:Int) (x7:Int) (hl:k<L.length),L[k]=⟨x0,x1,⟨x2,x3,x4,x5,x6,x7⟩⟩∧w.cell? ⟨g,o+k*8,none⟩=some (.int .i64 x0)∧w.cell? ⟨g,o+k*8+1,none⟩=some (.bool x1)∧w.cell? ⟨g,o+k*8+2,none⟩=some (.int .i64 x2)∧w.cell? ⟨g,o+k*8+3,none⟩=some (.int .i64 x3)∧w.cell? ⟨g,o+k*8+4,none⟩=some (.int .i64 x4)∧w.cell? ⟨g,o+k*8+5,none⟩=some (.int .i64 x5)∧w.cell? ⟨g,o+k*8+6,none⟩=some (.int .i64 x6)∧w.cell? ⟨g,o+k*8+7,none⟩=some (.int .i64 x7):=
 have hl:k<L.length:=by omega
 ⟨_,_,_,_,_,_,_,_,hl,rfl,op_cells (h k hl)⟩
theorem op_new (w:World)(x0:Int)(x1:Bool)(x2 x3 x4 x5 x6 x7:Int)(t:TypeId):VAt (w.alloc (Obj.cells #[.int .i64 x0,.bool x1,.int .i64 x2,.int .i64 x3,.int .i64 x4,.int .i64 x5,.int .i64 x6,.int .i64 x7] t)) w.heap.size 0 (opE.c ⟨x0,x1,⟨x2,x3,x4,x5,x6,x7⟩⟩):=vat_new w [.int .i64 x0,.bool x1,.int .i64 x2,.int .i64 x3,.int .i64 x4,.int .i64 x5,.int .i64 x6,.int .i64 x7] t
theorem op_row (w:World)(x0:Int)(x1:Bool)(x2 x3 x4 x5 x6 x7:Int)(t:TypeId):GS opE (w.alloc (Obj.cells #[.int .i64 x0,.bool x1,.int .i64 x2,.int .i64 x3,.int .i64 x4,.int .i64 x5,.int .i64 x6,.int .i64 x7] t)) (.slice (some ⟨w.heap.size,0,none⟩) 1 1) [⟨x0,x1,⟨x2,x3,x4,x5,x6,x7⟩⟩]:=gs_one (E:=opE) w ⟨x0,x1,⟨x2,x3,x4,x5,x6,x7⟩⟩ t (vs:=[.int .i64 x0,.bool x1,.int .i64 x2,.int .i64 x3,.int .i64 x4,.int .i64 x5,.int .i64 x6,.int .i64 x7]) rfl
theorem op_info:(Tryz.prog.info? 68).map (fun i=>(i.zero,i.size,i.bytes))=some (some (.agg #[.int .i64 0,.bool false,.int .i64 0,.int .i64 0,.int .i64 0,.int .i64 0,.int .i64 0,.int .i64 0]),8,64):=by kernel_rfl
theorem op_zero:(Value.agg #[.int .i64 0,.bool false,.int .i64 0,.int .i64 0,.int .i64 0,.int .i64 0,.int .i64 0,.int .i64 0]).cells.size=8:=by simp[Value.cells]
theorem op_open {H:Type}{enc:TypeId×Value→H}{W:World}{n:Nat}{cs:List Value}{x:DataW H×List MemPlace}
 (h:DataW.trod enc Tryz.prog W 0 (fun _=>true) true n 68 cs=some x):∃y,cs=opE.c y:=by
 obtain⟨xs,k,_,_,hl,hlen,hf⟩:=DataW.trod_struct Tryz.underlying68 h;have hC:Tryz.prog.cellsOf 68=8:=by kernel_rfl
 have hT0:Tryz.prog.cellsOf 3=1:=by kernel_rfl
 have hT1:Tryz.prog.cellsOf 4=1:=by kernel_rfl
 have hT2:Tryz.prog.cellsOf 66=6:=by kernel_rfl
 rw[hC] at hl
 match cs,hl with
 | [c0,c1,c2,c3,c4,c5,c6,c7],_ =>
   match xs,hlen with
   | [z0,z1,z2],_ =>
     have g0:=hf 0 _ rfl;have g1:=hf 1 _ rfl;have g2:=hf 2 _ rfl;simp[hT0,hT1,hT2] at g0 g1 g2;obtain⟨v0,e0,_,_⟩:=DataW.trod_int Tryz.underlying3 g0;obtain⟨v1,e1,_⟩:=DataW.trod_bool Tryz.underlying4 g1;obtain⟨s2,e2⟩:=rl_open g2;simp[rlE] at e0 e1 e2;refine⟨⟨v0,v1,⟨s2.p,s2.m,s2.b,s2.o,s2.s,s2.v⟩⟩,?_⟩;simp[opE,e0,e1,e2]
theorem ops_of {H:Type}{enc:TypeId×Value→H}{W:World}{base:Nat}{v:Value}{d:DataW H}{p:List MemPlace}
 (hv:Value.okWide Tryz.prog W .any base 29 v) (h:DataW.Trod enc Tryz.prog W 0 (fun _=>true) true 29 v d p):∃L,GS opE W v L:=
 gs_of (E:=opE) 29 68 Tryz.underlying29 (by kernel_rfl) ⟨0,false,⟨0,0,0,0,0,0⟩⟩ (fun _ _ _ h=>op_open h) hv h
end
section
open Go.RowKit
def inE:Enc Int where
 c:=fun x=>[.int .i64 x]
 n:=1
 len:=fun _=>rfl
 pos:=by decide
 one:=by
  intro x u hu;simp at hu;subst hu;rfl
theorem in_at {w:World}{g o:Nat}{L:List Int}(h:GAt inE w g o L){n k:Nat}(hn:L.length=n)(hk:k<n):∃(x:Int) (hl:k<L.length),L[k]=x∧w.cell? ⟨g,o+k,none⟩=some (.int .i64 x):=by
 have hl:k<L.length:=by omega
 have:=h k hl 0 _ rfl;refine⟨_,hl,rfl,?_⟩;have e:o+k*inE.n+0=o+k:=by show o+k*1+0=o+k;omega
 rw[e] at this;exact this
abbrev SlT:Type:=Option Addr×Nat×Nat
def slV (x:SlT):Value:=.slice x.1 x.2.1 x.2.2
def slE:Enc SlT where
 c:=fun x=>[slV x]
 n:=1
 len:=fun _=>rfl
 pos:=by decide
 one:=by
  intro x u hu;simp at hu;subst hu;rfl
theorem sl_cells (L:List SlT):cellsG slE L=L.map slV:=by
 induction L with
 | nil=>rfl
 | cons x r ih =>
   simp only[cellsG,List.flatMap_cons,List.map_cons] at *;rw[ih];rfl
theorem own_rows2 {w:World}{b1 e1 s1 n1 b2 e2 s2 n2:Nat}{v1 v2:Value}{x1 x2:List Value}(h1:w.ownsRow b1 e1 s1 v1 n1 x1)(h2:w.ownsRow b2 e2 s2 v2 n2 x2)(he:e1≠e2):v1.ownBlock=none∨v1.ownBlock≠v2.ownBlock:=by
 rcases h1.2 with ⟨rfl,_⟩ | ⟨g,cap,cur,rfl,_,hg,_⟩
 ·exact .inl rfl
 refine .inr ?_
 rcases h2.2 with ⟨rfl,_⟩ | ⟨g2,cap2,cur2,rfl,_,hg2,_⟩
 ·exact fun h=>by cases h
 intro h;simp only[Value.ownBlock,Option.some.injEq] at h;subst h;rw[hg] at hg2;simp only[Option.some.injEq,Obj.cells.injEq] at hg2;exact he hg2.2.1
theorem grown_below {w w':World}(hb:Below w.heap.size w w'):w.grownBy w' none:=⟨hb.os,hb.tape,hb.output,hb.size,fun k hk _=>hb.block k hk⟩
theorem grown_set (w:World)(b i:Nat)(v:Value):w.grownBy (w.setCell ⟨b,i,none⟩ v) (some b):=
 ⟨rfl,rfl,rfl,by simp[World.setCell],fun k _ hk=>Below.heap_setCell _ _ _ _ (fun e=>hk (by simp[e]))⟩
theorem none_or (o:Option Nat):o=none∨o≠none:=by cases o <;> simp
theorem run_append_blk {P:Program}{w:World}{base:Nat}(t ty e:TypeId)(i:TypeInfo)(z:Value)(ht:P.underlying t=some (.slice e))(hi:P.info? e=some i)(hz:i.zero=some z)
 (v:Value) (n:Nat) (xs:List Value) (hown:w.ownsRow base e i.size v n xs)
 (a:Addr) (c:Nat) (news:List Value) (hl:news.length=1*i.size) (hnews:∀j u,news[j]?=some u→w.cell? (a.add j)=some u) (h1:∀u∈news,u.oneCell'=true)
 (h63:n+1≤maxLen) (hbytes:(n+1)*i.bytes≤140737488355328) {v':Value} {w':World} (hr:(Builtin.append_ #[t,t] ty #[v,.slice (some a) 1 c]).run P w=.ok v' w'):v'.ownBlock=v.ownBlock∨v'.ownBlock=some w.heap.size:=by
 have hm:n+1≤9223372036854775807:=by simp only[maxLen] at h63;omega
 rcases hown.2 with ⟨rfl,rfl⟩ | ⟨g,cap,cur,rfl,hbg,hg,hnc,hcm,hcs,htake⟩
 ·rw[run_append_nil (P:=P) w t ty e i z ht hi hz a 1 c news hl hnews (by omega) (by omega) (by have hb:=hbytes;simp only[Nat.zero_add] at hb;omega)] at hr;cases hr;exact .inr rfl
 by_cases hroom:n+1≤cap
 ·have hfit:n*i.size+news.length≤cur.size:=by rw[hl,hcs,←Nat.add_mul];exact Nat.mul_le_mul_right _ hroom
  rw[run_append_room (P:=P) w t ty e i ht hi g n cap cur hg a 1 c news hl hnews h1 hroom hfit] at hr;cases hr;exact .inl rfl
 rw[run_append_grow (P:=P) w t ty e i z ht hi hz ⟨g,0,none⟩ n cap xs hown.1 (hown.cells (g:=g) rfl) a 1 c news hl hnews (by omega) (by omega) (growslice_fits (by omega) hbytes)] at hr;cases hr;exact .inr rfl
theorem wpList_append_blk {P:Program}{α:Type}{E:Enc α}(w:World){ops:Array Oper}{rest:List Oper}{o:Oper}{a:Act}{Q:Exit→Act→World→Prop}(hgd:o.guard=none)(s x:Operand)(t e:TypeId)
 (ho:o.op=.call { callee:=.builtin .append,args:=#[s,x],argTypes:=#[t,t] }) (ht:P.underlying t=some (.slice e)) (i:TypeInfo) (z:Value) (bytes:Nat) (hi:P.info? e=some i) (hz:i.zero=some z)
 (hsize:i.size=E.n) (hby:i.bytes=bytes) (hzs:z.cells.size=E.n) (base:Nat)
 (v:Value) (hs:a.eval s=v) (L:List α) (hown:w.ownsRow base e E.n v L.length (cellsG E L)) (g q c:Nat) (hx:a.eval x=.slice (some ⟨g,q,none⟩) 1 c) (y:α) (hM:VAt w g q (E.c y))
 (h63:L.length+1≤maxLen) (hbytes:(L.length+1)*bytes≤140737488355328) (hbase:base≤w.heap.size)
 (h:∀v' w',w'.ownsRow base e E.n v' (L++[y]).length (cellsG E (L++[y]))→w.grownBy w' v.ownBlock→v'.ownBlock=v.ownBlock∨v'.ownBlock=some w.heap.size→wpList P ops Q rest (a.put o.dst v') w'):wpList P ops Q (o :: rest) a w:=by
 have hG:GAt E w g q [y]:=by
  intro k hk;obtain rfl:k=0:=by simp at hk;omega
  simpa using hM
 have hc:=hG.cells;rw[cellsG_one] at hc;have hl:(E.c y).length=1*E.n:=by rw[E.len];omega
 obtain⟨v',w',hr,h2,h3,_⟩:=run_append_own (P:=P) w base t o.type e i z E.n bytes ht hi hz hsize hby hzs E.pos v _ _ hown ⟨g,q,none⟩ 1 c (E.c y) hl hc (E.one y) h63 hbytes hbase;have hb:=run_append_blk (P:=P) t o.type e i z ht hi hz v _ _ (by rw[hsize];exact hown) ⟨g,q,none⟩ c (E.c y) (by rw[hsize];exact hl) hc (E.one y) h63 (by rw[hby];exact hbytes) hr;refine wpList_plain hgd fun K hK=>?_
 unfold Oper.wp execOp;simp only[ho,resolve,invoke,builtin,Sem.run_bind,Sem.run_pure,Result.andThen_ok,List.map_toArray,List.map_cons,List.map_nil,hs,hx,hr];exact hK _ _ (h v' w' (by rw[List.length_append,cellsG_app,cellsG_one];exact h2) h3 hb)
section
variable {e1 e2:TypeId}{w w':World}{B:Nat}{v u:Value}{vs us:List SlT}{Cs Ps:List (List Int)}
end
def offB (x:SlT)(b:Nat):Prop:=x.2.1=0∨∀a,x.1=some a→a.block≠b
theorem RAt.lt {w:World}{g o:Nat}{L:List Ru}(h:RAt w g o L)(h0:0<L.length):g<w.heap.size:=World.block_lt_of_cell? _ _ (h 0 h0).c0
theorem SR.off {w:World}{x:SlT}{L:List Ru}(h:SR w (slV x) L){b:Nat}(hb:w.heap.size≤b):offB x b:=by
 obtain⟨ao,n,cap⟩:=x
 rcases h with ⟨ao',cap',e,rfl⟩ | ⟨g,o,cap',e,h1,h2,h3⟩
 ·simp only[slV,Value.slice.injEq] at e;exact .inl e.2.1
 simp only[slV,Value.slice.injEq] at e;obtain⟨rfl,rfl,rfl⟩:=e;by_cases h0:L.length=0
 ·exact .inl h0
 refine .inr fun a ha=>?_
 cases ha;have:=h3.lt (by omega);show g≠b;omega
theorem SR.grown {w w':World}{x:SlT}{L:List Ru}{row:Option Nat}(h:SR w (slV x) L)(hg:w.grownBy w' row)(ho:∀b,row=some b→offB x b):SR w' (slV x) L:=by
 obtain⟨ao,n,cap⟩:=x
 rcases h with ⟨ao',cap',e,rfl⟩ | ⟨g,o,cap',e,h1,h2,h3⟩
 ·exact .inl ⟨ao',cap',e,rfl⟩
 simp only[slV,Value.slice.injEq] at e;obtain⟨rfl,rfl,rfl⟩:=e;by_cases h0:L.length=0
 ·exact .inl ⟨_,_,by rw[slV,h0],List.length_eq_zero_iff.1 h0⟩
 have hne:some g≠row:=by
  intro e
  rcases ho g e.symm with h4 | h4
  ·exact h0 h4
  exact h4 _ rfl rfl
 refine .inr ⟨g,o,cap,rfl,h1,h2,fun i hi=>?_⟩;obtain⟨c0,c1,c2,c3,c4,c5⟩:=h3 i hi;exact⟨hg.cell c0 hne,hg.cell c1 hne,hg.cell c2 hne,hg.cell c3 hne,hg.cell c4 hne,hg.cell c5 hne⟩
structure TR (e:TypeId)(w:World)(A B:Nat)(v:Value)(vs:List SlT)(Ts:List (List Ru)):Prop where
 ov:w.ownsRow B e slE.n v vs.length (cellsG slE vs)
 lv:vs.length=Ts.length
 rv:∀(i:Nat) (x:SlT) (L:List Ru),vs[i]?=some x→Ts[i]?=some L→SR w (slV x) L∧∀b,v.ownBlock=some b→offB x b
 rz:∀(i:Nat) (x:SlT),vs[i]?=some x→∀b,A≤b→b<B→offB x b
section
variable {e:TypeId}{w w':World}{A B:Nat}{v:Value}{vs:List SlT}{Ts:List (List Ru)}
theorem tr_nil (e:TypeId)(w:World)(A B:Nat):TR e w A B (.slice none 0 0) [] []:=
 ⟨World.ownsRow_nil w B e slE.n,rfl,fun i x L h=>by simp at h,fun i x h=>by simp at h⟩
theorem TR.later (h:TR e w A B v vs Ts)(hb:Below w.heap.size w w'):TR e w' A B v vs Ts:=
 ⟨h.ov.kept (grown_below hb) (none_or _),h.lv,fun i x L h1 h2=>⟨(h.rv i x L h1 h2).1.later hb,(h.rv i x L h1 h2).2⟩,h.rz⟩
theorem TR.grown (h:TR e w A B v vs Ts){b:Nat}(hg:w.grownBy w' (some b))(h1:A≤b)(h2:b<B):TR e w' A B v vs Ts:=by
 refine⟨h.ov.kept hg (.inr fun e=>?_),h.lv,fun i x L a1 a2=>⟨(h.rv i x L a1 a2).1.grown hg (fun c hc=>?_),(h.rv i x L a1 a2).2⟩,h.rz⟩
 ·have:=(h.ov.lt b e).1;omega
 cases hc;exact h.rz i x a1 b h1 h2
theorem ts_sl {v:Value}(h:TS w v Ts):∃vs:List SlT,GS slE w v vs∧vs.length=Ts.length∧∀(i:Nat) (x:SlT) (L:List Ru),vs[i]?=some x→Ts[i]?=some L→SR w (slV x) L:=by
 rcases h with ⟨ao,cap,rfl,rfl⟩ | ⟨g,o,cap,rfl,h1,h2,h3⟩
 ·exact⟨[],.inl ⟨ao,cap,rfl,rfl⟩,rfl,fun i x L h=>by simp at h⟩
 have each:∀i,i<Ts.length→∃x:SlT,w.cell? ⟨g,o+i,none⟩=some (slV x)∧SR w (slV x) (Ts.getD i []):=by
  intro i hi;obtain⟨ao,n,cap,c1,c2⟩:=h3 i hi;refine⟨(ao,n,cap),c1,?_⟩;rw[getT hi];exact c2
 have iR:Inhabited SlT:=⟨(none,0,0)⟩;obtain⟨R,hR⟩:=Go.Deep.choose_lt each;refine⟨(List.range Ts.length).map R,.inr ⟨g,o,cap,by simp,by simpa using h1,h2,fun i hi j u hu=>?_⟩,by simp,fun i x L a1 a2=>?_⟩
 ·have hi2:i<Ts.length:=by simpa using hi
  have e1:((List.range Ts.length).map R)[i]=R i:=by simp
  rw[e1] at hu;obtain rfl:j=0:=by
   have:=(List.getElem?_eq_some_iff.1 hu).1;rw[slE.len] at this;have e2:slE.n=1:=rfl;omega
  have e3:o+i*slE.n+0=o+i:=by show o+i*1+0=o+i;omega
  have e4:slV (R i)=u:=Option.some.inj hu;rw[e3,←e4];exact (hR i hi2).1
 have hi:i<Ts.length:=(List.getElem?_eq_some_iff.1 a2).1;have e1:R i=x:=by simpa[hi] using a1
 have e2:=(hR i hi).2;rw[getT hi] at e2;rw[List.getElem?_eq_getElem hi] at a2;cases a2;rw[←e1];exact e2
theorem tr_copy {w0:World}{u:Value}(hlen:vs.length=Ts.length)(hsl:∀(i:Nat) (x:SlT) (L:List Ru),vs[i]?=some x→Ts[i]?=some L→SR w0 (slV x) L)(hb:Below w0.heap.size w0 w)(hg:w.grownBy w' none)(hB:w0.heap.size≤B)(ho:w'.ownsRow B e slE.n u vs.length (cellsG slE vs)):TR e w' w0.heap.size B u vs Ts:=by
 have each:∀(i:Nat) (x:SlT),vs[i]?=some x→∃L,Ts[i]?=some L:=fun i x h=>by
  have hi:i<Ts.length:=by rw[←hlen];exact (List.getElem?_eq_some_iff.1 h).1
  exact⟨_,List.getElem?_eq_getElem hi⟩
 refine⟨ho,hlen,fun i x L h1 h2=>⟨((hsl i x L h1 h2).later hb).grown hg (fun b hb=>by cases hb),fun b hb=>(hsl i x L h1 h2).off (Nat.le_trans hB (ho.lt b hb).1)⟩,fun i x h1 b h2 h3=>?_⟩;obtain⟨L,hL⟩:=each i x h1;exact (hsl i x L h1 hL).off h2
theorem TR.push (h:TR e w A B v vs Ts){x:SlT}{L:List Ru}(hx:SR w (slV x) L){v':Value}(hox:∀b,v.ownBlock=some b→offB x b)(hoz:∀b,A≤b→b<B→offB x b)
 (hg:w.grownBy w' v.ownBlock) (ho:w'.ownsRow B e slE.n v' (vs++[x]).length (cellsG slE (vs++[x]))) (hb:v'.ownBlock=v.ownBlock∨v'.ownBlock=some w.heap.size):TR e w' A B v' (vs++[x]) (Ts++[L]):=by
 have one:∀{y:SlT} {M:List Ru},SR w (slV y) M→(∀b,v.ownBlock=some b→offB y b)→SR w' (slV y) M∧∀b,v'.ownBlock=some b→offB y b:=by
  intro y M h1 h2;refine⟨h1.grown hg h2,fun b hv=>?_⟩
  rcases hb with hb | hb
  ·exact h2 b (by rw[←hb];exact hv)
  rw[hb] at hv;cases hv;exact h1.off (Nat.le_refl _)
 refine⟨ho,by simp[h.lv],fun i y M h1 h2=>?_,fun i y h1=>?_⟩
 ·by_cases hi:i<vs.length
  ·rw[List.getElem?_append_left hi] at h1;rw[List.getElem?_append_left (by rw[←h.lv];exact hi)] at h2;obtain⟨a1,a2⟩:=h.rv i y M h1 h2;exact one a1 a2
  have hi2:i=vs.length:=by
   have:=(List.getElem?_eq_some_iff.1 h1).1;simp at this;omega
  subst hi2;simp at h1;rw[h.lv] at h2;simp at h2;subst h1 h2;exact one hx hox
 by_cases hi:i<vs.length
 ·rw[List.getElem?_append_left hi] at h1;exact h.rz i y h1
 have hi2:i=vs.length:=by
  have:=(List.getElem?_eq_some_iff.1 h1).1;simp at this;omega
 subst hi2;simp at h1;subst h1;exact hoz
theorem TR.put {g n cap i:Nat}(h:TR e w A B (.slice (some ⟨g,0,none⟩) n cap) vs Ts){x:SlT}{L:List Ru}(hx:SR w (slV x) L)(hox:offB x g)(hoz:∀b,A≤b→b<B→offB x b):TR e (w.setCell ⟨g,i,none⟩ (slV x)) A B (.slice (some ⟨g,0,none⟩) n cap) (vs.set i x) (Ts.set i L):=by
 have hgw:w.grownBy (w.setCell ⟨g,i,none⟩ (slV x)) (some g):=grown_set w g i (slV x);refine⟨?_,by simp[h.lv],fun j y M a1 a2=>?_,fun j y a1=>?_⟩
 ·have h1:=h.ov;have hn:n=vs.length:=by
   rcases h1.2 with ⟨h3,_⟩ | ⟨_,_,_,h3,_⟩
   ·cases h3
   simp only[Value.slice.injEq] at h3;exact h3.2.1
  rw[List.length_set,sl_cells,List.map_set];rw[sl_cells,←hn] at h1;rw[←hn];exact (h1.stored _ _).1
 ·have hj:j<(vs.set i x).length:=(List.getElem?_eq_some_iff.1 a1).1;rw[List.length_set] at hj;by_cases hij:i=j
  ·subst hij;rw[List.getElem?_set_self hj] at a1;rw[List.getElem?_set_self (by rw[←h.lv];exact hj)] at a2;cases a1;cases a2;refine⟨hx.grown hgw (fun b hb=>by cases hb;exact hox),fun b hb=>?_⟩;cases hb;exact hox
  rw[List.getElem?_set_ne hij] at a1 a2;obtain⟨b1,b2⟩:=h.rv j y M a1 a2;exact⟨b1.grown hgw (fun b hb=>by cases hb;exact b2 g rfl),b2⟩
 have hj:j<(vs.set i x).length:=(List.getElem?_eq_some_iff.1 a1).1;rw[List.length_set] at hj;by_cases hij:i=j
 ·subst hij;rw[List.getElem?_set_self hj] at a1;cases a1;exact hoz
 rw[List.getElem?_set_ne hij] at a1;exact h.rz j y a1
theorem TR.ts (h:TR e w A B v vs Ts):TS w v Ts:=by
 rcases own_GS h.ov with ⟨ao,cap,rfl,h0⟩ | ⟨g,o,cap,rfl,h1,h2,h3⟩
 ·refine .inl ⟨ao,cap,rfl,?_⟩;have:=h.lv;rw[h0] at this;exact List.length_eq_zero_iff.1 this.symm
 refine .inr ⟨g,o,cap,by rw[h.lv],by rw[←h.lv];exact h1,h2,fun i hi=>?_⟩;have hi2:i<vs.length:=by rw[h.lv];exact hi
 have:=h3 i hi2 0 _ rfl;have e:o+i*slE.n+0=o+i:=by show o+i*1+0=o+i;omega
 rw[e] at this;exact⟨_,_,_,this,(h.rv i _ _ (List.getElem?_eq_getElem hi2) (List.getElem?_eq_getElem hi)).1⟩
theorem TR.at {g n cap i:Nat}(h:TR e w A B (.slice (some ⟨g,0,none⟩) n cap) vs Ts)(hi:i<Ts.length):∃x:SlT,w.cell? ⟨g,i,none⟩=some (slV x)∧SR w (slV x) (Ts.getD i [])∧w.frozen? ⟨g,i,none⟩=false∧n=Ts.length∧B≤g∧g<w.heap.size:=by
 have h1:=h.ov;have hn:n=vs.length:=by
  rcases h1.2 with ⟨h3,_⟩ | ⟨_,_,_,h3,_⟩
  ·cases h3
  simp only[Value.slice.injEq] at h3;exact h3.2.1
 have hi2:i<vs.length:=by rw[h.lv];exact hi
 rw[sl_cells,←hn] at h1;refine⟨vs[i],?_,?_,h1.frozenAt i,by rw[hn,h.lv],(h1.lt g rfl).1,(h1.lt g rfl).2⟩
 ·rw[h1.cellAt i (by show i<n*1;omega)];simp[hi2]
 rw[getT hi];exact (h.rv i _ _ (List.getElem?_eq_getElem hi2) (List.getElem?_eq_getElem hi)).1
end
def NO (w:World)(B:Nat)(v:Value)(L:List Op8):Prop:=w.ownsRow B 68 8 v L.length (cellsG opE L)
theorem NO.gs {w:World}{B:Nat}{v:Value}{L:List Op8}(h:NO w B v L):GS opE w v L:=own_GS (E:=opE) h
theorem NO.nil (w:World)(B:Nat):NO w B (.slice none 0 0) []:=World.ownsRow_nil w B _ 8
theorem NO.mono {w:World}{B B':Nat}{v:Value}{L:List Op8}(h:NO w B v L)(hB:B'≤B):NO w B' v L:=by
 obtain⟨h1,h2 | ⟨g,cap,cur,hv,hb,h3⟩⟩:=h
 ·exact⟨h1,.inl h2⟩
 exact⟨h1,.inr ⟨g,cap,cur,hv,Nat.le_trans hB hb,h3⟩⟩
theorem NO.later {w w':World}{B:Nat}{v:Value}{L:List Op8}(h:NO w B v L)(hb:Below w.heap.size w w'):NO w' B v L:=h.kept (grown_below hb) (none_or _)
theorem NO.ofn {w:World}{B n:Nat}{v:Value}{M L:List Op8}(h:w.ownsRow B 68 8 v n (cellsG opE M))(hL:M=L)(hn:n=L.length):NO w B v L:=by subst hL hn;exact h
theorem NR.ofn {w:World}{B n:Nat}{v:Value}{M:List Ru}(h:w.ownsRow B 66 6 v n (cellsR M))(hn:n=M.length):NR w B v M:=by subst hn;exact h
theorem wpList_append_ops (w:World){ops:Array Oper}{rest:List Oper}{o:Oper}{a:Act}{Q:Exit→Act→World→Prop}(hgd:o.guard=none)(s x:Operand)(t:TypeId)
 (ho:o.op=.call { callee:=.builtin .append,args:=#[s,x],argTypes:=#[t,t] }) (ht:Tryz.prog.underlying t=some (.slice 68)) (base:Nat)
 (v:Value) (hs:a.eval s=v) (L:List Op8) (hown:NO w base v L) (u:Value) (hx:a.eval x=u) (M:List Op8) (hM:GS opE w u M)
 (h100:L.length+M.length≤1000000) (hbase:base≤w.heap.size)
 (h:∀v' w',NO w' base v' (L++M)→w.grownBy w' v.ownBlock→wpList Tryz.prog ops Q rest (a.put o.dst v') w'):wpList Tryz.prog ops Q (o :: rest) a w:=by
 obtain⟨i0,hi,hz0,hz1,hz2⟩:=info_parts op_info;exact wpList_append_GS (E:=opE) w hgd s x t 68 ho ht i0 _ 64 hi hz0 hz1 hz2 op_zero base v hs L hown u hx M hM (by unfold maxLen;omega) (by omega) hbase h
theorem ta_info:(Tryz.prog.info? 62).map (fun i=>(i.zero,i.size,i.bytes))=some (some (.slice none 0 0),1,24):=by kernel_rfl
theorem ta_zero:(Value.slice none 0 0).cells.size=1:=by simp[Value.cells]
theorem NR.sl {w:World}{B:Nat}{v:Value}{L:List Ru}(h:NR w B v L):∃x:SlT,v=slV x∧∀b,b<B→offB x b:=by
 rcases h.2 with ⟨rfl,h0⟩ | ⟨g,cap,cur,rfl,hg,_⟩
 ·exact⟨(none,0,0),rfl,fun b _=>.inl rfl⟩
 refine⟨(some ⟨g,0,none⟩,L.length,cap),rfl,fun b hb=>.inr fun a ha=>?_⟩;cases ha;show g≠b;omega
theorem step_append_blk {P:Program}{α:Type}{E:Enc α}(w:World){ops:Array Oper}{o:Oper}{a:Act}{K:Act→World→Prop}{Q:Exit→Act→World→Prop}{X:Prop}(hgd:o.guard=none)(s x:Operand)(t e:TypeId)
 (ho:o.op=.call { callee:=.builtin .append,args:=#[s,x],argTypes:=#[t,t] }) (ht:P.underlying t=some (.slice e)) (i:TypeInfo) (z:Value) (bytes:Nat) (hi:P.info? e=some i) (hz:i.zero=some z)
 (hsize:i.size=E.n) (hby:i.bytes=bytes) (hzs:z.cells.size=E.n) (base:Nat)
 (v:Value) (hs:a.eval s=v) (L:List α) (hown:w.ownsRow base e E.n v L.length (cellsG E L)) (g q c:Nat) (hx:a.eval x=.slice (some ⟨g,q,none⟩) 1 c) (y:α) (hM:VAt w g q (E.c y))
 (h63:L.length+1≤maxLen) (hbytes:(L.length+1)*bytes≤140737488355328) (hbase:base≤w.heap.size)
 (h:∀v' w',w'.ownsRow base e E.n v' (L++[y]).length (cellsG E (L++[y]))→w.grownBy w' v.ownBlock→v'.ownBlock=v.ownBlock∨v'.ownBlock=some w.heap.size→K (a.put o.dst v') w'):
 if Region.wanted o (yielded ops a.tmps)=true then Oper.wp P o a w K Q else X:=by
 have hw:Region.wanted o (yielded ops a.tmps)=true:=by simp[Region.wanted,hgd]
 rw[if_pos hw];have hG:GAt E w g q [y]:=by
  intro k hk;obtain rfl:k=0:=by simp at hk;omega
  simpa using hM
 have hc:=hG.cells;rw[cellsG_one] at hc;have hl:(E.c y).length=1*E.n:=by rw[E.len];omega
 obtain⟨v',w',hr,h2,h3,_⟩:=run_append_own (P:=P) w base t o.type e i z E.n bytes ht hi hz hsize hby hzs E.pos v _ _ hown ⟨g,q,none⟩ 1 c (E.c y) hl hc (E.one y) h63 hbytes hbase;have hb:=run_append_blk (P:=P) t o.type e i z ht hi hz v _ _ (by rw[hsize];exact hown) ⟨g,q,none⟩ c (E.c y) (by rw[hsize];exact hl) hc (E.one y) h63 (by rw[hby];exact hbytes) hr;unfold Oper.wp execOp;simp only[ho,resolve,invoke,builtin,Sem.run_bind,Sem.run_pure,Result.andThen_ok,List.map_toArray,List.map_cons,List.map_nil,hs,hx,hr];exact h v' w' (by rw[List.length_append,cellsG_app,cellsG_one];exact h2) h3 hb
section
variable {e1 e2:TypeId}{w W1 W1' W2 W2' Wf:World}{B:Nat}{v u v' u':Value}{vs us:List SlT}{Cs Ps:List (List Int)}
end
theorem infoByte:(Tryz.prog.info? 5).map (fun i=>(i.zero,i.size,i.bytes))=some (some (.int .u8 0),1,1):=by kernel_rfl
theorem liteClone (s:ByteArray)(w:World)(hlim:s.size≤1000000):
 Calls Tryz.prog 53 #[.string s] w fun e w'=>e=.returned (.string s)∧Below w.heap.size w w':=by
 by_cases h0:s.size=0
 ·have hs:s=⟨#[]⟩:=by
   apply ByteArray.ext
   exact Array.eq_empty_of_size_eq_zero h0
  subst hs;go_enter Tryz.func53,Tryz.ntmps53;go_wp2;go_ret;exact⟨rfl,Below.refl _ _⟩
 obtain⟨i0,hi,hz0,hz1,hz2⟩:=info_parts infoByte;have hinfo:(Tryz.prog.info? 5).map (·.size)=some 1:=by rw[hi];simp[hz1]
 have hco:Tryz.prog.cellsOf 5=1:=by simp[Program.cellsOf,hi,hz1]
 obtain⟨M,hM⟩:∃M,M=madeCells (Value.int .u8 0).cells (((s.size:Nat):Int).toNat*i0.size):=⟨_,rfl⟩;have hMs:M.size=s.size:=by rw[hM,size_madeCells,hz1];simp
 have hmk:(Instr.makeSlice 163 (.int .i64 (s.size:Int)) (.int .i64 (s.size:Int))).run Tryz.prog w=.ok (.slice (some ⟨w.heap.size,0,none⟩) s.size s.size) (w.alloc (.cells M 5)):=by
  have h:=run_make (P:=Tryz.prog) w 163 5 i0 (.int .u8 0) Tryz.underlying163 hi hz0 .i64 .i64 (s.size:Int) (s.size:Int) (by omega) (by omega) (by rw[hz2];omega) (by omega);rw[←hM] at h;simpa using h
 clear hM;have hcp:=Lib.run_copy_row_string (P:=Tryz.prog) (w.alloc (.cells M 5)) 163 9 3 5 w.heap.size 0 s.size s.size s M 5 Tryz.underlying163 hinfo (heap_alloc_new w _) (Nat.le_refl _) (by omega);obtain⟨Y,hY⟩:∃Y,Y=(M.toList.take 0++Lib.byteCells s.data.toList++M.toList.drop (0+s.size)).toArray:=⟨_,rfl⟩;rw[←hY] at hcp;have hYl:Y.toList=Lib.byteCells s.data.toList:=by
  rw[hY,List.toList_toArray,List.take_zero,List.nil_append,List.drop_of_length_le (by rw[Array.length_toList];omega),List.append_nil]
 have hYs:Y.size=s.size:=by rw[←Array.length_toList,hYl,Lib.byteCells_length,←Lib.size_eq]
 have hgY:((w.alloc (.cells M 5)).setRow w.heap.size Y).heap[w.heap.size]?=some (.cells Y 5 (0,0)):=setRow_heap _ _ M _ 5 (0,0) (heap_alloc_new w _);have hne:s.data.toList≠[]:=fun e=>h0 (by rw[Lib.size_eq,e];rfl)
 have hUS:=Lib.run_unsafeString_row (P:=Tryz.prog) ((w.alloc (.cells M 5)).setRow w.heap.size Y) 164 3 9 5 Tryz.underlying164 hco w.heap.size Y.size (by unfold World.shape?;rw[hgY]) s.data.toList hne (by rw[←Lib.size_eq];omega) (by rw[←Lib.size_eq];omega)
  (fun j x hx=>Lib.cells_of_row hgY Y.size j _ (by rw[List.take_of_length_le (by rw[Array.length_toList];exact Nat.le_refl _),hYl];simp[Lib.byteCells,hx]))
 rw[←Lib.size_eq] at hUS;clear hY;go_enter Tryz.func53,Tryz.ntmps53;go_wp2;go_ret;have hb1:Below w.heap.size w (w.alloc (.cells M 5)):=(Below.refl _ w).alloc (Nat.le_refl _) _;have hb2:Below w.heap.size (w.alloc (.cells M 5)) ((w.alloc (.cells M 5)).setRow w.heap.size Y):=⟨rfl,rfl,rfl,by simp,fun k hk=>setRow_other _ _ _ _ (by omega)⟩;exact⟨rfl,Lib.below_freeze (hb1.trans hb2) (p:=⟨w.heap.size,0,none⟩) (Nat.le_refl _) _⟩
theorem clone_any (s:ByteArray)(w:World)(hlim:s.size≤1000000):
 Calls Tryz.prog 27 #[.string s] w fun e w'=>e=.returned (.string s)∧Below w.heap.size w w':=by
 go_enter Tryz.func27,Tryz.ntmps27
 go_wp2_with fail
 refine (liteClone s _ hlim).mono ?_;rintro e w1 ⟨rfl,hb1⟩;go_wp2;go_ret;exact⟨rfl,hb1⟩
def HC (w:World)(B:Nat)(S S':Int)(a1 a2 b1 b2:Value)(g o:Nat)(x0:ByteArray)(x1 x2:Int)(g' o':Nat)(y0:ByteArray)(y1 y2:Int)(w':World):Prop:=
 Below w.heap.size w w'∧TBox w' B S a1 a2∧TBox w' (B+1) S' b1 b2∧(w'.cell? ⟨g,o,none⟩=some (.string x0)∧w'.cell? ⟨g,o+1,none⟩=some (.int .i64 x1)∧w'.cell? ⟨g,o+2,none⟩=some (.int .i64 x2)) ∧
  w'.cell? ⟨g',o',none⟩=some (.string y0)∧w'.cell? ⟨g',o'+1,none⟩=some (.int .i64 y1)∧w'.cell? ⟨g',o'+2,none⟩=some (.int .i64 y2)
theorem HC.later {w W W':World}{B:Nat}{S S':Int}{a1 a2 b1 b2:Value}{g o:Nat}{x0:ByteArray}{x1 x2:Int}{g' o':Nat}{y0:ByteArray}{y1 y2:Int}(hb:Below W.heap.size W W')(h:HC w B S S' a1 a2 b1 b2 g o x0 x1 x2 g' o' y0 y1 y2 W):HC w B S S' a1 a2 b1 b2 g o x0 x1 x2 g' o' y0 y1 y2 W':=by
 obtain⟨h0,t1,t2,⟨h1,h2,h3⟩,k1,k2,k3⟩:=h;exact⟨h0.trans (hb.mono h0.size),t1.later hb,t2.later hb,⟨cell_later hb h1,cell_later hb h2,cell_later hb h3⟩,cell_later hb k1,cell_later hb k2,cell_later hb k3⟩
def CD (w:World)(g o:Nat)(p m b q s v:Int)(g' o':Nat)(p' m' b' q' s' v':Int)(w':World):Prop:=
 Below w.heap.size w w'∧(w'.cell? ⟨g,o,none⟩=some (.int .i64 p)∧w'.cell? ⟨g,o+1,none⟩=some (.int .i64 m)∧w'.cell? ⟨g,o+2,none⟩=some (.int .i64 b) ∧
  w'.cell? ⟨g,o+3,none⟩=some (.int .i64 q)∧w'.cell? ⟨g,o+4,none⟩=some (.int .i64 s)∧w'.cell? ⟨g,o+5,none⟩=some (.int .i64 v)) ∧
 w'.cell? ⟨g',o',none⟩=some (.int .i64 p')∧w'.cell? ⟨g',o'+1,none⟩=some (.int .i64 m')∧w'.cell? ⟨g',o'+2,none⟩=some (.int .i64 b') ∧
  w'.cell? ⟨g',o'+3,none⟩=some (.int .i64 q')∧w'.cell? ⟨g',o'+4,none⟩=some (.int .i64 s')∧w'.cell? ⟨g',o'+5,none⟩=some (.int .i64 v')
theorem CD.later {w W W':World}{g o:Nat}{p m b q s v:Int}{g' o':Nat}{p' m' b' q' s' v':Int}(hb:Below W.heap.size W W')(h:CD w g o p m b q s v g' o' p' m' b' q' s' v' W):CD w g o p m b q s v g' o' p' m' b' q' s' v' W':=by
 obtain⟨h0,⟨h1,h2,h3,h4,h5,h6⟩,k1,k2,k3,k4,k5,k6⟩:=h;exact⟨h0.trans (hb.mono h0.size),⟨cell_later hb h1,cell_later hb h2,cell_later hb h3,cell_later hb h4,cell_later hb h5,cell_later hb h6⟩,cell_later hb k1,cell_later hb k2,cell_later hb k3,cell_later hb k4,cell_later hb k5,cell_later hb k6⟩
def NN (W:World)(B:Nat)(S:Int)(a1 a2 a3:Value)(S':Int)(b1 b2 b3:Value):Prop:=NeBox W B S a1 a2 a3∧NeBox W (B+1) S' b1 b2 b3
theorem nn_new (w:World)(S:Int)(a1 a2 a3:Value)(S':Int)(b1 b2 b3:Value)(t:TypeId):NN ((w.alloc (Obj.cells #[.int .i64 S,a1,a2,a3] t)).alloc (Obj.cells #[.int .i64 S',b1,b2,b3] t)) w.heap.size S a1 a2 a3 S' b1 b2 b3:=by
 refine⟨(nebox_new w S a1 a2 a3 t).later ((Below.refl _ _).alloc (Nat.le_refl _) _),?_⟩;have:=nebox_new (w.alloc (Obj.cells #[.int .i64 S,a1,a2,a3] t)) S' b1 b2 b3 t;simpa using this
theorem NeBox.grown {W W':World}{g:Nat}{S:Int}{v1 v2 v3:Value}{row:Option Nat}(h:NeBox W g S v1 v2 v3)(hg:W.grownBy W' row)(hne:some g≠row):NeBox W' g S v1 v2 v3:=
 ⟨hg.cell h.1 hne,hg.cell h.2.1 hne,hg.cell h.2.2.1 hne,hg.cell h.2.2.2 hne⟩
theorem ca_split {S:Int}{Ts:List (List Ru)}{l:List Op8}{k:Nat}(hk:k<l.length)(h:caN S Ts (l.take k)=0):caN S Ts l=caN S (caT Ts (l.take k)) (l[k] :: l.drop (k+1)):=by
 have e:l=l.take k++(l[k] :: l.drop (k+1)):=by simp
 conv=>lhs;rw[e]
 rw[ca_app,if_pos h]
theorem cs_take {S:Int}{Ts:List (List Ru)}{l:List Op8}{k:Nat}(hk:k<l.length)(h:caN S Ts (l.take k)=0):caN S Ts (l.take (k+1))=caN S (caT Ts (l.take k)) [l[k]]∧caT Ts (l.take (k+1))=caT (caT Ts (l.take k)) [l[k]]:=by
 rw[List.take_succ_eq_append_getElem hk,ca_app,if_pos h,cj_app];exact⟨rfl,rfl⟩
theorem do_ch2 {L:List Ru}{a:Bool}{r:Ru}(h:tbN L=0)(h2:r.n=0):doN L a r=chN L a r∧doL L a r=chL L a r:=by
 have e:doN L a r=chN L a r:=by simp[doN,h,h2]
 refine⟨e,?_⟩;by_cases h3:chN L a r=0
 ·rw[doL,e,if_pos h3]
 rw[doL,e,if_neg h3,chL_ne h3]
theorem do_ru2 {L:List Ru}{a:Bool}{r:Ru}(h:tbN L=0)(h2:r.n≠0):doN L a r=r.n:=by simp[doN,h,h2]
def nvS (X S:Int):Int:=if X=0 then S else 0
def nvL {α:Type}(X:Int)(L:List α):List α:=if X=0 then L else []
def nvV (X:Int)(v:Value):Value:=if X=0 then v else .slice none 0 0
structure AB (W:World)(B:Nat)(S:Int)(v1 v2 v3:Value):Prop where
 n:NeBox W B S v1 v2 v3
 r:NeBox W (B+1) 0 (.slice none 0 0) (.slice none 0 0) (.slice none 0 0)
 f:∀c,W.frozen? ⟨B+1,c,none⟩=false
theorem ab_new (w:World)(S:Int)(v1 v2 v3:Value)(t:TypeId):AB ((w.alloc (Obj.cells #[.int .i64 S,v1,v2,v3] t)).alloc (Obj.cells #[.int .i64 0,.slice none 0 0,.slice none 0 0,.slice none 0 0] t)) w.heap.size S v1 v2 v3:=by
 obtain⟨h1,h2⟩:=nn_new w S v1 v2 v3 0 (.slice none 0 0) (.slice none 0 0) (.slice none 0 0) t;refine⟨h1,h2,fun c=>?_⟩;have h:=heap_alloc_new (w.alloc (Obj.cells #[.int .i64 S,v1,v2,v3] t)) (Obj.cells #[.int .i64 0,.slice none 0 0,.slice none 0 0,.slice none 0 0] t);rw[World.size_alloc] at h;simp only[World.frozen?,h];simp
theorem AB.lt {W:World}{B:Nat}{S:Int}{v1 v2 v3:Value}(h:AB W B S v1 v2 v3):B+1<W.heap.size:=World.block_lt_of_cell? W ⟨B+1,0,none⟩ h.r.1
theorem AB.grown {W W':World}{B:Nat}{S:Int}{v1 v2 v3:Value}{row:Option Nat}(h:AB W B S v1 v2 v3)(hg:W.grownBy W' row)(hr:∀g,row=some g→B+2≤g):AB W' B S v1 v2 v3:=
 ⟨h.n.grown hg (fun e=>by have:=hr _ e.symm;omega),h.r.grown hg (fun e=>by have:=hr _ e.symm;omega),fun c=>(World.frozen?_of_block (hg.block (B+1) h.lt (fun e=>by have:=hr _ e.symm;omega))).trans (h.f c)⟩
theorem AB.later {W W':World}{B:Nat}{S:Int}{v1 v2 v3:Value}(h:AB W B S v1 v2 v3)(hb:Below W.heap.size W W'):AB W' B S v1 v2 v3:=h.grown (grown_below hb) (fun g hg=>by cases hg)
def put4 (W:World)(b:Nat)(x y z u:Value):World:=(((W.setCell ⟨b,0,none⟩ x).setCell ⟨b,1,none⟩ y).setCell ⟨b,2,none⟩ z).setCell ⟨b,3,none⟩ u
theorem below_pn4 {B:Nat}{a W:World}(h:Below B a W)(b:Nat)(hb:B≤b)(x y z u:Value):Below B a (put4 W b x y z u):=(((h.setCell hb _).setCell hb _).setCell hb _).setCell hb _
theorem grown_put4 (W:World)(b:Nat)(x y z u:Value):W.grownBy (put4 W b x y z u) (some b):=by
 have h1:=grown_set W b 0 x;have h2:=grown_set (W.setCell ⟨b,0,none⟩ x) b 1 y;have h3:=grown_set ((W.setCell ⟨b,0,none⟩ x).setCell ⟨b,1,none⟩ y) b 2 z;have h4:=grown_set (((W.setCell ⟨b,0,none⟩ x).setCell ⟨b,1,none⟩ y).setCell ⟨b,2,none⟩ z) b 3 u;exact⟨rfl,rfl,rfl,Nat.le_trans (Nat.le_trans (Nat.le_trans h1.size h2.size) h3.size) h4.size,fun k hk hne=>(((h4.block k (Nat.lt_of_lt_of_le hk (Nat.le_trans (Nat.le_trans h1.size h2.size) h3.size)) hne).trans (h3.block k (Nat.lt_of_lt_of_le hk (Nat.le_trans h1.size h2.size)) hne)).trans (h2.block k (Nat.lt_of_lt_of_le hk h1.size) hne)).trans (h1.block k hk hne)⟩
theorem TR.mono {e:TypeId}{w:World}{A B B':Nat}{v:Value}{vs:List SlT}{Ts:List (List Ru)}(h:TR e w A B v vs Ts)(hB:B'≤B):TR e w A B' v vs Ts:=
 ⟨own_mono h.ov hB,h.lv,h.rv,fun i x h1 b h2 h3=>h.rz i x h1 b h2 (by omega)⟩
end
end Go.Proofs.YtglnnoglbieaeaaGreatDoor
