/- Contracts and facts on the way to MixTells, joined into one text: RefTopo1, RefPeer, RefCube, RuleRefMath, RefFind, RefBit, RefTurned, NetRefMath, RefGo, RefFrom, RefWalkMath, RefIn. -/
import Derived.Test.YtglnnoglbieaeaaGreatDoorMixTellsP9
namespace Go.Proofs.YtglnnoglbieaeaaGreatDoor
set_option linter.unusedSimpArgs false
set_option linter.unusedVariables false
set_option maxHeartbeats 16000000
set_option maxRecDepth 100000
section
open Go.RowKit
structure B2 (w W:World)(S:Int)(v1 v2:Value)(x y:Int):Prop where
 below:Below w.heap.size w W
 t:TBox W w.heap.size S v1 v2
 s0:W.cell? ⟨w.heap.size+1,0,none⟩=some (.int .i64 x)
 s1:W.cell? ⟨w.heap.size+1,1,none⟩=some (.int .i64 y)
theorem B2.later {w W W':World}{S:Int}{v1 v2:Value}{x y:Int}(h:B2 w W S v1 v2 x y)(hb:Below W.heap.size W W'):B2 w W' S v1 v2 x y:=
 ⟨h.below.trans (hb.mono h.below.size),h.t.later hb,cell_later hb h.s0,cell_later hb h.s1⟩
theorem b2_new (w:World)(S:Int)(v1 v2:Value)(x y:Int):B2 w ((w.alloc (Obj.cells #[.int .i64 S,v1,v2] 25)).alloc (Obj.cells #[.int .i64 x,.int .i64 y] 39)) S v1 v2 x y:=by
 have hb1:Below w.heap.size w (w.alloc (Obj.cells #[.int .i64 S,v1,v2] 25)):=(Below.refl _ _).alloc (Nat.le_refl _) _;have h:=spo_new (w.alloc (Obj.cells #[.int .i64 S,v1,v2] 25)) x y 39;have e1:(w.alloc (Obj.cells #[.int .i64 S,v1,v2] 25)).heap.size=w.heap.size+1:=by simp
 rw[e1] at h;obtain⟨s0,s1⟩:=spo_cells h;exact⟨hb1.alloc hb1.size _,(tbox_new w S v1 v2 25).later ((Below.refl _ _).alloc (Nat.le_refl _) _),s0,s1⟩
theorem rspot_any (S:Int)(ao:Option Addr)(n cap:Nat)(ao2:Option Addr)(n2 cap2:Nat)(x y:Int)(w:World):
 Calls Tryz.prog 39 #[.agg #[.int .i64 S,.slice ao n cap,.slice ao2 n2 cap2],.agg #[.int .i64 x,.int .i64 y]] w fun e w'=>e=.returned (.bool (spB S (x,y)))∧Below w.heap.size w w':=by
 have HB:Hid (Below w.heap.size w ((w.alloc (Obj.cells #[.int .i64 S,.slice ao n cap,.slice ao2 n2 cap2] 25)).alloc (Obj.cells #[.int .i64 x,.int .i64 y] 39))):=(b2_new w S _ _ x y).below;have hr:spB S (x,y)=(decide (1≤x)&&(decide (x≤S)&&(decide (1≤y)&&decide (y≤4)))):=rfl;rw[hr];clear hr;cases g1:decide (1≤x)
 ·simp only[Bool.false_and];go_enter Tryz.func39,Tryz.ntmps39;go_wp2;go_ret;exact⟨rfl,HB.out⟩
 cases g2:decide (x≤S)
 ·simp only[Bool.false_and,Bool.and_false];go_enter Tryz.func39,Tryz.ntmps39;go_wp2;go_ret;exact⟨rfl,HB.out⟩
 cases g3:decide (1≤y)
 ·simp only[Bool.false_and,Bool.and_false];go_enter Tryz.func39,Tryz.ntmps39;go_wp2;go_ret;exact⟨rfl,HB.out⟩
 simp only[Bool.true_and];obtain⟨r,hr⟩:∃r,r=decide (y≤4):=⟨_,rfl⟩;go_enter Tryz.func39,Tryz.ntmps39;go_wp2;go_ret;exact⟨rfl,HB.out⟩
theorem rhost_any (S:Int)(ao:Option Addr)(n cap:Nat)(ao2:Option Addr)(n2 cap2:Nat)(Hs:List (ByteArray×(Int×Int)))(x y:Int)(w:World)(hH:GS hstE w (.slice ao2 n2 cap2) Hs):
 Calls Tryz.prog 69 #[.agg #[.int .i64 S,.slice ao n cap,.slice ao2 n2 cap2],.agg #[.int .i64 x,.int .i64 y]] w fun e w'=>e=.returned (.int .i64 (atN Hs (x,y)))∧Below w.heap.size w w':=by
 obtain⟨_,_,_,e1,hHn,hHm,_,hHa⟩:=hH.form;cases e1;have HHN:Hid (Hs.length=n2):=hHn;have n63:n2≤9223372036854775807:=by unfold maxLen at hHm;omega
 have HHA:Hid (0<n2→∃g o,ao2=some ⟨g,o,none⟩∧GAt hstE w g o Hs∧cap2≤maxLen):=hHa;have hX:=b2_new w S (.slice ao n cap) (.slice ao2 n2 cap2) x y;obtain⟨w0,hw0⟩:∃W,(w.alloc (Obj.cells #[.int .i64 S,.slice ao n cap,.slice ao2 n2 cap2] 25)).alloc (Obj.cells #[.int .i64 x,.int .i64 y] 39)=W:=⟨_,rfl⟩;rw[hw0] at hX;have HX:Hid (B2 w w0 S (.slice ao n cap) (.slice ao2 n2 cap2) x y):=hX;have HW0:Hid ((w.alloc (Obj.cells #[.int .i64 S,.slice ao n cap,.slice ao2 n2 cap2] 25)).alloc (Obj.cells #[.int .i64 x,.int .i64 y] 39)=w0):=hw0;clear hH hHn hHm hHa hX hw0;go_enter Tryz.func69,Tryz.ntmps69;go_wp2;rw[HW0.out]
 go_loopw [5] (fun i wr=>∃k:Nat,k≤n2∧i=.int .i64 k∧(Hs.take k).any (fun h=>sq h.2 (x,y))=false∧B2 w wr S (.slice ao n cap) (.slice ao2 n2 cap2) x y) (fun i _=>n2-(intOf i).toNat)
 case atStart=>exact⟨0,by omega,rfl,by simp,HX.out⟩
 case round =>
  obtain⟨k,hk,rfl,hno,hXr⟩:=hrel;have HX2:Hid (B2 w wr S (.slice ao n cap) (.slice ao2 n2 cap2) x y):=hXr;have HNO:Hid ((Hs.take k).any (fun h=>sq h.2 (x,y))=false):=hno;obtain⟨_,⟨b0,b1,b2⟩,s0,s1⟩:=hXr;have hlt1:w.heap.size<wr.heap.size:=World.block_lt_of_cell? _ _ b0;have hlt2:w.heap.size+1<wr.heap.size:=World.block_lt_of_cell? _ _ s0;clear hno HW0 HX;by_cases hlt:k<n2
  ·obtain⟨g,o,hao,hc,_⟩:=HHA.out (by omega);subst hao;obtain⟨y0,y1,y2,hkl,hHk,q0,q1,q2⟩:=hst_at (hc.later HX2.out.below) HHN.out hlt;have HHK:Hid (Hs[k]=(y0,(y1,y2))):=hHk;have hr:sq (y1,y2) (x,y)=(y1==x&&y2==y):=rfl;clear hHk hc;cases ho:sq (y1,y2) (x,y)
   ·rw[hr] at ho;have HN1:Hid ((Hs.take (k+1)).any (fun h=>sq h.2 (x,y))=false):=any_nextG hkl HNO.out (by rw[HHK.out];exact ho);cases g1:(y1==x) <;> cases g2:(y2==y)
    ·clear ho hr
     go_wp2_with fail
     go_region
     go_wp2;go_roundw
     case rel=>exact⟨k+1,by omega,by go_num,HN1.out,HX2.out.later (Below.drew (Below.refl _ _))⟩
     case measure=>simp[intOf];omega
    ·clear ho hr
     go_wp2_with fail
     go_region
     go_wp2;go_roundw
     case rel=>exact⟨k+1,by omega,by go_num,HN1.out,HX2.out.later (Below.drew (Below.refl _ _))⟩
     case measure=>simp[intOf];omega
    ·clear ho hr
     go_wp2_with fail
     go_region
     go_wp2;go_roundw
     case rel=>exact⟨k+1,by omega,by go_num,HN1.out,HX2.out.later (Below.drew (Below.refl _ _))⟩
     case measure=>simp[intOf];omega
    rw[g1,g2] at ho;cases ho
   have HR:Hid (atN Hs (x,y)=k):=ixG_hit hkl HNO.out (by rw[HHK.out];exact ho);rw[hr,Bool.and_eq_true] at ho;obtain⟨g1,g2⟩:=ho;clear hr
   go_wp2_with fail
   go_region
   go_wp2;go_ret;exact⟨by rw[HR.out];rfl,(HX2.out.later (Below.drew (Below.refl _ _))).below⟩
  obtain rfl:k=n2:=by omega
  have HR:Hid (atN Hs (x,y) = -1):=by
   have:=HNO.out;rw[←HHN.out,List.take_length] at this;exact ixG_no this
  go_wp2;go_ret;exact⟨by rw[HR.out];rfl,HX2.out.below⟩
structure B3 (w W:World)(S:Int)(v1 v2:Value)(x y:Int):Prop where
 b:B2 w W S v1 v2 x y
 r0:W.cell? ⟨w.heap.size+1+1,0,none⟩=some (.int .i64 0)
 r1:W.cell? ⟨w.heap.size+1+1,1,none⟩=some (.int .i64 0)
 f:∀i,W.frozen? ⟨w.heap.size+1+1,i,none⟩=false
theorem B3.later {w W W':World}{S:Int}{v1 v2:Value}{x y:Int}(h:B3 w W S v1 v2 x y)(hb:Below W.heap.size W W'):B3 w W' S v1 v2 x y:=
 ⟨h.b.later hb,cell_later hb h.r0,cell_later hb h.r1,fun i=>(hb.frozen (p:=⟨w.heap.size+1+1,i,none⟩) (show (⟨w.heap.size+1+1,0,none⟩:Addr).block<W.heap.size from World.block_lt_of_cell? W ⟨w.heap.size+1+1,0,none⟩ h.r0)).trans (h.f i)⟩
theorem b3_new (w:World)(S:Int)(v1 v2:Value)(x y:Int):B3 w (((w.alloc (Obj.cells #[.int .i64 S,v1,v2] 25)).alloc (Obj.cells #[.int .i64 x,.int .i64 y] 39)).alloc (Obj.cells #[.int .i64 0,.int .i64 0] 39)) S v1 v2 x y:=by
 have h:=b2_new w S v1 v2 x y;have e2:((w.alloc (Obj.cells #[.int .i64 S,v1,v2] 25)).alloc (Obj.cells #[.int .i64 x,.int .i64 y] 39)).heap.size=w.heap.size+1+1:=by simp
 generalize (w.alloc (Obj.cells #[.int .i64 S,v1,v2] 25)).alloc (Obj.cells #[.int .i64 x,.int .i64 y] 39)=X at h e2
 have hs:=vat_new X [.int .i64 0,.int .i64 0] 39;have hf:∀k,(X.alloc (Obj.cells #[.int .i64 0,.int .i64 0] 39)).frozen? ⟨X.heap.size,k,none⟩=false:=fun k=>by simp
 rw[e2] at hs hf;exact⟨h.later ((Below.refl _ _).alloc (Nat.le_refl _) _),hs 0 _ rfl,hs 1 _ rfl,hf⟩
theorem below2 {w W:World}(h:Below w.heap.size w W)(g:Nat)(hg:w.heap.size≤g)(u v:Value):Below w.heap.size w ((W.setCell ⟨g,0,none⟩ u).setCell ⟨g,1,none⟩ v):=(h.setCell (p:=⟨g,0,none⟩) hg u).setCell (p:=⟨g,1,none⟩) hg v
theorem peer_at {Ls:List ((Int×Int)×(Int×Int))}{k:Nat}(hk:k<Ls.length){s:Int×Int}:peerO (Ls.drop k) s=if (Ls[k]).1==s then some (Ls[k]).2 else if (Ls[k]).2==s then some (Ls[k]).1 else peerO (Ls.drop (k+1)) s:=by
 rw[List.drop_eq_getElem_cons hk];rfl
theorem eq_ways2 {a b:Bool}(h:(a&&b)=false):(a=true∧b=false)∨a=false:=by
 cases a
 ·exact .inr rfl
 exact .inl ⟨rfl,by simpa using h⟩
theorem rpeer_any (S:Int)(ao:Option Addr)(n cap:Nat)(ao2:Option Addr)(n2 cap2:Nat)(Ls:List ((Int×Int)×(Int×Int)))(x y:Int)(w:World)(hL:GS lnkE w (.slice ao n cap) Ls):
 Calls Tryz.prog 70 #[.agg #[.int .i64 S,.slice ao n cap,.slice ao2 n2 cap2],.agg #[.int .i64 x,.int .i64 y]] w fun e w'=>e=.returned (.tuple #[.agg #[.int .i64 ((peerO Ls (x,y)).getD (0,0)).1,.int .i64 ((peerO Ls (x,y)).getD (0,0)).2],.bool (peerO Ls (x,y)).isSome])∧Below w.heap.size w w':=by
 obtain⟨_,_,_,e1,hLn,hLm,_,hLa⟩:=hL.form;cases e1;have HLN:Hid (Ls.length=n):=hLn;have n63:n≤9223372036854775807:=by unfold maxLen at hLm;omega
 have HLA:Hid (0<n→∃g o,ao=some ⟨g,o,none⟩∧GAt lnkE w g o Ls∧cap≤maxLen):=hLa;obtain⟨P,hP⟩:∃P,P=peerO Ls (x,y):=⟨_,rfl⟩;have HP:Hid (P=peerO Ls (x,y)):=hP;rw[←hP];have hX:=b3_new w S (.slice ao n cap) (.slice ao2 n2 cap2) x y;obtain⟨w0,hw0⟩:∃W,((w.alloc (Obj.cells #[.int .i64 S,.slice ao n cap,.slice ao2 n2 cap2] 25)).alloc (Obj.cells #[.int .i64 x,.int .i64 y] 39)).alloc (Obj.cells #[.int .i64 0,.int .i64 0] 39)=W:=⟨_,rfl⟩;rw[hw0] at hX;have HX:Hid (B3 w w0 S (.slice ao n cap) (.slice ao2 n2 cap2) x y):=hX;have HW0:Hid (((w.alloc (Obj.cells #[.int .i64 S,.slice ao n cap,.slice ao2 n2 cap2] 25)).alloc (Obj.cells #[.int .i64 x,.int .i64 y] 39)).alloc (Obj.cells #[.int .i64 0,.int .i64 0] 39)=w0):=hw0;clear hL hLn hLm hLa hP hX hw0;go_enter Tryz.func70,Tryz.ntmps70;go_wp2;rw[HW0.out]
 go_loopw [6] (fun i wr=>∃k:Nat,k≤n∧i=.int .i64 k∧P=peerO (Ls.drop k) (x,y)∧B3 w wr S (.slice ao n cap) (.slice ao2 n2 cap2) x y) (fun i _=>n-(intOf i).toNat)
 case atStart=>exact⟨0,by omega,rfl,HP.out,HX.out⟩
 case round =>
  obtain⟨k,hk,rfl,hpk,hXr⟩:=hrel;have HX2:Hid (B3 w wr S (.slice ao n cap) (.slice ao2 n2 cap2) x y):=hXr;have HPK:Hid (P=peerO (Ls.drop k) (x,y)):=hpk;have HB:Hid (Below w.heap.size w wr):=hXr.b.below;obtain⟨⟨_,⟨b0,b1,b2⟩,s0,s1⟩,r0,r1,f⟩:=hXr;have hlt1:w.heap.size<wr.heap.size:=World.block_lt_of_cell? _ _ b0;have hlt2:w.heap.size+1<wr.heap.size:=World.block_lt_of_cell? _ _ s0;have hlt3:w.heap.size+1+1<wr.heap.size:=World.block_lt_of_cell? _ _ r0;have f0:=f 0;have f1:=f 1;clear hpk HW0 HX HP f;by_cases hlt:k<n
  ·obtain⟨g,o,hao,hc,_⟩:=HLA.out (by omega);subst hao;obtain⟨x0,x1,x2,x3,hkl,hLk,q0,q1,q2,q3⟩:=lnk_at (hc.later HB.out) HLN.out hlt;have hgl:g<wr.heap.size:=World.block_lt_of_cell? _ _ q0;have HST:Hid (P=if (x0==x&&x1==y)=true then some (x2,x3) else if (x2==x&&x3==y)=true then some (x0,x1) else peerO (Ls.drop (k+1)) (x,y)):=by
    show _=_;rw[HPK.out,peer_at hkl,hLk];rfl
   clear hLk hc;cases ho:(x0==x&&x1==y)
   ·have HNO:Hid ((x0==x&&x1==y)=false):=ho;cases hu:(x2==x&&x3==y)
    ·have HP1:Hid (P=peerO (Ls.drop (k+1)) (x,y)):=by
      show _=_;rw[HST.out,ho,hu];rfl
     rcases eq_ways2 ho with ⟨g1,g2⟩ | g1
     ·rcases eq_ways2 hu with ⟨g3,g4⟩ | g3
      ·go_wp2_with fail
       go_region
       go_wp2_with fail
       go_region
       go_wp2;go_roundw
       case rel=>exact⟨k+1,by omega,by go_num,HP1.out,(HX2.out.later (Below.drew (Below.refl _ _))).later (Below.drew (Below.refl _ _))⟩
       case measure=>simp[intOf];omega
      go_wp2_with fail
      go_region
      go_wp2_with fail
      go_region
      go_wp2;go_roundw
      case rel=>exact⟨k+1,by omega,by go_num,HP1.out,(HX2.out.later (Below.drew (Below.refl _ _))).later (Below.drew (Below.refl _ _))⟩
      case measure=>simp[intOf];omega
     rcases eq_ways2 hu with ⟨g3,g4⟩ | g3
     ·go_wp2_with fail
      go_region
      go_wp2_with fail
      go_region
      go_wp2;go_roundw
      case rel=>exact⟨k+1,by omega,by go_num,HP1.out,(HX2.out.later (Below.drew (Below.refl _ _))).later (Below.drew (Below.refl _ _))⟩
      case measure=>simp[intOf];omega
     go_wp2_with fail
     go_region
     go_wp2_with fail
     go_region
     go_wp2;go_roundw
     case rel=>exact⟨k+1,by omega,by go_num,HP1.out,(HX2.out.later (Below.drew (Below.refl _ _))).later (Below.drew (Below.refl _ _))⟩
     case measure=>simp[intOf];omega
    have HP1:Hid (P=some (x0,x1)):=by
     show _=_;rw[HST.out,ho,hu];rfl
    rw[Bool.and_eq_true] at hu;obtain⟨g3,g4⟩:=hu
    rcases eq_ways2 ho with ⟨g1,g2⟩ | g1
    ·go_wp2_with fail
     go_region
     go_wp2_with fail
     go_region
     go_wp2;refine bodyPost_ret (v:=.tuple #[.agg #[.int .i64 x0,.int .i64 x1],.bool true]) (by simp[results,Tryz.results70,go_sem, *]) rfl ⟨by rw[HP1.out];rfl,below2 (HB.out.trans (((Below.drew (Below.drew (Below.refl _ _))).mono HB.out.size))) _ (by omega) _ _⟩
    go_wp2_with fail
    go_region
    go_wp2_with fail
    go_region
    go_wp2;refine bodyPost_ret (v:=.tuple #[.agg #[.int .i64 x0,.int .i64 x1],.bool true]) (by simp[results,Tryz.results70,go_sem, *]) rfl ⟨by rw[HP1.out];rfl,below2 (HB.out.trans (((Below.drew (Below.drew (Below.refl _ _))).mono HB.out.size))) _ (by omega) _ _⟩
   have HP1:Hid (P=some (x2,x3)):=by
    show _=_;rw[HST.out,ho];rfl
   rw[Bool.and_eq_true] at ho;obtain⟨g1,g2⟩:=ho
   go_wp2_with fail
   go_region
   go_wp2;refine bodyPost_ret (v:=.tuple #[.agg #[.int .i64 x2,.int .i64 x3],.bool true]) (by simp[results,Tryz.results70,go_sem, *]) rfl ⟨by rw[HP1.out];rfl,below2 (HB.out.trans ((Below.drew (Below.refl _ _)).mono HB.out.size)) _ (by omega) _ _⟩
  obtain rfl:k=n:=by omega
  have HPN:Hid (P=none):=by
   show _=_;rw[HPK.out,←HLN.out,List.drop_length];rfl
  go_wp2;refine bodyPost_ret (v:=.tuple #[.agg #[.int .i64 0,.int .i64 0],.bool false]) (by simp[results,Tryz.results70,go_sem, *]) rfl ⟨by rw[HPN.out];rfl,below2 HB.out _ (by omega) _ _⟩
theorem header_yes (n:Int)(w:World)(h:hdrB n=true):
 Calls Tryz.prog 6 #[.int .i64 n] w fun e w'=>e=.returned (.bool true)∧w'=w:=by
 obtain⟨h1,h2⟩:=hdr_of h;clear h;go_enter Tryz.func6,Tryz.ntmps6;go_wp2;go_ret;exact⟨rfl,rfl⟩
theorem header_no (n:Int)(w:World)(h:hdrB n=false):
 Calls Tryz.prog 6 #[.int .i64 n] w fun e w'=>e=.returned (.bool false)∧w'=w:=by
 rcases hdr_no h with h1 | h1
 ·clear h;go_enter Tryz.func6,Tryz.ntmps6;go_wp2;go_ret;exact⟨rfl,rfl⟩
 have h2:0≤n:=by omega
 have h3:decide (n<16)=false:=by simp;omega
 clear h;go_enter Tryz.func6,Tryz.ntmps6;go_wp2;go_ret;exact⟨rfl,rfl⟩
theorem header_any (n:Int)(w:World):
 Calls Tryz.prog 6 #[.int .i64 n] w fun e w'=>e=.returned (.bool (hdrB n))∧w'=w:=by
 cases h:hdrB n
 ·exact header_no n w h
 exact header_yes n w h
theorem refCube_any (m b:Int)(w:World):
 Calls Tryz.prog 41 #[.agg #[.int .i64 m,.int .i64 b]] w fun e w'=>e=.returned (.int .i64 (refN m b))∧Below w.heap.size w w':=by
 cases hr:rngB m b
 ·rw[refN_range hr];have HH:hdrB m=false∨(hdrB m=true∧hdrB b=false):=by
   cases h1:hdrB m
   ·exact .inl rfl
   exact .inr ⟨rfl,by simpa[rngB,h1] using hr⟩
  rcases HH with hm | ⟨hm,hb⟩
  all_goals
   clear hr;go_enter Tryz.func41,Tryz.ntmps41
   go_wp2_with fail
   refine (header_any _ _).mono ?_;rintro e w' ⟨rfl,rfl⟩
   go_wp2_with fail
   refine (header_any _ _).mono ?_;rintro e w' ⟨rfl,rfl⟩;go_wp2;go_ret;exact⟨rfl,(Below.refl _ _).alloc (Nat.le_refl _) _⟩
 have hm:hdrB m=true:=hdr_mk (rng_of hr).1;have hb:hdrB b=true:=hdr_mk (rng_of hr).2;cases ho:okB m b
 ·rw[refN_shape ho hr];have hz:(bits .and .i64 b m==b)=false:=by rw[andEq hr,ho]
  clear hr ho;go_enter Tryz.func41,Tryz.ntmps41
  go_wp2_with fail
  refine (header_any _ _).mono ?_;rintro e w' ⟨rfl,rfl⟩
  go_wp2_with fail
  refine (header_any _ _).mono ?_;rintro e w' ⟨rfl,rfl⟩;go_wp2;go_ret;exact⟨rfl,(Below.refl _ _).alloc (Nat.le_refl _) _⟩
 rw[refN_ok ho];have hz:(bits .and .i64 b m==b)=true:=by rw[andEq hr,ho]
 clear hr ho;go_enter Tryz.func41,Tryz.ntmps41
 go_wp2_with fail
 refine (header_any _ _).mono ?_;rintro e w' ⟨rfl,rfl⟩
 go_wp2_with fail
 refine (header_any _ _).mono ?_;rintro e w' ⟨rfl,rfl⟩;go_wp2;go_ret;exact⟨rfl,(Below.refl _ _).alloc (Nat.le_refl _) _⟩
theorem refHas_any (m b h:Int)(w:World):
 Calls Tryz.prog 116 #[.agg #[.int .i64 m,.int .i64 b],.int .i64 h] w fun e w'=>e=.returned (.bool (hasB m b h))∧Below w.heap.size w w':=by
 cases hh:hdrB h
 ·have e:hasB m b h=false:=by simp[hasB,hh]
  rw[e];clear e;go_enter Tryz.func116,Tryz.ntmps116
  go_wp2_with fail
  refine (header_any _ _).mono ?_;rintro e w' ⟨rfl,rfl⟩;go_wp2;go_ret;exact⟨rfl,(Below.refl _ _).alloc (Nat.le_refl _) _⟩
 cases ho:okB m b
 ·have e:hasB m b h=false:=by simp[hasB,ho]
  have hz:(refN m b==0)=false:=by rw[ok_refN,ho]
  rw[e];clear e ho;go_enter Tryz.func116,Tryz.ntmps116
  go_wp2_with fail
  refine (header_any _ _).mono ?_;rintro e w' ⟨rfl,rfl⟩
  go_wp2_with fail
  refine (refCube_any _ _ _).mono ?_;rintro e w1 ⟨rfl,hb1⟩;go_wp2;go_ret;exact⟨rfl,((Below.refl _ _).alloc (Nat.le_refl _) _).trans (hb1.mono (by simp))⟩
 have e:hasB m b h=(bits .and .i64 h m==b):=by simp[hasB,hh,ho]
 rw[e,];clear e;go_enter Tryz.func116,Tryz.ntmps116
 go_wp2_with fail
 refine (header_any _ _).mono ?_;rintro e w' ⟨rfl,rfl⟩
 go_wp2_with fail
 refine (refCube_any _ _ _).mono ?_;rintro e w1 ⟨rfl,hb1⟩;rw[refN_ok ho];obtain⟨hc1,hf1⟩:=bcell hb1;go_wp2;go_ret;exact⟨rfl,((Below.refl _ _).alloc (Nat.le_refl _) _).trans (hb1.mono (by simp))⟩
def tuB (s v h:Int)(i:Nat):Bool:=bitB s i&&bitB v i || !bitB s i&&bitB h i
def tuTo (s v h:Int):Nat→Int
 | 0=>0
 | k+1=>if tuB s v h (3-k) then tuTo s v h k*2+1 else tuTo s v h k*2
theorem tu_bd (s v h:Int):∀k,0≤tuTo s v h k∧tuTo s v h k<2 ^ k
 | 0=>by simp[tuTo]
 | k+1=>by
   have:=tu_bd s v h k;have e:(2:Int) ^ (k+1)=2 ^ k*2:=Int.pow_succ ..;unfold tuTo
   split <;> omega
theorem tu_fin:∀(s v h:Fin 16),((bits .andNot .i64 ((v:Nat):Int) ((s:Nat):Int)==0) && !(tuTo ((s:Nat):Int) ((v:Nat):Int) ((h:Nat):Int) 4==apV ((s:Nat):Int) ((v:Nat):Int) ((h:Nat):Int)))=false:=by decide +kernel
theorem fin16 {x:Int}(h:0≤x∧x<16):∃i:Fin 16,x=((i:Nat):Int):=⟨⟨x.toNat,by omega⟩,by simp;omega⟩
theorem tu_ap {s v h:Int}(hs:0≤s∧s<16)(hv:0≤v∧v<16)(hh:0≤h∧h<16)(hz:(bits .andNot .i64 v s==0)=true):tuTo s v h 4=apV s v h:=by
 obtain⟨a,rfl⟩:=fin16 hs;obtain⟨b,rfl⟩:=fin16 hv;obtain⟨c,rfl⟩:=fin16 hh;have:=tu_fin a b c;rw[hz] at this;simpa using this
def abB (a b:Ru):Bool:=if a.p=b.p then (if a.m=b.m then decide (b.b<a.b) else decide (b.m<a.m)) else decide (b.p<a.p)
theorem ab_ord (a b:Ru):abB a b=decide (0<ordR a b):=by
 have h:ordR a b≤0↔_:=ord_le (a:=a) (b:=b);unfold abB
 split
 ·split <;> (rw[decide_eq_decide];omega)
 rw[decide_eq_decide];omega
theorem above_abB (p m b o s v p' m' b' o' s' v':Int)(w:World):
 Calls Tryz.prog 117 #[.agg #[.int .i64 p,.int .i64 m,.int .i64 b,.int .i64 o,.int .i64 s,.int .i64 v],.agg #[.int .i64 p',.int .i64 m',.int .i64 b',.int .i64 o',.int .i64 s',.int .i64 v']] w fun e w'=>e=.returned (.bool (abB ⟨p,m,b,o,s,v⟩ ⟨p',m',b',o',s',v'⟩))∧Below w.heap.size w w':=by
 by_cases h1:p=p'
 ·subst h1;by_cases h2:m=m'
  ·subst h2;have e:abB ⟨p,m,b,o,s,v⟩ ⟨p,m,b',o',s',v'⟩=decide (b'<b):=by simp[abB]
   rw[e];clear e;go_enter Tryz.func117,Tryz.ntmps117;go_wp2;go_ret;exact⟨rfl,((Below.refl _ _).alloc (Nat.le_refl _) _).alloc (by simp) _⟩
  have e:abB ⟨p,m,b,o,s,v⟩ ⟨p,m',b',o',s',v'⟩=decide (m'<m):=by simp[abB,h2]
  have h3:(m != m')=true:=by simpa using h2
  rw[e];clear e;go_enter Tryz.func117,Tryz.ntmps117;go_wp2;go_ret;exact⟨rfl,((Below.refl _ _).alloc (Nat.le_refl _) _).alloc (by simp) _⟩
 have e:abB ⟨p,m,b,o,s,v⟩ ⟨p',m',b',o',s',v'⟩=decide (p'<p):=by simp[abB,h1]
 have h3:(p != p')=true:=by simpa using h1
 rw[e];clear e;go_enter Tryz.func117,Tryz.ntmps117;go_wp2;go_ret;exact⟨rfl,((Below.refl _ _).alloc (Nat.le_refl _) _).alloc (by simp) _⟩
theorem above_any (p m b o s v p' m' b' o' s' v':Int)(w:World):
 Calls Tryz.prog 117 #[.agg #[.int .i64 p,.int .i64 m,.int .i64 b,.int .i64 o,.int .i64 s,.int .i64 v],.agg #[.int .i64 p',.int .i64 m',.int .i64 b',.int .i64 o',.int .i64 s',.int .i64 v']] w fun e w'=>e=.returned (.bool (decide (0<ordR ⟨p,m,b,o,s,v⟩ ⟨p',m',b',o',s',v'⟩)))∧Below w.heap.size w w':=
 (above_abB p m b o s v p' m' b' o' s' v' w).mono fun e w' h=>⟨by rw[h.1,ab_ord],h.2⟩
theorem be_nextF {L:List Ru}{h:Int}{k:Nat}(x:Int)(hx:x=beTo L h k)(y:Bool)(hy:((L.getD k zeR).has h&&(decide (x<0) || decide (0<ordR (L.getD k zeR) (L.getD x.toNat zeR))))=y):beTo L h (k+1)=if y then (k:Int) else x:=by
 subst hx;rw[beTo,hy]
theorem find_some (g o cap n:Nat)(h:Int)(L:List Ru)(w:World)(hc:RAt w g o L)(hn:L.length=n)(hcap2:n≤maxLen):
 Calls Tryz.prog 68 #[.slice (some ⟨g,o,none⟩) n cap,.int .i64 h] w fun e w'=>e=.returned (.int .i64 (beTo L h n))∧Below w.heap.size w w':=by
 have HN:Hid (L.length=n):=hn;unfold maxLen at hcap2;clear hn;go_enter Tryz.func68,Tryz.ntmps68;go_wp2
 go_loopw [5,6] (fun x i wr=>∃k:Nat,k≤n∧x=.int .i64 (beTo L h k)∧i=.int .i64 k∧Below w.heap.size w wr) (fun _ i _=>n-(intOf i).toNat)
 case atStart=>exact⟨0,by omega,rfl,rfl,Below.refl _ _⟩
 case round =>
  obtain⟨k,hk,rfl,rfl,hB⟩:=hrel;have hbd:=be_bd L h k
  generalize hx:beTo L h k=x at *
  have HX:Hid (x=beTo L h k):=hx.symm;obtain⟨x0,x1⟩:=hbd;clear hx;have HB:Hid (Below w.heap.size w wr):=hB;by_cases hlt:k<n
  ·obtain⟨p,m,b,q,s,v,hkl,hL,q0,q1,q2,q3,q4,q5⟩:=(hc.later hB).at HN.out hlt;have HK:Hid (L.getD k zeR=⟨p,m,b,q,s,v⟩):=(getD_at hkl).trans hL;have HCC:Hid (RAt wr g o L):=hc.later hB;clear hL hB
   go_wp2_with fail
   refine (refHas_any _ _ _ _).mono ?_;rintro e w1 ⟨rfl,hb1⟩;have HCC1:Hid (RAt w1 g o L):=HCC.out.later hb1;have HB1:Hid (Below w.heap.size w w1):=HB.out.trans (hb1.mono HB.out.size);clear hb1 q0 q1 q2 q3 q4 q5 HCC
   generalize hY:hasB m b h=Y
   have HY:Hid (hasB m b h=Y):=hY;clear hY;go_upto_region 6 with fail;have kb0:(0:Int)≤(k:Int):=by omega
   have kb1:(k:Int)<(n:Int):=by omega
   go_cut [36] from 8 to 37 (fun c w'=>c=.bool (Y&&(decide (x<0) || decide (0<ordR (L.getD k zeR) (L.getD x.toNat zeR))))∧Below w.heap.size w w')
   case first =>
    cases Y
    ·refine wp_region_quiet (C:=fun w'=>Below w.heap.size w w') (by kernel_rfl) (by kernel_rfl) (Below.drew HB1.out) ?_;simp only[List.toList_toArray];go_big_quiet_want;refine qv (.bool false) ?_ ?_
     ·rintro w' z0;go_simp
     simp only[Act.put,AP];go_big_quiet_on;go_big_quiet_want;refine qv (.bool false) ?_ ?_
     ·rintro w' z0;go_simp
     simp only[Act.put,AP];go_big_quiet_on;go_big_quiet_skip;go_big_quiet_skip;go_big_quiet_skip;go_big_quiet_skip;go_big_quiet_skip;go_big_quiet_skip;go_big_quiet_skip;go_big_quiet_skip;go_big_quiet_skip;go_big_quiet_skip;go_big_quiet_skip;go_big_quiet_skip;go_big_quiet_skip;go_big_quiet_want;refine qv (.bool false) ?_ ?_
     ·rintro w' z0;go_simp
     simp only[Act.put,AP];go_big_quiet_on;refine wpQuiet_nil ?_;intro w' hC
     go_wp2_with fail
     go_meet
     case rel=>exact⟨rfl,hC⟩
    by_cases hx0:x<0
    ·have hx1:decide (x<0)=true:=by simpa using hx0
     refine wp_region_quiet (C:=fun w'=>Below w.heap.size w w') (by kernel_rfl) (by kernel_rfl) (Below.drew HB1.out) ?_;simp only[List.toList_toArray];go_big_quiet_want;refine qv (.bool true) ?_ ?_
     ·rintro w' z0;go_simp
     simp only[Act.put,AP];go_big_quiet_on;go_big_quiet_want;refine qv (.bool true) ?_ ?_
     ·rintro w' z0;go_simp
     simp only[Act.put,AP];go_big_quiet_on;go_big_quiet_want;refine qv (.int .i64 x) ?_ ?_
     ·rintro w' z0;go_simp
     simp only[Act.put,AP];go_big_quiet_on;go_big_quiet_want;refine qv (.bool true) ?_ ?_
     ·rintro w' z0;go_simp
     simp only[Act.put,AP];go_big_quiet_on;go_big_quiet_want;refine qv (.bool true) ?_ ?_
     ·rintro w' z0;go_simp
     simp only[Act.put,AP];go_big_quiet_on;go_big_quiet_skip;go_big_quiet_skip;go_big_quiet_skip;go_big_quiet_skip;go_big_quiet_skip;go_big_quiet_skip;go_big_quiet_skip;go_big_quiet_skip;go_big_quiet_skip;go_big_quiet_want;refine qv (.bool true) ?_ ?_
     ·rintro w' z0;go_simp
     simp only[Act.put,AP];go_big_quiet_on;go_big_quiet_want;refine qv (.bool true) ?_ ?_
     ·rintro w' z0;go_simp
     simp only[Act.put,AP];go_big_quiet_on;refine wpQuiet_nil ?_;intro w' hC
     go_wp2_with fail
     go_meet
     case rel=>exact⟨by rw[hx1];rfl,hC⟩
    obtain⟨y,hy⟩:∃y:Nat,x=(y:Int):=⟨x.toNat,by omega⟩;have hx2:decide ((y:Int)<0)=false:=by simp
    subst hy;obtain⟨p2,m2,b2,q2,s2,v2,hyl,hLy,y0,y1,y2,y3,y4,y5⟩:=HCC1.out.at HN.out (show y<n by omega);obtain⟨p1,m1,b1,q1,s1,v1,hkl1,hLk,r0,r1,r2,r3,r4,r5⟩:=HCC1.out.at HN.out hlt;have E:=HK.out;rw[getD_at hkl1,hLk] at E;simp only[Ru.mk.injEq] at E;obtain⟨rfl,rfl,rfl,rfl,rfl,rfl⟩:=E;have HYL:Hid (L.getD ((y:Nat):Int).toNat zeR=⟨p2,m2,b2,q2,s2,v2⟩):=by
     show L.getD ((y:Nat):Int).toNat zeR=_;rw[Int.toNat_natCast,getD_at hyl,hLy]
    have yb0:(0:Int)≤(y:Int):=by omega
    have yb1:((y:Int))<(n:Int):=by omega
    have hS0:CD w g (o+k*6) p1 m1 b1 q1 s1 v1 g (o+y*6) p2 m2 b2 q2 s2 v2 w1:=⟨HB1.out,⟨r0,r1,r2,r3,r4,r5⟩,y0,y1,y2,y3,y4,y5⟩;clear y0 y1 y2 y3 y4 y5 r0 r1 r2 r3 r4 r5 hLy hLk;refine wp_region_quiet (C:=CD w g (o+k*6) p1 m1 b1 q1 s1 v1 g (o+y*6) p2 m2 b2 q2 s2 v2) (by kernel_rfl) (by kernel_rfl) (CD.later (W:=w1) (Below.drew (Below.refl _ _)) hS0) ?_;simp only[List.toList_toArray];go_big_quiet_want;refine qv (.bool true) ?_ ?_
    ·rintro w' ⟨z0,⟨z1,z2,z3,z4,z5,z6⟩,y1,y2,y3,y4,y5,y6⟩;go_simp
    simp only[Act.put,AP];go_big_quiet_on;go_big_quiet_want;refine qv (.bool true) ?_ ?_
    ·rintro w' ⟨z0,⟨z1,z2,z3,z4,z5,z6⟩,y1,y2,y3,y4,y5,y6⟩;go_simp
    simp only[Act.put,AP];go_big_quiet_on;go_big_quiet_want;refine qv (.int .i64 (y:Int)) ?_ ?_
    ·rintro w' ⟨z0,⟨z1,z2,z3,z4,z5,z6⟩,y1,y2,y3,y4,y5,y6⟩;go_simp
    simp only[Act.put,AP];go_big_quiet_on;go_big_quiet_want;refine qv (.bool false) ?_ ?_
    ·rintro w' ⟨z0,⟨z1,z2,z3,z4,z5,z6⟩,y1,y2,y3,y4,y5,y6⟩;go_simp
    simp only[Act.put,AP];go_big_quiet_on;go_big_quiet_want;refine qv (.bool false) ?_ ?_
    ·rintro w' ⟨z0,⟨z1,z2,z3,z4,z5,z6⟩,y1,y2,y3,y4,y5,y6⟩;go_simp
    simp only[Act.put,AP];go_big_quiet_on;go_big_quiet_want;refine qv (.slice (some ⟨g,o,none⟩) n cap) ?_ ?_
    ·rintro w' ⟨z0,⟨z1,z2,z3,z4,z5,z6⟩,y1,y2,y3,y4,y5,y6⟩;go_simp
    simp only[Act.put,AP];go_big_quiet_on;go_big_quiet_want;refine qv (.int .i64 (k:Int)) ?_ ?_
    ·rintro w' ⟨z0,⟨z1,z2,z3,z4,z5,z6⟩,y1,y2,y3,y4,y5,y6⟩;go_simp
    simp only[Act.put,AP];go_big_quiet_on;go_big_quiet_want;refine qv (.pointer (some ⟨g,o+k*6,none⟩)) ?_ ?_
    ·rintro w' ⟨z0,⟨z1,z2,z3,z4,z5,z6⟩,y1,y2,y3,y4,y5,y6⟩;go_simp
    simp only[Act.put,AP];go_big_quiet_on;go_big_quiet_want;refine qv (.agg #[.int .i64 p1,.int .i64 m1,.int .i64 b1,.int .i64 q1,.int .i64 s1,.int .i64 v1]) ?_ ?_
    ·rintro w' ⟨z0,⟨z1,z2,z3,z4,z5,z6⟩,y1,y2,y3,y4,y5,y6⟩;go_simp
    simp only[Act.put,AP];go_big_quiet_on;go_big_quiet_want;refine qv (.slice (some ⟨g,o,none⟩) n cap) ?_ ?_
    ·rintro w' ⟨z0,⟨z1,z2,z3,z4,z5,z6⟩,y1,y2,y3,y4,y5,y6⟩;go_simp
    simp only[Act.put,AP];go_big_quiet_on;go_big_quiet_want;refine qv (.int .i64 (y:Int)) ?_ ?_
    ·rintro w' ⟨z0,⟨z1,z2,z3,z4,z5,z6⟩,y1,y2,y3,y4,y5,y6⟩;go_simp
    simp only[Act.put,AP];go_big_quiet_on;go_big_quiet_want;refine qv (.pointer (some ⟨g,o+y*6,none⟩)) ?_ ?_
    ·rintro w' ⟨z0,⟨z1,z2,z3,z4,z5,z6⟩,y1,y2,y3,y4,y5,y6⟩;go_simp
    simp only[Act.put,AP];go_big_quiet_on;go_big_quiet_want;refine qv (.agg #[.int .i64 p2,.int .i64 m2,.int .i64 b2,.int .i64 q2,.int .i64 s2,.int .i64 v2]) ?_ ?_
    ·rintro w' ⟨z0,⟨z1,z2,z3,z4,z5,z6⟩,y1,y2,y3,y4,y5,y6⟩;go_simp
    simp only[Act.put,AP];go_big_quiet_on;go_big_quiet_want;refine quiet_call (f:=117) (args:=#[.agg #[.int .i64 p1,.int .i64 m1,.int .i64 b1,.int .i64 q1,.int .i64 s1,.int .i64 v1],.agg #[.int .i64 p2,.int .i64 m2,.int .i64 b2,.int .i64 q2,.int .i64 s2,.int .i64 v2]]) (v:=.bool (decide (0<ordR ⟨p1,m1,b1,q1,s1,v1⟩ ⟨p2,m2,b2,q2,s2,v2⟩))) (fun w'=>?_) (fun w' hC=>(above_any p1 m1 b1 q1 s1 v1 p2 m2 b2 q2 s2 v2 w').mono (fun e w2 h2=>⟨h2.1,CD.later h2.2 hC⟩)) ?_
    ·go_simp
    simp only[Act.put,AP];go_big_quiet_on;go_big_quiet_want;refine qv (.bool (decide (0<ordR ⟨p1,m1,b1,q1,s1,v1⟩ ⟨p2,m2,b2,q2,s2,v2⟩))) ?_ ?_
    ·rintro w' ⟨z0,⟨z1,z2,z3,z4,z5,z6⟩,y1,y2,y3,y4,y5,y6⟩;go_simp
    simp only[Act.put,AP];go_big_quiet_on;go_big_quiet_want;refine qv (.bool (decide (0<ordR ⟨p1,m1,b1,q1,s1,v1⟩ ⟨p2,m2,b2,q2,s2,v2⟩))) ?_ ?_
    ·rintro w' ⟨z0,⟨z1,z2,z3,z4,z5,z6⟩,y1,y2,y3,y4,y5,y6⟩;go_simp
    simp only[Act.put,AP];go_big_quiet_on;refine wpQuiet_nil ?_;intro w' hC
    go_wp2_with fail
    go_meet
    case rel=>exact⟨by rw[HYL.out,HK.out,hx2];rfl,hC.1⟩
   case rest =>
    obtain⟨hc2,hB2⟩:=hcut;have HYY:Hid (beTo L h (k+1)=if (Y&&(decide (x<0) || decide (0<ordR (L.getD k zeR) (L.getD x.toNat zeR)))) then (k:Int) else x):=be_nextF x HX.out _ (by rw[HK.out,←HY.out];rfl);clear HCC1
    generalize (Y&&(decide (x<0) || decide (0<ordR (L.getD k zeR) (L.getD x.toNat zeR))))=Z at *
    subst hc2;cases Z
    ·go_wp2;go_roundw
     case rel=>exact⟨k+1,by omega,by rw[HYY.out];rfl,by go_num,hB2⟩
     case measure=>simp[intOf];omega
    go_wp2;go_roundw
    case rel=>exact⟨k+1,by omega,by rw[HYY.out];rfl,by go_num,hB2⟩
    case measure=>simp[intOf];omega
  obtain rfl:k=n:=by omega
  go_wp2;go_ret;exact⟨by rw[←HX.out];rfl,HB.out⟩
theorem find_nil (ao:Option Addr)(cap:Nat)(h:Int)(w:World):
 Calls Tryz.prog 68 #[.slice ao 0 cap,.int .i64 h] w fun e w'=>e=.returned (.int .i64 (-1))∧Below w.heap.size w w':=by
 go_enter Tryz.func68,Tryz.ntmps68;go_wp2
 go_loopw [5,6] (fun x i wr=>x=.int .i64 (-1)∧i=.int .i64 0∧wr=w) (fun _ i _=>0)
 case atStart=>exact⟨rfl,rfl,rfl⟩
 case round =>
  obtain⟨rfl,rfl,rfl⟩:=hrel;go_wp2;go_ret;exact⟨rfl,Below.refl _ _⟩
theorem find_any (x:Value)(L:List Ru)(h:Int)(w:World)(hs:SR w x L):
 Calls Tryz.prog 68 #[x,.int .i64 h] w fun e w'=>e=.returned (.int .i64 (beTo L h L.length))∧Below w.heap.size w w':=by
 rcases hs with ⟨ao,cap,rfl,rfl⟩ | ⟨g,o,cap,rfl,h1,h2,hc⟩
 ·exact find_nil ao cap h w
 exact find_some g o cap _ h L w hc rfl (Nat.le_trans h1 h2)
theorem ediv_pow (x:Int)(k:Nat):x / 2 ^ k / 2=x / 2 ^ (k+1):=by
 rw[Int.ediv_ediv_of_nonneg (Int.pow_nonneg (by decide)),←Int.pow_succ]
theorem refBit_any (x i:Int)(w:World)(hx:0≤x∧x<16)(hi:0≤i∧i≤3):
 Calls Tryz.prog 118 #[.int .i64 x,.int .i64 i] w fun e w'=>e=.returned (.bool (bitB x i.toNat))∧w'=w:=by
 obtain⟨hx0,hx1⟩:=hx;obtain⟨hi0,hi1⟩:=hi;go_enter Tryz.func118,Tryz.ntmps118;go_wp2
 go_loop [0,5] (fun v p=>∃k:Nat,(k:Int)≤i∧p=.int .i64 k∧v=.int .i64 (x / 2 ^ k)) (fun _ p=>(i-intOf p).toNat)
 case atStart=>exact⟨0,by omega,rfl,by simp⟩
 case round =>
  obtain⟨k,hk,rfl,rfl⟩:=hrel;have hE:0≤x / 2 ^ k:=Int.ediv_nonneg hx0 (Int.pow_nonneg (by decide));have hE2:x / 2 ^ k<16:=Int.lt_of_le_of_lt (Int.ediv_le_self _ hx0) hx1;have HP:Hid (x / 2 ^ k / 2=x / 2 ^ (k+1)):=ediv_pow x k;by_cases hlt:(k:Int)<i
  ·generalize x / 2 ^ k=y at *
   go_wp2
   go_round
   case rel=>exact⟨k+1,by omega,by go_num,by rw[←HP.out]⟩
   case measure=>simp[intOf];omega
  have hk2:i.toNat=k:=by omega
  have HB:Hid (bitB x i.toNat=(x / 2 ^ k % 2==1)):=by show _=_;rw[hk2];rfl
  clear hk2
  generalize x / 2 ^ k=y at *
  go_wp2;go_ret;refine⟨?_,rfl⟩;rw[HB.out];rfl
theorem turned_any (p m b o s v h:Int)(w:World)(hs:0≤s∧s<16)(hv:0≤v∧v<16)(hh:0≤h∧h<16):
 Calls Tryz.prog 71 #[.agg #[.int .i64 p,.int .i64 m,.int .i64 b,.int .i64 o,.int .i64 s,.int .i64 v],.int .i64 h] w fun e w'=>e=.returned (.int .i64 (tuTo s v h 4))∧Below w.heap.size w w':=by
 go_enter Tryz.func71,Tryz.ntmps71;go_wp2
 go_loop [5,6] (fun t i=>∃k:Nat,k≤4∧i=.int .i64 (3-k)∧t=.int .i64 (tuTo s v h k)) (fun _ i=>(intOf i+1).toNat)
 case atStart=>exact⟨0,by omega,rfl,rfl⟩
 case round =>
  obtain⟨k,hk,rfl,rfl⟩:=hrel;have hbd:=tu_bd s v h k;have hp:(2:Int) ^ k≤16:=by
   rcases (by omega:k=0∨k=1∨k=2∨k=3∨k=4) with rfl | rfl | rfl | rfl | rfl <;> decide
  have b0:=hbd.1;have b1:tuTo s v h k<16:=Int.lt_of_lt_of_le hbd.2 hp;clear hp hbd;by_cases hlt:k<4
  ·have hi:(3-(k:Int)).toNat=3-k:=by omega
   have HI:Hid ((3-(k:Int)).toNat=3-k):=hi;have HT:Hid (tuTo s v h (k+1)=if (bitB s (3-k)&&bitB v (3-k) || !bitB s (3-k)&&bitB h (3-k)) then tuTo s v h k*2+1 else tuTo s v h k*2):=by
    show tuTo s v h (k+1)=_;rfl
   clear hi
   generalize tuTo s v h k=T at *
   go_wp2_with fail
   refine (refBit_any _ _ _ hs (by omega)).mono ?_;rintro e w' ⟨rfl,rfl⟩;rw[HI.out]
   go_wp2_with fail
   refine (refBit_any _ _ _ hv (by omega)).mono ?_;rintro e w' ⟨rfl,rfl⟩;rw[HI.out]
   go_wp2_with fail
   refine (refBit_any _ _ _ hh (by omega)).mono ?_;rintro e w' ⟨rfl,rfl⟩;rw[HI.out]
   generalize bitB s (3-k)=X at *
   generalize bitB v (3-k)=Y at *
   generalize bitB h (3-k)=Z at *
   cases X <;> cases Y <;> cases Z
   all_goals
    go_wp2
    go_round
    case rel=>exact⟨k+1,by omega,by go_num,by rw[HT.out];rfl⟩
    case measure=>simp[intOf];omega
  obtain rfl:k=4:=by omega
  go_wp2;go_ret;exact⟨rfl,(Below.refl _ _).alloc (Nat.le_refl _) _⟩
def beR (t:List Ru)(h:Int):Ru:=t.getD (beTo t h t.length).toNat zeR
theorem ok_at {L:List Ru}(h:okR L=true){k:Nat}(hk:k<L.length):(L.getD k zeR).ok=true:=by
 rw[getD_at hk];exact List.all_eq_true.1 h _ (List.getElem_mem hk)
theorem be_ok {t:List Ru}{h:Int}(ht:tbN t=0)(hh:hdrB h=true)(hb:0≤beTo t h t.length):luN t h=0∧roR t h=beR t h∧(beR t h).ok=true∧(beR t h).has h=true∧(beTo t h t.length).toNat<t.length:=by
 have e:luN t h=0:=lu_0.2 ⟨ht,hh,hb⟩;have e2:luI t h=beTo t h t.length:=by rw[luI,if_pos e]
 have hlt:(beTo t h t.length).toNat<t.length:=by
  have:=be_bd t h t.length;omega
 exact⟨e,by rw[roR,e2];rfl,ok_at (tb_0.1 ht).2.1 hlt,(be_yes hb).1,hlt⟩
theorem st_no {t:List Ru}{p:(Int×Int)×Int}(ht:tbN t=0)(hh:hdrB p.2=true)(hb:beTo t p.2 t.length<0):stT t p=none:=by
 unfold stT;rw[if_neg];intro e;have:=(lu_0.1 e).2.2;omega
theorem ap_mk {r:Ru}{h:Int}(hr:r.ok=true)(hh:hdrB h=true)(hs:r.has h=true):r.apN h=if r.o=0 then 5 else 0:=by
 have e1:ruOk r.p r.m r.b r.o r.s r.v=true:=hr;have e2:hasB r.m r.b h=true:=hs;unfold Ru.apN apN;rw[if_pos e1,if_pos hh,e2];by_cases e:r.o=0
 ·rw[if_pos e];simp[e]
 rw[if_neg e];simp[e]
theorem st_drop {t:List Ru}{p:(Int×Int)×Int}(ht:tbN t=0)(hh:hdrB p.2=true)(hb:0≤beTo t p.2 t.length)(ho:(beR t p.2).o=0):stT t p=none:=by
 obtain⟨e1,e2,e3,e4,_⟩:=be_ok ht hh hb;unfold stT;rw[if_pos e1,e2,ap_mk e3 hh e4,if_pos ho];rfl
theorem st_yes {t:List Ru}{p:(Int×Int)×Int}(ht:tbN t=0)(hh:hdrB p.2=true)(hb:0≤beTo t p.2 t.length)(ho:(beR t p.2).o≠0):
 stT t p=some ((p.1.1,(beR t p.2).o),tuTo (beR t p.2).s (beR t p.2).v p.2 4)∧(0≤(beR t p.2).s∧(beR t p.2).s<16)∧(0≤(beR t p.2).v∧(beR t p.2).v<16):=by
 obtain⟨e1,e2,e3,e4,_⟩:=be_ok ht hh hb;have ha:=ap_mk e3 hh e4;rw[if_neg ho] at ha;have h3:ruOk (beR t p.2).p (beR t p.2).m (beR t p.2).b (beR t p.2).o (beR t p.2).s (beR t p.2).v=true:=e3;obtain⟨g1,_,g3⟩:=ru_ok h3;obtain⟨_,hs,hv⟩:=ru_in g1;simp only[ruSet,Bool.and_eq_true] at g3;refine⟨?_,hs,hv⟩;unfold stT;rw[if_pos e1,e2,if_pos ha,tu_ap hs hv (hdr_of hh) g3.1];have:(beR t p.2).apR p.2=apV (beR t p.2).s (beR t p.2).v p.2:=by
  unfold Ru.apR apR;exact if_pos ha
 rw[this]
theorem go_drewN (w:World)(n:Nat):Below w.heap.size w (w.drewN n):=⟨rfl,rfl,rfl,Nat.le_refl _,fun _ _=>rfl⟩
def gnF (Ls:List ((Int×Int)×(Int×Int)))(Hs:List (ByteArray×(Int×Int)))(t:List Ru)(l:List ((Int×Int)×Int)):(Int×ByteArray×List ((Int×Int)×Int))×Bool:=
 match goE Ls Hs t l (laH l) with
 | .inl e=>((e.1,e.2,l),false)
 | .inr q=>((0,ByteArray.empty,l++[q]),true)
section
variable {Ls:List ((Int×Int)×(Int×Int))}{Hs:List (ByteArray×(Int×Int))}{t:List Ru}{l:List ((Int×Int)×Int)}{q:(Int×Int)×Int}
theorem gn_2 (h:stT t (laH l)=none):gnF Ls Hs t l=((2,ByteArray.empty,l),false):=by
 have e:goE Ls Hs t l (laH l)=.inl (2,ByteArray.empty):=by
  unfold goE;rw[h]
 unfold gnF;rw[e]
theorem gn_1 (h:stT t (laH l)=some q){m:ByteArray}(ha:atO Hs q.1=some m):gnF Ls Hs t l=((1,m,l),false):=by
 have e:goE Ls Hs t l (laH l)=.inl (1,m):=by
  unfold goE;rw[h];simp only[ha]
 unfold gnF;rw[e]
theorem gn_3 (h:stT t (laH l)=some q)(ha:atO Hs q.1=none)(hp:peerO Ls q.1=none):gnF Ls Hs t l=((3,ByteArray.empty,l),false):=by
 have e:goE Ls Hs t l (laH l)=.inl (3,ByteArray.empty):=by
  unfold goE;rw[h];simp only[ha,hp]
 unfold gnF;rw[e]
theorem gn_4 (h:stT t (laH l)=some q)(ha:atO Hs q.1=none){s:Int×Int}(hp:peerO Ls q.1=some s)(h4:l.length=24∨(l.any fun x=>heB (s,q.2) x)=true):gnF Ls Hs t l=((4,ByteArray.empty,l),false):=by
 have e:goE Ls Hs t l (laH l)=.inl (4,ByteArray.empty):=by
  unfold goE;rw[h];simp only[ha,hp];rw[if_pos h4]
 unfold gnF;rw[e]
theorem gn_n (h:stT t (laH l)=some q)(ha:atO Hs q.1=none){s:Int×Int}(hp:peerO Ls q.1=some s)(h4:l.length≠24)(h5:(l.any fun x=>heB (s,q.2) x)=false):gnF Ls Hs t l=((0,ByteArray.empty,l++[(s,q.2)]),true):=by
 have e:goE Ls Hs t l (laH l)=.inr (s,q.2):=by
  unfold goE;rw[h];simp only[ha,hp];rw[if_neg];rw[not_or,h5];exact⟨h4,by simp⟩
 unfold gnF;rw[e]
end
theorem he_sy (a b:(Int×Int)×Int):heB a b=hopB b a:=by
 rw[Bool.eq_iff_iff,heB_iff,hopB_iff];exact eq_comm
structure GB (w W:World)(S:Int)(v1 v2 u:Value):Prop where
 below:Below w.heap.size w W
 t:TBox W w.heap.size S v1 v2
 f0:W.cell? ⟨w.heap.size+1,0,none⟩=some (.int .i64 0)
 f1:W.cell? ⟨w.heap.size+1,1,none⟩=some (.string ⟨#[]⟩)
 f2:W.cell? ⟨w.heap.size+1,2,none⟩=some u
 ff:∀i,W.frozen? ⟨w.heap.size+1,i,none⟩=false
 r0:W.cell? ⟨w.heap.size+1+1,0,none⟩=some (.int .i64 0)
 r1:W.cell? ⟨w.heap.size+1+1,1,none⟩=some (.string ⟨#[]⟩)
 r2:W.cell? ⟨w.heap.size+1+1,2,none⟩=some (.slice none 0 0)
 rf:∀i,W.frozen? ⟨w.heap.size+1+1,i,none⟩=false
theorem GB.lt {w W:World}{S:Int}{v1 v2 u:Value}(k:GB w W S v1 v2 u):w.heap.size+3≤W.heap.size:=World.block_lt_of_cell? W ⟨w.heap.size+1+1,0,none⟩ k.r0
theorem GB.later {w W W':World}{S:Int}{v1 v2 u:Value}(k:GB w W S v1 v2 u){B:Nat}(hB:w.heap.size+3≤B)(hb:Below B W W'):GB w W' S v1 v2 u:=
 have hc:∀(g i:Nat) (x:Value),g<w.heap.size+3→W.cell? ⟨g,i,none⟩=some x→W'.cell? ⟨g,i,none⟩=some x:=fun g i x hg e=>(hb.cell (p:=⟨g,i,none⟩) (show g<B by omega)).trans e
 ⟨k.below.trans (hb.mono (by omega)),⟨hc _ _ _ (by omega) k.t.1,hc _ _ _ (by omega) k.t.2.1,hc _ _ _ (by omega) k.t.2.2⟩,hc _ _ _ (by omega) k.f0,hc _ _ _ (by omega) k.f1,hc _ _ _ (by omega) k.f2,fun i=>(hb.frozen (p:=⟨w.heap.size+1,i,none⟩) (show w.heap.size+1<B by omega)).trans (k.ff i),hc _ _ _ (by omega) k.r0,hc _ _ _ (by omega) k.r1,hc _ _ _ (by omega) k.r2,fun i=>(hb.frozen (p:=⟨w.heap.size+1+1,i,none⟩) (show w.heap.size+1+1<B by omega)).trans (k.rf i)⟩
theorem gb_new (w:World)(S:Int)(v1 v2 u:Value):GB w (((w.alloc (Obj.cells #[.int .i64 S,v1,v2] 25)).alloc (Obj.cells #[.int .i64 0,.string ⟨#[]⟩,u] 77)).alloc (Obj.cells #[.int .i64 0,.string ⟨#[]⟩,.slice none 0 0] 77)) S v1 v2 u:=by
 have hb:∀(W:World) (o:Obj),Below W.heap.size W (W.alloc o):=fun W o=>(Below.refl _ _).alloc (Nat.le_refl _) _
 have ht:=tbox_new w S v1 v2 25;have e1:(w.alloc (Obj.cells #[.int .i64 S,v1,v2] 25)).heap.size=w.heap.size+1:=by simp
 have b1:=hb w (Obj.cells #[.int .i64 S,v1,v2] 25)
 generalize w.alloc (Obj.cells #[.int .i64 S,v1,v2] 25)=A at ht e1 b1
 have hf:=vat_new A [.int .i64 0,.string ⟨#[]⟩,u] 77;have zf:=froz_new2 A #[.int .i64 0,.string ⟨#[]⟩,u] 77;have e2:(A.alloc (Obj.cells #[.int .i64 0,.string ⟨#[]⟩,u] 77)).heap.size=w.heap.size+1+1:=by simp[e1]
 have b2:=hb A (Obj.cells #[.int .i64 0,.string ⟨#[]⟩,u] 77);rw[e1] at hf zf
 generalize A.alloc (Obj.cells #[.int .i64 0,.string ⟨#[]⟩,u] 77)=C at hf zf e2 b2
 have hr:=vat_new C [.int .i64 0,.string ⟨#[]⟩,.slice none 0 0] 77;have zr:=froz_new2 C #[.int .i64 0,.string ⟨#[]⟩,.slice none 0 0] 77;have b3:=hb C (Obj.cells #[.int .i64 0,.string ⟨#[]⟩,.slice none 0 0] 77);rw[e2] at hr zr;have hf':=hf.later b3;exact⟨(b1.trans (b2.mono (by omega))).trans (b3.mono (by omega)),(ht.later b2).later b3,hf' 0 _ rfl,hf' 1 _ rfl,hf' 2 _ rfl,fun i=>(b3.frozen (p:=⟨w.heap.size+1,i,none⟩) (show w.heap.size+1<C.heap.size by omega)).trans (zf i),hr 0 _ rfl,hr 1 _ rfl,hr 2 _ rfl,zr⟩
theorem rgo_any (S:Int)(ao:Option Addr)(n cap:Nat)(ao2:Option Addr)(n2 cap2:Nat)(a4:Option Addr)(n4 c4:Nat)(ao5:Option Addr)(m cap5:Nat)(Ls:List ((Int×Int)×(Int×Int)))(Hs:List (ByteArray×(Int×Int)))(t:List Ru)(l:List ((Int×Int)×Int))(w:World)
 (hL:GS lnkE w (.slice ao n cap) Ls) (hH:GS hstE w (.slice ao2 n2 cap2) Hs) (hS:SR w (.slice a4 n4 c4) t) (hG:GS hopE w (.slice ao5 m cap5) l) (ht:tbN t=0) (hh:hdrB (laH l).2=true) (hl0:0<m) (hl24:m≤24):
 Calls Tryz.prog 43 #[.agg #[.int .i64 S,.slice ao n cap,.slice ao2 n2 cap2],.slice a4 n4 c4,.agg #[.int .i64 0,.string ⟨#[]⟩,.slice ao5 m cap5]] w fun e w'=>∃ao6 n6 cap6,e=.returned (.tuple #[.agg #[.int .i64 (gnF Ls Hs t l).1.1,.string (gnF Ls Hs t l).1.2.1,.slice ao6 n6 cap6],.bool (gnF Ls Hs t l).2])∧GS hopE w' (.slice ao6 n6 cap6) (gnF Ls Hs t l).1.2.2∧Below w.heap.size w w'∧(ao6=ao5∨∀g o,ao6=some ⟨g,o,none⟩→w.heap.size≤g):=by
 have hm:=hG.len;have HML:Hid (l.length=m):=hm;have HLW:Hid (∀W,Below w.heap.size w W→GS lnkE W (.slice ao n cap) Ls):=fun W hb=>hL.later hb
 have HHW:Hid (∀W,Below w.heap.size w W→GS hstE W (.slice ao2 n2 cap2) Hs):=fun W hb=>hH.later hb
 have HSW:Hid (∀W,Below w.heap.size w W→SR W (.slice a4 n4 c4) t):=fun W hb=>hS.later hb
 have HGW:Hid (∀W,Below w.heap.size w W→GS hopE W (.slice ao5 m cap5) l):=fun W hb=>hG.later hb
 have HTB:Hid (tbN t=0):=ht;have HHB:Hid (∀g o,0<n2→ao2=some ⟨g,o,none⟩→g<w.heap.size):=fun g o h1 h2=>by
  obtain⟨_,_,_,e7,h3,_,_,h4⟩:=hH.form;cases e7;obtain⟨g',o',e8,h5,_⟩:=h4 h1;rw[h2] at e8;cases e8;obtain⟨_,_,_,_,_,k0,_,_⟩:=hst_at h5 h3 h1;exact World.block_lt_of_cell? _ _ k0
 obtain⟨F,hF⟩:∃F,F=gnF Ls Hs t l:=⟨_,rfl⟩;have HF:Hid (F=gnF Ls Hs t l):=hF;rw[←hF];obtain⟨_,_,_,e5,_,_,_,hGa⟩:=hG.form;cases e5;obtain⟨g5,o5,hao5,hc5,_⟩:=hGa hl0;subst hao5;have HC5:Hid (∀W,Below w.heap.size w W→GAt hopE W g5 o5 l):=fun W hb=>hc5.later hb
 have hX:=gb_new w S (.slice ao n cap) (.slice ao2 n2 cap2) (.slice (some ⟨g5,o5,none⟩) m cap5);obtain⟨w0,hw0⟩:∃W,((w.alloc (Obj.cells #[.int .i64 S,.slice ao n cap,.slice ao2 n2 cap2] 25)).alloc (Obj.cells #[.int .i64 0,.string ⟨#[]⟩,.slice (some ⟨g5,o5,none⟩) m cap5] 77)).alloc (Obj.cells #[.int .i64 0,.string ⟨#[]⟩,.slice none 0 0] 77)=W:=⟨_,rfl⟩;rw[hw0] at hX;have HX:Hid (GB w w0 S (.slice ao n cap) (.slice ao2 n2 cap2) (.slice (some ⟨g5,o5,none⟩) m cap5)):=hX;have HW0:Hid (((w.alloc (Obj.cells #[.int .i64 S,.slice ao n cap,.slice ao2 n2 cap2] 25)).alloc (Obj.cells #[.int .i64 0,.string ⟨#[]⟩,.slice (some ⟨g5,o5,none⟩) m cap5] 77)).alloc (Obj.cells #[.int .i64 0,.string ⟨#[]⟩,.slice none 0 0] 77)=w0):=hw0;obtain⟨p0,p1,p2,hkl,hLk,_,_,_⟩:=hop_at hc5 hm (show m-1<m by omega);have hla:laH l=((p0,p1),p2):=by
  have e:laH l=l[m-1]:=by
   unfold laH;rw[hm];simp[List.getD,hkl]
  rw[e,hLk]
 have HLA:Hid (laH l=((p0,p1),p2)):=hla;rw[hla] at hh;have HH:Hid (hdrB p2=true):=hh;have hmi:IntKind.i64.wrap ((m:Int)-1)=((m-1:Nat):Int):=by
  rw[show (m:Int)-1=((m-1:Nat):Int) by omega];exact wrap_small (by omega) (by omega)
 have mb0:(0:Int)≤((m-1:Nat):Int):=by omega
 have mb1:((m-1:Nat):Int)<(m:Int):=by omega
 obtain⟨p0',p1',p2',hkl',hLk',c0,c1,c2⟩:=hop_at (HC5.out _ hX.below) hm (show m-1<m by omega);rw[hLk] at hLk';cases hLk';obtain⟨w1,hw1⟩:∃W,w0.alloc (Obj.cells #[.int .i64 p0,.int .i64 p1,.int .i64 p2] 74)=W:=⟨_,rfl⟩;obtain⟨g1,hg1⟩:∃g,w0.heap.size=g:=⟨_,rfl⟩;have hb1:Below w0.heap.size w0 w1:=by
  rw[←hw1];exact (Below.refl _ _).alloc (Nat.le_refl _) _
 have hv1:=hop_new w0 p0 p1 p2 74;rw[hw1,hg1] at hv1;have HX1:Hid (GB w w1 S (.slice ao n cap) (.slice ao2 n2 cap2) (.slice (some ⟨g5,o5,none⟩) m cap5)):=hX.later hX.lt hb1;have HV1:Hid (VAt w1 g1 0 (hopE.c ((p0,p1),p2))):=hv1;have HW1:Hid (w0.alloc (Obj.cells #[.int .i64 p0,.int .i64 p1,.int .i64 p2] 74)=w1):=hw1;have HG1:Hid (w0.heap.size=g1):=hg1;clear hL hH hS hG ht hF hGa hc5 hw0 hkl hLk hla hh hkl' hw1 hg1 hb1 hv1 hm;obtain⟨_,⟨b0,b1,b2⟩,f0,f1,f2,_,_,_,_,_⟩:=hX;go_enter Tryz.func43,Tryz.ntmps43;go_upto_region 1 with fail;rw[HW0.out];go_upto_region 2 with fail;rw[HW1.out,HG1.out];obtain⟨t0,t1,t2⟩:=hop_cells HV1.out;simp only[Nat.zero_add] at t0 t1 t2;clear HW0 HW1 HG1 b0 b1 b2 f0 f1 f2 c0 c1 c2 HX
 go_wp2_with fail
 refine (find_any (.slice a4 n4 c4) t p2 _ (HSW.out _ HX1.out.below)).mono ?_;rintro e w2 ⟨rfl,hb2⟩;have HX2:Hid (GB w w2 S (.slice ao n cap) (.slice ao2 n2 cap2) (.slice (some ⟨g5,o5,none⟩) m cap5)):=HX1.out.later HX1.out.lt hb2;have HV2:Hid (VAt w2 g1 0 (hopE.c ((p0,p1),p2))):=HV1.out.later hb2;obtain⟨I,hI⟩:∃I,I=beTo t p2 t.length:=⟨_,rfl⟩;have HI:Hid (beTo t p2 t.length=I):=hI.symm;rw[←hI];obtain⟨t0,t1,t2⟩:=hop_cells HV2.out;simp only[Nat.zero_add] at t0 t1 t2;clear hb2 hI HX1 HV1;by_cases hneg:I<0
 ·have e1:decide (I<0)=true:=by simpa using hneg
  have HF2:Hid (F=((2,ByteArray.empty,l),false)):=by
   show _=_;rw[HF.out];refine gn_2 ?_;rw[HLA.out];exact st_no HTB.out HH.out (by rw[HI.out];exact hneg)
  obtain⟨hBw,⟨b0,b1,b2⟩,f0,f1,f2,ff,r0,r1,r2,rf⟩:=HX2.out;have HBw:Hid (Below w.heap.size w w2):=hBw;have ff0:=ff 0;have rf0:=rf 0;have rf1:=rf 1;have rf2:=rf 2;clear ff rf hBw;go_wp2;have HBE:Hid (∀u a b c,Below w.heap.size w (put3 (w2.setCell ⟨w.heap.size+1,0,none⟩ u) (w.heap.size+1+1) a b c)):=fun u a b c=>below_put3 (HBw.out.setCell (p:=⟨w.heap.size+1,0,none⟩) (show w.heap.size≤w.heap.size+1 by omega) u) _ (by omega) _ _ _
  refine bodyPost_ret (v:=.tuple #[.agg #[.int .i64 2,.string ⟨#[]⟩,.slice (some ⟨g5,o5,none⟩) m cap5],.bool false]) (by simp[results,Tryz.results43,go_sem, *]) rfl ⟨_,_,_,by rw[HF2.out];rfl,?_,HBE.out _ _ _ _,.inl rfl⟩;rw[HF2.out];exact HGW.out _ (HBE.out _ _ _ _)
 have e1:decide (I<0)=false:=by simpa using hneg
 have hbd:=be_bd t p2 t.length;rw[HI.out] at hbd;obtain⟨j,rfl⟩:∃j:Nat,I=(j:Int):=⟨I.toNat,by omega⟩;have hjl:j<t.length:=by omega
 obtain⟨_,_,_,e4,hn4,hm4,_,ha4⟩:=(HSW.out _ HX2.out.below).form;cases e4;obtain⟨g4,o4,hao4,hc4,_⟩:=ha4 (by omega);subst hao4;have hjn:j<n4:=by omega
 obtain⟨rp,rm,rb,ro,rs,rv,hl,hLj,q0,q1,q2,q3,q4,q5⟩:=hc4.at hn4 hjn;have hbe:beR t p2=⟨rp,rm,rb,ro,rs,rv⟩:=by
  rw[beR,HI.out,Int.toNat_natCast,getD_at hjl,hLj]
 have HBE:Hid (beR t p2=⟨rp,rm,rb,ro,rs,rv⟩):=hbe;have HLJ:Hid (t[j]=⟨rp,rm,rb,ro,rs,rv⟩):=hLj;have HN4:Hid (t.length=n4):=hn4;have HB0:Hid (0≤beTo t p2 t.length):=by
  show _≤_;rw[HI.out];omega
 have jb0:(0:Int)≤(j:Int):=by omega
 have jb1:(j:Int)<(n4:Int):=by omega
 have hj0:¬(j:Int)<0:=by omega
 clear hneg hbd hn4 hm4 ha4 hc4 hLj hbe;by_cases ho:ro=0
 ·have e2:(ro==0)=true:=by simp[ho]
  have HF2:Hid (F=((2,ByteArray.empty,l),false)):=by
   show _=_;rw[HF.out];refine gn_2 ?_;rw[HLA.out];exact st_drop HTB.out HH.out HB0.out (by rw[HBE.out];exact ho)
  clear ho;obtain⟨hBw,⟨b0,b1,b2⟩,f0,f1,f2,ff,r0,r1,r2,rf⟩:=HX2.out;have HBw:Hid (Below w.heap.size w w2):=hBw;have ff0:=ff 0;have rf0:=rf 0;have rf1:=rf 1;have rf2:=rf 2;clear ff rf hBw;go_wp2;have HBE:Hid (∀u a b c,Below w.heap.size w (put3 (w2.setCell ⟨w.heap.size+1,0,none⟩ u) (w.heap.size+1+1) a b c)):=fun u a b c=>below_put3 (HBw.out.setCell (p:=⟨w.heap.size+1,0,none⟩) (show w.heap.size≤w.heap.size+1 by omega) u) _ (by omega) _ _ _
  refine bodyPost_ret (v:=.tuple #[.agg #[.int .i64 2,.string ⟨#[]⟩,.slice (some ⟨g5,o5,none⟩) m cap5],.bool false]) (by simp[results,Tryz.results43,go_sem, *]) rfl ⟨_,_,_,by rw[HF2.out];rfl,?_,HBE.out _ _ _ _,.inl rfl⟩;rw[HF2.out];exact HGW.out _ (HBE.out _ _ _ _)
 have e2:(ro==0)=false:=by simpa using ho
 obtain⟨k1,k2,k3⟩:=st_yes (p:=((p0,p1),p2)) HTB.out HH.out HB0.out (by rw[HBE.out];exact ho);rw[HBE.out] at k1 k2 k3;simp only at k1 k2 k3;obtain⟨TU,hTU⟩:∃u,u=tuTo rs rv p2 4:=⟨_,rfl⟩;have HTU:Hid (tuTo rs rv p2 4=TU):=hTU.symm;rw[←hTU] at k1;have HST:Hid (stT t (laH l)=some ((p0,ro),TU)):=by
  show _=_;rw[HLA.out];exact k1
 have HRS:Hid (0≤rs∧rs<16):=k2;have HRV:Hid (0≤rv∧rv<16):=k3;have y1:g1<w2.heap.size:=World.block_lt_of_cell? _ _ t0;have y4:g4<w2.heap.size:=World.block_lt_of_cell? _ _ q0;clear ho k1 k2 k3 hTU;go_upto_region 6 with fail
 go_cut [10] from 42 to 50 (fun p w'=>∃g,p=.pointer (some ⟨g,0,none⟩)∧(w'.cell? ⟨g,0,none⟩=some (.int .i64 p0)∧w'.cell? ⟨g,1,none⟩=some (.int .i64 ro))∧Below w2.heap.size w2 w')
 case first =>
  as_aux_lemma =>
   go_region
   all_goals (go_wp2_with fail;go_meet)
   all_goals exact⟨_,rfl,⟨by simp,by simp⟩,(Below.drew (Below.refl _ _)).alloc (Nat.le_refl _) _⟩
 case rest =>
  obtain⟨gs,rfl,⟨d0,d1⟩,hb3⟩:=hcut;have HX3:Hid (GB w wc S (.slice ao n cap) (.slice ao2 n2 cap2) (.slice (some ⟨g5,o5,none⟩) m cap5)):=HX2.out.later HX2.out.lt hb3;have HV3:Hid (VAt wc g1 0 (hopE.c ((p0,p1),p2))):=HV2.out.later hb3;have HD3:Hid (VAt wc gs 0 [.int .i64 p0,.int .i64 ro]):=by
   intro j u hu
   match j,hu with
   | 0,hu=>cases hu;exact d0
   | 1,hu=>cases hu;exact d1
  obtain⟨w3,hw3⟩:∃X,X=wc:=⟨_,rfl⟩;subst hw3;obtain⟨_,⟨b0,b1,b2⟩,f0,f1,f2,_,_,_,_,_⟩:=HX3.out;clear hb3 HX2 HV2 t0 t1 t2 q0 q1 q2 q3 q4 q5 y1 y4
  go_wp2_with fail
  refine (rhost_any S ao n cap ao2 n2 cap2 Hs p0 ro _ (HHW.out _ HX3.out.below)).mono ?_;rintro e w5 ⟨rfl,hb5⟩;have HX5:Hid (GB w w5 S (.slice ao n cap) (.slice ao2 n2 cap2) (.slice (some ⟨g5,o5,none⟩) m cap5)):=HX3.out.later HX3.out.lt hb5;have HV5:Hid (VAt w5 g1 0 (hopE.c ((p0,p1),p2))):=HV3.out.later hb5;have HD5:Hid (VAt w5 gs 0 [.int .i64 p0,.int .i64 ro]):=HD3.out.later hb5;clear hb5 HX3 HV3 HD3 b0 b1 b2 f0 f1 f2 d0 d1
  rcases at_ix Hs (p0,ro) with ⟨hi,hat⟩ | ⟨k,hk,hi,hat⟩
  ·rw[show atN Hs (p0,ro) = -1 from hi];have HAT:Hid (atO Hs (p0,ro)=none):=hat;obtain⟨_,⟨b0,b1,b2⟩,f0,f1,f2,_,_,_,_,_⟩:=HX5.out;have d0:w5.cell? ⟨gs,0,none⟩=some (.int .i64 p0):=HD5.out 0 _ rfl;have d1:w5.cell? ⟨gs,1,none⟩=some (.int .i64 ro):=HD5.out 1 _ rfl;clear hi hat
   go_wp2_with fail
   refine (rpeer_any S ao n cap ao2 n2 cap2 Ls p0 ro _ (HLW.out _ HX5.out.below)).mono ?_;rintro e w6 ⟨rfl,hb6⟩;obtain⟨P,hP⟩:∃P,P=peerO Ls (p0,ro):=⟨_,rfl⟩;have HP:Hid (peerO Ls (p0,ro)=P):=hP.symm;rw[←hP];have HX6:Hid (GB w w6 S (.slice ao n cap) (.slice ao2 n2 cap2) (.slice (some ⟨g5,o5,none⟩) m cap5)):=HX5.out.later HX5.out.lt hb6;have HV6:Hid (VAt w6 g1 0 (hopE.c ((p0,p1),p2))):=HV5.out.later hb6;clear hb6 hP HX5 HV5 HD5 b0 b1 b2 f0 f1 f2 d0 d1;cases P with
   | none =>
     have HF2:Hid (F=((3,ByteArray.empty,l),false)):=by
      show _=_;rw[HF.out];exact gn_3 HST.out HAT.out HP.out
     simp only[Option.getD_none,Option.isSome_none];have b7:Below w6.heap.size w6 (w6.alloc (Obj.cells #[.int .i64 0,.int .i64 0] 39)):=(Below.refl _ _).alloc (Nat.le_refl _) _;obtain⟨w7,hw7⟩:∃W,w6.alloc (Obj.cells #[.int .i64 0,.int .i64 0] 39)=W:=⟨_,rfl⟩;rw[hw7] at b7;have HX7:Hid (GB w w7 S (.slice ao n cap) (.slice ao2 n2 cap2) (.slice (some ⟨g5,o5,none⟩) m cap5)):=HX6.out.later HX6.out.lt b7;have HW7:Hid (w6.alloc (Obj.cells #[.int .i64 0,.int .i64 0] 39)=w7):=hw7;clear b7 hw7;go_upto_region 13 with fail;rw[HW7.out];clear HW7;obtain⟨hBw,⟨b0,b1,b2⟩,f0,f1,f2,ff,r0,r1,r2,rf⟩:=HX7.out;have HBw:Hid (Below w.heap.size w w7):=hBw;have ff0:=ff 0;have rf0:=rf 0;have rf1:=rf 1;have rf2:=rf 2;clear ff rf hBw;go_wp2;have HBE:Hid (∀u a b c,Below w.heap.size w (put3 (w7.setCell ⟨w.heap.size+1,0,none⟩ u) (w.heap.size+1+1) a b c)):=fun u a b c=>below_put3 (HBw.out.setCell (p:=⟨w.heap.size+1,0,none⟩) (show w.heap.size≤w.heap.size+1 by omega) u) _ (by omega) _ _ _
     refine bodyPost_ret (v:=.tuple #[.agg #[.int .i64 3,.string ⟨#[]⟩,.slice (some ⟨g5,o5,none⟩) m cap5],.bool false]) (by simp[results,Tryz.results43,go_sem, *]) rfl ⟨_,_,_,by rw[HF2.out];rfl,?_,HBE.out _ _ _ _,.inl rfl⟩;rw[HF2.out];exact HGW.out _ (HBE.out _ _ _ _)
   | some s =>
     obtain⟨s1,s2⟩:=s;simp only[Option.getD_some,Option.isSome_some];have b7:Below w6.heap.size w6 (w6.alloc (Obj.cells #[.int .i64 s1,.int .i64 s2] 39)):=(Below.refl _ _).alloc (Nat.le_refl _) _;have v7:=vat_new w6 [.int .i64 s1,.int .i64 s2] 39;obtain⟨w7,hw7⟩:∃W,w6.alloc (Obj.cells #[.int .i64 s1,.int .i64 s2] 39)=W:=⟨_,rfl⟩;obtain⟨g7,hg7⟩:∃g,w6.heap.size=g:=⟨_,rfl⟩;have v7':VAt w7 g7 0 [.int .i64 s1,.int .i64 s2]:=by
      rw[←hw7,←hg7];exact v7
     rw[hw7] at b7;have HX7:Hid (GB w w7 S (.slice ao n cap) (.slice ao2 n2 cap2) (.slice (some ⟨g5,o5,none⟩) m cap5)):=HX6.out.later HX6.out.lt b7;have HV7:Hid (VAt w7 g1 0 (hopE.c ((p0,p1),p2))):=HV6.out.later b7;have HW7:Hid (w6.alloc (Obj.cells #[.int .i64 s1,.int .i64 s2] 39)=w7):=hw7;have HG7:Hid (w6.heap.size=g7):=hg7;have d0:w7.cell? ⟨g7,0,none⟩=some (.int .i64 s1):=v7' 0 _ rfl;have d1:w7.cell? ⟨g7,1,none⟩=some (.int .i64 s2):=v7' 1 _ rfl;obtain⟨t0,t1,t2⟩:=hop_cells HV7.out;simp only[Nat.zero_add] at t0 t1 t2;obtain⟨_,_,_,e4,_,_,_,ha4⟩:=(HSW.out _ HX7.out.below).form;cases e4;obtain⟨g4',o4',hao4,hc4,_⟩:=ha4 (by omega);cases hao4;obtain⟨rp',rm',rb',ro',rs',rv',hl',hLj',q0,q1,q2,q3,q4,q5⟩:=hc4.at HN4.out hjn;rw[HLJ.out] at hLj';cases hLj';have y1:g1<w7.heap.size:=World.block_lt_of_cell? _ _ t0;have y4:g4<w7.heap.size:=World.block_lt_of_cell? _ _ q0;have y7:g7<w7.heap.size:=World.block_lt_of_cell? _ _ d0;have h16:=hdr_of HH.out;have HH16:Hid (0≤p2∧p2<16):=h16;clear b7 v7 hw7 hg7 v7' ha4 hc4 HX6 HV6 h16;go_upto_region 13 with fail;rw[HW7.out,HG7.out];clear HW7 HG7;go_upto_region 16 with fail
     go_cut [14] from 75 to 83 (fun p w'=>∃g,p=.pointer (some ⟨g,0,none⟩)∧(w'.cell? ⟨g,0,none⟩=some (.int .i64 s1)∧w'.cell? ⟨g,1,none⟩=some (.int .i64 s2)∧w'.cell? ⟨g,2,none⟩=some (.int .i64 TU))∧Below w7.heap.size w7 w')
     case first =>
      as_aux_lemma =>
       have HMK:Hid (∀W,Below w7.heap.size w7 W→(fun w'=>Below w7.heap.size w7 w'∧w'.cell? ⟨g7,0,none⟩=some (.int .i64 s1)∧w'.cell? ⟨g7,1,none⟩=some (.int .i64 s2)∧w'.cell? ⟨g4,o4+j*6,none⟩=some (.int .i64 rp)∧w'.cell? ⟨g4,o4+j*6+1,none⟩=some (.int .i64 rm)∧w'.cell? ⟨g4,o4+j*6+2,none⟩=some (.int .i64 rb)∧w'.cell? ⟨g4,o4+j*6+3,none⟩=some (.int .i64 ro)∧w'.cell? ⟨g4,o4+j*6+4,none⟩=some (.int .i64 rs)∧w'.cell? ⟨g4,o4+j*6+5,none⟩=some (.int .i64 rv)∧w'.cell? ⟨g1,2,none⟩=some (.int .i64 p2)) W):=fun W hb=>⟨hb,cell_later hb d0,cell_later hb d1,cell_later hb q0,cell_later hb q1,cell_later hb q2,cell_later hb q3,cell_later hb q4,cell_later hb q5,cell_later hb t2⟩
       go_region_held3 (fun w'=>Below w7.heap.size w7 w'∧w'.cell? ⟨g7,0,none⟩=some (.int .i64 s1)∧w'.cell? ⟨g7,1,none⟩=some (.int .i64 s2)∧w'.cell? ⟨g4,o4+j*6,none⟩=some (.int .i64 rp)∧w'.cell? ⟨g4,o4+j*6+1,none⟩=some (.int .i64 rm)∧w'.cell? ⟨g4,o4+j*6+2,none⟩=some (.int .i64 rb)∧w'.cell? ⟨g4,o4+j*6+3,none⟩=some (.int .i64 ro)∧w'.cell? ⟨g4,o4+j*6+4,none⟩=some (.int .i64 rs)∧w'.cell? ⟨g4,o4+j*6+5,none⟩=some (.int .i64 rv)∧w'.cell? ⟨g1,2,none⟩=some (.int .i64 p2))
        (first | assumption | exact HMK.out _ (Below.drew (Below.refl _ _)) | exact HMK.out _ ((Below.drew (Below.refl _ _)).alloc (Nat.le_refl _) _) | exact HMK.out _ HBX.out | exact HMK.out _ (HBX.out.alloc HBX.out.size _) | exact HMK.out _ (below_put3 HBX.out _ (Nat.le_refl _) _ _ _) | exact HMK.out _ (below_put3 (HBX.out.alloc HBX.out.size _) _ HBX.out.size _ _ _))
        (first | (go_at_call 71;refine (turned_any rp rm rb ro rs rv p2 _ HRS.out HRV.out HH16.out).mono ?_;rintro e w' ⟨rfl,hb⟩;rw[HTU.out];have HBX:Hid (Below w7.heap.size w7 w'):=(by first | exact bdrew hb | exact balloc hb);try (have hbc:=ballocD hb;obtain⟨kc,kf0,kf1,kf2⟩:=hbc;obtain⟨k0,k1,k2⟩:=kc);clear hb))
       all_goals (go_wp2_with fail;go_meet)
       all_goals first
        | exact⟨_,rfl,⟨by simp,by simp,by simp⟩,HBX.out.alloc HBX.out.size _⟩
        | exact⟨_,rfl,put3_cells ⟨k0,k1,k2⟩,below_put3 HBX.out _ (Nat.le_refl _) _ _ _⟩
     case rest =>
      obtain⟨gn,rfl,⟨x0,x1,x2⟩,hb8⟩:=hcut;have HX8:Hid (GB w wc S (.slice ao n cap) (.slice ao2 n2 cap2) (.slice (some ⟨g5,o5,none⟩) m cap5)):=HX7.out.later HX7.out.lt hb8;have HN8:Hid (VAt wc gn 0 (hopE.c ((s1,s2),TU))):=by
       intro j u hu
       match j,hu with
       | 0,hu=>cases hu;exact x0
       | 1,hu=>cases hu;exact x1
       | 2,hu=>cases hu;exact x2
      obtain⟨w8,hw8⟩:∃X,X=wc:=⟨_,rfl⟩;subst hw8;obtain⟨_,⟨b0,b1,b2⟩,f0,f1,f2,_,_,_,_,_⟩:=HX8.out;clear hb8 HX7 HV7 t0 t1 t2 d0 d1 q0 q1 q2 q3 q4 q5 y1 y4 y7 x0 x1 x2;go_wp2;clear b0 b1 b2 f0 f1 f2
      go_loopw [15,16] (fun a i wr=>∃k:Nat,k≤m∧i=.int .i64 k∧a=.bool (decide ((24:Int)≤(m:Int)) || (l.take k).any (fun x=>hopB x ((s1,s2),TU)))∧Below w8.heap.size w8 wr) (fun _ i _=>m-(intOf i).toNat)
      case atStart=>exact⟨0,by omega,rfl,by simp,Below.refl _ _⟩
      case round =>
       obtain⟨k,hk,rfl,rfl,hBr⟩:=hrel;have HXr:Hid (GB w wr S (.slice ao n cap) (.slice ao2 n2 cap2) (.slice (some ⟨g5,o5,none⟩) m cap5)):=HX8.out.later HX8.out.lt hBr;have HNr:Hid (VAt wr gn 0 (hopE.c ((s1,s2),TU))):=HN8.out.later hBr;have HBr:Hid (Below w8.heap.size w8 wr):=hBr;obtain⟨B,hB⟩:∃B,B=(decide ((24:Int)≤(m:Int)) || (l.take k).any (fun x=>hopB x ((s1,s2),TU))):=⟨_,rfl⟩;have HB:Hid ((decide ((24:Int)≤(m:Int)) || (l.take k).any (fun x=>hopB x ((s1,s2),TU)))=B):=hB.symm;rw[←hB];clear hBr hB;by_cases hlt:k<m
       ·obtain⟨_,⟨b0,b1,b2⟩,f0,f1,f2,_,_,_,_,_⟩:=HXr.out;obtain⟨x0,x1,x2⟩:=hop_cells HNr.out;simp only[Nat.zero_add] at x0 x1 x2;obtain⟨y0,y1,y2,hkl,hLk,c0,c1,c2⟩:=hop_at (HC5.out _ HXr.out.below) HML.out hlt;have HNX:Hid ((decide ((24:Int)≤(m:Int)) || (l.take (k+1)).any (fun x=>hopB x ((s1,s2),TU)))=(B || hopB ((y0,y1),y2) ((s1,s2),TU))):=by
         show _=_;rw[←HB.out,List.take_succ_eq_append_getElem hkl,List.any_append,hLk,Bool.or_assoc];simp
        have z1:g5<wr.heap.size:=World.block_lt_of_cell? _ _ c0;have z2:gn<wr.heap.size:=World.block_lt_of_cell? _ _ x0;have z3:w.heap.size+1<wr.heap.size:=World.block_lt_of_cell? _ _ f0;have kb0:(0:Int)≤(k:Int):=by omega
        have kb1:(k:Int)<(m:Int):=by omega
        clear hLk;cases B with
        | true =>
          go_wp2_with fail
          go_quiet (fail)
          go_wp2;go_roundw
          case rel=>exact⟨k+1,by omega,by go_num,by rw[HNX.out];rfl,HBr.out.trans ((go_drewN _ _).mono HBr.out.size)⟩
          case measure=>simp[intOf];omega
        | false =>
          rcases hop_ways y0 y1 y2 s1 s2 TU with ⟨e0,e⟩ | ⟨e0,e4,e⟩ | ⟨e0,e4,e5,e⟩ | ⟨e0,e4,e5,e⟩
          all_goals
           have HE:=e;clear e;rw[HE] at HNX;clear HE
           go_wp2_with fail
           go_quiet (fail)
           go_wp2;go_roundw
           case rel=>exact⟨k+1,by omega,by go_num,by rw[HNX.out];rfl,HBr.out.trans ((go_drewN _ _).mono HBr.out.size)⟩
           case measure=>simp[intOf];omega
       obtain rfl:k=m:=by omega
       have hany:(l.take k).any (fun x=>hopB x ((s1,s2),TU))=(l.any fun x=>heB ((s1,s2),TU) x):=by
        rw[←HML.out,List.take_length]
        congr 1
        funext x
        exact (he_sy _ _).symm
       have hB2:=HB.out;rw[hany] at hB2;have HB2:Hid ((decide ((24:Int)≤(k:Int)) || (l.any fun x=>heB ((s1,s2),TU) x))=B):=hB2;clear hany hB2;obtain⟨_,⟨b0,b1,b2⟩,f0,f1,f2,_,_,_,_,_⟩:=HXr.out;cases B with
       | true =>
         have HF2:Hid (F=((4,ByteArray.empty,l),false)):=by
          show _=_;rw[HF.out];refine gn_4 HST.out HAT.out HP.out ?_;have h1:=HB2.out;rw[Bool.or_eq_true,decide_eq_true_eq] at h1
          rcases h1 with h1 | h1
          ·left;rw[HML.out];omega
          exact .inr h1
         clear b0 b1 b2 f0 f1 f2;obtain⟨hBw,⟨b0,b1,b2⟩,f0,f1,f2,ff,r0,r1,r2,rf⟩:=HXr.out;have HBw:Hid (Below w.heap.size w wr):=hBw;have ff0:=ff 0;have rf0:=rf 0;have rf1:=rf 1;have rf2:=rf 2;clear ff rf hBw;go_wp2;have HBE:Hid (∀u a b c,Below w.heap.size w (put3 (wr.setCell ⟨w.heap.size+1,0,none⟩ u) (w.heap.size+1+1) a b c)):=fun u a b c=>below_put3 (HBw.out.setCell (p:=⟨w.heap.size+1,0,none⟩) (show w.heap.size≤w.heap.size+1 by omega) u) _ (by omega) _ _ _
         refine bodyPost_ret (v:=.tuple #[.agg #[.int .i64 4,.string ⟨#[]⟩,.slice (some ⟨g5,o5,none⟩) k cap5],.bool false]) (by simp[results,Tryz.results43,go_sem, *]) rfl ⟨_,_,_,by rw[HF2.out];rfl,?_,HBE.out _ _ _ _,.inl rfl⟩;rw[HF2.out];exact HGW.out _ (HBE.out _ _ _ _)
       | false =>
         have h1:=HB2.out;rw[Bool.or_eq_false_iff,decide_eq_false_iff_not] at h1;have hk23:k≤23:=by omega
         have HF2:Hid (F=((0,ByteArray.empty,l++[((s1,s2),TU)]),true)):=by
          show _=_;rw[HF.out];exact gn_n HST.out HAT.out HP.out (by rw[HML.out];omega) h1.2
         obtain⟨j0,hj,hy0,hy1,hy2⟩:=info_parts hop_info;clear h1;go_upto_region 26 with fail
         go_wp2_with (at_builtin;refine wpList_append_GS (E:=hopE) _ rfl _ _ 75 74 rfl Tryz.underlying75 j0 (.agg #[.int .i64 0,.int .i64 0,.int .i64 0]) 24 hj hy0 hy1 hy2 hop_zero wr.heap.size (.slice none 0 0) rfl [] (World.ownsRow_nil _ _ _ _) _ rfl l (HGW.out _ HXr.out.below) ?a1 ?a2 ?a3 ?_)
         case a1=>rw[HML.out];unfold maxLen;simp;omega
         case a2=>rw[HML.out];simp;omega
         case a3=>exact Nat.le_refl _
         intro v6 w6 hown6 hgrow6;obtain⟨ao6,cap6,rfl⟩:=own_form hown6;have hb6:Below wr.heap.size wr w6:=(Below.refl _ wr).grown hgrow6 (Nat.le_refl _) (fun g hg=>by cases hg);have HX6:Hid (GB w w6 S (.slice ao n cap) (.slice ao2 n2 cap2) (.slice (some ⟨g5,o5,none⟩) k cap5)):=HXr.out.later HXr.out.lt hb6;have HN6:Hid (VAt w6 gn 0 (hopE.c ((s1,s2),TU))):=HNr.out.later hb6;have HO6:Hid (w6.ownsRow wr.heap.size 74 3 (.slice ao6 k cap6) k (cellsG hopE l)):=hown6;have HB6:Hid (Below wr.heap.size wr w6):=hb6;have hs6:wr.heap.size≤w6.heap.size:=hb6.size;have hr3:w.heap.size+3≤wr.heap.size:=HXr.out.lt;obtain⟨_,⟨b0,b1,b2⟩,f0,f1,f2,_,_,_,_,_⟩:=HX6.out;obtain⟨x0,x1,x2⟩:=hop_cells HN6.out;simp only[Nat.zero_add] at x0 x1 x2;clear hb6 hgrow6 hown6;go_upto_region 27 with fail
         go_wp2_with (at_builtin;refine wpList_append_own _ rfl _ _ 75 rfl wr.heap.size 74 j0 (.agg #[.int .i64 0,.int .i64 0,.int .i64 0]) 3 24 Tryz.underlying75 hj hy0 hy1 hy2 hop_zero (by decide) _ _ _ rfl (HO6.out.alloc _) ⟨w6.heap.size,0,none⟩ 1 1 [.int .i64 s1,.int .i64 s2,.int .i64 TU] rfl rfl ?m1 ?m2 ?m3 ?m4 ?m5 ?_)
         case m1 =>
          intro j u hj
          match j,hj with
          | 0,hj=>simp at hj;subst hj;simp[Addr.add]
          | 1,hj=>simp at hj;subst hj;simp[Addr.add]
          | 2,hj=>simp at hj;subst hj;simp[Addr.add]
         case m2=>intro u hu;simp at hu;rcases hu with rfl | rfl | rfl <;> rfl
         case m3=>unfold maxLen;omega
         case m4=>omega
         case m5=>simp;omega
         intro v9 w9 hown9 hgrow9 _;obtain⟨ao9,cap9,rfl⟩:=own_form hown9;have hb9:Below wr.heap.size w6 w9:=((Below.refl _ w6).alloc hs6 _).grown hgrow9 (by simp;omega) (fun g hg=>(HO6.out.lt g hg).1);have hB9:Below wr.heap.size wr w9:=HB6.out.trans hb9;have HO9:Hid (w9.ownsRow wr.heap.size 74 3 (.slice ao9 (k+1) cap9) (l++[((s1,s2),TU)]).length (cellsG hopE (l++[((s1,s2),TU)]))):=by
          show World.ownsRow _ _ _ _ _ _ _;rw[List.length_append,HML.out,cellsG_app,cellsG_one];exact hown9
         have HX9:Hid (GB w w9 S (.slice ao n cap) (.slice ao2 n2 cap2) (.slice (some ⟨g5,o5,none⟩) k cap5)):=HXr.out.later HXr.out.lt hB9;obtain⟨hBw,⟨b0,b1,b2⟩,f0,f1,f2,ff,r0,r1,r2,rf⟩:=HX9.out;have HBw:Hid (Below w.heap.size w w9):=hBw;have ff2:=ff 2;have rf0:=rf 0;have rf1:=rf 1;have rf2:=rf 2;clear ff rf hBw hb9 hB9 hgrow9 hown9 x0 x1 x2;go_wp2;have HBE:Hid (∀u a b c,Below w.heap.size w (put3 (w9.setCell ⟨w.heap.size+1,2,none⟩ u) (w.heap.size+1+1) a b c)):=fun u a b c=>below_put3 (HBw.out.setCell (p:=⟨w.heap.size+1,2,none⟩) (show w.heap.size≤w.heap.size+1 by omega) u) _ (by omega) _ _ _
         have HOE:Hid (∀u a b c,(put3 (w9.setCell ⟨w.heap.size+1,2,none⟩ u) (w.heap.size+1+1) a b c).ownsRow wr.heap.size 74 3 (.slice ao9 (k+1) cap9) (l++[((s1,s2),TU)]).length (cellsG hopE (l++[((s1,s2),TU)]))):=fun u a b c=>own_put3 (ownsRow_setCell_below HO9.out (show w.heap.size+1<wr.heap.size by omega) _) _ (by omega) _ _ _
         refine bodyPost_ret (v:=.tuple #[.agg #[.int .i64 0,.string ⟨#[]⟩,.slice ao9 (k+1) cap9],.bool true]) (by simp[results,Tryz.results43,go_sem, *]) rfl ⟨_,_,_,by rw[HF2.out];rfl,?_,HBE.out _ _ _ _,.inr fun g o e=>?_⟩
         ·rw[HF2.out];exact own_GS (HOE.out _ _ _ _)
         subst e;exact Nat.le_trans (by omega) (HO9.out.lt g rfl).1
  rw[show atN Hs (p0,ro)=(k:Int) from hi];have hlt:k<n2:=by
   have:=(HHW.out _ HX5.out.below).len;omega
  obtain⟨_,_,_,e6,hHn,_,_,hHa⟩:=(HHW.out _ HX5.out.below).form;cases e6;obtain⟨gh,oh,hao,hc,_⟩:=hHa (by omega);subst hao;obtain⟨y0,y1,y2,hkl,hHk,c0,c1,c2⟩:=hst_at hc hHn hlt;have HF2:Hid (F=((1,y0,l),false)):=by
   show _=_;rw[HF.out];refine gn_1 HST.out ?_;rw[hat,hHk]
  have kb0:(0:Int)≤(k:Int):=by omega
  have kb1:(k:Int)<(n2:Int):=by omega
  obtain⟨hBw,⟨b0,b1,b2⟩,f0,f1,f2,ff,r0,r1,r2,rf⟩:=HX5.out;have HBw:Hid (Below w.heap.size w w5):=hBw;have ff0:=ff 0;have ff1:=ff 1;have rf0:=rf 0;have rf1:=rf 1;have rf2:=rf 2;have hgl:gh<w5.heap.size:=World.block_lt_of_cell? _ _ c0;have hgw:gh<w.heap.size:=HHB.out gh oh (by omega) rfl;have hne1:gh≠w.heap.size+1:=by omega
  clear ff rf hBw hi hat hHn hHa hc hHk;go_wp2;have HBE:Hid (∀u v a b c,Below w.heap.size w (put3 ((w5.setCell ⟨w.heap.size+1,0,none⟩ u).setCell ⟨w.heap.size+1,1,none⟩ v) (w.heap.size+1+1) a b c)):=fun u v a b c=>below_put3 ((HBw.out.setCell (p:=⟨w.heap.size+1,0,none⟩) (show w.heap.size≤w.heap.size+1 by omega) u).setCell (p:=⟨w.heap.size+1,1,none⟩) (show w.heap.size≤w.heap.size+1 by omega) v) _ (by omega) _ _ _
  refine bodyPost_ret (v:=.tuple #[.agg #[.int .i64 1,.string y0,.slice (some ⟨g5,o5,none⟩) m cap5],.bool false]) (by simp[results,Tryz.results43,go_sem, *]) rfl ⟨_,_,_,by rw[HF2.out],?_,HBE.out _ _ _ _ _,.inl rfl⟩;rw[HF2.out];exact HGW.out _ (HBE.out _ _ _ _ _)
theorem gn_on {S:Int}{Ls:List ((Int×Int)×(Int×Int))}{Hs:List (ByteArray×(Int×Int))}{Ts:List (List Ru)}{l:List ((Int×Int)×Int)}(ht:tpN S Ls Hs=0)(h:l.length≤24)(hg:(gnF Ls Hs (taT Ts (laH l).1.1) l).2=true):
 ∃q,(gnF Ls Hs (taT Ts (laH l).1.1) l).1=(0,ByteArray.empty,l++[q])∧foF Ls Hs Ts (25-l.length) l=foF Ls Hs Ts (25-(l++[q]).length) (l++[q])∧(l++[q]).length≤24∧spB S q.1=true∧hdrB q.2=true:=by
 rw[fo_r h];unfold gnF at hg ⊢;cases hE:goE Ls Hs (taT Ts (laH l).1.1) l (laH l) with
 | inl p=>rw[hE] at hg;cases hg
 | inr q =>
   have e:enE Ls Hs Ts l (laH l)=.inr q:=hE;obtain⟨h1,h2,_⟩:=en_r e;obtain⟨h3,h4⟩:=nx_good ht h1;refine⟨q,rfl,?_,?_,h3,h4⟩
   ·rw[e];simp only[List.length_append,List.length_cons,List.length_nil];rw[show 24-l.length=25-(l.length+(0+1)) by omega]
   simp only[List.length_append,List.length_cons,List.length_nil];omega
section
variable {w W W':World}{gr gf:Nat}{S:Int}{v1 v2 v3:Value}{F0:Int}{F1:ByteArray}{u:Value}
end
theorem gs_put3 {W:World}{b:Nat}{ao:Option Addr}{n cap:Nat}{l:List ((Int×Int)×Int)}(h:GS hopE W (.slice ao n cap) l)(hg:∀g o,ao=some ⟨g,o,none⟩→g≠b)(u v x:Value):GS hopE (put3 W b u v x) (.slice ao n cap) l:=by
 rcases h with h | ⟨g,o,c,h1,h2,h3,h4⟩
 ·exact .inl h
 refine .inr ⟨g,o,c,h1,h2,h3,fun i hi j y hy=>?_⟩;have e:=h4 i hi j y hy;have hne:g≠b:=by
  simp only[Value.slice.injEq] at h1;exact hg g o h1.1
 have hb:∀(W:World) (j2:Nat) (z:Value),(W.setCell ⟨b,j2,none⟩ z).cell? ⟨g,o+i*hopE.n+j,none⟩=W.cell? ⟨g,o+i*hopE.n+j,none⟩:=fun W j2 z=>World.cell?_of_block (Below.heap_setCell _ _ _ _ hne)
 unfold put3;rw[hb,hb,hb];exact e
section
variable (Ls:List ((Int×Int)×(Int×Int)))(Hs:List (ByteArray×(Int×Int)))(As Bs:List (List Ru))
def stW (n:Nat)(l:List ((Int×Int)×Int))(met:List Int)(a:List Ft)(t:List Ru):List Ft:=onL (fun l' a'=>wkL Ls Hs As Bs n l' met a') l a (goE Ls Hs t l (laH l))
def stA (n:Nat)(l:List ((Int×Int)×Int))(met:List Int)(a:List Ft):List Ft:=if (met.any fun y=>y==(laH l).1.1)=true then a else stW Ls Hs As Bs n l met a (taT As (laH l).1.1)
variable {Ls Hs As Bs}
theorem mem_any {met:List Int}{s:Int}:(met.any fun y=>y==s)=true↔s∈met:=by
 rw[List.any_eq_true];constructor
 ·rintro⟨y,h1,h2⟩;rw[←(beq_iff_eq.1 h2)];exact h1
 intro h;exact⟨s,h,by simp⟩
theorem wk_no {n:Nat}{l:List ((Int×Int)×Int)}{met:List Int}{a:List Ft}(h:chB As Bs (laH l).1.1=false):wkL Ls Hs As Bs (n+1) l met a=stA Ls Hs As Bs n l met a:=by
 rw[wkL,h,if_neg (by simp)];simp only[stA,stW,mem_any]
theorem wk_yes {n:Nat}{l:List ((Int×Int)×Int)}{met:List Int}{a:List Ft}(h:chB As Bs (laH l).1.1=true):wkL Ls Hs As Bs (n+1) l met a=stW Ls Hs As Bs n l (met++if (met.any fun y=>y==(laH l).1.1)=true then [] else [(laH l).1.1]) (stA Ls Hs As Bs n l met a) (taT Bs (laH l).1.1):=by
 rw[wkL,if_pos h];simp only[stA,stW,mem_any];by_cases e:(laH l).1.1∈met <;> simp[e]
theorem st_end {n:Nat}{l:List ((Int×Int)×Int)}{met:List Int}{a:List Ft}{t:List Ru}(h:(gnF Ls Hs t l).2=false):stW Ls Hs As Bs n l met a t=puR faL (gnF Ls Hs t l).1 a∧(gnF Ls Hs t l).1.2.2=l:=by
 unfold gnF at *;unfold stW;cases e:goE Ls Hs t l (laH l) with
 | inl p=>exact⟨rfl,rfl⟩
 | inr p=>rw[e] at h;cases h
theorem st_on {n:Nat}{l:List ((Int×Int)×Int)}{met:List Int}{a:List Ft}{t:List Ru}{q:(Int×Int)×Int}(h:(gnF Ls Hs t l).2=true)(hq:(gnF Ls Hs t l).1=(0,ByteArray.empty,l++[q])):stW Ls Hs As Bs n l met a t=wkL Ls Hs As Bs n (l++[q]) met a:=by
 unfold gnF at *;unfold stW;cases e:goE Ls Hs t l (laH l) with
 | inl p=>rw[e] at h;cases h
 | inr p =>
   rw[e] at hq;simp only[Prod.mk.injEq,List.append_cancel_left_eq,List.cons.injEq,and_true,true_and] at hq;subst hq;rfl
theorem wk_len:∀(n:Nat) (l:List ((Int×Int)×Int)) (met:List Int) (a:List Ft),(wkL Ls Hs As Bs n l met a).length≤a.length+2 ^ n
 | 0,l,met,a=>by simp[wkL]
 | n+1,l,met,a=>by
   have on:∀(met:List Int) (a:List Ft) (t:List Ru),(stW Ls Hs As Bs n l met a t).length≤a.length+2 ^ n:=by
    intro met a t;unfold stW;cases goE Ls Hs t l (laH l) with
    | inl p =>
      have:=pu_len (r:=faL) (p.1,p.2,l) a;have:=Nat.one_le_two_pow (n:=n);simp only[onL];omega
    | inr p=>exact wk_len n _ _ _
   have p0:=Nat.one_le_two_pow (n:=n);have sa:(stA Ls Hs As Bs n l met a).length≤a.length+2 ^ n:=by
    unfold stA
    split
    ·omega
    exact on _ _ _
   have e2:2 ^ (n+1)=2 ^ n+2 ^ n:=by omega
   cases h:chB As Bs (laH l).1.1
   ·rw[wk_no h];omega
   rw[wk_yes h];have:=on (met++if (met.any fun y=>y==(laH l).1.1)=true then [] else [(laH l).1.1]) (stA Ls Hs As Bs n l met a) (taT Bs (laH l).1.1);omega
theorem st_len {n:Nat}{l:List ((Int×Int)×Int)}{met:List Int}{a:List Ft}{t:List Ru}:(stW Ls Hs As Bs n l met a t).length≤a.length+2 ^ n:=by
 unfold stW;cases goE Ls Hs t l (laH l) with
 | inl p =>
   have:=pu_len (r:=faL) (p.1,p.2,l) a;have:=Nat.one_le_two_pow (n:=n);simp only[onL];omega
 | inr p=>exact wk_len n _ _ _
theorem wk_hops:∀(n:Nat) (l:List ((Int×Int)×Int)) (met:List Int) (a:List Ft),l.length+n≤1000→(∀x∈a,x.2.2.length≤1000)→∀x∈wkL Ls Hs As Bs n l met a,x.2.2.length≤1000
 | 0,l,met,a,h,ha=>by simpa[wkL] using ha
 | n+1,l,met,a,h,ha=>by
   have on:∀(met:List Int) (a:List Ft) (t:List Ru),(∀x∈a,x.2.2.length≤1000)→∀x∈stW Ls Hs As Bs n l met a t,x.2.2.length≤1000:=by
    intro met a t ha;unfold stW;cases goE Ls Hs t l (laH l) with
    | inl p =>
      intro x hx
      rcases (pu_mem lo_fate _).1 hx with rfl | hx
      ·show l.length≤1000;omega
      exact ha x hx
    | inr p=>exact wk_hops n _ _ _ (by simp;omega) ha
   have sa:∀x∈stA Ls Hs As Bs n l met a,x.2.2.length≤1000:=by
    unfold stA
    split
    ·exact ha
    exact on _ _ _ ha
   cases h:chB As Bs (laH l).1.1
   ·rw[wk_no h];exact sa
   rw[wk_yes h];exact on _ _ _ sa
def GL (n:Nat)(a:List Ft):Prop:=Ris faL a∧(∀x∈a,x.2.2.length≤1000)∧a.length+2 ^ n≤50000000
theorem GL.less {n:Nat}{a:List Ft}(h:GL (n+1) a):GL n a:=⟨h.1,h.2.1,by have:=h.2.2;have:=Nat.one_le_two_pow (n:=n);omega⟩
theorem GL.st {n:Nat}{l:List ((Int×Int)×Int)}{met:List Int}{a:List Ft}{t:List Ru}(h:GL (n+1) a)(hl:l.length+(n+1)≤1000):GL n (stW Ls Hs As Bs n l met a t):=by
 refine⟨?_,?_,?_⟩
 ·unfold stW;exact on_ris (fun l a h=>wk_ris n l met a h) l h.1 _
 ·unfold stW;cases goE Ls Hs t l (laH l) with
  | inl p =>
    intro x hx
    rcases (pu_mem lo_fate _).1 hx with rfl | hx
    ·show l.length≤1000;omega
    exact h.2.1 x hx
  | inr p=>exact wk_hops n _ _ _ (by simp;omega) h.2.1
 have:=st_len (Ls:=Ls) (Hs:=Hs) (As:=As) (Bs:=Bs) (n:=n) (l:=l) (met:=met) (a:=a) (t:=t);have:=h.2.2;omega
theorem GL.sa {n:Nat}{l:List ((Int×Int)×Int)}{met:List Int}{a:List Ft}(h:GL (n+1) a)(hl:l.length+(n+1)≤1000):GL n (stA Ls Hs As Bs n l met a):=by
 unfold stA
 split
 ·exact h.less
 exact h.st hl
end
def SK (a:Option Addr)(n c:Nat):Prop:=(a=none∧n=0∧c=0)∨0<n
def GN (F:Ft)(on:Bool)(wr:World)(p q:Value)(W:World):Prop:=
 ∃g a6 n6 c6,p=.pointer (some ⟨g,0,none⟩)∧q=.bool on∧W.cell? ⟨g,0,none⟩=some (.int .i64 F.1)∧W.cell? ⟨g,1,none⟩=some (.string F.2.1)∧W.cell? ⟨g,2,none⟩=some (.slice a6 n6 c6)∧GS hopE W (.slice a6 n6 c6) F.2.2∧Below wr.heap.size wr W
theorem GN.after {F:Ft}{on:Bool}{wr w0 w':World}{a6:Option Addr}{n6 c6:Nat}(h0:Below wr.heap.size wr w0)(hb:Below w0.heap.size w0 w')(hG:GS hopE w' (.slice a6 n6 c6) F.2.2):
 GN F on wr (.pointer (some ⟨w'.heap.size,0,none⟩)) (.bool on) (w'.alloc (.cells #[.int .i64 F.1,.string F.2.1,.slice a6 n6 c6] 77)):=by
 have hv:=vat_new w' [.int .i64 F.1,.string F.2.1,.slice a6 n6 c6] 77;exact⟨w'.heap.size,a6,n6,c6,rfl,rfl,hv 0 _ rfl,hv 1 _ rfl,hv 2 _ rfl,hG.later ((Below.refl _ _).alloc (Nat.le_refl _) _),(h0.trans (hb.mono h0.size)).alloc (Nat.le_trans h0.size hb.size) _⟩
theorem GN.before {F:Ft}{on:Bool}{wr w0 w':World}{a5 a6:Option Addr}{n6 c6:Nat}{x y z:Value}(h0:Below wr.heap.size wr w0)(hb:Below w0.heap.size w0 w')(hG:GS hopE w' (.slice a6 n6 c6) F.2.2)(hz:wr.heap.size<w0.heap.size)
 (ha:a6=a5∨∀g o,a6=some ⟨g,o,none⟩→w0.heap.size≤g) (ha5:∀g o,a5=some ⟨g,o,none⟩→g<wr.heap.size)
 (h1:w0.cell? ⟨wr.heap.size,0,none⟩=some x) (h2:w0.cell? ⟨wr.heap.size,1,none⟩=some y) (h3:w0.cell? ⟨wr.heap.size,2,none⟩=some z):
 GN F on wr (.pointer (some ⟨wr.heap.size,0,none⟩)) (.bool on) (put3 w' wr.heap.size (.int .i64 F.1) (.string F.2.1) (.slice a6 n6 c6)):=by
 have e:=put3_cells (a:=.int .i64 F.1) (b:=.string F.2.1) (c:=.slice a6 n6 c6) ⟨(hb.cell (p:=⟨wr.heap.size,0,none⟩) hz).trans h1,(hb.cell (p:=⟨wr.heap.size,1,none⟩) hz).trans h2,(hb.cell (p:=⟨wr.heap.size,2,none⟩) hz).trans h3⟩;refine⟨wr.heap.size,a6,n6,c6,rfl,rfl,e.1,e.2.1,e.2.2,gs_put3 hG (fun g o e=>?_) _ _ _,below_put3 (h0.trans (hb.mono h0.size)) _ (Nat.le_refl _) _ _ _⟩
 rcases ha with h | h
 ·have:=ha5 g o (h.symm.trans e);omega
 have:=h g o e;omega
theorem below_3 {B:Nat}{w W:World}(h:Below B w W)(g:Nat)(hg:B≤g)(a b c:Value):Below B w (((W.setCell ⟨g,0,none⟩ a).setCell ⟨g,1,none⟩ b).setCell ⟨g,2,none⟩ c):=below_put3 h g hg a b c
def ZF (W:World)(g:Nat):Prop:=VAt W g 0 [.int .i64 0,.string ⟨#[]⟩,.slice none 0 0]∧∀i,W.frozen? ⟨g,i,none⟩=false
theorem zf_d {W W':World}{t:TypeId}(hb:Below (W.drew.alloc (Obj.cells #[.int .i64 0,.string ⟨#[]⟩,.slice none 0 0] t)).heap.size (W.drew.alloc (Obj.cells #[.int .i64 0,.string ⟨#[]⟩,.slice none 0 0] t)) W'):ZF W' W.heap.size:=
 ⟨(vat_new W.drew [.int .i64 0,.string ⟨#[]⟩,.slice none 0 0] t).later hb,fun i=>(hb.frozen (p:=⟨W.heap.size,i,none⟩) (by show W.heap.size<(W.drew.alloc _).heap.size;simp)).trans (froz_new2 W.drew _ t i)⟩
theorem gn_ne {W:World}{o:Obj}{a8:Option Addr}{g5 o5:Nat}(h:a8=some ⟨g5,o5,none⟩∨∀g o',a8=some ⟨g,o',none⟩→(W.drew.alloc o).heap.size≤g)(h5:g5<W.heap.size):∀g o',a8=some ⟨g,o',none⟩→g≠W.heap.size:=by
 intro g o' e
 rcases h with h | h
 ·rw[h] at e;cases e;omega
 have:=h g o' e;have e2:(W.drew.alloc o).heap.size=W.heap.size+1:=by simp
 omega
theorem gn_a {F:Ft}{on:Bool}{wr w':World}{a6:Option Addr}{n6 c6:Nat}(hb:Below wr.heap.size wr w')(hG:GS hopE w' (.slice a6 n6 c6) F.2.2):
 GN F on wr (.pointer (some ⟨w'.heap.size,0,none⟩)) (.bool on) (w'.alloc (.cells #[.int .i64 F.1,.string F.2.1,.slice a6 n6 c6] 77)):=GN.after (Below.refl _ _) hb hG
theorem gn_b {F:Ft}{on:Bool}{wr w':World}{a6:Option Addr}{n6 c6:Nat}{x y z:Value}(hb:Below wr.heap.size wr w')(hG:GS hopE w' (.slice a6 n6 c6) F.2.2)(hn:∀g o,a6=some ⟨g,o,none⟩→g≠wr.heap.size)
 (h1:w'.cell? ⟨wr.heap.size,0,none⟩=some x) (h2:w'.cell? ⟨wr.heap.size,1,none⟩=some y) (h3:w'.cell? ⟨wr.heap.size,2,none⟩=some z):
 GN F on wr (.pointer (some ⟨wr.heap.size,0,none⟩)) (.bool on) (((w'.setCell ⟨wr.heap.size,0,none⟩ (.int .i64 F.1)).setCell ⟨wr.heap.size,1,none⟩ (.string F.2.1)).setCell ⟨wr.heap.size,2,none⟩ (.slice a6 n6 c6)):=by
 have e:=put3_cells (a:=.int .i64 F.1) (b:=.string F.2.1) (c:=.slice a6 n6 c6) ⟨h1,h2,h3⟩;exact⟨wr.heap.size,a6,n6,c6,rfl,rfl,e.1,e.2.1,e.2.2,gs_put3 hG hn _ _ _,below_put3 hb _ (Nat.le_refl _) _ _ _⟩
theorem in_any (ao:Option Addr)(n cap:Nat)(L:List Int)(x:Int)(w:World)(h:GS inE w (.slice ao n cap) L):
 Calls Tryz.prog 42 #[.slice ao n cap,.int .i64 x] w fun e w'=>e=.returned (.bool (L.any fun y=>y==x))∧w'=w:=by
 obtain⟨_,_,_,e1,hn,hn2,_,ha⟩:=h.form;cases e1;have HN:Hid (L.length=n):=hn;have HA:Hid (0<n→∃g o,ao=some ⟨g,o,none⟩∧GAt inE w g o L∧cap≤maxLen):=ha;unfold maxLen at hn2;obtain⟨R,hR⟩:∃R,R=L.any fun y=>y==x:=⟨_,rfl⟩
 have HR:Hid (R=L.any fun y=>y==x):=hR;rw[←hR];clear h hn ha hR;go_enter Tryz.func42,Tryz.ntmps42;go_wp2
 go_loopw [5] (fun i wr=>∃k:Nat,k≤n∧i=.int .i64 k∧(L.take k).any (fun y=>y==x)=false∧wr=w) (fun i _=>n-(intOf i).toNat)
 case atStart=>exact⟨0,by omega,rfl,rfl,rfl⟩
 case round =>
  obtain⟨k,hk,rfl,hno,hwz⟩:=hrel;have hwy:=hwz.symm;subst hwy;have HNO:Hid ((L.take k).any (fun y=>y==x)=false):=hno;clear hwz hno;by_cases hlt:k<n
  ·obtain⟨g,o,hao,hG,_⟩:=HA.out (by omega);subst hao;obtain⟨y,hkl,hLk,c0⟩:=in_at hG HN.out hlt;have kb0:(0:Int)≤(k:Int):=by omega
   have kb1:(k:Int)<(n:Int):=by omega
   clear hG;cases hy:(y==x)
   ·have HN2:Hid ((L.take (k+1)).any (fun y=>y==x)=false):=any_nextG hkl HNO.out (by rw[hLk];exact hy);go_wp2;go_roundw
    case rel=>exact⟨k+1,by omega,by go_num,HN2.out,by first | rfl | trivial⟩
    case measure=>simp[intOf];omega
   have HT:Hid (R=true):=by
    show R=true;rw[HR.out];exact any_hitG hkl (by rw[hLk];exact hy)
   go_wp2;go_ret;exact⟨by rw[HT.out];rfl,rfl⟩
  obtain rfl:k=n:=by omega
  have HF:Hid (R=false):=by
   show R=false;rw[HR.out];have:=HNO.out
   rwa [←HN.out,List.take_length] at this
  go_wp2;go_ret;exact⟨by rw[HF.out];rfl,rfl⟩
end
end Go.Proofs.YtglnnoglbieaeaaGreatDoor
