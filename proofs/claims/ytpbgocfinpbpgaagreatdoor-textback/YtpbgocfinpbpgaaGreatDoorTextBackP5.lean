/- Contracts and facts on the way to TextBack, joined into one text: WishCon, WishCheck, TopoOf, StCube, StRule, NetOf, ChangeMem, RuleOwn, TableApp, TableConcat, TableDo, PlanMem, OwnTabs, RdMem, ItLaw, ItLaw3, TextPaMath. -/
import Derived.Test.YtpbgocfinpbpgaaGreatDoorTextBackP4
namespace Go.Proofs.YtpbgocfinpbpgaaGreatDoor
set_option linter.unusedSimpArgs false
set_option linter.unusedVariables false
set_option maxHeartbeats 16000000
set_option maxRecDepth 100000
open Go.Proofs.Tryz
open IntKind (i64)
section
open Go.RowKit
theorem emp_lst (s:ByteArray):s.toList.isEmpty=(s==ByteArray.empty):=by
 have e:ByteArray.empty.toList=[]:=by rw[Lib.toList_data];rfl
 rw[beq_toListBytes,e];cases h:s.toList with
 | nil=>rfl
 | cons a l=>rfl
def WiBox (W:World)(g:Nat)(k:Int)(f t:ByteArray)(v:Int):Prop:=W.cell? ⟨g,0,none⟩=some (.int i64 k)∧W.cell? ⟨g,1,none⟩=some (.string f)∧W.cell? ⟨g,2,none⟩=some (.string t)∧W.cell? ⟨g,3,none⟩=some (.int i64 v)
theorem wibox_new (w:World)(k:Int)(f t:ByteArray)(v:Int)(T:TypeId):WiBox (w.alloc (.cells #[.int i64 k,.string f,.string t,.int i64 v] T)) w.heap.size k f t v:=by
 refine⟨?_,?_,?_,?_⟩ <;> simp
theorem WiBox.later {W W':World}{g:Nat}{k:Int}{f t:ByteArray}{v:Int}(h:WiBox W g k f t v)(hb:Below W.heap.size W W'):WiBox W' g k f t v:=
 ⟨cell_later hb h.1,cell_later hb h.2.1,cell_later hb h.2.2.1,cell_later hb h.2.2.2⟩
theorem WiBox.lt {W:World}{g:Nat}{k:Int}{f t:ByteArray}{v:Int}(h:WiBox W g k f t v):g<W.heap.size:=bLQ _ _ h.1
theorem isWhat_any (k:Int)(w:World):
 Calls prog 74 #[.int i64 k] w fun e w'=>e=.returned (.bool (wkB k))∧Below w.heap.size w w':=by
 by_cases h1:1≤k
 ·by_cases h2:k≤4
  ·have e:wkB k=true:=by simp[wkB,h1,h2]
   rw[e];clear e;go_enter func74,ntmps74;go_wp2;go_ret;exact⟨rfl,bRQ _ _⟩
  have e:wkB k=false:=by simp[wkB,h2]
  rw[e];clear e;go_enter func74,ntmps74;go_wp2;go_ret;exact⟨rfl,bRQ _ _⟩
 have e:wkB k=false:=by simp[wkB,h1]
 rw[e];clear e;go_enter func74,ntmps74;go_wp2;go_ret;exact⟨rfl,bRQ _ _⟩
theorem isNameless_any (k:Int)(f t:ByteArray)(v:Int)(w:World):
 Calls prog 77 #[.agg #[.int i64 k,.string f,.string t,.int i64 v]] w fun e w'=>e=.returned (.bool (nlB ⟨k,f,t,v⟩))∧Below w.heap.size w w':=by
 have HB0:Hid (Below w.heap.size w (w.alloc (.cells #[.int i64 k,Value.string f,Value.string t,.int i64 v] 50))):=(bRQ _ _).alloc (nLQ _) _;cases hf:(f==ByteArray.empty)
 ·have e:nlB ⟨k,f,t,v⟩=false:=by simp[nlB,hf]
  rw[e];rw[←emp_lst] at hf;clear e;go_enter func77,ntmps77;go_wp2;go_ret;exact⟨rfl,HB0.out⟩
 have e:nlB ⟨k,f,t,v⟩=t.toList.isEmpty:=by simp[nlB,hf,emp_lst]
 rw[e];rw[←emp_lst] at hf;clear e;cases ht:t.toList.isEmpty
 ·go_enter func77,ntmps77;go_wp2;go_ret;exact⟨rfl,HB0.out⟩
 go_enter func77,ntmps77;go_wp2;go_ret;exact⟨rfl,HB0.out⟩
theorem isVia_any (k:Int)(f t:ByteArray)(v S:Int)(w:World):
 Calls prog 75 #[.agg #[.int i64 k,.string f,.string t,.int i64 v],.int i64 S] w fun e w'=>e=.returned (.bool (viB ⟨k,f,t,v⟩ S))∧Below w.heap.size w w':=by
 have HB0:Hid (Below w.heap.size w (w.alloc (.cells #[.int i64 k,Value.string f,Value.string t,.int i64 v] 50))):=(bRQ _ _).alloc (nLQ _) _;by_cases h:k=3
 ·subst h;rw[show viB ⟨3,f,t,v⟩ S=swB S v from rfl];go_enter func75,ntmps75
  go_wp2_with fail
  refine (isSwitch_any S v _).mono ?_;rintro e w1 ⟨rfl,hb1⟩;go_wp2;go_ret;exact⟨rfl,HB0.out.trans (hb1.mono HB0.out.size)⟩
 have e:viB ⟨k,f,t,v⟩ S=true:=by simp[viB,h]
 rw[e];clear e;go_enter func75,ntmps75;go_wp2;go_ret;exact⟨rfl,HB0.out⟩
theorem isHost1_any (n:ByteArray)(x0 x1:Int)(B:Nat)(m:ByteArray)(w:World)(h0:w.cell? ⟨B,0,none⟩=some (.string m)):
 Calls prog 122 #[.agg #[.string n,.int i64 x0,.int i64 x1],.pointer (some ⟨B,0,none⟩)] w fun e w'=>e=.returned (.bool (n==m))∧Below w.heap.size w w':=by
 have hlt:B<w.heap.size:=bLQ _ _ h0;have HB0:Hid (Below w.heap.size w (w.alloc (.cells #[Value.string n,.int i64 x0,.int i64 x1] 59))):=(bRQ _ _).alloc (nLQ _) _;rw[beq_toListBytes];go_enter func122,ntmps122;go_wp2;go_ret;exact⟨rfl,HB0.out⟩
theorem isHost1_asks (B:Nat)(m:ByteArray)(w:World)(h0:w.cell? ⟨B,0,none⟩=some (.string m)):hstAsks w 122 (.pointer (some ⟨B,0,none⟩)) (fun h=>h.1==m):=
 fun n x0 x1 W hW=>isHost1_any n x0 x1 B m W (cell_later hW h0)
theorem isHost_any (S:Int)(v1:Value)(ao2:AdQ)(n2 cap2:Nat)(Hs:HoQ)(m:ByteArray)(w:World)(hv1:v1.oneCell'=true)(hH:GS hstE w (.slice ao2 n2 cap2) Hs):
 Calls prog 98 #[.agg #[.int i64 S,v1,.slice ao2 n2 cap2],.string m] w fun e w'=>e=.returned (.bool (hoB Hs m))∧Below w.heap.size w w':=by
 have e1:(w.alloc (.cells #[.int i64 S,v1,.slice ao2 n2 cap2] 25)).heap.size=w.heap.size+1:=by simp
 have hb1:Below w.heap.size w (w.alloc (.cells #[.int i64 S,v1,.slice ao2 n2 cap2] 25)):=(bRQ _ _).alloc (nLQ _) _;have ht:=tbox_new w S v1 (.slice ao2 n2 cap2) 25;obtain⟨w0,hw0⟩:∃W,W=w.alloc (.cells #[.int i64 S,v1,.slice ao2 n2 cap2] 25):=⟨_,rfl⟩;rw[←hw0] at e1 hb1 ht;have hb2:Below w0.heap.size w0 (w0.alloc (.cells #[.string m] 9)):=(bRQ _ _).alloc (nLQ _) _;have hm:=vat_new w0 [.string m] 9;have ht2:=ht.later hb2;have hB2:=hb1.trans (hb2.mono hb1.size);obtain⟨w2,hw2⟩:∃W,W=w0.alloc (.cells #[.string m] 9):=⟨_,rfl⟩;have hm2:VAt w2 w0.heap.size 0 [.string m]:=by rw[hw2];exact hm
 rw[←hw2] at ht2 hB2;rw[e1] at hm2;have m0:w2.cell? ⟨w.heap.size+1,0,none⟩=some (.string m):=hm2 0 _ rfl;obtain⟨b0,b1,b2⟩:=ht2;have HW:Hid ((w.alloc (.cells #[.int i64 S,v1,.slice ao2 n2 cap2] 25)).alloc (.cells #[.string m] 9)=w2):=by
  show _=_;rw[hw2,hw0]
 have HB2:Hid (Below w.heap.size w w2):=hB2;obtain⟨_,_,_,eH,hHn,hHm,_,hHa⟩:=hH.form;cases eH;have HHN:Hid (Hs.length=n2):=hHn;have HHM:Hid (n2≤maxLen):=hHm;have HHA:Hid (0<n2→∃g o,ao2=some ⟨g,o,none⟩∧GAt hstE w2 g o Hs∧cap2≤maxLen):=fun h=>by
  obtain⟨g,o,k1,k2,k3⟩:=hHa h;exact⟨g,o,k1,k2.later hB2,k3⟩
 have HM0:Hid (w2.cell? ⟨w.heap.size+1,0,none⟩=some (.string m)):=m0;clear hb1 ht hw0 hb2 hm hw2 hm2 hB2 hHn hHm hHa hH e1 m0;go_enter func98,ntmps98;go_upto_region 1 with fail;rw[HW.out];clear HW
 go_wp2_with fail
 refine (hst_hasF ao2 n2 cap2 _ _ (fun h=>h.1==m) Hs _ HHN.out HHM.out HHA.out (enters_of func122 (by kernel_rfl) rfl) (isHost1_asks _ m _ HM0.out)).mono ?_;rintro e w3 ⟨rfl,hb3⟩;rw[show (Hs.any fun h=>h.1==m)=hoB Hs m from rfl];go_wp2;go_ret;exact⟨rfl,HB2.out.trans (hb3.mono HB2.out.size)⟩
structure CBox (w W:World)(S:Int)(v1 v2:Value)(k:Int)(f t:ByteArray)(v:Int):Prop where
 below:Below w.heap.size w W
 b:TBox W w.heap.size S v1 v2
 x:WiBox W (w.heap.size+1) k f t v
theorem cbox_new (w:World)(S:Int)(v1 v2:Value)(k:Int)(f t:ByteArray)(v:Int):CBox w ((w.alloc (.cells #[.int i64 S,v1,v2] 25)).alloc (.cells #[.int i64 k,.string f,.string t,.int i64 v] 50)) S v1 v2 k f t v:=by
 have e1:(w.alloc (.cells #[.int i64 S,v1,v2] 25)).heap.size=w.heap.size+1:=by simp
 have hb:∀(W:World) (o:Obj),Below W.heap.size W (W.alloc o):=fun W o=>(bRQ _ _).alloc (nLQ _) _
 have hn:=(tbox_new w S v1 v2 25).later (hb _ (Obj.cells #[.int i64 k,.string f,.string t,.int i64 v] 50));have hB:=((Below.refl w.heap.size w).alloc (nLQ _) (Obj.cells #[.int i64 S,v1,v2] 25)).alloc (by rw[e1];omega) (Obj.cells #[.int i64 k,.string f,.string t,.int i64 v] 50)
 generalize w.alloc (.cells #[.int i64 S,v1,v2] 25)=X at e1 hn hB
 have hr:=wibox_new X k f t v 50;rw[e1] at hr;exact⟨hB,hn,hr⟩
theorem CBox.later {w W W':World}{S:Int}{v1 v2:Value}{k:Int}{f t:ByteArray}{v:Int}(h:CBox w W S v1 v2 k f t v)(hb:Below W.heap.size W W'):CBox w W' S v1 v2 k f t v:=
 ⟨h.below.trans (hb.mono h.below.size),h.b.later hb,h.x.later hb⟩
theorem checkOne_any (S:Int)(ao:AdQ)(n cap:Nat)(ao2:AdQ)(n2 cap2:Nat)(Hs:HoQ)(k:Int)(f t:ByteArray)(v:Int)(w:World)(hH:GS hstE w (.slice ao2 n2 cap2) Hs):
 Calls prog 68 #[.agg #[.int i64 S,.slice ao n cap,.slice ao2 n2 cap2],.agg #[.int i64 k,.string f,.string t,.int i64 v]] w fun e w'=>e=.returned (noV (woN S Hs ⟨k,f,t,v⟩))∧Below w.heap.size w w':=by
 have hX:=cbox_new w S (.slice ao n cap) (.slice ao2 n2 cap2) k f t v;obtain⟨w0,hw0⟩:∃W,(w.alloc (.cells #[.int i64 S,.slice ao n cap,.slice ao2 n2 cap2] 25)).alloc (.cells #[.int i64 k,.string f,.string t,.int i64 v] 50)=W:=⟨_,rfl⟩;rw[hw0] at hX;have HX:Hid (CBox w w0 S (.slice ao n cap) (.slice ao2 n2 cap2) k f t v):=hX;have HW0:Hid ((w.alloc (.cells #[.int i64 S,.slice ao n cap,.slice ao2 n2 cap2] 25)).alloc (.cells #[.int i64 k,.string f,.string t,.int i64 v] 50)=w0):=hw0;have HH:Hid (∀W,Below w.heap.size w W→GS hstE W (.slice ao2 n2 cap2) Hs):=fun W hb=>hH.later hb
 obtain⟨R,hR⟩:∃R,R=woN S Hs ⟨k,f,t,v⟩:=⟨_,rfl⟩;rw[←hR];obtain⟨Q,hQ⟩:∃q,q=(!wkB k || (!viB ⟨k,f,t,v⟩ S || veB ⟨k,f,t,v⟩)):=⟨_,rfl⟩;have HR:Hid (R=if Q then 1 else if k=4 then (if nlB ⟨k,f,t,v⟩ then 0 else 3) else if hoB Hs f&&hoB Hs t then 0 else 5):=by
  show _=_;rw[hR,hQ];rfl
 have HQ:Hid ((!wkB k || (!viB ⟨k,f,t,v⟩ S || veB ⟨k,f,t,v⟩))=Q):=hQ.symm;clear hX hw0 hH hR hQ;go_enter func68,ntmps68;go_upto_region 1 with fail;rw[HW0.out];obtain⟨_,⟨b0,b1,b2⟩,x0,x1,x2,x3⟩:=HX.out;clear HW0
 go_cut [25] from 5 to 26 (fun c w'=>c=.bool Q∧Below w0.heap.size w0 w')
 case first =>
  go_wp2_with fail
  refine (isWhat_any k _).mono ?_;rintro e w1 ⟨rfl,hb1⟩;obtain⟨WK,hWK⟩:∃q,q=wkB k:=⟨_,rfl⟩;have HQ1:Hid ((!WK || (!viB ⟨k,f,t,v⟩ S || veB ⟨k,f,t,v⟩))=Q):=by
   show _=_;rw[hWK];exact HQ.out
  rw[←hWK];have HB1:Hid (Below w0.heap.size w0 w1):=hb1;have HX1:Hid (CBox w w1 S (.slice ao n cap) (.slice ao2 n2 cap2) k f t v):=HX.out.later hb1;clear hWK hb1 HQ b0 b1 b2 x0 x1 x2 x3;obtain⟨_,⟨b0,b1,b2⟩,x0,x1,x2,x3⟩:=HX1.out;cases WK with
  | false =>
    have hq:=HQ1.out;simp only[Bool.not_false,Bool.true_or] at hq;subst hq
    go_wp2_with fail
    go_meet
    exact⟨rfl,HB1.out⟩
  | true =>
    go_wp2_with fail
    refine (isVia_any k f t v S _).mono ?_;rintro e w2 ⟨rfl,hb2⟩;obtain⟨VI,hVI⟩:∃q,q=viB ⟨k,f,t,v⟩ S:=⟨_,rfl⟩;have HQ2:Hid ((!VI || veB ⟨k,f,t,v⟩)=Q):=by
     show _=_;rw[hVI];have:=HQ1.out;simpa using this
    rw[←hVI];have HB2:Hid (Below w0.heap.size w0 w2):=HB1.out.trans (hb2.mono HB1.out.size);have HX2:Hid (CBox w w2 S (.slice ao n cap) (.slice ao2 n2 cap2) k f t v):=HX1.out.later hb2;clear hVI hb2 HQ1 b0 b1 b2 x0 x1 x2 x3;obtain⟨_,⟨b0,b1,b2⟩,x0,x1,x2,x3⟩:=HX2.out;cases VI with
    | false =>
      have hq:=HQ2.out;simp only[Bool.not_false,Bool.true_or] at hq;subst hq
      go_wp2_with fail
      go_meet
      exact⟨rfl,HB2.out⟩
    | true =>
      by_cases k3:k=3
      ·subst k3;have hq:false=Q:=HQ2.out;subst hq
       go_wp2_with fail
       go_meet
       exact⟨rfl,HB2.out⟩
      have hq:(k != 3&&v != 0)=Q:=HQ2.out;subst hq
      go_wp2_with fail
      go_meet
      exact⟨rfl,HB2.out⟩
 case rest =>
 obtain⟨rfl,hbc⟩:=hcut;have HXc:Hid (CBox w wc S (.slice ao n cap) (.slice ao2 n2 cap2) k f t v):=HX.out.later hbc;clear hbc HX b0 b1 b2 x0 x1 x2 x3;obtain⟨hBc,⟨b0,b1,b2⟩,x0,x1,x2,x3⟩:=HXc.out;have HBc:Hid (Below w.heap.size w wc):=hBc;clear hBc;cases Q with
 | true =>
   have HR1:Hid (R=1):=by
    show _=_;rw[HR.out,if_pos rfl]
   go_wp2;go_ret;exact⟨by rw[HR1.out];rfl,HBc.out⟩
 | false =>
   by_cases k4:k=4
   ·subst k4;obtain⟨NL,hNL⟩:∃q,q=nlB ⟨4,f,t,v⟩:=⟨_,rfl⟩;have HR1:Hid (R=if NL then 0 else 3):=by
     show _=_;rw[HR.out,if_neg (by decide),if_pos rfl,hNL]
    have HNL:Hid (nlB ⟨4,f,t,v⟩=NL):=hNL.symm;clear hNL HR
    go_wp2_with fail
    refine (isNameless_any 4 f t v _).mono ?_;rintro e w2 ⟨rfl,hb2⟩;rw[HNL.out];have HB2:Hid (Below w.heap.size w w2):=HBc.out.trans (hb2.mono HBc.out.size);clear hb2;cases NL with
    | false =>
      go_wp2;go_ret;exact⟨by rw[HR1.out];rfl,HB2.out⟩
    | true =>
      go_wp2;go_ret;exact⟨by rw[HR1.out];rfl,HB2.out⟩
   obtain⟨HF,hHF⟩:∃q,q=hoB Hs f:=⟨_,rfl⟩;obtain⟨HT,hHT⟩:∃q,q=hoB Hs t:=⟨_,rfl⟩;have HR1:Hid (R=if HF&&HT then 0 else 5):=by
    show _=_;rw[HR.out,if_neg (by decide),if_neg k4,hHF,hHT]
   have HHF:Hid (hoB Hs f=HF):=hHF.symm;have HHT:Hid (hoB Hs t=HT):=hHT.symm;clear hHF hHT HR
   go_wp2_with fail
   refine (isHost_any S (.slice ao n cap) ao2 n2 cap2 Hs f _ rfl (HH.out _ HBc.out)).mono ?_;rintro e w2 ⟨rfl,hb2⟩;rw[HHF.out];have HX2:Hid (CBox w w2 S (.slice ao n cap) (.slice ao2 n2 cap2) k f t v):=HXc.out.later hb2;clear hb2 HHF HBc b0 b1 b2 x0 x1 x2 x3;obtain⟨hB2,⟨b0,b1,b2⟩,x0,x1,x2,x3⟩:=HX2.out;have HB2:Hid (Below w.heap.size w w2):=hB2;clear hB2;cases HF with
   | false =>
     go_wp2;go_ret;exact⟨by rw[HR1.out];rfl,HB2.out⟩
   | true =>
     go_wp2_with fail
     refine (isHost_any S (.slice ao n cap) ao2 n2 cap2 Hs t _ rfl (HH.out _ HB2.out)).mono ?_;rintro e w3 ⟨rfl,hb3⟩;rw[HHT.out];have HB3:Hid (Below w.heap.size w w3):=HB2.out.trans (hb3.mono HB2.out.size);clear hb3;cases HT with
     | false =>
       go_wp2;go_ret;exact⟨by rw[HR1.out];rfl,HB3.out⟩
     | true =>
       go_wp2;go_ret;exact⟨by rw[HR1.out];rfl,HB3.out⟩
theorem wcheck_any (S:Int)(ao:AdQ)(n cap:Nat)(ao2:AdQ)(n2 cap2:Nat)(a4:AdQ)(n4 c4:Nat)(Ls:LkQ)(Hs:HoQ)(l:List Wi)(w:World)
 (hL:GS lnkE w (.slice ao n cap) Ls) (hH:GS hstE w (.slice ao2 n2 cap2) Hs) (hl:GS wisE w (.slice a4 n4 c4) l):
 Calls prog 42 #[.agg #[.int i64 S,.slice ao n cap,.slice ao2 n2 cap2],.slice a4 n4 c4] w fun e w'=>e=.returned (noV (wsN S Ls Hs l))∧Below w.heap.size w w':=by
 have hX:=tbox_new w S (.slice ao n cap) (.slice ao2 n2 cap2) 25;have hB0:Below w.heap.size w (w.alloc (.cells #[.int i64 S,.slice ao n cap,.slice ao2 n2 cap2] 25)):=(bRQ _ _).alloc (nLQ _) _;obtain⟨w0,hw0⟩:∃W,w.alloc (.cells #[.int i64 S,.slice ao n cap,.slice ao2 n2 cap2] 25)=W:=⟨_,rfl⟩;rw[hw0] at hX hB0;have HX:Hid (TBox w0 w.heap.size S (.slice ao n cap) (.slice ao2 n2 cap2)):=hX;have HW0:Hid (w.alloc (.cells #[.int i64 S,.slice ao n cap,.slice ao2 n2 cap2] 25)=w0):=hw0;have HB0:Hid (Below w.heap.size w w0):=hB0;have HLW:Hid (∀W,Below w.heap.size w W→GS lnkE W (.slice ao n cap) Ls):=fun W hb=>hL.later hb
 have HHW:Hid (∀W,Below w.heap.size w W→GS hstE W (.slice ao2 n2 cap2) Hs):=fun W hb=>hH.later hb
 obtain⟨_,_,_,e5,hGn,hGm,_,hGa⟩:=hl.form;cases e5;have HGN:Hid (l.length=n4):=hGn;have HGA:Hid (0<n4→∃g o,a4=some ⟨g,o,none⟩∧GAt wisE w g o l∧c4≤maxLen):=hGa;obtain⟨R,hR⟩:∃R,R=wsN S Ls Hs l:=⟨_,rfl⟩;have HR:Hid (R=wsN S Ls Hs l):=hR;rw[←hR];have hn4:n4≤maxLen:=hGm;unfold maxLen at hn4;clear hX hB0 hw0 hL hH hl hGn hGm hGa hR;go_enter func42,ntmps42;go_upto_region 1 with fail;rw[HW0.out];obtain⟨b0,b1,b2⟩:=HX.out;clear HW0
 go_wp2_with fail
 refine (check_any S ao n cap ao2 n2 cap2 Ls Hs _ (HLW.out _ HB0.out) (HHW.out _ HB0.out)).mono ?_;rintro e w1 ⟨rfl,hb1⟩;obtain⟨T,hT⟩:∃T,T=tpN S Ls Hs:=⟨_,rfl⟩;have HT:Hid (T=tpN S Ls Hs):=hT;rw[←hT];have HB1:Hid (Below w.heap.size w w1):=HB0.out.trans (hb1.mono HB0.out.size);have HX1:Hid (TBox w1 w.heap.size S (.slice ao n cap) (.slice ao2 n2 cap2)):=HX.out.later hb1;clear hT hb1 b0 b1 b2 HX;by_cases h0:T=0
 ·have HR1:Hid (R=if 8<l.length then 4 else wsTo S Hs l l.length):=by
   show _=_;rw[HR.out,wsN,if_pos (HT.out.symm.trans h0)]
  subst h0;rw[no_ok rfl];by_cases h8:8<n4
  ·have HR2:Hid (R=4):=by
    show _=_;rw[HR1.out,if_pos (by rw[HGN.out];exact h8)]
   have h8':(8:Int)<(n4:Int):=by omega
   go_wp2;go_ret;exact⟨by rw[HR2.out];rfl,HB1.out⟩
  have HR2:Hid (R=wsTo S Hs l n4):=by
   show _=_;rw[HR1.out,if_neg (by rw[HGN.out];exact h8),HGN.out]
  have h8':¬(8:Int)<(n4:Int):=by omega
  clear HR HR1;go_wp2
  go_loopw [20] (fun i wr=>∃j:Nat,j≤n4∧i=.int i64 j∧wsTo S Hs l j=0∧Below w1.heap.size w1 wr) (fun i _=>n4-(intOf i).toNat)
  case atStart=>exact⟨0,by omega,rfl,rfl,bRQ _ _⟩
  case round =>
   obtain⟨j,hj,rfl,hno,hB⟩:=hrel;have HB:Hid (Below w1.heap.size w1 wr):=hB;have HBw:Hid (Below w.heap.size w wr):=HB1.out.trans (hB.mono HB1.out.size);have HNO:Hid (wsTo S Hs l j=0):=hno;have HXr:Hid (TBox wr w.heap.size S (.slice ao n cap) (.slice ao2 n2 cap2)):=HX1.out.later hB;clear hno hB;by_cases hlt:j<n4
   ·obtain⟨g,o,hao,hc,_⟩:=HGA.out (by omega);subst hao;obtain⟨y0,y1,y2,y3,hkl,hLk,q0,q1,q2,q3⟩:=wis_at (hc.later HBw.out) HGN.out hlt;obtain⟨N,hN⟩:∃q,q=woN S Hs ⟨y0,y1,y2,y3⟩:=⟨_,rfl⟩;have HN:Hid (woN S Hs ⟨y0,y1,y2,y3⟩=N):=hN.symm;have HST:Hid (wsTo S Hs l (j+1)=N):=by
     show _=_;rw[wsTo,if_pos HNO.out,getW hkl,hLk,←hN]
    have hba:Below wr.heap.size wr (wr.alloc (.cells #[.int i64 y0,Value.string y1,Value.string y2,.int i64 y3] 50)):=(bRQ _ _).alloc (nLQ _) _;have HBA:Hid (Below wr.heap.size wr (wr.alloc (.cells #[.int i64 y0,Value.string y1,Value.string y2,.int i64 y3] 50))):=hba;obtain⟨b0,b1,b2⟩:=HXr.out;have hlw:w.heap.size<wr.heap.size:=bLQ _ _ b0;clear hc hLk hN hba
    go_wp2_with fail
    refine (checkOne_any S ao n cap ao2 n2 cap2 Hs y0 y1 y2 y3 _ (HHW.out _ (HBw.out.trans (HBA.out.mono HBw.out.size)))).mono ?_;rintro e w3 ⟨rfl,hb3⟩;rw[HN.out];have HB3:Hid (Below w1.heap.size w1 w3):=(HB.out.trans (HBA.out.mono HB.out.size)).trans (hb3.mono (HB.out.trans (HBA.out.mono HB.out.size)).size);clear hb3 HBA b0 b1 b2 q0 q1 q2 q3 hlw HXr HB;by_cases hN0:N=0
    ·subst hN0;rw[no_ok rfl];go_wp2;go_roundw
     case rel=>exact⟨j+1,by omega,by go_num,HST.out,HB3.out⟩
     case measure=>simp[intOf];omega
    rw[no_ne hN0];have HR3:Hid (R=N):=by
     show _=_;rw[HR2.out,ws_le (k:=j+1) (by rw[HST.out];exact hN0) (by omega),HST.out]
    have HNN:Hid (N≠0):=hN0;clear hN0;go_wp2;go_ret;exact⟨by rw[HR3.out,no_ne HNN.out];rfl,HB1.out.trans (HB3.out.mono HB1.out.size)⟩
   obtain rfl:j=n4:=by omega
   have HR3:Hid (R=0):=by
    show _=_;rw[HR2.out,HNO.out]
   go_wp2;go_ret;exact⟨by rw[HR3.out,no_ok rfl];rfl,HBw.out⟩
 rw[no_ne h0];have HR1:Hid (R=T):=by
  show _=_;rw[HR.out,wsN,if_neg (by rw[←HT.out];exact h0),HT.out]
 have HNN:Hid (T≠0):=h0;clear h0;go_wp2;go_ret;exact⟨by rw[HR1.out,no_ne HNN.out];rfl,HB1.out⟩
end
section
open Go.ChangeShapes Go.WideShapes Go.ChangeAt Go.RowKit Go.Joins
section
variable {P:Program}{α:Type}{E:Enc α}
theorem gs_open {H:Type}{enc:TypeId×Value→H}{W:World}{fuel:Nat}{cs:List Value}{x:DataW H×List MemPlace}(ts te:TypeId)(hu:P.underlying ts=some (.slice te))(hC:P.cellsOf te=E.n)(x0:α)
 (hel:∀(n:Nat) (cs:List Value) (x:DataW H×List MemPlace),DataW.trod enc P W 0 (fun _=>true) true n te cs=some x→∃y,cs=E.c y)
 (hf2:DataW.trod enc P W 0 (fun _=>true) true fuel ts cs=some x):∃ao n cap L,cs=[.slice ao n cap]∧GS E W (.slice ao n cap) L:=by
 obtain⟨d,p⟩:=x
 rcases Go.Deep.open_slice hu hf2 with ⟨hc,hx⟩ | ⟨a,len0,cap,m,k,D,Pl,hc,_,hl,hm,hmm,hx,hall⟩
 ·exact⟨_,_,_,[],hc,.inl ⟨none,0,rfl,rfl⟩⟩
 simp only[if_true] at hmm;subst hmm
 rcases Nat.eq_zero_or_pos len0 with h0 | h0
 ·subst h0;exact⟨_,_,_,[],hc,.inl ⟨_,_,rfl,rfl⟩⟩
 have each:∀i,i<m→∃y:α,∀j,j<E.n→W.cell? (a.add (i*E.n+j))=(E.c y)[j]?:=by
  intro i hi;obtain⟨cs,h1,h2⟩:=hall i hi;rw[hC] at h1;obtain⟨_,hlen,hcell⟩:=World.cells?_some h1;obtain⟨y,rfl⟩:=hel _ _ _ h2;refine⟨y,fun j hj=>?_⟩;have:=hcell j (by omega);rw[Go.Deep.add_add] at this;exact this
 have iR:Inhabited α:=⟨x0⟩;obtain⟨R,hR⟩:=Go.Deep.choose_lt each;obtain⟨sb,so,spot⟩:=a;have hspot:spot=none:=by
  have h1:=hR 0 (by omega) 0 E.pos;have h2:(E.c (R 0))[0]?.isSome=true:=by
   rw[List.getElem?_eq_getElem (by rw[E.len];exact E.pos)];rfl
  obtain⟨u,hu2⟩:=Option.isSome_iff_exists.1 h2;rw[hu2] at h1;simpa[Addr.add] using World.cell?_spot h1
 subst hspot;have hadd:∀j,(⟨sb,so,none⟩:Addr).add j=⟨sb,so+j,none⟩:=by
  intro j;simp only[Addr.add]
  first
   | rfl
   | (split
      ·next h0=>rw[h0];rfl
      rfl)
 refine⟨_,_,_,(List.range len0).map R,hc,.inr ⟨sb,so,_,by simp,by simpa using hl,hm,fun i hi j u hu2=>?_⟩⟩;have hi2:i<len0:=by simpa using hi
 have e:((List.range len0).map R)[i]=R i:=by simp
 rw[e] at hu2;have hj:j<E.n:=by
  have:=(List.getElem?_eq_some_iff.1 hu2).1;rw[E.len] at this;exact this
 have hc:=hR i (by omega) j hj;rw[hadd,hu2,←Nat.add_assoc] at hc;exact hc
end
theorem topo_open {H:Type}{enc:TypeId×Value→H}{W:World}{n:Nat}{cs:List Value}{x:DataW H×List MemPlace}
 (h:DataW.trod enc prog W 0 (fun _=>true) true n 25 cs=some x):∃S ao n cap ao2 n2 cap2 Ls Hs,cs=[.int i64 S,.slice ao n cap,.slice ao2 n2 cap2]∧GS lnkE W (.slice ao n cap) Ls∧GS hstE W (.slice ao2 n2 cap2) Hs:=by
 obtain⟨xs,k,_,_,hl,hlen,hf⟩:=DataW.trod_struct underlying25 h;have hC:Tryz.prog.cellsOf 25=3:=by kernel_rfl
 have hT0:Tryz.prog.cellsOf 3=1:=by kernel_rfl
 have hT1:Tryz.prog.cellsOf 22=1:=by kernel_rfl
 have hT2:Tryz.prog.cellsOf 23=1:=by kernel_rfl
 rw[hC] at hl
 match cs,hl with
 | [c0,c1,c2],_ =>
   match xs,hlen with
   | [z0,z1,z2],_ =>
     have g0:=hf 0 _ rfl;have g1:=hf 1 _ rfl;have g2:=hf 2 _ rfl;simp[hT0,hT1,hT2] at g0 g1 g2;obtain⟨v0,e0,_,_⟩:=DataW.trod_int underlying3 g0;obtain⟨ao,n,cap,Ls,e1,hL⟩:=gs_open (E:=lnkE) 22 57 underlying22 (by kernel_rfl) ((0,0),(0,0)) (fun _ _ _ h=>lnk_open h) g1;obtain⟨ao2,n2,cap2,Hs,e2,hH⟩:=gs_open (E:=hstE) 23 59 underlying23 (by kernel_rfl) (ByteArray.empty,(0,0)) (fun _ _ _ h=>hst_open h) g2;simp at e0 e1 e2;exact⟨v0,ao,n,cap,ao2,n2,cap2,Ls,Hs,by simp[e0,e1,e2],hL,hH⟩
def cuE:Enc (Int×Int) where
 c:=fun x=>[.int i64 x.1,.int i64 x.2]
 n:=2
 len:=fun _=>rfl
 pos:=by decide
 one:=by
  intro x u hu;simp at hu
  rcases hu with rfl | rfl <;> rfl
theorem cu_open {H:Type}{enc:TypeId×Value→H}{W:World}{n:Nat}{cs:List Value}{x:DataW H×List MemPlace}
 (h:DataW.trod enc prog W 0 (fun _=>true) true n 62 cs=some x):∃y,cs=cuE.c y:=by
 obtain⟨xs,k,_,_,hl,hlen,hf⟩:=DataW.trod_struct underlying62 h;have hC:Tryz.prog.cellsOf 62=2:=by kernel_rfl
 have hT0:Tryz.prog.cellsOf 3=1:=by kernel_rfl
 rw[hC] at hl
 match cs,hl with
 | [c0,c1],_ =>
   match xs,hlen with
   | [z0,z1],_ =>
     have g0:=hf 0 _ rfl;have g1:=hf 1 _ rfl;simp[hT0] at g0 g1;obtain⟨v0,e0,_,_⟩:=DataW.trod_int underlying3 g0;obtain⟨v1,e1,_,_⟩:=DataW.trod_int underlying3 g1;simp[] at e0 e1;refine⟨(v0,v1),?_⟩;simp[cuE,e0,e1]
def rlE:Enc (Ru) where
 c:=fun x=>[.int i64 x.p,.int i64 x.m,.int i64 x.b,.int i64 x.o,.int i64 x.s,.int i64 x.v]
 n:=6
 len:=fun _=>rfl
 pos:=by decide
 one:=by
  intro x u hu;simp at hu
  rcases hu with rfl | rfl | rfl | rfl | rfl | rfl <;> rfl
theorem rl_cells {w:World}{g o:Nat}{x0 x1 x2 x3 x4 x5:Int}(h:VAt w g o (rlE.c ⟨x0,x1,x2,x3,x4,x5⟩)):w.cell? ⟨g,o,none⟩=some (.int i64 x0)∧w.cell? ⟨g,o+1,none⟩=some (.int i64 x1)∧w.cell? ⟨g,o+2,none⟩=some (.int i64 x2)∧w.cell? ⟨g,o+3,none⟩=some (.int i64 x3)∧w.cell? ⟨g,o+4,none⟩=some (.int i64 x4)∧w.cell? ⟨g,o+5,none⟩=some (.int i64 x5):=
 ⟨h 0 _ rfl,h 1 _ rfl,h 2 _ rfl,h 3 _ rfl,h 4 _ rfl,h 5 _ rfl⟩
theorem rl_new (w:World)(x0 x1 x2 x3 x4 x5:Int)(t:TypeId):VAt (w.alloc (.cells #[.int i64 x0,.int i64 x1,.int i64 x2,.int i64 x3,.int i64 x4,.int i64 x5] t)) w.heap.size 0 (rlE.c ⟨x0,x1,x2,x3,x4,x5⟩):=vat_new w [.int i64 x0,.int i64 x1,.int i64 x2,.int i64 x3,.int i64 x4,.int i64 x5] t
theorem rl_info:(Tryz.prog.info? 64).map (fun i=>(i.zero,i.size,i.bytes))=some (some (.agg #[.int i64 0,.int i64 0,.int i64 0,.int i64 0,.int i64 0,.int i64 0]),6,48):=by kernel_rfl
theorem rl_zero:(Value.agg #[.int i64 0,.int i64 0,.int i64 0,.int i64 0,.int i64 0,.int i64 0]).cells.size=6:=by simp[Value.cells]
theorem rl_open {H:Type}{enc:TypeId×Value→H}{W:World}{n:Nat}{cs:List Value}{x:DataW H×List MemPlace}
 (h:DataW.trod enc prog W 0 (fun _=>true) true n 64 cs=some x):∃y,cs=rlE.c y:=by
 obtain⟨xs,k,_,_,hl,hlen,hf⟩:=DataW.trod_struct underlying64 h;have hC:Tryz.prog.cellsOf 64=6:=by kernel_rfl
 have hT0:Tryz.prog.cellsOf 3=1:=by kernel_rfl
 have hT1:Tryz.prog.cellsOf 62=2:=by kernel_rfl
 rw[hC] at hl
 match cs,hl with
 | [c0,c1,c2,c3,c4,c5],_ =>
   match xs,hlen with
   | [z0,z1,z2,z3,z4],_ =>
     have g0:=hf 0 _ rfl;have g1:=hf 1 _ rfl;have g2:=hf 2 _ rfl;have g3:=hf 3 _ rfl;have g4:=hf 4 _ rfl;simp[hT0,hT1] at g0 g1 g2 g3 g4;obtain⟨v0,e0,_,_⟩:=DataW.trod_int underlying3 g0;obtain⟨s1,e1⟩:=cu_open g1;obtain⟨v3,e2,_,_⟩:=DataW.trod_int underlying3 g2;obtain⟨v4,e3,_,_⟩:=DataW.trod_int underlying3 g3;obtain⟨v5,e4,_,_⟩:=DataW.trod_int underlying3 g4;simp[cuE] at e0 e1 e2 e3 e4;refine⟨⟨v0,s1.1,s1.2,v3,v4,v5⟩,?_⟩;simp[rlE,e0,e1,e2,e3,e4]
theorem gs_SR {w:World}{v:Value}{L:List Ru}(h:GS rlE w v L):SR w v L:=by
 rcases h with h | ⟨g,o,cap,h1,h2,h3,h4⟩
 ·exact .inl h
 refine .inr ⟨g,o,cap,h1,h2,h3,fun i hi=>?_⟩;have hv:=h4 i hi
 generalize L[i]=r at hv
 obtain⟨p,m,b,q,s,x⟩:=r;obtain⟨q0,q1,q2,q3,q4,q5⟩:=rl_cells hv;exact⟨q0,q1,q2,q3,q4,q5⟩
theorem table_open {H:Type}{enc:TypeId×Value→H}{W:World}{fuel:Nat}{cs:List Value}{x:DataW H×List MemPlace}
 (h:DataW.trod enc prog W 0 (fun _=>true) true fuel 46 cs=some x):∃ao n cap L,cs=[.slice ao n cap]∧SR W (.slice ao n cap) L:=by
 obtain⟨ao,n,cap,L,e,hL⟩:=gs_open (E:=rlE) 46 64 underlying46 (by kernel_rfl) zeR (fun _ _ _ h=>rl_open h) h;exact⟨ao,n,cap,L,e,gs_SR hL⟩
theorem tables_open {H:Type}{enc:TypeId×Value→H}{W:World}{fuel:Nat}{cs:List Value}{x:DataW H×List MemPlace}
 (hf2:DataW.trod enc prog W 0 (fun _=>true) true fuel 26 cs=some x):∃ao n cap Ts,cs=[.slice ao n cap]∧TS W (.slice ao n cap) Ts:=by
 obtain⟨d,p⟩:=x;have hC:Tryz.prog.cellsOf 46=1:=by kernel_rfl
 rcases Go.Deep.open_slice underlying26 hf2 with ⟨hc,hx⟩ | ⟨a,len0,cap,m,k,D,Pl,hc,_,hl,hm,hmm,hx,hall⟩
 ·exact⟨_,_,_,[],hc,.inl ⟨none,0,rfl,rfl⟩⟩
 simp only[if_true] at hmm;subst hmm
 rcases Nat.eq_zero_or_pos len0 with h0 | h0
 ·subst h0;exact⟨_,_,_,[],hc,.inl ⟨_,_,rfl,rfl⟩⟩
 have each:∀i,i<m→∃L:List Ru,∃ao n cap,W.cell? (a.add i)=some (.slice ao n cap)∧SR W (.slice ao n cap) L:=by
  intro i hi;obtain⟨cs,h1,h2⟩:=hall i hi;rw[hC] at h1;obtain⟨_,hlen,hcell⟩:=World.cells?_some h1;obtain⟨ao,n,cap,L,rfl,hL⟩:=table_open h2;refine⟨L,ao,n,cap,?_,hL⟩;have:=hcell 0 (by simp);rw[Go.Deep.add_add] at this;simpa using this
 obtain⟨R,hR⟩:=Go.Deep.choose_lt each;obtain⟨sb,so,spot⟩:=a;have hspot:spot=none:=by
  obtain⟨ao,n,cap,h1,_⟩:=hR 0 (by omega);simpa[Addr.add] using World.cell?_spot h1
 subst hspot;have hadd:∀j,(⟨sb,so,none⟩:Addr).add j=⟨sb,so+j,none⟩:=by
  intro j;simp only[Addr.add]
  first
   | rfl
   | (split
      ·next h0=>rw[h0];rfl
      rfl)
 refine⟨_,_,_,(List.range len0).map R,hc,.inr ⟨sb,so,_,by simp,by simpa using hl,hm,fun i hi=>?_⟩⟩;have hi2:i<len0:=by simpa using hi
 have e:((List.range len0).map R)[i]=R i:=by simp
 rw[e];obtain⟨ao,n,cap,h1,h2⟩:=hR i (by omega);rw[hadd] at h1;exact⟨ao,n,cap,h1,h2⟩
theorem net_open {H:Type}{enc:TypeId×Value→H}{W:World}{n:Nat}{cs:List Value}{x:DataW H×List MemPlace}
 (h:DataW.trod enc prog W 0 (fun _=>true) true n 28 cs=some x):∃S ao n cap ao2 n2 cap2 ao3 n3 cap3 Ls Hs Ts,cs=[.int i64 S,.slice ao n cap,.slice ao2 n2 cap2,.slice ao3 n3 cap3]∧GS lnkE W (.slice ao n cap) Ls∧GS hstE W (.slice ao2 n2 cap2) Hs∧TS W (.slice ao3 n3 cap3) Ts:=by
 obtain⟨xs,k,_,_,hl,hlen,hf⟩:=DataW.trod_struct underlying28 h;have hC:Tryz.prog.cellsOf 28=4:=by kernel_rfl
 have hT0:Tryz.prog.cellsOf 25=3:=by kernel_rfl
 have hT1:Tryz.prog.cellsOf 26=1:=by kernel_rfl
 rw[hC] at hl
 match cs,hl with
 | [c0,c1,c2,c3],_ =>
   match xs,hlen with
   | [z0,z1],_ =>
     have g0:=hf 0 _ rfl;have g1:=hf 1 _ rfl;simp[hT0,hT1] at g0 g1;obtain⟨S,ao,n,cap,ao2,n2,cap2,Ls,Hs,e0,hL,hH⟩:=topo_open g0;obtain⟨ao3,n3,cap3,Ts,e1,hT⟩:=tables_open g1;simp at e0 e1;exact⟨S,ao,n,cap,ao2,n2,cap2,ao3,n3,cap3,Ls,Hs,Ts,by simp[e0,e1],hL,hH,hT⟩
theorem net_of {H:Type}{enc:TypeId×Value→H}{W:World}{base:Nat}{v:Value}{d:DataW H}{p:List MemPlace}
 (hv:Value.okWide prog W .any base 28 v) (h:DataW.Trod enc prog W 0 (fun _=>true) true 28 v d p):∃S ao n cap ao2 n2 cap2 ao3 n3 cap3 Ls Hs Ts,v=.agg #[.int i64 S,.slice ao n cap,.slice ao2 n2 cap2,.slice ao3 n3 cap3]∧GS lnkE W (.slice ao n cap) Ls∧GS hstE W (.slice ao2 n2 cap2) Hs∧TS W (.slice ao3 n3 cap3) Ts:=by
 obtain⟨cs,rfl,hsz⟩:=okWide_struct underlying28 hv;obtain⟨n,hn⟩:=h;obtain⟨S,ao,n,cap,ao2,n2,cap2,ao3,n3,cap3,Ls,Hs,Ts,e,h1,h2,h3⟩:=net_open hn;refine⟨S,ao,n,cap,ao2,n2,cap2,ao3,n3,cap3,Ls,Hs,Ts,?_,h1,h2,h3⟩;simp only[Value.cells] at e;rw[←Array.toArray_toList (xs:=cs),e]
end
section
open Go.RowKit
def offB (x:SlT)(b:Nat):Prop:=x.2.1=0∨∀a,x.1=some a→a.block≠b
theorem RAt.lt {w:World}{g o:Nat}{L:List Ru}(h:RAt w g o L)(h0:0<L.length):g<w.heap.size:=bLQ _ _ (h 0 h0).c0
theorem SR.off {w:World}{x:SlT}{L:List Ru}(h:SR w (slV x) L){b:Nat}(hb:w.heap.size≤b):offB x b:=by
 obtain⟨ao,n,cap⟩:=x
 rcases h with ⟨ao',cap',e,rfl⟩ | ⟨g,o,cap',e,h1,h2,h3⟩
 ·simp only[slV,Value.slice.injEq] at e;exact .inl e.2.1
 simp only[slV,Value.slice.injEq] at e;obtain⟨rfl,rfl,rfl⟩:=e;by_cases h0:L.length=0
 ·exact .inl h0
 refine .inr fun a ha=>?_
 cases ha;have:=h3.lt (by omega);show g≠b;omega
theorem SR.grown {w w':World}{x:SlT}{L:List Ru}{row:Option Nat}(h:SR w (slV x) L)(hg:w.grownBy w' row)(ho:∀b,row=some b→offB x b):SR w' (slV x) L:=by
 obtain⟨ao,n,cap⟩:=x
 rcases h with ⟨ao',cap',e,rfl⟩ | ⟨g,o,cap',e,h1,h2,h3⟩
 ·exact .inl ⟨ao',cap',e,rfl⟩
 simp only[slV,Value.slice.injEq] at e;obtain⟨rfl,rfl,rfl⟩:=e;by_cases h0:L.length=0
 ·exact .inl ⟨_,_,by rw[slV,h0],List.length_eq_zero_iff.1 h0⟩
 have hne:some g≠row:=by
  intro e
  rcases ho g e.symm with h4 | h4
  ·exact h0 h4
  exact h4 _ rfl rfl
 refine .inr ⟨g,o,cap,rfl,h1,h2,fun i hi=>?_⟩;obtain⟨c0,c1,c2,c3,c4,c5⟩:=h3 i hi;exact⟨hg.cell c0 hne,hg.cell c1 hne,hg.cell c2 hne,hg.cell c3 hne,hg.cell c4 hne,hg.cell c5 hne⟩
section
variable {e:TypeId}{w w':World}{A B:Nat}{v:Value}{vs:List SlT}{Ts:TsQ}
end
end
section
open Go.ChangeShapes Go.WideShapes Go.ChangeAt Go.RowKit
def cellsR (L:List Ru):List Value:=L.flatMap fun r=>[.int i64 r.p,.int i64 r.m,.int i64 r.b,.int i64 r.o,.int i64 r.s,.int i64 r.v]
theorem cellsR_len (L:List Ru):(cellsR L).length=L.length*6:=by
 induction L with
 | nil=>rfl
 | cons p r ih=>simp only[cellsR,List.flatMap_cons,List.length_append,List.length_cons,List.length_nil] at *;omega
theorem cellsR_at (L:List Ru)(i:Nat)(h:i<L.length):(cellsR L)[i*6]?=some (.int i64 (L[i]).p)∧(cellsR L)[i*6+1]?=some (.int i64 (L[i]).m)∧(cellsR L)[i*6+2]?=some (.int i64 (L[i]).b) ∧
 (cellsR L)[i*6+3]?=some (.int i64 (L[i]).o)∧(cellsR L)[i*6+4]?=some (.int i64 (L[i]).s)∧(cellsR L)[i*6+5]?=some (.int i64 (L[i]).v):=by
 induction L generalizing i with
 | nil=>simp at h
 | cons p r ih =>
   cases i with
   | zero=>simp[cellsR]
   | succ i =>
     have:=ih i (by simpa using h);have e1:(i+1)*6=i*6+1+1+1+1+1+1:=by omega
     simpa[cellsR,e1] using this
end
section
open Go.RowKit
theorem addr_add (g o j:Nat):(⟨g,o,none⟩:Addr).add j=⟨g,o+j,none⟩:=by
 simp only[Addr.add]
 first
  | rfl
  | (split
     ·next h0=>rw[h0];rfl
     rfl)
theorem RAt.cells {w:World}{g o:Nat}{M:List Ru}(h:RAt w g o M):∀j u,(cellsR M)[j]?=some u→w.cell? ((⟨g,o,none⟩:Addr).add j)=some u:=by
 intro j u hu;have hj:j<M.length*6:=by
  have:=(List.getElem?_eq_some_iff.1 hu).1;rw[cellsR_len] at this;exact this
 rw[addr_add];have hi:j / 6<M.length:=by omega
 obtain⟨c0,c1,c2,c3,c4,c5⟩:=h (j / 6) hi;obtain⟨a0,a1,a2,a3,a4,a5⟩:=cellsR_at M (j / 6) hi;have h6:j=j / 6*6∨j=j / 6*6+1∨j=j / 6*6+2∨j=j / 6*6+3∨j=j / 6*6+4∨j=j / 6*6+5:=by omega
 generalize j / 6=i at *
 rcases h6 with e | e | e | e | e | e
 ·subst e;rw[a0] at hu;cases hu;exact c0
 ·subst e;rw[a1] at hu;cases hu;rw[←Nat.add_assoc];exact c1
 ·subst e;rw[a2] at hu;cases hu;rw[←Nat.add_assoc];exact c2
 ·subst e;rw[a3] at hu;cases hu;rw[←Nat.add_assoc];exact c3
 ·subst e;rw[a4] at hu;cases hu;rw[←Nat.add_assoc];exact c4
 subst e;rw[a5] at hu;cases hu;rw[←Nat.add_assoc];exact c5
theorem SR.len {w:World}{ao:AdQ}{n cap:Nat}{L:List Ru}(h:SR w (.slice ao n cap) L):L.length=n:=by
 rcases h with ⟨_,_,e,rfl⟩ | ⟨_,_,_,e,_⟩
 ·simp at e;simp[e]
 simp at e;exact e.2.1.symm
theorem SR.nil (w:World):SR w (.slice none 0 0) []:=.inl ⟨none,0,rfl,rfl⟩
theorem RAt.drop {w:World}{g o:Nat}{L:List Ru}(h:RAt w g o L)(k:Nat):RAt w g (o+k*6) (L.drop k):=by
 intro i hi;have hi2:k+i<L.length:=by simp at hi;omega
 have:=h (k+i) hi2;rw[List.getElem_drop];have e:o+(k+i)*6=o+k*6+i*6:=by omega
 rw[←e];exact this
theorem GS.off {α:Type}{E:Enc α}{w:World}{x:SlT}{L:List α}(h:GS E w (slV x) L){b:Nat}(hb:w.heap.size≤b):offB x b:=by
 obtain⟨ao,n,cap⟩:=x
 rcases h with ⟨ao',cap',e,rfl⟩ | ⟨g,o,cap',e,h1,h2,h3⟩
 ·simp only[slV,Value.slice.injEq] at e;exact .inl e.2.1
 simp only[slV,Value.slice.injEq] at e;obtain⟨rfl,rfl,rfl⟩:=e;by_cases h0:L.length=0
 ·exact .inl h0
 refine .inr fun a ha=>?_
 cases ha;have hp:=E.pos;have hl:=E.len L[0];have hc:=h3 0 (by omega) 0 _ (List.getElem?_eq_getElem (by rw[hl];exact hp));have:=bLQ _ _ hc;show g≠b;have:g<w.heap.size:=this;omega
theorem GS.grown {α:Type}{E:Enc α}{w w':World}{x:SlT}{L:List α}{row:Option Nat}(h:GS E w (slV x) L)(hg:w.grownBy w' row)(ho:∀b,row=some b→offB x b):GS E w' (slV x) L:=by
 obtain⟨ao,n,cap⟩:=x
 rcases h with ⟨ao',cap',e,rfl⟩ | ⟨g,o,cap',e,h1,h2,h3⟩
 ·exact .inl ⟨ao',cap',e,rfl⟩
 simp only[slV,Value.slice.injEq] at e;obtain⟨rfl,rfl,rfl⟩:=e;by_cases h0:L.length=0
 ·exact .inl ⟨_,_,by rw[slV,h0],List.length_eq_zero_iff.1 h0⟩
 have hne:some g≠row:=by
  intro e
  rcases ho g e.symm with h4 | h4
  ·exact h0 h4
  exact h4 _ rfl rfl
 exact .inr ⟨g,o,cap,rfl,h1,h2,fun i hi j u hu=>hg.cell (h3 i hi j u hu) hne⟩
section
variable {w w':World}{B:Nat}{v:Value}{vs:List SlT}{Rs:List (List Op8)}
end
theorem oo_apart {w:World}{b1 e1 s1 n1 b2 e2 s2 n2:Nat}{v1 v2:Value}{x1 x2:List Value}(h1:w.ownsRow b1 e1 s1 v1 n1 x1)(h2:w.ownsRow b2 e2 s2 v2 n2 x2)(he:e1≠e2):v1.ownBlock=none∨v1.ownBlock≠v2.ownBlock:=by
 rcases h1.2 with ⟨rfl,_⟩ | ⟨g,cap,cur,rfl,_,hg,_⟩
 ·exact .inl rfl
 rcases h2.2 with ⟨rfl,_⟩ | ⟨g',cap',cur',rfl,_,hg',_⟩
 ·exact .inr (by intro e;cases e)
 refine .inr fun e=>he ?_
 have e':g=g':=by
  have:some g=some g':=e;cases this;rfl
 subst e';rw[hg] at hg';cases hg';rfl
section
variable {α:Type}{E:Enc α}{tO tI:TypeId}
structure OO (E:Enc α)(tO tI:TypeId)(w:World)(B:Nat)(v:Value)(vs:List SlT)(Ts:List (List α)):Prop where
 ov:w.ownsRow B tO slE.n v vs.length (cellsG slE vs)
 lv:vs.length=Ts.length
 rv:∀(i:Nat) (x:SlT) (L:List α),vs[i]?=some x→Ts[i]?=some L→w.ownsRow B tI E.n (slV x) L.length (cellsG E L)
 dv:∀(i j:Nat) (x y:SlT) (b:Nat),i≠j→vs[i]?=some x→vs[j]?=some y→(slV x).ownBlock=some b→(slV y).ownBlock≠some b
variable {w w':World}{B:Nat}{v:Value}{vs:List SlT}{Ts:List (List α)}
theorem oo_nil (w:World)(B:Nat):OO E tO tI w B (.slice none 0 0) [] []:=⟨World.ownsRow_nil w B _ slE.n,rfl,fun i x L h=>by simp at h,fun i j x y b _ h=>by simp at h⟩
theorem OO.kept (h:OO E tO tI w B v vs Ts){row:Option Nat}(hg:w.grownBy w' row)(ho:v.ownBlock=none∨v.ownBlock≠row)(hi:∀x∈vs,(slV x).ownBlock=none∨(slV x).ownBlock≠row):OO E tO tI w' B v vs Ts:=
 ⟨h.ov.kept hg ho,h.lv,fun i x L h1 h2=>(h.rv i x L h1 h2).kept hg (hi x (List.mem_of_getElem? h1)),h.dv⟩
theorem OO.later (h:OO E tO tI w B v vs Ts)(hb:Below w.heap.size w w'):OO E tO tI w' B v vs Ts:=h.kept (grown_below hb) (none_or _) fun _ _=>none_or _
theorem OO.low (h:OO E tO tI w B v vs Ts){g:Nat}(hg:w.grownBy w' (some g))(hB:g<B):OO E tO tI w' B v vs Ts:=by
 refine h.kept hg ?_ fun x hx=>?_
 ·cases e:v.ownBlock with
  | none=>exact .inl rfl
  | some b=>exact .inr fun e2=>by cases e2;have:=(h.ov.lt _ e).1;omega
 obtain⟨i,hi,e1⟩:=List.getElem_of_mem hx;have h1:vs[i]?=some x:=by rw[List.getElem?_eq_getElem hi,e1]
 have hi2:i<Ts.length:=by rw[←h.lv];exact hi
 have h2:Ts[i]?=some Ts[i]:=List.getElem?_eq_getElem hi2;cases e:(slV x).ownBlock with
 | none=>exact .inl rfl
 | some b=>exact .inr fun e2=>by cases e2;have:=((h.rv i x _ h1 h2).lt _ e).1;omega
theorem OO.push (ht:tO≠tI)(h:OO E tO tI w B v vs Ts){v':Value}(hg:w.grownBy w' v.ownBlock)(ho:w'.ownsRow B tO slE.n v' (vs++[((none,0,0):SlT)]).length (cellsG slE (vs++[((none,0,0):SlT)]))):OO E tO tI w' B v' (vs++[(none,0,0)]) (Ts++[[]]):=by
 have hlast:∀{i:Nat} {x:SlT},(vs++[((none,0,0):SlT)])[i]?=some x→(i<vs.length∧vs[i]?=some x)∨(i=vs.length∧x=(none,0,0)):=by
  intro i x h1;by_cases hi:i<vs.length
  ·rw[List.getElem?_append_left hi] at h1;exact .inl ⟨hi,h1⟩
  have hi2:i=vs.length:=by
   have:=(List.getElem?_eq_some_iff.1 h1).1;simp at this;omega
  subst hi2;simp at h1;exact .inr ⟨rfl,h1.symm⟩
 refine⟨ho,by simp[h.lv],fun i x L h1 h2=>?_,fun i j x y b hij h1 h2 e1 e2=>?_⟩
 ·rcases hlast h1 with ⟨hi,h1⟩ | ⟨rfl,rfl⟩
  ·rw[List.getElem?_append_left (by rw[←h.lv];exact hi)] at h2;have:=h.rv i x L h1 h2;exact this.kept hg (oo_apart this h.ov (fun e=>ht e.symm))
  rw[h.lv] at h2;simp at h2;subst h2;exact World.ownsRow_nil _ _ _ _
 rcases hlast h1 with ⟨_,h1⟩ | ⟨_,rfl⟩
 ·rcases hlast h2 with ⟨_,h2⟩ | ⟨_,rfl⟩
  ·exact h.dv i j x y b hij h1 h2 e1 e2
  cases e2
 cases e1
theorem OO.put (ht:tO≠tI){g n cap i:Nat}(h:OO E tO tI w B (.slice (some ⟨g,0,none⟩) n cap) vs Ts){x y:SlT}{L:List α}{r:α}(hx:vs[i]?=some x)(hL:Ts[i]?=some L){w1:World}
 (hg:w.grownBy w1 (slV x).ownBlock) (ho:w1.ownsRow B tI E.n (slV y) (L++[r]).length (cellsG E (L++[r]))) (hb:(slV y).ownBlock=(slV x).ownBlock∨(slV y).ownBlock=some w.heap.size):OO E tO tI (w1.setCell ⟨g,i,none⟩ (slV y)) B (.slice (some ⟨g,0,none⟩) n cap) (vs.set i y) (Ts.set i (L++[r])):=by
 have hrx:=h.rv i x L hx hL;have hov:=h.ov;have hn:n=vs.length:=by
  rcases hov.2 with ⟨h3,_⟩ | ⟨_,_,_,h3,_⟩
  ·cases h3
  simp only[Value.slice.injEq] at h3;exact h3.2.1
 have hov1:=hov.kept hg (oo_apart hov hrx ht);have hil:=(List.getElem?_eq_some_iff.1 hx).1;have hgw:w1.grownBy (w1.setCell ⟨g,i,none⟩ (slV y)) (some g):=grown_set w1 g i (slV y);have inner:∀{z:SlT} {M:List α},w1.ownsRow B tI E.n (slV z) M.length (cellsG E M)→(w1.setCell ⟨g,i,none⟩ (slV y)).ownsRow B tI E.n (slV z) M.length (cellsG E M):=fun hz=>hz.kept hgw (oo_apart hz hov1 (fun e=>ht e.symm))
 have hlt:∀(j:Nat) (z:SlT) (b:Nat),vs[j]?=some z→(slV z).ownBlock=some b→b<w.heap.size:=fun j z b h1 h2=>((h.rv j z _ h1 (List.getElem?_eq_getElem (by rw[←h.lv];exact (List.getElem?_eq_some_iff.1 h1).1))).lt b h2).2
 refine⟨?_,by simp[h.lv],fun j z M h1 h2=>?_,fun j k z z' b hjk h1 h2 e1 e2=>?_⟩
 ·rw[List.length_set,sl_cells,List.map_set];rw[sl_cells,←hn] at hov1;rw[←hn];exact (hov1.stored _ _).1
 ·by_cases e:j=i
  ·subst e;rw[List.getElem?_set_self hil] at h1;rw[List.getElem?_set_self (by rw[←h.lv];exact hil)] at h2;cases h1;cases h2;exact inner ho
  rw[List.getElem?_set_ne (fun e2=>e e2.symm)] at h1;rw[List.getElem?_set_ne (fun e2=>e e2.symm)] at h2;refine inner ((h.rv j z M h1 h2).kept hg ?_);cases eb:(slV z).ownBlock with
  | none=>exact .inl rfl
  | some b=>exact .inr fun e2=>h.dv j i z x b e h1 hx eb e2.symm
 by_cases ej:j=i
 ·subst ej;rw[List.getElem?_set_self hil] at h1;cases h1;rw[List.getElem?_set_ne hjk] at h2
  rcases hb with hb | hb
  ·rw[hb] at e1;exact h.dv j k x z' b hjk hx h2 e1 e2
  rw[hb] at e1;cases e1;have:=hlt k z' _ h2 e2;omega
 rw[List.getElem?_set_ne (fun e2=>ej e2.symm)] at h1;by_cases ek:k=i
 ·subst ek;rw[List.getElem?_set_self hil] at h2;cases h2
  rcases hb with hb | hb
  ·rw[hb] at e2;exact h.dv j k z x b hjk h1 hx e1 e2
  rw[hb] at e2;cases e2;have:=hlt j z _ h1 e1;omega
 rw[List.getElem?_set_ne (fun e2=>ek e2.symm)] at h2;exact h.dv j k z z' b hjk h1 h2 e1 e2
end
structure RdM (W:World)(gb B:Nat)(d:RdT)(v1 v2 v3 v7:Value)(vs:List SlT):Prop where
 gB:gb<B
 c:NeBox W gb d.S v1 v2 v3
 f:∀i,W.frozen? ⟨gb,i,none⟩=false
 l:W.ownsRow B 57 lnkE.n v1 d.Ls.length (cellsG lnkE d.Ls)
 h:W.ownsRow B 59 hstE.n v2 d.Hs.length (cellsG hstE d.Hs)
 t:OO rlE 46 64 W B v3 vs d.Ts
 w:W.ownsRow B 50 wisE.n v7 d.ws.length (cellsG wisE d.ws)
section
variable {W W':World}{gb B:Nat}{d:RdT}{v1 v2 v3 v7:Value}{vs:List SlT}
theorem RdM.lt (m:RdM W gb B d v1 v2 v3 v7 vs):gb<W.heap.size:=bLQ W ⟨gb,0,none⟩ m.c.1
theorem RdM.later (m:RdM W gb B d v1 v2 v3 v7 vs)(hb:Below W.heap.size W W'):RdM W' gb B d v1 v2 v3 v7 vs:=
 ⟨m.gB,m.c.later hb,fun i=>by rw[hb.frozen (p:=⟨gb,i,none⟩) m.lt];exact m.f i,m.l.kept (grown_below hb) (none_or _),m.h.kept (grown_below hb) (none_or _),m.t.later hb,m.w.kept (grown_below hb) (none_or _)⟩
theorem RdM.ph (m:RdM W gb B d v1 v2 v3 v7 vs)(p:Int):RdM W gb B { d with ph:=p } v1 v2 v3 v7 vs:=⟨m.gB,m.c,m.f,m.l,m.h,m.t,m.w⟩
theorem nb_grown {g:Nat}{S:Int}{a b c:Value}{row:Option Nat}(h:NeBox W g S a b c)(hg:W.grownBy W' row)(hne:some g≠row):NeBox W' g S a b c:=⟨hg.cell h.1 hne,hg.cell h.2.1 hne,hg.cell h.2.2.1 hne,hg.cell h.2.2.2 hne⟩
theorem fz_grown {g:Nat}{row:Option Nat}(hl:g<W.heap.size)(h:∀i,W.frozen? ⟨g,i,none⟩=false)(hg:W.grownBy W' row)(hne:some g≠row):∀i,W'.frozen? ⟨g,i,none⟩=false:=fun i=>by
 rw[World.frozen?_of_block (w:=W) (hg.block g hl hne)];exact h i
theorem row_ne {e s n:Nat}{v:Value}{xs:List Value}(h:W.ownsRow B e s v n xs)(hB:gb<B):some gb≠v.ownBlock:=fun e=>by
 have:=(h.lt gb e.symm).1;omega
theorem row_low {e s n j:Nat}{v u:Value}{xs:List Value}(h:W.ownsRow B e s v n xs)(hB:gb<B):(W.setCell ⟨gb,j,none⟩ u).ownsRow B e s v n xs:=h.kept (grown_set W gb j u) (by
 cases hb:v.ownBlock with
 | none=>exact .inl rfl
 | some b=>exact .inr fun e2=>by cases e2;have:=(h.lt _ hb).1;omega)
theorem RdM.setS (m:RdM W gb B d v1 v2 v3 v7 vs)(s:Int):RdM (W.setCell ⟨gb,0,none⟩ (.int i64 s)) gb B { d with S:=s } v1 v2 v3 v7 vs:=by
 obtain⟨c0,c1,c2,c3⟩:=m.c;refine⟨m.gB,⟨World.cell?_setCell_same _ _ _ c0,?_,?_,?_⟩,fun i=>by simpa using m.f i,row_low m.l m.gB,row_low m.h m.gB,m.t.low (grown_set W gb 0 _) m.gB,row_low m.w m.gB⟩
 ·rw[World.cell?_setCell_other _ _ _ _ (by simp)];exact c1
 ·rw[World.cell?_setCell_other _ _ _ _ (by simp)];exact c2
 rw[World.cell?_setCell_other _ _ _ _ (by simp)];exact c3
theorem RdM.addL (hT:57≠59∧57≠50∧57≠46∧57≠64)(m:RdM W gb B d v1 v2 v3 v7 vs){x:(Int×Int)×(Int×Int)}{u:Value}(hg:W.grownBy W' v1.ownBlock)(ho:W'.ownsRow B 57 lnkE.n u (d.Ls++[x]).length (cellsG lnkE (d.Ls++[x]))):
 RdM (W'.setCell ⟨gb,1,none⟩ u) gb B { d with Ls:=d.Ls++[x] } u v2 v3 v7 vs:=by
 have hne:=row_ne m.l m.gB;obtain⟨c0,c1,c2,c3⟩:=nb_grown m.c hg hne;have ht:OO rlE 46 64 W' B v3 vs d.Ts:=m.t.kept hg (oo_apart m.t.ov m.l (fun e=>hT.2.2.1 e.symm)) fun y hy=>by
  obtain⟨i,hi,e1⟩:=List.getElem_of_mem hy;have hi2:i<d.Ts.length:=by rw[←m.t.lv];exact hi
  exact oo_apart (m.t.rv i y _ (by rw[List.getElem?_eq_getElem hi,e1]) (List.getElem?_eq_getElem hi2)) m.l (fun e=>hT.2.2.2 e.symm)
 refine⟨m.gB,⟨?_,World.cell?_setCell_same _ _ _ c1,?_,?_⟩,fun i=>by simpa using fz_grown m.lt m.f hg hne i,row_low ho m.gB,row_low (m.h.kept hg (oo_apart m.h m.l (fun e=>hT.1 e.symm))) m.gB,ht.low (grown_set W' gb 1 _) m.gB,row_low (m.w.kept hg (oo_apart m.w m.l (fun e=>hT.2.1 e.symm))) m.gB⟩
 ·rw[World.cell?_setCell_other _ _ _ _ (by simp)];exact c0
 ·rw[World.cell?_setCell_other _ _ _ _ (by simp)];exact c2
 rw[World.cell?_setCell_other _ _ _ _ (by simp)];exact c3
theorem RdM.addH (hT:59≠57∧59≠50∧59≠46∧59≠64)(m:RdM W gb B d v1 v2 v3 v7 vs){x:ByteArray×(Int×Int)}{u:Value}(hg:W.grownBy W' v2.ownBlock)(ho:W'.ownsRow B 59 hstE.n u (d.Hs++[x]).length (cellsG hstE (d.Hs++[x]))):
 RdM (W'.setCell ⟨gb,2,none⟩ u) gb B { d with Hs:=d.Hs++[x] } v1 u v3 v7 vs:=by
 have hne:=row_ne m.h m.gB;obtain⟨c0,c1,c2,c3⟩:=nb_grown m.c hg hne;have ht:OO rlE 46 64 W' B v3 vs d.Ts:=m.t.kept hg (oo_apart m.t.ov m.h (fun e=>hT.2.2.1 e.symm)) fun y hy=>by
  obtain⟨i,hi,e1⟩:=List.getElem_of_mem hy;have hi2:i<d.Ts.length:=by rw[←m.t.lv];exact hi
  exact oo_apart (m.t.rv i y _ (by rw[List.getElem?_eq_getElem hi,e1]) (List.getElem?_eq_getElem hi2)) m.h (fun e=>hT.2.2.2 e.symm)
 refine⟨m.gB,⟨?_,?_,World.cell?_setCell_same _ _ _ c2,?_⟩,fun i=>by simpa using fz_grown m.lt m.f hg hne i,row_low (m.l.kept hg (oo_apart m.l m.h (fun e=>hT.1 e.symm))) m.gB,row_low ho m.gB,ht.low (grown_set W' gb 2 _) m.gB,row_low (m.w.kept hg (oo_apart m.w m.h (fun e=>hT.2.1 e.symm))) m.gB⟩
 ·rw[World.cell?_setCell_other _ _ _ _ (by simp)];exact c0
 ·rw[World.cell?_setCell_other _ _ _ _ (by simp)];exact c1
 rw[World.cell?_setCell_other _ _ _ _ (by simp)];exact c3
theorem RdM.addW (hT:50≠57∧50≠59∧50≠46∧50≠64)(m:RdM W gb B d v1 v2 v3 v7 vs){x:Wi}{u:Value}(hg:W.grownBy W' v7.ownBlock)(ho:W'.ownsRow B 50 wisE.n u (d.ws++[x]).length (cellsG wisE (d.ws++[x]))):
 RdM W' gb B { d with ws:=d.ws++[x] } v1 v2 v3 u vs:=by
 have hne:=row_ne m.w m.gB;have ht:OO rlE 46 64 W' B v3 vs d.Ts:=m.t.kept hg (oo_apart m.t.ov m.w (fun e=>hT.2.2.1 e.symm)) fun y hy=>by
  obtain⟨i,hi,e1⟩:=List.getElem_of_mem hy;have hi2:i<d.Ts.length:=by rw[←m.t.lv];exact hi
  exact oo_apart (m.t.rv i y _ (by rw[List.getElem?_eq_getElem hi,e1]) (List.getElem?_eq_getElem hi2)) m.w (fun e=>hT.2.2.2 e.symm)
 exact⟨m.gB,nb_grown m.c hg hne,fz_grown m.lt m.f hg hne,m.l.kept hg (oo_apart m.l m.w (fun e=>hT.1 e.symm)),m.h.kept hg (oo_apart m.h m.w (fun e=>hT.2.1 e.symm)),ht,ho⟩
theorem RdM.addT (hT:(46≠57∧46≠59∧46≠50)∧46≠64)(m:RdM W gb B d v1 v2 v3 v7 vs){u:Value}(hg:W.grownBy W' v3.ownBlock)(ho:W'.ownsRow B 46 slE.n u (vs++[((none,0,0):SlT)]).length (cellsG slE (vs++[((none,0,0):SlT)]))):
 RdM (W'.setCell ⟨gb,3,none⟩ u) gb B { d with Ts:=d.Ts++[[]] } v1 v2 u v7 (vs++[(none,0,0)]):=by
 have hne:=row_ne m.t.ov m.gB;obtain⟨c0,c1,c2,c3⟩:=nb_grown m.c hg hne;refine⟨m.gB,⟨?_,?_,?_,World.cell?_setCell_same _ _ _ c3⟩,fun i=>by simpa using fz_grown m.lt m.f hg hne i,row_low (m.l.kept hg (oo_apart m.l m.t.ov (fun e=>hT.1.1 e.symm))) m.gB,row_low (m.h.kept hg (oo_apart m.h m.t.ov (fun e=>hT.1.2.1 e.symm))) m.gB,(m.t.push hT.2 hg ho).low (grown_set W' gb 3 _) m.gB,row_low (m.w.kept hg (oo_apart m.w m.t.ov (fun e=>hT.1.2.2 e.symm))) m.gB⟩
 ·rw[World.cell?_setCell_other _ _ _ _ (by simp)];exact c0
 ·rw[World.cell?_setCell_other _ _ _ _ (by simp)];exact c1
 rw[World.cell?_setCell_other _ _ _ _ (by simp)];exact c2
theorem RdM.addR (hT:(64≠57∧64≠59∧64≠50)∧46≠64∧46≠57∧46≠59∧46≠50){g n cap i:Nat}(m:RdM W gb B d v1 v2 (.slice (some ⟨g,0,none⟩) n cap) v7 vs){x y:SlT}{L:List Ru}{r:Ru}(hx:vs[i]?=some x)(hL:d.Ts[i]?=some L)
 (hg:W.grownBy W' (slV x).ownBlock) (ho:W'.ownsRow B 64 rlE.n (slV y) (L++[r]).length (cellsG rlE (L++[r]))) (hb:(slV y).ownBlock=(slV x).ownBlock∨(slV y).ownBlock=some W.heap.size):
 RdM (W'.setCell ⟨g,i,none⟩ (slV y)) gb B { d with Ts:=d.Ts.set i (L++[r]) } v1 v2 (.slice (some ⟨g,0,none⟩) n cap) v7 (vs.set i y):=by
 have hrx:=m.t.rv i x L hx hL;have hne:=row_ne hrx m.gB;have hgw:W'.grownBy (W'.setCell ⟨g,i,none⟩ (slV y)) (some g):=grown_set W' g i (slV y);have hB:B≤g:=(m.t.ov.lt g rfl).1;have hne2:some gb≠some g:=fun e=>by
  cases e;have:=m.gB;omega
 have hov1:=m.t.ov.kept hg (oo_apart m.t.ov hrx hT.2.1);have key:∀{e s k:Nat} {v:Value} {xs:List Value},W.ownsRow B e s v k xs→e≠64→e≠46→(W'.setCell ⟨g,i,none⟩ (slV y)).ownsRow B e s v k xs:=fun hr h1 h2=>by
  have h3:=hr.kept hg (oo_apart hr hrx h1);exact h3.kept hgw (oo_apart h3 hov1 h2)
 have c1:=nb_grown m.c hg hne;have l1:gb<W'.heap.size:=Nat.lt_of_lt_of_le m.lt hg.size;exact⟨m.gB,nb_grown c1 hgw hne2,fz_grown l1 (fz_grown m.lt m.f hg hne) hgw hne2,key m.l (fun e=>hT.1.1 e.symm) (fun e=>hT.2.2.1 e.symm),key m.h (fun e=>hT.1.2.1 e.symm) (fun e=>hT.2.2.2.1 e.symm),m.t.put hT.2.1 hx hL hg ho hb,key m.w (fun e=>hT.1.2.2 e.symm) (fun e=>hT.2.2.2.2 e.symm)⟩
end
end
section
open Go.RowKit Go.Shelf
structure Kb (p:Nat→Prop)(w w':World):Prop where
 os:w'.os=w.os
 tape:w'.tape=w.tape
 output:w'.output=w.output
 size:w.heap.size≤w'.heap.size
 block:∀k,k<w.heap.size→p k→w'.heap[k]?=w.heap[k]?
theorem Kb.refl (p:Nat→Prop)(w:World):Kb p w w:=⟨rfl,rfl,rfl,nLQ _,fun _ _ _=>rfl⟩
theorem Kb.trans {p:Nat→Prop}{a b c:World}(h:Kb p a b)(k:Kb p b c):Kb p a c:=
 ⟨k.os.trans h.os,k.tape.trans h.tape,k.output.trans h.output,Nat.le_trans h.size k.size,fun i hi hx=>(k.block i (Nat.lt_of_lt_of_le hi h.size) hx).trans (h.block i hi hx)⟩
theorem Kb.mono {p q:Nat→Prop}{w w':World}(h:Kb p w w')(hq:∀b,b<w.heap.size→q b→p b):Kb q w w':=⟨h.os,h.tape,h.output,h.size,fun k hk hx=>h.block k hk (hq k hk hx)⟩
theorem Kb.of_below {p:Nat→Prop}{n₀:Nat}{w w':World}(h:Below n₀ w w')(hp:∀b,b<w.heap.size→p b→b<n₀):Kb p w w':=⟨h.os,h.tape,h.output,h.size,fun k hk hx=>h.block k (hp k hk hx)⟩
theorem Kb.below {p:Nat→Prop}{n₀:Nat}{w w':World}(h:Kb p w w')(hn:n₀≤w.heap.size)(hp:∀b,b<n₀→p b):Below n₀ w w':=⟨h.os,h.tape,h.output,h.size,fun k hk=>h.block k (by omega) (hp k hk)⟩
theorem Kb.drew {p:Nat→Prop}{a w:World}(h:Kb p a w):Kb p a w.drew:=⟨h.os,h.tape,h.output,h.size,h.block⟩
theorem Kb.alloc {p:Nat→Prop}{a w:World}(h:Kb p a w)(o:Obj):Kb p a (w.alloc o):=
 h.trans (Kb.of_below ((Below.refl w.heap.size w).alloc (nLQ _) o) (fun b hb _=>hb))
theorem Kb.setCell {p:Nat→Prop}{a w:World}(h:Kb p a w){q:Addr}(hq:q.block<a.heap.size→¬p q.block)(v:Value):Kb p a (w.setCell q v):=by
 refine⟨h.os,h.tape,h.output,?_,fun k hk hx=>(Below.heap_setCell w q v k ?_).trans (h.block k hk hx)⟩
 ·show a.heap.size≤(w.heap.modify _ _).size;rw[Array.size_modify];exact h.size
 intro e;subst e;exact hq hk hx
theorem Kb.putObj {p:Nat→Prop}{a w:World}(h:Kb p a w){l:Nat}(hl:l<a.heap.size→¬p l)(o:Obj):Kb p a (w.putObj l o):=by
 have hg:=grownBy_putObj' w l o;refine⟨hg.os.trans h.os,hg.tape.trans h.tape,hg.output.trans h.output,Nat.le_trans h.size hg.size,fun k hk hx=>(hg.block k (Nat.lt_of_lt_of_le hk h.size) (fun e=>?_)).trans (h.block k hk hx)⟩;cases e;exact hl hk hx
theorem Kb.grown {p:Nat→Prop}{a w w':World}{row:Option Nat}(h:Kb p a w)(hg:w.grownBy w' row)(hr:∀r,row=some r→r<a.heap.size→¬p r):Kb p a w':=
 ⟨hg.os.trans h.os,hg.tape.trans h.tape,hg.output.trans h.output,Nat.le_trans h.size hg.size,fun k hk hx=>(hg.block k (Nat.lt_of_lt_of_le hk h.size) (fun e=>hr k e.symm hk hx)).trans (h.block k hk hx)⟩
theorem Kb.cell {p:Nat→Prop}{w w':World}(h:Kb p w w'){q:Addr}(hl:q.block<w.heap.size)(hp:p q.block):w'.cell? q=w.cell? q:=World.cell?_of_block (w:=w) (h.block q.block hl hp)
theorem Kb.at {p:Nat→Prop}{w w':World}(h:Kb p w w'){q:Addr}{v:Value}(hc:w.cell? q=some v)(hp:p q.block):w'.cell? q=some v:=(h.cell (bLQ _ _ hc) hp).trans hc
theorem Kb.frozen {p:Nat→Prop}{w w':World}(h:Kb p w w'){q:Addr}(hl:q.block<w.heap.size)(hp:p q.block):w'.frozen? q=w.frozen? q:=by
 simp only[World.frozen?,h.block q.block hl hp]
theorem Kb.boxed {p:Nat→Prop}{w w':World}(h:Kb p w w'){b:Nat}{t:TypeId}{v:Value}(hb:Boxed w b t v)(hp:p b):Boxed w' b t v:=(h.block b hb.lt hp).trans hb
theorem room_none (k:Nat):Fence.wide.room k:=room_wide k
theorem round_any {m m':Nat}{P:Program}{l:Nat}{f:FuncId}{tmps:Array Value}{assign body:Code}{w:World}{R:Ending→World→Prop}(h:RoundIn Fence.wide m P l f tmps assign body w R):RoundIn Fence.wide m' P l f tmps assign body w R:=⟨h.1,fun c cs _=>h.2 c cs (room_none _)⟩
theorem yield_any {m m':Nat}{P:Program}{l:Nat}{args:Array Value}{W:World}{R:Ending→World→Prop}(h:YieldAt Fence.wide m P l args W R):YieldAt Fence.wide m' P l args W R:=by
 obtain⟨fn,tmps,assign,body,hy,hR⟩:=h;exact⟨fn,tmps,assign,body,hy,round_any hR⟩
def itPost (p:Nat→Prop)(I:World→Prop)(Ix:Code→World→Prop)(W:World):Exit→Act→World→Prop
 | .normal,_,W'=>Kb p W W'∧I W'
 | .ret,_,W'=>Kb p W W'∧Ix .ret W'
 | .exit id,_,W'=>Kb p W W'∧Ix (.exit id) W'
 | .goto t,_,W'=>Kb p W W'∧Ix (.goto t) W'
 | .panic _,_,_=>False
 | .outgrown,_,_=>False
def ItQ {α:Type}(P:Program)(g:Nat)(lb:Array Value)(Vl:World→Array Value→α→Prop)(st:World→Prop)(p:Nat→Prop)(L:List α):Prop:=
 ∀ (l:Nat) (J:Nat→(Nat→Prop)→World→Prop) (Jx:World→Prop) (W:World),st W →
   J 0 (fun _=>False) W →
   (∀k X A,J k X A→∀b,X b→b<A.heap.size) →
   (∀k X A A',J k X A→Kb (fun b=>b<W.heap.size∨X b) A A'→J k X A') →
   (∀A A',Jx A→Kb (fun _=>True) A A'→Jx A') →
   (∀k X A args x (Y:Nat→Prop),J k X A→L[k]?=some x→Vl A args x→W.heap.size≤A.heap.size→(∀b,Y b→W.heap.size≤b∧¬X b)→YieldAt Fence.wide 0 P l args A fun e A' =>
    (e=.returned (.bool true)∧(∃X',J (k+1) X' A'∧∀b,X' b→X b∨A.heap.size≤b)∧Kb (fun b=>p b∨Y b) A A')∨(e=.returned (.bool false)∧Jx A'∧Kb (fun b=>p b∨Y b) A A')) →
   Calls P g (#[.func (.yield l) #[] #[]]++lb) W fun e W'=>(∃v,e=.returned v)∧((∃X,J L.length X W')∨Jx W')
theorem wpIn_rangeFunc_itQ {P:Program}{n:Nat}{α:Type}{g:Operand}{ps:Array Tmp}{assign body:Code}{Q:Exit→Act→World→Prop}{a:Act}{w:World}
 (h1:1≤n) {gf:Nat} {lb:Array Value} (hg:a.eval g=.func (.func gf) #[] lb) (eg:∀args w,(callFunc gf args).run P w=.ok (.enter gf args) w)
 {Vl:World→Array Value→α→Prop} {st:World→Prop} {p:Nat→Prop} {L:List α} (hseq:ItQ P gf lb Vl st p L) (hst:∀W,Below w.heap.size w W→st W) (hpw:∀b,p b→b<w.heap.size) (hps:∀A args x,Vl A args x→args.size=ps.size)
 (I:Nat→(Nat→Prop)→World→Prop) (Ix:Code→World→Prop)
 (hlt:∀k X A,I k X A→∀b,X b→w.heap.size+2≤b∧b<A.heap.size)
 (hI:∀k X A A',I k X A→Kb (fun b=>b<w.heap.size∨X b) A A'→I k X A')
 (hIx:∀c A A',Ix c A→Kb (fun b=>b<w.heap.size∨w.heap.size+2≤b) A A'→Ix c A')
 (h0:I 0 (fun _=>False) w)
 (hround:∀(l k:Nat) (X Y:Nat→Prop) (x:α) (args:Array Value) (W:World),l=w.heap.size+1→w.heap.size+2≤W.heap.size→I k X W→L[k]?=some x→Vl W args x→(∀b,Y b→w.heap.size+2≤b∧¬X b)→(∀q:Addr,q.block=l→W.cell? q=none) →
  assign.wpIn (Fence.wide.inRound l) (n-1-1) P (Exit.then (fun a' Wa=>Kb (fun b=>p b∨b=w.heap.size∨b=l∨Y b) W Wa∧∀W2,Kb (fun b=>b≠l) Wa W2→body.wpIn (Fence.wide.inRound l) (n-1-1) P (itPost (fun b=>p b∨b=w.heap.size∨b=l∨Y b) (fun W'=>∃X',I (k+1) X' W'∧∀b,X' b→X b∨W.heap.size≤b) Ix W2) a' W2) (fun _ _ _=>False)) { tmps:=(ps.zip args).foldl (fun t (p,v)=>t.setIfInBounds p v) a.tmps,defers:=[] } W)
 (hdone:∀(X:Nat→Prop) (W:World),I L.length X W→W.heap[w.heap.size]?=some (.deferred (some []))→Q .normal { a with defers:={ target:=.collected w.heap.size,args:=#[] } :: a.defers } W)
 (hstop:∀(c:Code) (W:World),Ix c W→W.heap[w.heap.size]?=some (.deferred (some []))→c.wpIn Fence.wide n P Q { a with defers:={ target:=.collected w.heap.size,args:=#[] } :: a.defers } W):
 (Code.rangeFunc g ps assign body).wpIn Fence.wide n P Q a w:=by
 refine wpIn_rangeFunc ?_;intro fn hfn;rw[show Fence.wide.round=none from rfl];obtain⟨rec,hrec⟩:∃rec:LoopState→Option Code→Loop,rec=fun st pe=>{ state:=st,pending:=pe,fn,tmps:=a.tmps,params:=ps,assign,body,defers:=w.heap.size }:=⟨_,rfl⟩
 obtain⟨W1,hW1⟩:∃W1,(w.alloc (.deferred (some []))).alloc (.loop (rec .ready none))=W1:=⟨_,rfl⟩;have hL1:W1.heap[w.heap.size+1]?=some (.loop (rec .ready none)):=by
  rw[←hW1];have:=World.alloc_heap_new (w.alloc (.deferred (some []))) (.loop (rec .ready none));rwa [World.size_alloc] at this
 have hK1:W1.heap[w.heap.size]?=some (.deferred (some [])):=by
  rw[←hW1];exact (Below.heap_alloc _ _ _ (by simp)).trans (World.alloc_heap_new w _)
 have hS1:W1.heap.size=w.heap.size+2:=by rw[←hW1];simp
 have hB1:Below w.heap.size w W1:=by
  rw[←hW1];exact ((Below.refl _ w).alloc (nLQ _) _).alloc (by simp) _
 have hb1:st W1:=hst W1 hB1;refine⟨w.heap.size+1,[{ target:=.collected w.heap.size,args:=#[] }],W1,{ target:=.fn (.func gf) lb,args:=#[.func (.yield (w.heap.size+1)) #[] #[]] },W1,gf,
  #[.func (.yield (w.heap.size+1)) #[] #[]]++lb,W1,?_,?_,?_,?_,fun _=>h1,?_⟩
 ·rw[←hW1,hrec];exact run_enterLoop_outer _ _ _ _ _
 ·simp only[resolve,hg];simp[go_sem]
 ·intro f' hf';trivial
 ·simp[invoke,go_sem,eg]
 have hI1:∀{k:Nat} {X:Nat→Prop} {A:World} (o:Obj),I k X A→I k X (A.putObj (w.heap.size+1) o):=fun o h=>hI _ _ _ _ h ((Kb.refl _ _).putObj (fun _ hp=>hp.elim (fun h=>by omega) (fun hx=>by have:=(hlt _ _ _ h _ hx).1;omega)) o)
 refine (callsIn_wide.2 (hseq (w.heap.size+1)
  (fun k X W=>I k X W∧W.heap[w.heap.size+1]?=some (.loop (rec .ready none))∧W.heap[w.heap.size]?=some (.deferred (some [])))
  (fun W=>∃c,Ix c W∧W.heap[w.heap.size+1]?=some (.loop (rec .done (some c)))∧W.heap[w.heap.size]?=some (.deferred (some [])))
  W1 hb1 ?_ ?_ ?_ ?_ ?_)).mono ?_
 ·exact⟨hI _ _ _ _ h0 (Kb.of_below hB1 (fun b _ h=>h.elim id False.elim)),hL1,hK1⟩
 ·exact fun k X A h b hx=>(hlt _ _ _ h.1 b hx).2
 ·rintro k X A A' ⟨hi,hl,hd⟩ hk;rw[hS1] at hk;have hlt':w.heap.size+1<A.heap.size:=(Array.getElem?_eq_some_iff.1 hl).1;exact⟨hI k X A A' hi (hk.mono (fun b _ h=>h.imp (fun h=>by omega) id)),(hk.block _ hlt' (.inl (by omega))).trans hl,(hk.block _ (by omega) (.inl (by omega))).trans hd⟩
 ·rintro A A' ⟨c,hi,hl,hd⟩ hk;have hlt':w.heap.size+1<A.heap.size:=(Array.getElem?_eq_some_iff.1 hl).1;exact⟨c,hIx c A A' hi (hk.mono (fun _ _ _=>trivial)),(hk.block _ hlt' trivial).trans hl,(hk.block _ (by omega) trivial).trans hd⟩
 ·rintro k X W args x Y ⟨hi,hl,hd⟩ hx hv hWW hY;rw[hS1] at hY hWW;have hlt':w.heap.size+1<W.heap.size:=(Array.getElem?_eq_some_iff.1 hl).1;have hy:=run_yield (P:=P) (args:=args) hl (by rw[hrec];exact hps _ _ _ hv);rw[hrec] at hy;refine yield_any (m:=n-1-1) ⟨fn,_,assign,body,hy,roundIn_of_wpIn hfn (wpIn_mono (hround _ k X Y x args W rfl hWW hi hx hv hY (fun q hq=>by simp[World.cell?,hq,hl])) ?_)⟩;clear hy;intro e1 a' Wa hp;cases e1 with
  | normal =>
    obtain⟨hka,hbody⟩:=hp;have hl2:=(hka.block _ hlt' (.inr (.inr (.inl rfl)))).trans hl;have hd2:=(hka.block w.heap.size (by omega) (.inr (.inl rfl))).trans hd;have hlta:w.heap.size+1<Wa.heap.size:=(Array.getElem?_eq_some_iff.1 hl2).1;refine⟨_,run_beginRound hl2 (by rw[hrec]),?_⟩;have hkb:Kb (fun b=>b≠w.heap.size+1) Wa (Wa.putObj (w.heap.size+1) (.loop { rec .ready none with state:=.busy })):=(Kb.refl _ _).putObj (fun _ h=>h rfl) _;have hl3:(Wa.putObj (w.heap.size+1) (.loop { rec .ready none with state:=.busy })).heap[w.heap.size+1]?=some (.loop { rec .ready none with state:=.busy }):=World.putObj_heap_same hlta;have hd3:=(hkb.block w.heap.size (by omega) (by omega)).trans hd2;refine wpIn_mono (hbody _ hkb) ?_
    generalize Wa.putObj (w.heap.size+1) (.loop { rec .ready none with state:=.busy })=W2 at hkb hl3 hd3
    have hlt2:w.heap.size+1<W2.heap.size:=(Array.getElem?_eq_some_iff.1 hl3).1;have fin:∀(jump:Option Code) (W3:World),Kb (fun b=>p b∨b=w.heap.size∨b=w.heap.size+1∨Y b) W2 W3 →
     (Instr.endRound (w.heap.size+1) jump).run P W3=.ok (.bool jump.isNone) (W3.putObj (w.heap.size+1) (.loop (rec (if jump.isNone then .ready else .done) jump))) ∧
     W3.heap[w.heap.size+1]?=some (.loop { rec .ready none with state:=.busy }) ∧
     (W3.putObj (w.heap.size+1) (.loop (rec (if jump.isNone then .ready else .done) jump))).heap[w.heap.size+1]?=some (.loop (rec (if jump.isNone then .ready else .done) jump)) ∧
     (W3.putObj (w.heap.size+1) (.loop (rec (if jump.isNone then .ready else .done) jump))).heap[w.heap.size]?=some (.deferred (some [])):=fun jump W3 hk3=>by
     have hl4:=(hk3.block _ hlt2 (.inr (.inr (.inl rfl)))).trans hl3;have hd4:=(hk3.block w.heap.size (by omega) (.inr (.inl rfl))).trans hd3;have:=run_endRound (P:=P) jump hl4;rw[hrec] at this ⊢;exact⟨this,by rw[hrec] at hl4;exact hl4,World.putObj_heap_same (Array.getElem?_eq_some_iff.1 hl4).1,(World.putObj_heap_other (by omega)).trans hd4⟩
    rintro e a3 W3 hp;have hny:∀b,p b∨Y b→b≠w.heap.size+1:=fun b h e=>h.elim (fun h=>by have:=hpw b h;omega) (fun h=>by have:=(hY b h).1;omega)
    have hall:∀(W3:World) (o:Obj),Kb (fun b=>p b∨b=w.heap.size∨b=w.heap.size+1∨Y b) W2 W3→Kb (fun b=>p b∨Y b) W (W3.putObj (w.heap.size+1) o):=fun W3 o hk3=>(((hka.mono (fun b _ h=>h.imp id (fun h=>.inr (.inr h)))).trans ((hkb.mono (fun b _ h=>hny b h)).trans (hk3.mono (fun b _ h=>h.imp id (fun h=>.inr (.inr h)))))).trans ((Kb.refl _ _).putObj (fun _ h=>hny _ h rfl) _))
    cases e with
    | normal =>
      obtain⟨hk3,X',hi3,hX'⟩:=hp;obtain⟨hr,hl4,hl5,hd5⟩:=fin none W3 hk3;exact⟨_,_,hr,.inl ⟨rfl,⟨X',⟨hI1 _ hi3,hl5,hd5⟩,hX'⟩,hall _ _ hk3⟩⟩
    | ret =>
      obtain⟨hk3,hi3⟩:=hp;obtain⟨hr,hl4,hl5,hd5⟩:=fin (some .ret) W3 hk3;exact⟨_,_,hr,.inr ⟨rfl,⟨.ret,hIx _ W3 _ hi3 ((Kb.refl _ _).putObj (fun _ h=>by omega) _),hl5,hd5⟩,hall _ _ hk3⟩⟩
    | exit id =>
      obtain⟨hk3,hi3⟩:=hp;obtain⟨hr,hl4,hl5,hd5⟩:=fin (some (.exit id)) W3 hk3;exact⟨_,_,hr,.inr ⟨rfl,⟨.exit id,hIx _ W3 _ hi3 ((Kb.refl _ _).putObj (fun _ h=>by omega) _),hl5,hd5⟩,hall _ _ hk3⟩⟩
    | goto t =>
      obtain⟨hk3,hi3⟩:=hp;obtain⟨hr,hl4,hl5,hd5⟩:=fin (some (.goto t)) W3 hk3;exact⟨_,_,hr,.inr ⟨rfl,⟨.goto t,hIx _ W3 _ hi3 ((Kb.refl _ _).putObj (fun _ h=>by omega) _),hl5,hd5⟩,hall _ _ hk3⟩⟩
    | panic ch=>exact hp.elim
    | outgrown=>exact hp.elim
  | ret=>exact hp.elim
  | exit id=>exact hp.elim
  | goto t=>exact hp.elim
  | panic ch=>exact hp.elim
  | outgrown=>exact hp.elim
 rintro e W2 ⟨⟨v,rfl⟩,(⟨X,hi,hl,hd⟩ | ⟨c,hi,hl,hd⟩)⟩
 ·refine⟨none,_,by have:=run_endLoop (P:=P) hl (by rw[hrec];simp);rw[hrec] at this;exact this,?_⟩;exact hdone X _ (hI1 _ hi) ((World.putObj_heap_other (by omega)).trans hd)
 refine⟨some c,_,by have:=run_endLoop (P:=P) hl (by rw[hrec];simp);rw[hrec] at this;exact this,?_⟩;exact hstop c _ (hIx c W2 _ hi ((Kb.refl _ _).putObj (fun _ h=>by omega) _)) ((World.putObj_heap_other (by omega)).trans hd)
end
section
open Go.RowKit
section
variable {c:UInt8}{s:ByteArray}
def c1S (c:UInt8)(s:ByteArray):ByteArray:=if ixQ c s = -1 then s else s.extract 0 (ixQ c s).toNat
def c2S (c:UInt8)(s:ByteArray):ByteArray:=if ixQ c s = -1 then ByteArray.empty else s.extract ((ixQ c s).toNat+1) s.size
theorem cs_miss (h:ixQ c s = -1):c1S c s=s∧c2S c s=ByteArray.empty:=by rw[c1S,c2S,if_pos h,if_pos h];exact⟨rfl,rfl⟩
theorem cs_hit {i:Nat}(h:ixQ c s=i):c1S c s=s.extract 0 i∧c2S c s=s.extract (i+1) s.size:=by
 have h1:¬ixQ c s = -1:=by omega
 have h2:(ixQ c s).toNat=i:=by omega
 rw[c1S,c2S,if_neg h1,if_neg h1,h2];exact⟨rfl,rfl⟩
theorem cc_two {i:Nat}(h:ixQ c s=i):cutC c s=c1S c s :: cutC c (c2S c s):=by rw[cc_hit h,(cs_hit h).1,(cs_hit h).2]
theorem cs_join {i:Nat}(h:ixQ c s=i):s.data.toList=(c1S c s).data.toList++c :: (c2S c s).data.toList:=by
 have hi:=ixq_len s h;rw[(cs_hit h).1,(cs_hit h).2,Lib.extract_data,Lib.extract_to_end];have hg:=(Lib.indexByte_some h).1;have hlt:i<s.data.toList.length:=by rw[←Lib.size_eq];exact hi
 have hd:s.data.toList.drop i=c :: s.data.toList.drop (i+1):=by
  rw[List.drop_eq_getElem_cons hlt];rw[List.getElem?_eq_getElem hlt] at hg;rw[Option.some.inj hg]
 simp only[Nat.sub_zero,List.drop_zero];rw[←hd,List.take_append_drop]
theorem cs_size:(c1S c s).size≤s.size∧(c2S c s).size≤s.size:=by
 rcases ixq_cases c s with h | ⟨i,h,hi⟩
 ·rw[(cs_miss h).1,(cs_miss h).2];exact⟨nLQ _,Nat.zero_le _⟩
 rw[(cs_hit h).1,(cs_hit h).2,ByteArray.size_extract,ByteArray.size_extract];omega
theorem cc_ne (c:UInt8)(s:ByteArray):∃a r,cutC c s=a :: r:=by
 match h:cutC c s with
 | []=>have:=(cc_len c s).1;rw[h] at this;simp at this
 | a :: r=>exact⟨a,r,rfl⟩
theorem cc_ge2 {i:Nat}(h:ixQ c s=i):∃a b r,cutC c s=a :: b :: r:=by
 obtain⟨a,r,e⟩:=cc_ne c (c2S c s);exact⟨_,_,_,by rw[cc_two h,e]⟩
theorem ix_mem {i:Nat}(h:ixQ c s=i):c∈s.data.toList:=by rw[cs_join h];simp
end
theorem a_c (s:ByteArray):cutA s=cutC 32 s:=by
 have:∀(k:Nat) (s:ByteArray),cutB k s=cutK 32 k s:=by
  intro k
  induction k with
  | zero=>intro s;rfl
  | succ k ih =>
    intro s;rw[cutB,cutK,ih];rfl
 exact this _ s
theorem dc_dig {s:ByteArray}(h:dcOk s=true):∀x∈s.data.toList,48≤x.toNat∧x.toNat≤57:=by
 intro x hx;obtain⟨j,hj,e⟩:=List.getElem_of_mem hx;rw[dcOk,Bool.and_eq_true] at h;have h1:=dg_le (s:=s) (k:=j) (by rw[Lib.size_eq];exact hj) h.2;have h2:byteN s j=x.toNat:=byC_of (by rw[List.getElem?_eq_getElem hj,e]);rw[h2] at h1;simpa[digB] using h1
theorem dc_mem {s:ByteArray}{x:UInt8}(hx:x∈s.data.toList)(hn:¬(48≤x.toNat∧x.toNat≤57)):dcOk s=false:=by
 cases e:dcOk s
 ·rfl
 exact absurd (dc_dig e x hx) hn
theorem dc_emp:dcOk ByteArray.empty=false:=by decide
def spP (s:ByteArray):Bool:=dcOk (c1S 46 s)&&dcOk (c2S 46 s)
def xpV (s:ByteArray):Int×Int:=(dcN (c1S 46 s),dcN (c2S 46 s))
theorem sp_prog (s:ByteArray):spO s=if spP s=true then some (xpV s) else none:=by
 unfold spO spP xpV
 rcases ixq_cases 46 s with h | ⟨i,h,hi⟩
 ·rw[cc_miss h,(cs_miss h).2,dc_emp];simp
 rw[cc_two h]
 rcases ixq_cases 46 (c2S 46 s) with h2 | ⟨j,h2,hj⟩
 ·rw[cc_miss h2]
 obtain⟨a,b,r,e⟩:=cc_ge2 h2;rw[e,dc_mem (s:=c2S 46 s) (ix_mem h2) (by decide)];simp
theorem sp_mem {s:ByteArray}(h:(32:UInt8)∈s.data.toList):spP s=false:=by
 unfold spP
 rcases ixq_cases 46 s with e | ⟨i,e,hi⟩
 ·rw[(cs_miss e).2,dc_emp,Bool.and_false]
 rw[cs_join e,List.mem_append,List.mem_cons] at h
 rcases h with h | h | h
 ·rw[dc_mem h (by decide),Bool.false_and]
 ·cases h
 rw[dc_mem h (by decide),Bool.and_false]
theorem sp_emp:spP ByteArray.empty=false:=by
 unfold spP;rw[(cs_miss (c:=46) (s:=ByteArray.empty) rfl).2,dc_emp,Bool.and_false]
section
variable {d:RdT}{s:ByteArray}
theorem ln_word:∃p,cutA s=c1S 32 s :: p∧((ixQ 32 s = -1∧p=[]∧c1S 32 s=s∧c2S 32 s=ByteArray.empty)∨(∃i:Nat,ixQ 32 s=i)∧p=cutA (c2S 32 s)):=by
 rcases ixq_cases 32 s with h | ⟨i,h,hi⟩
 ·exact⟨[],by rw[a_c,cc_miss h,(cs_miss h).1],.inl ⟨h,rfl,(cs_miss h).1,(cs_miss h).2⟩⟩
 exact⟨cutA (c2S 32 s),by rw[a_c,cc_two h,←a_c],.inr ⟨⟨i,h⟩,rfl⟩⟩
theorem lp_sw (hw:c1S 32 s=swcS):lnO d s=if (decide (d.ph<0)&&dcOk (c2S 32 s))=true then some { d with S:=dcN (c2S 32 s),ph:=0 } else none:=by
 obtain⟨p,e,h | ⟨⟨i,hi⟩,h⟩⟩:=ln_word (s:=s)
 ·rw[lnO,e,h.2.1,hw,h.2.2.2,dc_emp];simp
 rw[lnO,e,h,hw]
 generalize c2S 32 s=r
 simp only[if_true];obtain⟨q,e2,h2 | ⟨⟨j,hj⟩,h2⟩⟩:=ln_word (s:=r)
 ·rw[e2,h2.2.1,h2.2.2.1]
 obtain⟨x,y,e3⟩:=cc_ne 32 (c2S 32 r);rw[e2,h2,a_c,e3,dc_mem (ix_mem hj) (by decide)];simp
theorem lp_lk (hw:c1S 32 s=lnkS):lnO d s=if (phB d 1&&(spP (c1S 32 (c2S 32 s))&&spP (c2S 32 (c2S 32 s))))=true then some { d with Ls:=d.Ls++[(xpV (c1S 32 (c2S 32 s)),xpV (c2S 32 (c2S 32 s)))],ph:=1 } else none:=by
 obtain⟨p,e,h | ⟨⟨i,hi⟩,h⟩⟩:=ln_word (s:=s)
 ·rw[lnO,e,h.2.1,hw,h.2.2.2];rw[(cs_miss (c:=32) (s:=ByteArray.empty) rfl).2,sp_emp,Bool.and_false,Bool.and_false];simp[kw_ne.1]
 rw[lnO,e,h,hw]
 generalize c2S 32 s=r
 simp only[if_true,kw_ne.1,if_false];obtain⟨q,e2,h2 | ⟨⟨j,hj⟩,h2⟩⟩:=ln_word (s:=r)
 ·rw[e2,h2.2.1,h2.2.2.2,sp_emp];simp
 rw[e2,h2]
 generalize c1S 32 r=a
 generalize c2S 32 r=b
 obtain⟨q2,e3,h3 | ⟨⟨j3,hj3⟩,h3⟩⟩:=ln_word (s:=b)
 ·rw[e3,h3.2.1,h3.2.2.1];simp only[];rw[sp_prog a,sp_prog b];cases spP a <;> cases spP b <;> simp
 obtain⟨x,y,e4⟩:=cc_ne 32 (c2S 32 b);rw[e3,h3,a_c,e4,sp_mem (ix_mem hj3),Bool.and_false,Bool.and_false];simp
theorem lp_ho (hw:c1S 32 s=hosS):lnO d s=if (phB d 2&&spP (c2S 32 (c2S 32 s)))=true then some { d with Hs:=d.Hs++[(c1S 32 (c2S 32 s),xpV (c2S 32 (c2S 32 s)))],ph:=2 } else none:=by
 obtain⟨p,e,h | ⟨⟨i,hi⟩,h⟩⟩:=ln_word (s:=s)
 ·rw[lnO,e,h.2.1,hw,h.2.2.2];rw[(cs_miss (c:=32) (s:=ByteArray.empty) rfl).2,sp_emp,Bool.and_false];simp[kw_ne.2.1,kw_ne.2.2.1]
 rw[lnO,e,h,hw]
 generalize c2S 32 s=r
 simp only[if_true,kw_ne.2.1,kw_ne.2.2.1,if_false];obtain⟨q,e2,h2 | ⟨⟨j,hj⟩,h2⟩⟩:=ln_word (s:=r)
 ·rw[e2,h2.2.1,h2.2.2.2,sp_emp];simp
 rw[e2,h2]
 generalize c1S 32 r=a
 generalize c2S 32 r=b
 obtain⟨q2,e3,h3 | ⟨⟨j3,hj3⟩,h3⟩⟩:=ln_word (s:=b)
 ·rw[e3,h3.2.1,h3.2.2.1];simp only[];rw[sp_prog b];cases spP b <;> simp
 obtain⟨x,y,e4⟩:=cc_ne 32 (c2S 32 b);rw[e3,h3,a_c,e4,sp_mem (ix_mem hj3),Bool.and_false];simp
theorem pa_emp:paN (cutB 6 ByteArray.empty)=2:=by decide
theorem rlO_of (t:ByteArray):rlO (cutA t)=if paN (cutB 6 t)=0 then some ⟨rP (cutB 6 t),rM (cutB 6 t),rB (cutB 6 t),rO (cutB 6 t),rS (cutB 6 t),rV (cutB 6 t)⟩ else none:=by
 obtain⟨e1,e2⟩:=pa_cut t;unfold rlO;rw[←e1];by_cases h:paN (cutB 6 t)=0
 ·rw[if_pos h,if_pos h];rw[paV_yes h,paV_yes (e1.symm.trans h)] at e2;have h3:(rP (cutB 6 t)=rP (cutA t)∧rM (cutB 6 t)=rM (cutA t)∧rB (cutB 6 t)=rB (cutA t)∧rO (cutB 6 t)=rO (cutA t)∧rS (cutB 6 t)=rS (cutA t)∧rV (cutB 6 t)=rV (cutA t)):=by simpa using e2
  rw[h3.1,h3.2.1,h3.2.2.1,h3.2.2.2.1,h3.2.2.2.2.1,h3.2.2.2.2.2]
 rw[if_neg h,if_neg h]
def ruT (t:ByteArray):Ru:=⟨rP (cutB 6 t),rM (cutB 6 t),rB (cutB 6 t),rO (cutB 6 t),rS (cutB 6 t),rV (cutB 6 t)⟩
def raB (d:RdT)(a:ByteArray):Bool:=dcOk a&&(decide (1≤dcN a)&&(decide (dcN a≤6)&&decide ((d.Ts.length:Int)≤dcN a)))
theorem lp_rl (hw:c1S 32 s=rulS):lnO d s=if (phB d 3&&(raB d (c1S 32 (c2S 32 s))&&decide (paN (cutB 6 (c2S 32 (c2S 32 s)))=0)))=true then some { d with Ts:=tbP d.Ts (dcN (c1S 32 (c2S 32 s))).toNat (ruT (c2S 32 (c2S 32 s))),ph:=3 } else none:=by
 obtain⟨p,e,h | ⟨⟨i,hi⟩,h⟩⟩:=ln_word (s:=s)
 ·rw[lnO,e,h.2.1,hw,h.2.2.2];rw[(cs_miss (c:=32) (s:=ByteArray.empty) rfl).2,pa_emp];simp[kw_ne.2.2.2.1,kw_ne.2.2.2.2.1,kw_ne.2.2.2.2.2]
 rw[lnO,e,h,hw]
 generalize c2S 32 s=r
 simp only[if_true,kw_ne.2.2.2.1,kw_ne.2.2.2.2.1,kw_ne.2.2.2.2.2,if_false];obtain⟨q,e2,h2 | ⟨⟨j,hj⟩,h2⟩⟩:=ln_word (s:=r)
 ·rw[e2,h2.2.1,h2.2.2.2,pa_emp];simp only[];rw[show rlO []=none from rfl];simp
 rw[e2,h2]
 generalize c1S 32 r=a
 generalize c2S 32 r=b
 simp only[];rw[rlO_of b];have hE:(dcOk a&&(decide (1≤dcN a)&&(decide (dcN a≤6)&&(decide ((d.Ts.length:Int)≤dcN a)&&phB d 3))))=(phB d 3&&raB d a):=by
  unfold raB;cases phB d 3 <;> cases dcOk a <;> simp
 rw[hE];by_cases h0:paN (cutB 6 b)=0
 ·rw[if_pos h0,decide_eq_true h0];cases phB d 3 <;> cases raB d a <;> rfl
 rw[if_neg h0,decide_eq_false h0];cases phB d 3 <;> cases raB d a <;> rfl
theorem lp_wi (h1:c1S 32 s≠swcS)(h2:c1S 32 s≠lnkS)(h3:c1S 32 s≠hosS)(h4:c1S 32 s≠rulS):lnO d s=(match rdO s with | some x=>if phB d 4=true then some { d with ws:=d.ws++[x],ph:=4 } else none | none=>none):=by
 obtain⟨p,e,_⟩:=ln_word (s:=s);rw[lnO,e]
 first | (simp only[h1,h2,h3,h4,if_false];done) | (simp only[h1,h2,h3,h4,if_false];cases rdO s <;> rfl)
end
def pzL:List ByteArray→List ByteArray
 | []=>[]
 | [z]=>if z.size=0 then [] else [z]
 | a :: b :: r=>(a++chW 10) :: pzL (b :: r)
def pcS (s:ByteArray):List ByteArray:=pzL (cutC 10 s)
theorem pc_nil {s:ByteArray}(h:s.size=0):pcS s=[]:=by
 rw[sz_0 h];rfl
theorem pc_hit {s:ByteArray}{i:Nat}(h:ixQ 10 s=i):pcS s=s.extract 0 (i+1) :: pcS (s.extract (i+1) s.size):=by
 obtain⟨a,r,e⟩:=cc_ne 10 (s.extract (i+1) s.size);rw[pcS,cc_hit h,e,pzL,←e,←pcS]
 congr 1
 have hi:=ixq_len s h;have hg:=(Lib.indexByte_some h).1
 apply wa_ext
 rw[wa_app,chW_lst,Lib.extract_data,Lib.extract_data];have hlt:i<s.data.toList.length:=by rw[←Lib.size_eq];exact hi
 rw[List.getElem?_eq_getElem hlt] at hg;simp only[Nat.sub_zero,List.drop_zero];rw[←Option.some.inj hg,List.take_append_getElem]
theorem pc_miss {s:ByteArray}(h:ixQ 10 s = -1)(h0:s.size≠0):pcS s=[s]:=by
 rw[pcS,cc_miss h,pzL,if_neg h0]
theorem cc_no (c:UInt8):∀(k:Nat) (s:ByteArray),s.size≤k→∀a∈cutK c k s,c ∉ a.data.toList:=by
 have miss:∀{s:ByteArray},ixQ c s = -1→c ∉ s.data.toList:=fun {s} h hm=>by
  obtain⟨j,hj,e⟩:=List.getElem_of_mem hm;exact Lib.indexByte_none h j (by rw[List.getElem?_eq_getElem hj,e])
 intro k
 induction k with
 | zero =>
   intro s hs a ha hc
   rcases ixq_cases c s with h | ⟨i,h,hi⟩
   ·rw[ck_miss _ h,List.mem_singleton] at ha;exact miss h (ha ▸ hc)
   omega
 | succ k ih =>
   intro s hs a ha hc
   rcases ixq_cases c s with h | ⟨i,h,hi⟩
   ·rw[ck_miss _ h,List.mem_singleton] at ha;exact miss h (ha ▸ hc)
   rw[ck_hit _ h,List.mem_cons] at ha
   rcases ha with rfl | ha
   ·rw[Lib.extract_data] at hc;simp only[Nat.sub_zero,List.drop_zero] at hc;obtain⟨j,hj,e⟩:=List.getElem_of_mem hc;rw[List.length_take] at hj;refine (Lib.indexByte_some h).2 j (by omega) ?_;rw[List.getElem_take] at e;rw[List.getElem?_eq_getElem (by omega),e]
   exact ih _ (by rw[ByteArray.size_extract];omega) a ha hc
def enB (p:ByteArray):Bool:=decide (1≤p.size)&&decide (p.extract (p.size-1) p.size=⟨#[10]⟩)
def tkO (d:RdT)(p:ByteArray):Option RdT:=if enB p=true then lnO d (p.extract 0 (p.size-1)) else none
theorem en_yes (a:ByteArray):enB (a++chW 10)=true∧(a++chW 10).extract 0 ((a++chW 10).size-1)=a:=by
 have hs:(a++chW 10).size=a.size+1:=ByteArray.size_append ..;have e:(a++chW 10).data.toList=a.data.toList++[10]:=by rw[wa_app,chW_lst]
 have hl:=Lib.size_eq a;constructor
 ·rw[enB,hs,decide_eq_true (show 1≤a.size+1 by omega),Bool.true_and,decide_eq_true_eq]
  apply wa_ext
  rw[←hs,Lib.extract_to_end,hs,e,Nat.add_sub_cancel,hl];simp
 apply wa_ext
 rw[Lib.extract_data,hs,e,Nat.add_sub_cancel,hl];simp
theorem en_no {p:ByteArray}(h:(10:UInt8) ∉ p.data.toList):enB p=false:=by
 cases e:enB p
 ·rfl
 exfalso
 rw[enB,Bool.and_eq_true,decide_eq_true_eq,decide_eq_true_eq] at e;have e2:=congrArg (fun x:ByteArray=>x.data.toList) e.2;simp only at e2;rw[Lib.extract_to_end] at e2;have:(10:UInt8)∈p.data.toList.drop (p.size-1):=by rw[e2];decide
 exact h (List.mem_of_mem_drop this)
def tsO:RdT→List ByteArray→RdT ⊕ Nat
 | d,[]=>.inl d
 | d,s :: l=>match tkO d s with
   | some e=>(match tsO e l with | .inl x=>.inl x | .inr k=>.inr (k+1))
   | none=>.inr 0
theorem tk_line (d:RdT)(a:ByteArray):tkO d (a++chW 10)=lnO d a:=by rw[tkO,if_pos (en_yes a).1,(en_yes a).2]
theorem ts_ls {z:ByteArray}(hz:(10:UInt8) ∉ z.data.toList):∀(l:List ByteArray) (d:RdT),tsO d (pzL (l++[z]))=(match lsO d l with | .inr k=>.inr k | .inl e=>if z.size=0 then .inl e else .inr l.length)
 | [],d=>by
   show tsO d (if z.size=0 then [] else [z])=if z.size=0 then .inl d else .inr 0
   by_cases h:z.size=0
   ·rw[if_pos h,if_pos h];rfl
   rw[if_neg h,if_neg h,tsO,tkO,en_no hz];rfl
 | a :: l,d=>by
   obtain⟨x,y,e⟩:∃x y,l++[z]=x :: y:=by
    cases l with
    | nil=>exact⟨_,_,rfl⟩
    | cons b l=>exact⟨_,_,rfl⟩
   rw[List.cons_append,e,pzL,←e,tsO,tk_line,lsO];cases h:lnO d a with
   | none=>rfl
   | some f =>
     simp only;rw[ts_ls hz l f];cases lsO f l with
     | inr k=>rfl
     | inl g =>
       simp only;by_cases h0:z.size=0
       ·rw[if_pos h0,if_pos h0]
       rw[if_neg h0,if_neg h0];rfl
theorem ts_rt (s:ByteArray):tsO rd0 (pcS s)=(match lsO rd0 (rtL s) with | .inr k=>.inr k | .inl e=>if (rtZ s).size=0 then .inl e else .inr (rtL s).length):=by
 rw[pcS,rt_cut s];refine ts_ls ?_ _ _;have:rtZ s∈cutC 10 s:=by rw[rt_cut s];simp
 exact cc_no 10 _ s (nLQ _) _ this
theorem ts_app:∀(l m:List ByteArray) (d:RdT),tsO d (l++m)=match tsO d l with | .inl e=>(match tsO e m with | .inl x=>.inl x | .inr k=>.inr (l.length+k)) | .inr k=>.inr k
 | [],m,d=>by
   rw[List.nil_append,show tsO d []=.inl d from rfl];cases h:tsO d m <;> simp[h]
 | s :: l,m,d=>by
   rw[List.cons_append,tsO,tsO];cases h:tkO d s with
   | none=>rfl
   | some e =>
     simp only;rw[ts_app l m e];cases tsO e l with
     | inr k=>rfl
     | inl x =>
       simp only;cases tsO x m with
       | inl y=>rfl
       | inr k=>simp only[List.length_cons];congr 1;omega
def PhI (d:RdT):Prop := -1≤d.ph∧d.ph≤4∧(d.ph<0→d=rd0)∧0≤d.S∧d.Ts.length≤6
theorem ph_0:PhI rd0:=⟨by decide,by decide,fun _=>rfl,by decide,by decide⟩
theorem dcN_ge {s:ByteArray}:0≤dcN s:=by
 have:∀n,(dgTo s n=true)→0≤dcTo s n:=by
  intro n
  induction n with
  | zero=>intro _;exact Int.le_refl _
  | succ n ih =>
    intro h;rw[dgTo,Bool.and_eq_true] at h;have h1:=ih h.1;have h2:48≤byteN s n:=by
     have:=h.2;simp only[digB,Bool.and_eq_true,decide_eq_true_eq] at this;exact this.1
    rw[dcTo];omega
 unfold dcN;by_cases h:dcOk s=true
 ·rw[if_pos h];rw[dcOk,Bool.and_eq_true] at h;exact this _ h.2
 rw[if_neg h];exact Int.le_refl _
end
end Go.Proofs.YtpbgocfinpbpgaaGreatDoor
