/- Contracts and facts on the way to DrivePlays, joined into one text: AsErr2, SameNo, SmInts, DrivePlays, DrivePgMem, DriveCheck, CcRound, DrivePgNew. -/
import Derived.Test.YtpgjkmefomldfaaDoorDrivePlaysP3
namespace Go.Proofs.YtpgjkmefomldfaaDoor
set_option linter.unusedSimpArgs false
set_option linter.unusedVariables false
set_option maxHeartbeats 16000000
set_option maxRecDepth 100000
open Go.Proofs.Tryd
open IntKind (i64)
section
open Go.RowKit Go.Extern.Stop Go.Stop Go.Extern
theorem as_hit (n:Int)(t:Addr)(old:Value)(w:World)(hg:HasErr w)(ht0:w.cell? t=some old)(hf0:w.frozen? t=false):
 Calls prog 39 #[.iface 63 (.int i64 n),.iface 79 (.pointer (some t))] w fun ev w'=>ev=.returned (.bool true)∧w'=((((w.alloc (.cells #[.pointer (some t)] 79)).alloc (.cells #[.pointer (some ⟨1,79,none⟩),.pointer (some ⟨w.heap.size,0,none⟩),.int .u64 150] 95)).alloc (.cells #[.pointer (some ⟨1,79,none⟩),.pointer (some ⟨w.heap.size,0,none⟩),.int .u64 150] 95)).alloc (.cells #[.int i64 n] 63)).setCell t (.int i64 n):=by
 unfold HasErr at hg;have h6 := @run_callFunc_extern prog 51 _ (fun args=>ReflectliteValue.unpack (args.getD 0 (.tuple #[]))) func51 (by kernel_rfl) (by kernel_rfl) (by kernel_rfl) (by kernel_rfl);have h7 := @run_callFunc_extern prog 52 _ (ReflectliteValue.methodAny (ReflectliteValue.valueError "reflectlite.Value.Type" 0) (fun t _ _ _ => ReflectliteType.toType t)) func52 (by kernel_rfl) (by kernel_rfl) (by kernel_rfl) (by kernel_rfl)
 have h8 := @run_callFunc_extern prog 53 _ (ReflectliteValue.method (ReflectliteValue.valueError "reflectlite.Value.IsNil" 0) ReflectliteValue.isNil) func53 (by kernel_rfl) (by kernel_rfl) (by kernel_rfl) (by kernel_rfl)
 have h27 := @run_callFunc_extern prog 95 _ (ReflectliteType.abiMethod fun t=>do pure (.int .u8 (←Rtype.kind t))) func95 (by kernel_rfl) (by kernel_rfl) (by kernel_rfl) (by kernel_rfl);have h37 := @run_callFunc_extern prog 105 _ (ReflectliteType.method ReflectliteType.elem) func105 (by kernel_rfl) (by kernel_rfl) (by kernel_rfl) (by kernel_rfl);have h38 := @run_callFunc_extern prog 106 _ (ReflectliteType.relation "Implements" ReflectliteType.implements_) func106 (by kernel_rfl) (by kernel_rfl) (by kernel_rfl) (by kernel_rfl)
 have h10 := @run_callFunc_extern prog 60 _ ReflectliteType.typeOf func60 (by kernel_rfl) (by kernel_rfl) (by kernel_rfl) (by kernel_rfl);have h35 := @run_callFunc_extern prog 103 _ (ReflectliteType.relation "AssignableTo" ReflectliteType.assignableTo) func103 (by kernel_rfl) (by kernel_rfl) (by kernel_rfl) (by kernel_rfl)
 have h11 := @run_callFunc_extern prog 61 _ (ReflectliteValue.method (ReflectliteValue.valueError "reflectlite.Value.Elem" 0) ReflectliteValue.elem) func61 (by kernel_rfl) (by kernel_rfl) (by kernel_rfl) (by kernel_rfl)
 have h12 := @run_callFunc_extern prog 62 _ ReflectliteValue.set func62 (by kernel_rfl) (by kernel_rfl) (by kernel_rfl) (by kernel_rfl);have tO:=typeOfE;have mA:=methAssign;have a25:=assignE;have v25:=vOfE;have f6:=vOfP;have f7:=typeP;have mK:=methKind;have mE:=methElem;have mI:=methImpl;have k27:=kindP;have k25:=kindE;have e27:=elemP;have i25:=implE;have hlt:0<w.heap.size:=bLQ _ _ hg;have htl:t.block<w.heap.size:=bLQ _ _ ht0;have n8:=isNilP ⟨w.heap.size,0,none⟩ t ((w.alloc (.cells #[.pointer (some t)] 79)).alloc (.cells #[.pointer (some ⟨1,79,none⟩),.pointer (some ⟨w.heap.size,0,none⟩),.int .u64 150] 95)) (by simp);have hg2:((w.alloc (.cells #[.pointer (some t)] 79)).alloc (.cells #[.pointer (some ⟨1,79,none⟩),.pointer (some ⟨w.heap.size,0,none⟩),.int .u64 150] 95)).cell? ⟨0,0,none⟩=some (.iface 110 (.agg #[.pointer (some ⟨1,25,none⟩)])):=by
  rw[World.cell?_alloc_lt _ _ ⟨0,0,none⟩ (by simp <;> omega),World.cell?_alloc_lt _ _ ⟨0,0,none⟩ hlt];exact hg
 have el:=elemVP ⟨w.heap.size,0,none⟩ t (((w.alloc (.cells #[.pointer (some t)] 79)).alloc (.cells #[.pointer (some ⟨1,79,none⟩),.pointer (some ⟨w.heap.size,0,none⟩),.int .u64 150] 95)).alloc (.cells #[.pointer (some ⟨1,79,none⟩),.pointer (some ⟨w.heap.size,0,none⟩),.int .u64 150] 95)) (by rw[World.cell?_alloc_lt _ _ ⟨w.heap.size,0,none⟩ (by simp;omega)];simp);have st:=setE t ⟨w.heap.size+1+1+1,0,none⟩ n old ((((w.alloc (.cells #[.pointer (some t)] 79)).alloc (.cells #[.pointer (some ⟨1,79,none⟩),.pointer (some ⟨w.heap.size,0,none⟩),.int .u64 150] 95)).alloc (.cells #[.pointer (some ⟨1,79,none⟩),.pointer (some ⟨w.heap.size,0,none⟩),.int .u64 150] 95)).alloc (.cells #[.int i64 n] 63))
  (by rw[World.cell?_alloc_at _ _ _ _ (by simp)];rfl)
  (by rw[World.cell?_alloc_lt _ _ t (by simp;omega),World.cell?_alloc_lt _ _ t (by simp;omega),World.cell?_alloc_lt _ _ t (by simp;omega),World.cell?_alloc_lt _ _ t htl];exact ht0)
  (by rw[World.frozen?_alloc_old _ _ t (by simp;omega),World.frozen?_alloc_old _ _ t (by simp;omega),World.frozen?_alloc_old _ _ t (by simp;omega),World.frozen?_alloc_old _ _ t (Nat.ne_of_lt htl)];exact hf0)
 go_enter func39,ntmps39;go_wp2;refine wp_loop_rounds 1 ?_;rw[rounds_succ];go_wp2;go_ret;exact⟨rfl,rfl⟩
theorem told_nil (w:World):
 Calls prog 21 #[.nilIface] w fun e w'=>e=.returned (.int i64 0)∧Below w.heap.size w w':=by
 go_enter func21,ntmps21;go_wp2;go_ret;exact⟨rfl,bRQ _ _⟩
theorem told_some (n:Int)(w:World)(hg:HasErr w):
 Calls prog 21 #[.iface 63 (.int i64 n)] w fun e w'=>e=.returned (.int i64 n)∧Below w.heap.size w w':=by
 have HG:Hid (HasErr w):=hg;clear hg;go_enter func21,ntmps21
 go_wp2_with fail
 refine (as_hit n _ (.int i64 0) _ (HG.out.alloc _) (by simp) (by simp)).mono ?_;rintro e w' ⟨rfl,rfl⟩;go_wp2;go_ret;refine⟨rfl,?_⟩;exact ((((((bRQ _ _).alloc (nLQ _) _).alloc (by simp) _).alloc (by simp;omega) _).alloc (by simp;omega) _).alloc (by simp;omega) _)
theorem same_nil (k:Int)(w:World):
 Calls prog 6 #[.nilIface,.int i64 k] w fun e w'=>e=.returned (.bool (0==k))∧Below w.heap.size w w':=by
 go_enter func6,ntmps6
 go_wp2_with fail
 refine (told_nil _).mono ?_;rintro e w' ⟨rfl,hb⟩;go_wp2;go_ret;exact⟨rfl,hb⟩
theorem same_some (n k:Int)(w:World)(hg:HasErr w):
 Calls prog 6 #[.iface 63 (.int i64 n),.int i64 k] w fun e w'=>e=.returned (.bool (n==k))∧Below w.heap.size w w':=by
 have HG:Hid (HasErr w):=hg;clear hg;go_enter func6,ntmps6
 go_wp2_with fail
 refine (told_some n _ HG.out).mono ?_;rintro e w' ⟨rfl,hb⟩;go_wp2;go_ret;exact⟨rfl,hb⟩
end
section
open Go.RowKit
theorem same_noV (n:Int)(w:World)(hg:HasErr w):
 Calls prog 6 #[noV n,.int i64 n] w fun e w'=>e=.returned (.bool true)∧Below w.heap.size w w':=by
 by_cases h:n=0
 ·subst h;refine (same_nil _ w).mono ?_;rintro e w' ⟨rfl,hb⟩;exact⟨by simp,hb⟩
 rw[no_ne h];refine (same_some _ _ w hg).mono ?_;rintro e w' ⟨rfl,hb⟩;exact⟨by simp,hb⟩
theorem smi_next {xs ys:List Int}{k:Nat}(h:xs.take k=ys.take k)(hx:k<xs.length)(hy:k<ys.length)(he:xs[k]=ys[k]):xs.take (k+1)=ys.take (k+1):=by
 rw[List.take_succ_eq_append_getElem hx,List.take_succ_eq_append_getElem hy,h,he]
theorem smints_any (ao bo:AdQ)(n m c d:Nat)(xs ys:List Int)(w:World)(h1:GS inE w (.slice ao n c) xs)(h2:GS inE w (.slice bo m d) ys):
 Calls prog 18 #[.slice ao n c,.slice bo m d] w fun e w'=>e=.returned (.bool (xs==ys))∧Below w.heap.size w w':=by
 obtain⟨_,_,_,e1,hn,hn2,_,ha⟩:=h1.form;cases e1;obtain⟨_,_,_,e2,hm,hm2,_,hb⟩:=h2.form;cases e2;by_cases hl:n=m
 ·subst hl;have HX:Hid (xs.length=n):=hn;have HY:Hid (ys.length=n):=hm;have HA:Hid (0<n→∃g o,ao=some ⟨g,o,none⟩∧GAt inE w g o xs∧c≤maxLen):=ha;have HB2:Hid (0<n→∃g o,bo=some ⟨g,o,none⟩∧GAt inE w g o ys∧d≤maxLen):=hb;unfold maxLen at hn2;clear hn hm hm2 ha hb h1 h2;go_enter func18,ntmps18;go_wp2
  go_loopw [5] (fun i wr=>∃k:Nat,k≤n∧i=.int i64 k∧xs.take k=ys.take k∧Below w.heap.size w wr) (fun i _=>n-(intOf i).toNat)
  case atStart=>exact⟨0,by omega,rfl,by simp,bRQ _ _⟩
  case round =>
   obtain⟨k,hk,rfl,he,hB⟩:=hrel;have HB:Hid (Below w.heap.size w wr):=hB;have HE:Hid (xs.take k=ys.take k):=he;clear he;by_cases hlt:k<n
   ·obtain⟨g,o,hao,hc,_⟩:=HA.out (by omega);obtain⟨f,q,hbo,hd,_⟩:=HB2.out (by omega);subst hao hbo;obtain⟨x,hkx,hxk,r0⟩:=in_at (hc.later hB) HX.out hlt;obtain⟨y,hky,hyk,r1⟩:=in_at (hd.later hB) HY.out hlt;have HXK:Hid (xs[k]=x):=hxk;have HYK:Hid (ys[k]=y):=hyk;clear hxk hyk hc hd hB;by_cases hne:x=y
    ·subst hne;go_wp2
     go_quiet (fail)
     go_wp2;go_roundw
     case rel=>exact⟨k+1,by omega,by go_num,smi_next HE.out hkx hky (HXK.out.trans HYK.out.symm),HB.out.trans ⟨rfl,rfl,rfl,nLQ _,fun _ _=>rfl⟩⟩
     case measure=>simp[intOf];omega
    go_wp2
    go_quiet (fail)
    go_wp2;go_ret;exact⟨by
     have:(xs==ys)=false:=by
      simp only[beq_eq_false_iff_ne,ne_eq];intro h;subst h;exact hne (HXK.out.symm.trans HYK.out)
     rw[this];rfl,HB.out.trans ⟨rfl,rfl,rfl,nLQ _,fun _ _=>rfl⟩⟩
   obtain rfl:k=n:=by omega
   go_wp2;go_ret;exact⟨by
    have h3:=HE.out;rw[List.take_of_length_le (by rw[HX.out];exact nLQ _),List.take_of_length_le (by rw[HY.out];exact nLQ _)] at h3;rw[h3];simp,HB.out⟩
 have e:(xs==ys)=false:=by
  simp only[beq_eq_false_iff_ne,ne_eq];intro h;subst h;exact hl (hn.symm.trans hm)
 rw[e];have h3:(n:Int)≠(m:Int):=by omega
 clear e ha hb h1 h2;go_enter func18,ntmps18;go_wp2;go_ret;exact⟨rfl,bRQ _ _⟩
end
namespace drivePlays
open Go.RowKit
theorem msg_refl (L:List Mg):smG msgB L L=true:=smG_iff.2 ⟨rfl,fun i h1 h2=>(msgB_iff _ _).2 rfl⟩
theorem walk {Pd:DrP}(I:PdI Pd)(ao:AdQ)(n cap:Nat)(L:List (List Op8))(T:Int)(a3:AdQ)(n3 c3:Nat)(K:List Int)(a2:AdQ)(n2 c2:Nat)(Ms:List Mg)(w:World)
 (h:RS w (.slice ao n cap) L) (hk:GS inE w (.slice a3 n3 c3) K) (hl:GS msgE w (.slice a2 n2 c2) Ms) (hg:HasErr w):
 Calls prog 4 #[.slice ao n cap,.int i64 T,.slice a3 n3 c3,.slice a2 n2 c2] w fun e w'=>e=.returned (.bool true)∧Below w.heap.size w w':=by
 have HR:Hid (∀V,Below w.heap.size w V→RS V (.slice ao n cap) L):=fun V hV=>h.later hV
 have HG:Hid (∀W,Below w.heap.size w W→HasErr W):=fun W hb=>hg.later hb
 have HN:Hid (L.length=n):=h.len;obtain⟨_,_,_,e1,hn,hn3,_,hka⟩:=hk.form;cases e1;have HKN:Hid (K.length=n3):=hn;have HKA:Hid (0<n3→∃g o,a3=some ⟨g,o,none⟩∧GAt inE w g o K):=fun h=>by
  obtain⟨g,o,h1,h2,_⟩:=hka h;exact⟨g,o,h1,h2⟩
 obtain⟨_,_,_,e1,hn,hn2,_,hla⟩:=hl.form;cases e1;have HLN:Hid (Ms.length=n2):=hn;have HLA:Hid (0<n2→∃g o,a2=some ⟨g,o,none⟩∧GAt msgE w g o Ms):=fun h=>by
  obtain⟨g,o,h1,h2,_⟩:=hla h;exact⟨g,o,h1,h2⟩
 unfold maxLen at hn2 hn3;obtain⟨E,hE⟩:∃E,E=rsF L T:=⟨_,rfl⟩;have HE:Hid (rsF L T=E):=hE.symm;clear h hk hl hg hn hla hka hE;go_enter func4,ntmps4
 go_wp2_with fail
 refine (rrounds_any ao n cap L T _ (HR.out _ (bRQ _ _))).mono ?_;rintro e w1 ⟨rfl,hb1⟩;rw[HE.out];have HB1:Hid (Below w.heap.size w w1):=hb1;clear hb1
 go_wp2_with fail
 refine (I.new ao n cap L T w.heap.size _ (fun V hV=>HR.out V (HB1.out.trans hV)) HB1.out.size).mono ?_;rintro e w2 ⟨v,rfl,hb2,hv⟩;rw[HE.out] at hv ⊢;have HB2:Hid (Below w.heap.size w w2):=HB1.out.trans (hb2.mono HB1.out.size);have HV:Hid (E=0→∃p O,v=.pointer (some ⟨p,0,none⟩)∧Pd w2 p w.heap.size O (dr0 L T)∧∀b,O b→w1.heap.size≤b):=hv;clear hv hb2 HB1
 go_wp2_with fail
 refine (same_noV E _ (HG.out _ HB2.out)).mono ?_;rintro e w3 ⟨rfl,hb3⟩;have HB3:Hid (Below w2.heap.size w2 w3):=hb3;have HB3':Hid (Below w.heap.size w w3):=HB2.out.trans (hb3.mono HB2.out.size);clear hb3;by_cases hE0:E=0
 ·subst hE0;obtain⟨p1,O1,hv,hP1,_⟩:=HV.out rfl;subst hv;have HP1:Hid (Pd w3 p1 w.heap.size O1 (dr0 L T)):=I.kb hP1 (Kb.of_below HB3.out fun b hl _=>hl);have hn20:n≤20:=by
   have:=(dk_new HE.out).L;have h2:(dr0 L T).L.length=n:=HN.out;omega
  clear hP1 HV;obtain⟨w4,hw4⟩:∃V,V=w3.alloc (.cells #[.slice ao n cap,.int i64 T,.int i64 0,.slice none 0 0,.int i64 0] 51):=⟨_,rfl⟩;have HW4:Hid (w3.alloc (.cells #[.slice ao n cap,.int i64 T,.int i64 0,.slice none 0 0,.int i64 0] 51)=w4):=hw4.symm;have hr4:=rdnew (w:=w3) (B0:=w.heap.size) (T:=T) (fun V hV=>HR.out V (HB3'.out.trans hV)) HB3'.out.size 51;rw[←hw4] at hr4;have hb4:Below w3.heap.size w3 w4:=by rw[hw4];exact (bRQ _ _).alloc (nLQ _) _
  have HS4:Hid (DrS Pd w p1 w3.heap.size O1 (fun b=>b=w3.heap.size) (dr0 L T) 0 w4):=
   ⟨I.kb HP1.out (Kb.of_below hb4 fun b hl _=>hl),hr4,fun b h1 h2=>by have:=(I.lt HP1.out b h1).2;omega,dk_new HE.out,HB3'.out.trans (hb4.mono HB3'.out.size),hr4.lt⟩
  obtain⟨p2,hp2⟩:∃p2,p2=w3.heap.size:=⟨_,rfl⟩;have HLL:Hid ((dr0 L T).L=L):=rfl;obtain⟨D0,hD0⟩:∃D0,D0=dr0 L T:=⟨_,rfl⟩;have HD0:Hid (D0.L=L):=by rw[hD0];rfl
  rw[←hD0] at HS4;clear hr4 hb4 hw4 HP1 hD0 HLL;go_upto_region 7 with fail;rw[HW4.out,←hp2];rw[←hp2] at HS4;clear HW4 hp2;go_wp2
  go_loopw [14] (fun i wr=>∃(j:Nat) (D:DrT) (O1 O2:Nat→Prop),j≤n3∧j≤80∧i=.int i64 j∧D.L=L∧DrS Pd w p1 p2 O1 O2 D j wr) (fun i _=>n3-(intOf i).toNat)
  case atStart=>exact⟨0,_,_,_,by omega,by omega,rfl,HD0.out,HS4.out⟩
  case round =>
   obtain⟨j,D,O1,O2,hj,hj8,rfl,hDL,hS⟩:=hrel;have HS:Hid (DrS Pd w p1 p2 O1 O2 D j wr):=hS;have HDL:Hid (D.L=L):=hDL;clear hS HS4 hDL;obtain⟨B,hB⟩:∃B:Bool,B=(decide ((j:Int)<(n3:Int))&&decide ((j:Int)<80)):=⟨_,rfl⟩;have HBB:Hid ((decide ((j:Int)<(n3:Int))&&decide ((j:Int)<80))=B):=hB.symm;clear hB;have jb0:(0:Int)≤(j:Int):=by omega
   go_upto_region 8 with fail
   go_cut [51] from 44 to 50 (fun q w'=>q=.bool B∧w'=wr)
   case first =>
    by_cases hlt:j<n3
    ·have hlt2:(j:Int)<(n3:Int):=by omega
     have hbb:B=decide ((j:Int)<80):=by rw[←HBB.out];simp[hlt2]
     subst hbb;go_wp2
     go_meet
     case rel=>exact⟨rfl,rfl⟩
    have hlt2:¬(j:Int)<(n3:Int):=by omega
    have hbb:B=false:=by rw[←HBB.out];simp[hlt2]
    subst hbb;go_wp2
    go_meet
    case rel=>exact⟨rfl,rfl⟩
   case rest =>
    obtain⟨rfl,hwy⟩:=hcut;have hwx:=hwy.symm;subst hwx;clear hwy;cases B with
    | false =>
      go_wp2;go_ret;exact⟨rfl,HS.out.b⟩
    | true =>
      have hb:=HBB.out;simp only[Bool.and_eq_true,decide_eq_true_eq] at hb;obtain⟨hjn,hj80⟩:=hb;have hjn2:j<n3:=by omega
      obtain⟨g,o,hae,hGA⟩:=HKA.out (by omega);subst hae;obtain⟨st,hjl,hKj,y0⟩:=in_at (hGA.later HS.out.b) HKN.out hjn2;clear hGA hjl hKj HBB
      go_upto_block 2 with fail
      go_cut [9,15,16,17,18] from 58 to 116 (fun e a b f _ w'=>∃(E:Int) (A:List Mg) (D':DrT) (P1 P2:Nat→Prop) (a5:AdQ) (n5 c5:Nat) (a6:AdQ) (n6 c6:Nat),e=.int i64 E∧a=.slice a5 n5 c5∧b=.slice a6 n6 c6∧f=noV E∧GS msgE w' (.slice a5 n5 c5) A∧GS msgE w' (.slice a6 n6 c6) A∧D'.L=L∧DrS Pd w p1 p2 P1 P2 D' (j+1) w')
      case first =>
       by_cases h0:st=0
       ·subst h0;have hj9:j≤100000:=by omega
        obtain⟨Z,hZ⟩:∃Z,Z=nxN D:=⟨_,rfl⟩;have HZ:Hid (nxN D=Z):=hZ.symm;obtain⟨A,hA⟩:∃A,A=nxA D:=⟨_,rfl⟩;have HA:Hid (nxA D=A):=hA.symm;obtain⟨D',hD'⟩:∃D',D'=nxS D:=⟨_,rfl⟩;have HD':Hid (nxS D=D'):=hD'.symm;have HOK':Hid (DrOK D' (j+1)):=by
         show DrOK _ _;rw[hD'];exact dk_nx HS.out.ok
        have HDL':Hid (D'.L=L):=by
         show _=_;rw[hD',nxS]
         split
         ·exact HDL.out
         exact HDL.out
        clear hZ hA hD'
        go_wp2_with fail
        refine (rnext_R _ HS.out.r HS.out.ok).mono ?_;rw[HZ.out,HA.out,HD'.out];rintro e w5 ⟨a5,n5,c5,rfl,hg5,hn5,Q2,hR5,hO5,hnO5,hk5⟩;have HP5:Hid (Pd w5 p1 w.heap.size O1 D):=dr_keep I HS.out hk5
        go_wp2_with fail
        refine (I.next _ HP5.out HS.out.ok hj9).mono ?_;rw[HZ.out,HA.out,HD'.out];rintro e w6 ⟨a6,n6,c6,rfl,hg6,hn6,Q1,hP6,hO6,hnO6,hk6⟩;have HS6:Hid (DrS Pd w p1 p2 Q1 Q2 D' (j+1) w6):=dr_two I HS.out HOK'.out hR5 hO5 hk5 hP6 hO6 hk6;have HW5:Hid (GS msgE w6 (.slice a5 n5 c5) A):=gs_kept hg5 hk6 (.inr fun ad ha h1=>by
         have h2:=hn5 ad ha;have h3:=(I.lt HS.out.g _ h1).2;omega)
        have HW6:Hid (GS msgE w6 (.slice a6 n6 c6) A):=hg6;clear hg5 hn5 hR5 hO5 hnO5 hk5 hg6 hn6 hP6 hO6 hnO6 hk6;go_wp2
        go_meet
        exact⟨Z,A,D',Q1,Q2,a5,n5,c5,a6,n6,c6,rfl,rfl,rfl,rfl,HW5.out,HW6.out,HDL'.out,HS6.out⟩
       by_cases h1:st=1
       ·subst h1;have hj9:j≤100000:=by omega
        obtain⟨A,hA⟩:∃A,A=tkA D:=⟨_,rfl⟩;have HA:Hid (tkA D=A):=hA.symm;obtain⟨D',hD'⟩:∃D',D'=tkS D:=⟨_,rfl⟩;have HD':Hid (tkS D=D'):=hD'.symm;have HOK':Hid (DrOK D' (j+1)):=by
         show DrOK _ _;rw[hD'];exact dk_tk HS.out.ok
        have HDL':Hid (D'.L=L):=by
         show _=_;rw[hD',tkS]
         split
         ·exact HDL.out
         exact HDL.out
        clear hA hD' h0
        go_wp2_with fail
        refine (rtick_R _ HS.out.r HS.out.ok (by omega)).mono ?_;rw[HA.out,HD'.out];rintro e w5 ⟨a5,n5,c5,rfl,hg5,hn5,Q2,hR5,hO5,hnO5,hk5⟩;have HP5:Hid (Pd w5 p1 w.heap.size O1 D):=dr_keep I HS.out hk5
        go_wp2_with fail
        refine (I.tick _ HP5.out HS.out.ok hj9).mono ?_;rw[HA.out,HD'.out];rintro e w6 ⟨a6,n6,c6,rfl,hg6,hn6,Q1,hP6,hO6,hnO6,hk6⟩;have HS6:Hid (DrS Pd w p1 p2 Q1 Q2 D' (j+1) w6):=dr_two I HS.out HOK'.out hR5 hO5 hk5 hP6 hO6 hk6;have HW5:Hid (GS msgE w6 (.slice a5 n5 c5) A):=gs_kept hg5 hk6 (.inr fun ad ha h1=>by
         have h2:=hn5 ad ha;have h3:=(I.lt HS.out.g _ h1).2;omega)
        have HW6:Hid (GS msgE w6 (.slice a6 n6 c6) A):=hg6;clear hg5 hn5 hR5 hO5 hnO5 hk5 hg6 hn6 hP6 hO6 hnO6 hk6;go_wp2
        go_meet
        exact⟨0,A,D',Q1,Q2,a5,n5,c5,a6,n6,c6,rfl,rfl,rfl,rfl,HW5.out,HW6.out,HDL'.out,HS6.out⟩
       have hs0:(st==0)=false:=by simp[h0]
       have hs1:(st==1)=false:=by simp[h1]
       obtain⟨q,hq⟩:∃q,q=wr.heap.size:=⟨_,rfl⟩;obtain⟨wb,hwb⟩:∃V,V=wr.alloc (.cells #[.int i64 0,.int i64 0,.int i64 0,.int i64 0,.int i64 0,.bool false,.int i64 0,.int i64 0,.int i64 0,.int i64 0,.int i64 0,.int i64 0] 39):=⟨_,rfl⟩;have HWB:Hid (wr.alloc (.cells #[.int i64 0,.int i64 0,.int i64 0,.int i64 0,.int i64 0,.bool false,.int i64 0,.int i64 0,.int i64 0,.int i64 0,.int i64 0,.int i64 0] 39)=wb):=hwb.symm;have HBB:Hid (Below wr.heap.size wr wb):=by show Below _ _ _;rw[hwb];exact (bRQ _ _).alloc (nLQ _) _
       have HV0:Hid (MBx wb q zeM):=by
        show MBx _ _ _;rw[hwb,hq];exact mbx_new wr _
       have HQ:Hid (q=wr.heap.size):=hq;clear hwb;go_upto_region 15 with fail;rw[HWB.out,←HQ.out];clear HWB hq;obtain⟨BZ,hBZ⟩:∃B:Bool,B=decide ((0:Int)<(n2:Int)):=⟨_,rfl⟩;have HBZ:Hid (BZ=decide ((0:Int)<(n2:Int))):=hBZ;clear hBZ
       go_cut [60] from 58 to 59 (fun v w'=>v=.bool BZ∧w'=wb)
       case first =>
        go_wp2
        go_meet
        case rel=>exact⟨by rw[HBZ.out];first | rfl | simp,by first | rfl | trivial⟩
       case rest =>
       obtain⟨rfl,hw0⟩:=hcut;have hw1:=hw0.symm;subst hw1;clear hw0
       go_upto_if 60 with fail
       go_cut [] from 61 to 67 (fun w'=>Below wr.heap.size wr w'∧∃m,MBx w' q m)
       case first =>
        cases BZ with
        | false =>
          go_wp2
          go_meet
          exact⟨HBB.out,_,HV0.out⟩
        | true =>
          have hb0:(0:Int)<(n2:Int):=by simpa using HBZ.out.symm
          have hn0:¬n2=0:=by omega
          obtain⟨g2,o2,hae,hGM⟩:=HLA.out (by omega);subst hae;obtain⟨r,hr⟩:∃r,r=j % n2:=⟨_,rfl⟩;have hrn:r<n2:=by rw[hr];exact Nat.mod_lt _ (by omega)
          have hmod:(j:Int) % (n2:Int)=(r:Int):=by rw[hr];rfl
          obtain⟨x0,x1,x2,x3,x4,x5,x6,x7,x8,x9,x10,x11,hml,hMr,q0,q1,q2,q3,q4,q5,q6,q7,q8,q9,q10,q11⟩:=msg_at (hGM.later (HS.out.b.trans (HBB.out.mono HS.out.b.size))) HLN.out hrn;obtain⟨z0,z1,z2,z3,z4,z5,z6,z7,z8,z9,z10,z11⟩:=msg_cells HV0.out.v;simp only[Nat.zero_add] at z0 z1 z2 z3 z4 z5 z6 z7 z8 z9 z10 z11;have hne0:¬(n2:Int)=0:=by omega
          have rb0:(0:Int)≤(r:Int):=by omega
          have rb1:(r:Int)<(n2:Int):=by omega
          have zf:=HV0.out.f;have HPT:Hid (MBx (putL q wb 0 [.int i64 x0,.int i64 x1,.int i64 x2,.int i64 x3,.int i64 x4,.bool x5,.int i64 x6,.int i64 x7,.int i64 x8,.int i64 x9,.int i64 x10,.int i64 x11]) q ⟨x0,x1,x2,x3,⟨x4,x5,⟨x6,x7,x8,x9,x10,x11⟩⟩⟩):=HV0.out.put x0 x1 x2 x3 x4 x5 x6 x7 x8 x9 x10 x11;have HPB:Hid (Below wr.heap.size wr (putL q wb 0 [.int i64 x0,.int i64 x1,.int i64 x2,.int i64 x3,.int i64 x4,.bool x5,.int i64 x6,.int i64 x7,.int i64 x8,.int i64 x9,.int i64 x10,.int i64 x11])):=HBB.out.trans ((putL_kb q _ wb 0).below HBB.out.size fun b hb=>by have:=HQ.out;omega);clear hGM hMr hr;go_wp2
          go_meet
          exact⟨HPB.out,_,HPT.out⟩
       case rest =>
        obtain⟨hb1,m1,hm1⟩:=hcut;obtain⟨w5,hw5⟩:∃V,V=wc:=⟨_,rfl⟩;subst hw5;have HB5:Hid (Below wr.heap.size wr w5):=hb1;have HM5:Hid (MBx w5 q m1):=hm1;have HS5:Hid (DrS Pd w p1 p2 O1 O2 D j w5):=HS.out.later I hb1;clear hb1 hm1 HBB HV0;obtain⟨⟨ar,nr,cr⟩,⟨al,nl,cl⟩,hR5⟩:=HS5.out.r;have HR5:Hid (RfD w5 p2 w.heap.size O2 D (ar,nr,cr) (al,nl,cl)):=hR5;have HNL:Hid (D.l.length=nl):=hR5.l.len;have hKc:w5.cell? ⟨g,o+j,none⟩=some (.int i64 st):=cell_later HB5.out y0;have d3:w5.cell? ⟨p2,3,none⟩=some (.slice al nl cl):=hR5.c3;obtain⟨BY,hBY⟩:∃B:Bool,B=(decide (st=2)&&decide ((0:Int)<(nl:Int))):=⟨_,rfl⟩;have HBY:Hid (BY=(decide (st=2)&&decide ((0:Int)<(nl:Int)))):=hBY;clear hBY hR5;go_upto_region 17 with fail
        go_cut [80] from 68 to 79 (fun v w'=>v=.bool BY∧w'=w5)
        case first =>
         by_cases h2:st=2
         ·have hs2:(st==2)=true:=by simp[h2]
          have hbb:BY=decide ((0:Int)<(nl:Int)):=by rw[HBY.out];simp[h2]
          subst hbb;clear h2;go_wp2
          go_meet
          case rel=>exact⟨by first | rfl | simp,by first | rfl | trivial⟩
         have hs2:(st==2)=false:=by simp[h2]
         have hbb:BY=false:=by rw[HBY.out];simp[h2]
         subst hbb;go_wp2
         go_meet
         case rel=>exact⟨by first | rfl | simp,by first | rfl | trivial⟩
        case rest =>
        obtain⟨rfl,hw0⟩:=hcut;have hw1:=hw0.symm;subst hw1;clear hw0
        go_upto_if 80 with fail
        go_cut [] from 81 to 92 (fun w'=>Below wr.heap.size wr w'∧∃m,MBx w' q m)
        case first =>
         cases BY with
         | false =>
           go_wp2
           go_meet
           exact⟨HB5.out,_,HM5.out⟩
         | true =>
           have hb0:(0:Int)<(nl:Int):=by
            have:=HBY.out;simp at this;omega
           have hnl0:¬nl=0:=by omega
           obtain⟨_,_,_,e9,hn9,_,_,h9⟩:=HR5.out.l.form;cases e9;obtain⟨gl,ol,hal,hGl,_⟩:=h9 (by show 0<nl;omega);obtain⟨x,hxl,hLx,y1⟩:=in_at hGl HNL.out (show 0<nl by omega);have hal':al=some ⟨gl,ol,none⟩:=hal;subst hal';rw[Nat.add_zero] at y1;obtain⟨sd,hsd⟩:∃s:Int,s=(D.s:Int):=⟨_,rfl⟩;have d2:w5.cell? ⟨p2,2,none⟩=some (.int i64 sd):=by rw[hsd];exact HR5.out.c2
           have hs20:D.s≤20:=Nat.le_trans HS.out.ok.s HS.out.ok.L;have hs0:0≤sd:=by omega
           have hs2:sd≤20:=by omega
           have hwr:IntKind.i64.wrap (sd-1)=sd-1:=by rw[IntKind.wrap_i64];omega
           obtain⟨z0,z1,z2,z3,z4,z5,z6,z7,z8,z9,z10,z11⟩:=msg_cells HM5.out.v;simp only[Nat.zero_add] at z0 z1 z2 z3 z4 z5 z6 z7 z8 z9 z10 z11;have zf:=HM5.out.f;have HPT:Hid (MBx (putL q w5 0 [.int i64 3,.int i64 x,.int i64 (sd-1),.int i64 0,.int i64 0,.bool false,.int i64 0,.int i64 0,.int i64 0,.int i64 0,.int i64 0,.int i64 0]).drew q ⟨3,x,sd-1,0,⟨0,false,⟨0,0,0,0,0,0⟩⟩⟩):=by
            exact (HM5.out.put 3 x (sd-1) 0 0 false 0 0 0 0 0 0).drew
           have HPB:Hid (Below wr.heap.size wr (putL q w5 0 [.int i64 3,.int i64 x,.int i64 (sd-1),.int i64 0,.int i64 0,.bool false,.int i64 0,.int i64 0,.int i64 0,.int i64 0,.int i64 0,.int i64 0]).drew):=
            (HB5.out.trans ((putL_kb q _ w5 0).below HB5.out.size fun b hb=>by have:=HQ.out;omega)).drew
           have HSK:Hid ((putL q w5 0 [.int i64 3,.int i64 x,.int i64 (sd-1),.int i64 0,.int i64 0,.bool false,.int i64 0,.int i64 0,.int i64 0,.int i64 0,.int i64 0,.int i64 0]).drew.cell? ⟨p2,3,none⟩=some (.slice (some ⟨gl,ol,none⟩) nl cl)∧(putL q w5 0 [.int i64 3,.int i64 x,.int i64 (sd-1),.int i64 0,.int i64 0,.bool false,.int i64 0,.int i64 0,.int i64 0,.int i64 0,.int i64 0,.int i64 0]).drew.cell? ⟨gl,ol,none⟩=some (.int i64 x)∧(putL q w5 0 [.int i64 3,.int i64 x,.int i64 (sd-1),.int i64 0,.int i64 0,.bool false,.int i64 0,.int i64 0,.int i64 0,.int i64 0,.int i64 0,.int i64 0]).drew.cell? ⟨p2,2,none⟩=some (.int i64 sd)):=by
            have hb:=(putL_kb q [.int i64 3,.int i64 x,.int i64 (sd-1),.int i64 0,.int i64 0,.bool false,.int i64 0,.int i64 0,.int i64 0,.int i64 0,.int i64 0,.int i64 0] w5 0).drew;have hp2:p2≠q:=by
             have h1:=(HS.out.l2 _ HR5.out.pO).2;have h2:=HQ.out;omega
            have hgl:gl≠q:=by
             rcases HR5.out.lo with h3 | h3
             ·have h4:=HNL.out;rw[h3] at h4;simp at h4;omega
             have h1:=(HS.out.l2 _ (h3 _ rfl).1).2;have h2:=HQ.out;have h5:gl<wr.heap.size:=h1;omega
            exact⟨hb.at (q:=⟨p2,3,none⟩) d3 hp2,hb.at (q:=⟨gl,ol,none⟩) y1 hgl,hb.at (q:=⟨p2,2,none⟩) d2 hp2⟩
           clear hGl h9 hn9 hLx hxl hsd hs20;go_upto_region 18 with fail;refine wp_region_held_drew (S:=fun W=>W.cell? ⟨p2,3,none⟩=some (.slice (some ⟨gl,ol,none⟩) nl cl)∧W.cell? ⟨gl,ol,none⟩=some (.int i64 x)∧W.cell? ⟨p2,2,none⟩=some (.int i64 sd)) (by kernel_rfl) ⟨d3,y1,d2⟩ (fun hHeld=>?_);refine wpAnyH_take (i:=0) (v:=.pointer (some ⟨p2,0,none⟩)) rfl (by kernel_rfl) (by kernel_rfl) (by kernel_rfl) (fun _ _ _ h=>h) (Or.inl ⟨by rfl,?_⟩) hHeld ?_
           ·intro V hV;obtain⟨v0,v1,v2⟩:=hV;go_simp
           try simp only[Act.put,AP]
           refine wpAnyH_take (i:=1) (v:=.pointer (some ⟨p2,0,none⟩)) rfl (by kernel_rfl) (by kernel_rfl) (by kernel_rfl) (fun _ _ _ h=>h) (Or.inl ⟨by rfl,?_⟩) hHeld ?_
           ·intro V hV;obtain⟨v0,v1,v2⟩:=hV;go_simp
           try simp only[Act.put,AP]
           refine wpAnyH_take (i:=2) (v:=.pointer (some ⟨p2,3,none⟩)) rfl (by kernel_rfl) (by kernel_rfl) (by kernel_rfl) (fun _ _ _ h=>h) (Or.inl ⟨by rfl,?_⟩) hHeld ?_
           ·intro V hV;obtain⟨v0,v1,v2⟩:=hV;go_simp
           try simp only[Act.put,AP]
           refine wpAnyH_take (i:=3) (v:=.slice (some ⟨gl,ol,none⟩) nl cl) rfl (by kernel_rfl) (by kernel_rfl) (by kernel_rfl) (fun _ _ _ h=>h) (Or.inl ⟨by rfl,?_⟩) hHeld ?_
           ·intro V hV;obtain⟨v0,v1,v2⟩:=hV;go_simp
           try simp only[Act.put,AP]
           refine wpAnyH_take (i:=4) (v:=.pointer (some ⟨gl,ol,none⟩)) rfl (by kernel_rfl) (by kernel_rfl) (by kernel_rfl) (fun _ _ _ h=>h) (Or.inl ⟨by rfl,?_⟩) hHeld ?_
           ·intro V hV;obtain⟨v0,v1,v2⟩:=hV;go_simp
           try simp only[Act.put,AP]
           refine wpAnyH_take (i:=5) (v:=.int i64 x) rfl (by kernel_rfl) (by kernel_rfl) (by kernel_rfl) (fun _ _ _ h=>h) (Or.inl ⟨by rfl,?_⟩) hHeld ?_
           ·intro V hV;obtain⟨v0,v1,v2⟩:=hV;go_simp
           try simp only[Act.put,AP]
           refine wpAnyH_take (i:=6) (v:=.pointer (some ⟨p2,0,none⟩)) rfl (by kernel_rfl) (by kernel_rfl) (by kernel_rfl) (fun _ _ _ h=>h) (Or.inl ⟨by rfl,?_⟩) hHeld ?_
           ·intro V hV;obtain⟨v0,v1,v2⟩:=hV;go_simp
           try simp only[Act.put,AP]
           refine wpAnyH_take (i:=7) (v:=.pointer (some ⟨p2,0,none⟩)) rfl (by kernel_rfl) (by kernel_rfl) (by kernel_rfl) (fun _ _ _ h=>h) (Or.inl ⟨by rfl,?_⟩) hHeld ?_
           ·intro V hV;obtain⟨v0,v1,v2⟩:=hV;go_simp
           try simp only[Act.put,AP]
           refine wpAnyH_take (i:=8) (v:=.pointer (some ⟨p2,2,none⟩)) rfl (by kernel_rfl) (by kernel_rfl) (by kernel_rfl) (fun _ _ _ h=>h) (Or.inl ⟨by rfl,?_⟩) hHeld ?_
           ·intro V hV;obtain⟨v0,v1,v2⟩:=hV;go_simp
           try simp only[Act.put,AP]
           refine wpAnyH_take (i:=9) (v:=.int i64 sd) rfl (by kernel_rfl) (by kernel_rfl) (by kernel_rfl) (fun _ _ _ h=>h) (Or.inl ⟨by rfl,?_⟩) hHeld ?_
           ·intro V hV;obtain⟨v0,v1,v2⟩:=hV;go_simp
           try simp only[Act.put,AP]
           refine wpAnyH_take (i:=10) (v:=.int i64 (sd-1)) rfl (by kernel_rfl) (by kernel_rfl) (by kernel_rfl) (fun _ _ _ h=>h) (Or.inl ⟨by rfl,?_⟩) hHeld ?_
           ·intro V hV;obtain⟨v0,v1,v2⟩:=hV;go_simp
           try simp only[Act.put,AP]
           refine wpAnyH_take (i:=11) (v:=.agg #[.int i64 3,.int i64 x,.int i64 (sd-1),.int i64 0,.int i64 0,.bool false,.int i64 0,.int i64 0,.int i64 0,.int i64 0,.int i64 0,.int i64 0]) rfl (by kernel_rfl) (by kernel_rfl) (by kernel_rfl) (fun _ _ _ h=>h) (Or.inl ⟨by rfl,?_⟩) hHeld ?_
           ·intro V hV;obtain⟨v0,v1,v2⟩:=hV;go_simp
           try simp only[Act.put,AP]
           refine wpAnyH_ready (rs:=[12]) (by kernel_rfl) (by simp) ?_;refine AllReadyH.cons (i:=12) (o:=⟨_,_,_,_,_,_⟩) (by rfl) ?_ AllReadyH.nil;intro K hK;go_simp;refine hK.out _ (putL q w5 0 [.int i64 3,.int i64 x,.int i64 (sd-1),.int i64 0,.int i64 0,.bool false,.int i64 0,.int i64 0,.int i64 0,.int i64 0,.int i64 0,.int i64 0]).drew HSK.out (fun hHeld=>?_);clear hK K;refine wpAnyH_done (by kernel_rfl) ?_ _
           go_wp2_with fail
           go_meet
           exact⟨HPB.out,_,HPT.out⟩
        case rest =>
         obtain⟨hb1,m2,hm1⟩:=hcut;obtain⟨w6,hw6⟩:∃V,V=wc:=⟨_,rfl⟩;subst hw6;have HB6:Hid (Below wr.heap.size wr w6):=hb1;have HS6:Hid (DrS Pd w p1 p2 O1 O2 D j w6):=HS.out.later I hb1;obtain⟨x0,x1,x2,x3,⟨x4,x5,⟨x6,x7,x8,x9,x10,x11⟩⟩⟩:=m2;have HM6:Hid (∀V,Below w6.heap.size w6 V→MBx V q ⟨x0,x1,x2,x3,⟨x4,x5,⟨x6,x7,x8,x9,x10,x11⟩⟩⟩):=fun V hV=>hm1.later hV
         obtain⟨z0,z1,z2,z3,z4,z5,z6,z7,z8,z9,z10,z11⟩:=msg_cells hm1.v;simp only[Nat.zero_add] at z0 z1 z2 z3 z4 z5 z6 z7 z8 z9 z10 z11;obtain⟨Z,hZ⟩:∃Z,Z=dhN D ⟨x0,x1,x2,x3,⟨x4,x5,⟨x6,x7,x8,x9,x10,x11⟩⟩⟩:=⟨_,rfl⟩;have HZ:Hid (dhN D ⟨x0,x1,x2,x3,⟨x4,x5,⟨x6,x7,x8,x9,x10,x11⟩⟩⟩=Z):=hZ.symm;obtain⟨D',hD'⟩:∃D',D'=dhS D ⟨x0,x1,x2,x3,⟨x4,x5,⟨x6,x7,x8,x9,x10,x11⟩⟩⟩:=⟨_,rfl⟩;have HD':Hid (dhS D ⟨x0,x1,x2,x3,⟨x4,x5,⟨x6,x7,x8,x9,x10,x11⟩⟩⟩=D'):=hD'.symm;have HOK':Hid (DrOK D' (j+1)):=by
          show DrOK _ _;rw[hD'];exact dk_hr HS6.out.ok
         have HDL':Hid (D'.L=L):=by
          show _=_;rw[hD',dhS]
          split
          ·exact HDL.out
          exact HDL.out
         clear hb1 hm1 hZ hD' HB5 HM5 HS5 HR5 HNL hKc d3
         go_wp2_with fail
         refine (rdhear_R x0 x1 x2 x3 x4 x5 x6 x7 x8 x9 x10 x11 _ HS6.out.r HS6.out.ok).mono ?_;rw[HZ.out,HD'.out];rintro e w7 ⟨rfl,Q2,hR7,hO7,hk7⟩;have HP7:Hid (Pd w7 p1 w.heap.size O1 D):=dr_keep I HS6.out hk7;have hq2:¬O2 q:=fun h=>by
          have h1:=(HS.out.l2 _ h).2;have h2:=HQ.out;omega
         have HM7:Hid (MBx w7 q ⟨x0,x1,x2,x3,⟨x4,x5,⟨x6,x7,x8,x9,x10,x11⟩⟩⟩):=by
          have hm:=HM6.out w6 (bRQ _ _);exact⟨fun i u hu=>hk7.at (hm.v i u hu) hq2,fun i=>(hk7.frozen (q:=⟨q,i,none⟩) hm.lt hq2).trans (hm.f i)⟩
         clear z0 z1 z2 z3 z4 z5 z6 z7 z8 z9 z10 z11;obtain⟨z0,z1,z2,z3,z4,z5,z6,z7,z8,z9,z10,z11⟩:=msg_cells HM7.out.v;simp only[Nat.zero_add] at z0 z1 z2 z3 z4 z5 z6 z7 z8 z9 z10 z11;have hj9:j≤100000:=by omega
         have HR7:Hid (DrR w7 p2 w.heap.size Q2 D'∧(∀b,Q2 b→O2 b∨w6.heap.size≤b)∧Kb (fun b=>¬O2 b) w6 w7):=⟨hR7,hO7,hk7⟩;clear hR7 hO7 hk7 hq2
         go_wp2_with fail
         refine (I.hear x0 x1 x2 x3 x4 x5 x6 x7 x8 x9 x10 x11 _ HP7.out HS6.out.ok hj9).mono ?_;rw[HZ.out,HD'.out];rintro e w8 ⟨rfl,Q1,hP8,hO8,hk8⟩;have HS8:Hid (DrS Pd w p1 p2 Q1 Q2 D' (j+1) w8):=dr_two I HS6.out HOK'.out HR7.out.1 HR7.out.2.1 HR7.out.2.2 hP8 hO8 hk8;clear hP8 hO8 hk8 z0 z1 z2 z3 z4 z5 z6 z7 z8 z9 z10 z11;go_wp2
         go_meet
         exact⟨Z,[],D',Q1,Q2,none,0,0,none,0,0,rfl,rfl,rfl,rfl,GS.nil _,GS.nil _,HDL'.out,HS8.out⟩
      case rest =>
       obtain⟨E,A,D',P1,P2,a5,n5,c5,a6,n6,c6,rfl,rfl,rfl,rfl,h5,h6,hDL',hS'⟩:=hcut;have HDL':Hid (D'.L=L):=hDL';have HS6:Hid (DrS Pd w p1 p2 P1 P2 D' (j+1) wc):=hS';have HW5:Hid (GS msgE wc (.slice a5 n5 c5) A):=h5;have HW6:Hid (GS msgE wc (.slice a6 n6 c6) A):=h6;have hj9:j+1≤100000:=by omega
       clear h5 h6 hDL' hS' y0 HS HDL HD0
       go_wp2_with fail
       refine (same_noV E _ (HG.out _ HS6.out.b)).mono ?_;rintro e w7 ⟨rfl,hb7⟩;have HB7:Hid (Below wc.heap.size wc w7):=hb7;clear hb7
       go_wp2_with fail
       refine (msg_same a6 n6 c6 a5 n5 c5 A A _ (HW6.out.later HB7.out) (HW5.out.later HB7.out)).mono ?_;rintro e w8 ⟨rfl,hb8⟩;rw[msg_refl];have hs8:=HS6.out.later I (HB7.out.trans (hb8.mono HB7.out.size));have HS8:Hid (∀V,Below w8.heap.size w8 V→DrS Pd w p1 p2 P1 P2 D' (j+1) V):=fun V hV=>hs8.later I hV
       obtain⟨⟨ar,nr,cr⟩,⟨al,nl,cl⟩,hR⟩:=hs8.r;have HR8:Hid (∀V,Below w8.heap.size w8 V→RfD V p2 w.heap.size P2 D' (ar,nr,cr) (al,nl,cl)):=fun V hV=>hR.later hV
       have HNL:Hid (D'.l.length=nl):=hR.l.len;have c3:w8.cell? ⟨p2,3,none⟩=some (.slice al nl cl):=hR.c3;clear hs8 hR hb8 HW5 HW6 HB7 HS6;go_upto_region 29 with fail
       go_cut [20] from 123 to 129 (fun q w'=>q=.bool true∧Below w8.heap.size w8 w')
       case first =>
        go_region_with (first | (go_at_call 8;refine (I.left _ (HS8.out _ (by first | exact Below.drew (bRQ _ _) | exact bRQ _ _)).g (HS8.out _ (by first | exact Below.drew (bRQ _ _) | exact bRQ _ _)).ok hj9).mono ?_;rintro e w9 ⟨a7,n7,c7,rfl,hg7,_,hb9⟩;have HB9:Hid (Below w8.heap.size w8 w9):=(Below.drew (bRQ _ _)).trans hb9;have c3':=cell_later HB9.out c3) | (go_at_call 18;refine (smints_any a7 al n7 nl c7 cl D'.l D'.l _ hg7 (HR8.out _ HB9.out).l).mono ?_;rintro e w10 ⟨rfl,hb10⟩))
        all_goals (go_wp2_with fail;go_meet)
        all_goals exact⟨by simp,HB9.out.trans (hb10.mono HB9.out.size)⟩
       case rest =>
        obtain⟨rfl,hbx⟩:=hcut;obtain⟨wx,hwx⟩:∃V,V=wc:=⟨_,rfl⟩;subst hwx;have HBX:Hid (Below w8.heap.size w8 wx):=hbx;have HS9:Hid (∀V,Below wx.heap.size wx V→DrS Pd w p1 p2 P1 P2 D' (j+1) V):=fun V hb=>HS8.out V (HBX.out.trans (hb.mono HBX.out.size))
        have hR:=HR8.out wx HBX.out;obtain⟨sd,hsd⟩:∃s:Int,s=(D'.s:Int):=⟨_,rfl⟩;have HSD:Hid (sd=(D'.s:Int)):=hsd;have HQC:Hid (wx.cell? ⟨p2,2,none⟩=some (.int i64 sd)∧wx.cell? ⟨p2,3,none⟩=some (.slice al nl cl)):=⟨by rw[hsd];exact hR.c2,hR.c3⟩;obtain⟨BD,hBD⟩:∃B,B=doneD D':=⟨_,rfl⟩;have HBD:Hid (doneD D'=BD):=hBD.symm;have hbd:BD=(decide ((nl:Int)=0)&&decide (sd=(n:Int))):=by
         rw[hBD,doneD,emp_iff HNL.out,HDL'.out,HN.out,hsd]
         congr 1
         by_cases e:D'.s=n
         ·rw[decide_eq_true (by omega:(D'.s:Int)=(n:Int))];simp[e]
         rw[decide_eq_false (by omega:¬(D'.s:Int)=(n:Int))];simp[e]
        clear hbx hR hsd hBD c3 HR8 HS8 HBX;go_upto_region 30 with fail
        go_cut [168] from 130 to 167 (fun q w'=>q=.bool false∧Below wx.heap.size wx w')
        case first =>
         by_cases hz:(nl:Int)=0
         ·have hz1:((nl:Int)==0)=true:=by simp[hz]
          have hsn:(sd==(n:Int))=BD:=by
           rw[hbd,decide_eq_true hz,Bool.true_and];by_cases e:sd=(n:Int)
           ·simp[e]
           simp[e]
          clear hbd
          as_aux_lemma =>
           refine wp_region_quiet (C:=fun W=>Below wx.heap.size wx W∧W.cell? ⟨p2,2,none⟩=some (.int i64 sd)∧W.cell? ⟨p2,3,none⟩=some (.slice al nl cl)) (by kernel_rfl) (by kernel_rfl) ⟨Below.drew (bRQ _ _),HQC.out⟩ ?_;simp only[List.toList_toArray];go_big_quiet_want;refine qv (.bool true) ?_ ?_
           ·rintro w' ⟨z0,z1,z2⟩;go_simp
           simp only[Act.put,AP];go_big_quiet_on;go_big_quiet_want;refine qv (.bool false) ?_ ?_
           ·rintro w' ⟨z0,z1,z2⟩;go_simp
           simp only[Act.put,AP];go_big_quiet_on;go_big_quiet_want;refine qv (.bool false) ?_ ?_
           ·rintro w' ⟨z0,z1,z2⟩;go_simp
           simp only[Act.put,AP];go_big_quiet_on;go_big_quiet_want;refine qv (.bool true) ?_ ?_
           ·rintro w' ⟨z0,z1,z2⟩;go_simp
           simp only[Act.put,AP];go_big_quiet_on;go_big_quiet_want;refine qv (.bool false) ?_ ?_
           ·rintro w' ⟨z0,z1,z2⟩;go_simp
           simp only[Act.put,AP];go_big_quiet_on;go_big_quiet_want;refine qv (.bool false) ?_ ?_
           ·rintro w' ⟨z0,z1,z2⟩;go_simp
           simp only[Act.put,AP];go_big_quiet_on;go_big_quiet_want;refine qv (.bool false) ?_ ?_
           ·rintro w' ⟨z0,z1,z2⟩;go_simp
           simp only[Act.put,AP];go_big_quiet_on;go_big_quiet_want;refine qv (.bool true) ?_ ?_
           ·rintro w' ⟨z0,z1,z2⟩;go_simp
           simp only[Act.put,AP];go_big_quiet_on;go_big_quiet_want;refine qv (.bool false) ?_ ?_
           ·rintro w' ⟨z0,z1,z2⟩;go_simp
           simp only[Act.put,AP];go_big_quiet_on;go_big_quiet_want;refine qv (.bool false) ?_ ?_
           ·rintro w' ⟨z0,z1,z2⟩;go_simp
           simp only[Act.put,AP];go_big_quiet_on;go_big_quiet_want;refine qv (.bool false) ?_ ?_
           ·rintro w' ⟨z0,z1,z2⟩;go_simp
           simp only[Act.put,AP];go_big_quiet_on;go_big_quiet_want;refine qv (.pointer (some ⟨p1,0,none⟩)) ?_ ?_
           ·rintro w' ⟨z0,z1,z2⟩;go_simp
           simp only[Act.put,AP];go_big_quiet_on;go_big_quiet_want;refine quiet_call (f:=11) (args:=#[.pointer (some ⟨p1,0,none⟩)]) (v:=.int i64 sd) (fun w'=>?_) (fun w' hC=>(I.round w' (HS9.out _ hC.1).g (HS9.out _ hC.1).ok hj9).mono (fun e w2 h2=>⟨by rw[h2.1,←HSD.out],hC.1.trans (h2.2.mono hC.1.size),cell_later h2.2 hC.2.1,cell_later h2.2 hC.2.2⟩)) ?_
           ·go_simp
           simp only[Act.put,AP];go_big_quiet_on;go_big_quiet_want;refine qv (.pointer (some ⟨p2,0,none⟩)) ?_ ?_
           ·rintro w' ⟨z0,z1,z2⟩;go_simp
           simp only[Act.put,AP];go_big_quiet_on;go_big_quiet_want;refine qv (.pointer (some ⟨p2,0,none⟩)) ?_ ?_
           ·rintro w' ⟨z0,z1,z2⟩;go_simp
           simp only[Act.put,AP];go_big_quiet_on;go_big_quiet_want;refine qv (.pointer (some ⟨p2,2,none⟩)) ?_ ?_
           ·rintro w' ⟨z0,z1,z2⟩;go_simp
           simp only[Act.put,AP];go_big_quiet_on;go_big_quiet_want;refine qv (.int i64 sd) ?_ ?_
           ·rintro w' ⟨z0,z1,z2⟩;go_simp
           simp only[Act.put,AP];go_big_quiet_on;go_big_quiet_want;refine qv (.bool false) ?_ ?_
           ·rintro w' ⟨z0,z1,z2⟩;go_simp
           simp only[Act.put,AP];go_big_quiet_on;go_big_quiet_want;refine qv (.bool false) ?_ ?_
           ·rintro w' ⟨z0,z1,z2⟩;go_simp
           simp only[Act.put,AP];go_big_quiet_on;go_big_quiet_want;refine qv (.bool false) ?_ ?_
           ·rintro w' ⟨z0,z1,z2⟩;go_simp
           simp only[Act.put,AP];go_big_quiet_on;go_big_quiet_want;refine qv (.pointer (some ⟨p1,0,none⟩)) ?_ ?_
           ·rintro w' ⟨z0,z1,z2⟩;go_simp
           simp only[Act.put,AP];go_big_quiet_on;go_big_quiet_want;refine quiet_call (f:=10) (args:=#[.pointer (some ⟨p1,0,none⟩)]) (v:=.bool BD) (fun w'=>?_) (fun w' hC=>(I.done w' (HS9.out _ hC.1).g (HS9.out _ hC.1).ok hj9).mono (fun e w2 h2=>⟨by rw[h2.1,HBD.out],hC.1.trans (h2.2.mono hC.1.size),cell_later h2.2 hC.2.1,cell_later h2.2 hC.2.2⟩)) ?_
           ·go_simp
           simp only[Act.put,AP];go_big_quiet_on;go_big_quiet_want;refine qv (.pointer (some ⟨p2,0,none⟩)) ?_ ?_
           ·rintro w' ⟨z0,z1,z2⟩;go_simp
           simp only[Act.put,AP];go_big_quiet_on;go_big_quiet_want;refine qv (.pointer (some ⟨p2,0,none⟩)) ?_ ?_
           ·rintro w' ⟨z0,z1,z2⟩;go_simp
           simp only[Act.put,AP];go_big_quiet_on;go_big_quiet_want;refine qv (.pointer (some ⟨p2,3,none⟩)) ?_ ?_
           ·rintro w' ⟨z0,z1,z2⟩;go_simp
           simp only[Act.put,AP];go_big_quiet_on;go_big_quiet_want;refine qv (.slice al nl cl) ?_ ?_
           ·rintro w' ⟨z0,z1,z2⟩;go_simp
           simp only[Act.put,AP];go_big_quiet_on;go_big_quiet_want;refine qv (.int i64 (nl:Int)) ?_ ?_
           ·rintro w' ⟨z0,z1,z2⟩;go_simp
           simp only[Act.put,AP];go_big_quiet_on;go_big_quiet_want;refine qv (.bool true) ?_ ?_
           ·rintro w' ⟨z0,z1,z2⟩;go_simp
           simp only[Act.put,AP];go_big_quiet_on;go_big_quiet_want;refine qv (.bool true) ?_ ?_
           ·rintro w' ⟨z0,z1,z2⟩;go_simp
           simp only[Act.put,AP];go_big_quiet_on;go_big_quiet_want;refine qv (.pointer (some ⟨p2,0,none⟩)) ?_ ?_
           ·rintro w' ⟨z0,z1,z2⟩;go_simp
           simp only[Act.put,AP];go_big_quiet_on;go_big_quiet_want;refine qv (.pointer (some ⟨p2,0,none⟩)) ?_ ?_
           ·rintro w' ⟨z0,z1,z2⟩;go_simp
           simp only[Act.put,AP];go_big_quiet_on;go_big_quiet_want;refine qv (.pointer (some ⟨p2,2,none⟩)) ?_ ?_
           ·rintro w' ⟨z0,z1,z2⟩;go_simp
           simp only[Act.put,AP];go_big_quiet_on;go_big_quiet_want;refine qv (.int i64 sd) ?_ ?_
           ·rintro w' ⟨z0,z1,z2⟩;go_simp
           simp only[Act.put,AP];go_big_quiet_on;go_big_quiet_want;refine qv (.slice ao n cap) ?_ ?_
           ·rintro w' ⟨z0,z1,z2⟩;go_simp
           simp only[Act.put,AP];go_big_quiet_on;go_big_quiet_want;refine qv (.int i64 (n:Int)) ?_ ?_
           ·rintro w' ⟨z0,z1,z2⟩;go_simp
           simp only[Act.put,AP];go_big_quiet_on;go_big_quiet_want;refine qv (.bool BD) ?_ ?_
           ·rintro w' ⟨z0,z1,z2⟩;go_simp
           simp only[Act.put,AP];go_big_quiet_on;go_big_quiet_want;refine qv (.bool BD) ?_ ?_
           ·rintro w' ⟨z0,z1,z2⟩;go_simp
           simp only[Act.put,AP];go_big_quiet_on;go_big_quiet_want;refine qv (.bool false) ?_ ?_
           ·rintro w' ⟨z0,z1,z2⟩;go_simp
           simp only[Act.put,AP];go_big_quiet_on;go_big_quiet_want;refine qv (.bool false) ?_ ?_
           ·rintro w' ⟨z0,z1,z2⟩;go_simp
           simp only[Act.put,AP];go_big_quiet_on;refine wpQuiet_nil ?_;intro w' hC
           go_wp2_with fail
           go_meet
           case rel=>exact⟨rfl,hC.1⟩
         have hz1:((nl:Int)==0)=false:=by simpa using hz
         have hbd0:BD=false:=by rw[hbd,decide_eq_false hz];rfl
         clear hbd;subst hbd0
         as_aux_lemma =>
          refine wp_region_quiet (C:=fun W=>Below wx.heap.size wx W∧W.cell? ⟨p2,2,none⟩=some (.int i64 sd)∧W.cell? ⟨p2,3,none⟩=some (.slice al nl cl)) (by kernel_rfl) (by kernel_rfl) ⟨Below.drew (bRQ _ _),HQC.out⟩ ?_;simp only[List.toList_toArray];go_big_quiet_want;refine qv (.bool true) ?_ ?_
          ·rintro w' ⟨z0,z1,z2⟩;go_simp
          simp only[Act.put,AP];go_big_quiet_on;go_big_quiet_want;refine qv (.bool false) ?_ ?_
          ·rintro w' ⟨z0,z1,z2⟩;go_simp
          simp only[Act.put,AP];go_big_quiet_on;go_big_quiet_want;refine qv (.bool false) ?_ ?_
          ·rintro w' ⟨z0,z1,z2⟩;go_simp
          simp only[Act.put,AP];go_big_quiet_on;go_big_quiet_want;refine qv (.bool true) ?_ ?_
          ·rintro w' ⟨z0,z1,z2⟩;go_simp
          simp only[Act.put,AP];go_big_quiet_on;go_big_quiet_want;refine qv (.bool false) ?_ ?_
          ·rintro w' ⟨z0,z1,z2⟩;go_simp
          simp only[Act.put,AP];go_big_quiet_on;go_big_quiet_want;refine qv (.bool false) ?_ ?_
          ·rintro w' ⟨z0,z1,z2⟩;go_simp
          simp only[Act.put,AP];go_big_quiet_on;go_big_quiet_want;refine qv (.bool false) ?_ ?_
          ·rintro w' ⟨z0,z1,z2⟩;go_simp
          simp only[Act.put,AP];go_big_quiet_on;go_big_quiet_want;refine qv (.bool true) ?_ ?_
          ·rintro w' ⟨z0,z1,z2⟩;go_simp
          simp only[Act.put,AP];go_big_quiet_on;go_big_quiet_want;refine qv (.bool false) ?_ ?_
          ·rintro w' ⟨z0,z1,z2⟩;go_simp
          simp only[Act.put,AP];go_big_quiet_on;go_big_quiet_want;refine qv (.bool false) ?_ ?_
          ·rintro w' ⟨z0,z1,z2⟩;go_simp
          simp only[Act.put,AP];go_big_quiet_on;go_big_quiet_want;refine qv (.bool false) ?_ ?_
          ·rintro w' ⟨z0,z1,z2⟩;go_simp
          simp only[Act.put,AP];go_big_quiet_on;go_big_quiet_want;refine qv (.pointer (some ⟨p1,0,none⟩)) ?_ ?_
          ·rintro w' ⟨z0,z1,z2⟩;go_simp
          simp only[Act.put,AP];go_big_quiet_on;go_big_quiet_want;refine quiet_call (f:=11) (args:=#[.pointer (some ⟨p1,0,none⟩)]) (v:=.int i64 sd) (fun w'=>?_) (fun w' hC=>(I.round w' (HS9.out _ hC.1).g (HS9.out _ hC.1).ok hj9).mono (fun e w2 h2=>⟨by rw[h2.1,←HSD.out],hC.1.trans (h2.2.mono hC.1.size),cell_later h2.2 hC.2.1,cell_later h2.2 hC.2.2⟩)) ?_
          ·go_simp
          simp only[Act.put,AP];go_big_quiet_on;go_big_quiet_want;refine qv (.pointer (some ⟨p2,0,none⟩)) ?_ ?_
          ·rintro w' ⟨z0,z1,z2⟩;go_simp
          simp only[Act.put,AP];go_big_quiet_on;go_big_quiet_want;refine qv (.pointer (some ⟨p2,0,none⟩)) ?_ ?_
          ·rintro w' ⟨z0,z1,z2⟩;go_simp
          simp only[Act.put,AP];go_big_quiet_on;go_big_quiet_want;refine qv (.pointer (some ⟨p2,2,none⟩)) ?_ ?_
          ·rintro w' ⟨z0,z1,z2⟩;go_simp
          simp only[Act.put,AP];go_big_quiet_on;go_big_quiet_want;refine qv (.int i64 sd) ?_ ?_
          ·rintro w' ⟨z0,z1,z2⟩;go_simp
          simp only[Act.put,AP];go_big_quiet_on;go_big_quiet_want;refine qv (.bool false) ?_ ?_
          ·rintro w' ⟨z0,z1,z2⟩;go_simp
          simp only[Act.put,AP];go_big_quiet_on;go_big_quiet_want;refine qv (.bool false) ?_ ?_
          ·rintro w' ⟨z0,z1,z2⟩;go_simp
          simp only[Act.put,AP];go_big_quiet_on;go_big_quiet_want;refine qv (.bool false) ?_ ?_
          ·rintro w' ⟨z0,z1,z2⟩;go_simp
          simp only[Act.put,AP];go_big_quiet_on;go_big_quiet_want;refine qv (.pointer (some ⟨p1,0,none⟩)) ?_ ?_
          ·rintro w' ⟨z0,z1,z2⟩;go_simp
          simp only[Act.put,AP];go_big_quiet_on;go_big_quiet_want;refine quiet_call (f:=10) (args:=#[.pointer (some ⟨p1,0,none⟩)]) (v:=.bool false) (fun w'=>?_) (fun w' hC=>(I.done w' (HS9.out _ hC.1).g (HS9.out _ hC.1).ok hj9).mono (fun e w2 h2=>⟨by rw[h2.1,HBD.out],hC.1.trans (h2.2.mono hC.1.size),cell_later h2.2 hC.2.1,cell_later h2.2 hC.2.2⟩)) ?_
          ·go_simp
          simp only[Act.put,AP];go_big_quiet_on;go_big_quiet_want;refine qv (.pointer (some ⟨p2,0,none⟩)) ?_ ?_
          ·rintro w' ⟨z0,z1,z2⟩;go_simp
          simp only[Act.put,AP];go_big_quiet_on;go_big_quiet_want;refine qv (.pointer (some ⟨p2,0,none⟩)) ?_ ?_
          ·rintro w' ⟨z0,z1,z2⟩;go_simp
          simp only[Act.put,AP];go_big_quiet_on;go_big_quiet_want;refine qv (.pointer (some ⟨p2,3,none⟩)) ?_ ?_
          ·rintro w' ⟨z0,z1,z2⟩;go_simp
          simp only[Act.put,AP];go_big_quiet_on;go_big_quiet_want;refine qv (.slice al nl cl) ?_ ?_
          ·rintro w' ⟨z0,z1,z2⟩;go_simp
          simp only[Act.put,AP];go_big_quiet_on;go_big_quiet_want;refine qv (.int i64 (nl:Int)) ?_ ?_
          ·rintro w' ⟨z0,z1,z2⟩;go_simp
          simp only[Act.put,AP];go_big_quiet_on;go_big_quiet_want;refine qv (.bool false) ?_ ?_
          ·rintro w' ⟨z0,z1,z2⟩;go_simp
          simp only[Act.put,AP];go_big_quiet_on;go_big_quiet_want;refine qv (.bool false) ?_ ?_
          ·rintro w' ⟨z0,z1,z2⟩;go_simp
          simp only[Act.put,AP];go_big_quiet_on;go_big_quiet_skip;go_big_quiet_skip;go_big_quiet_skip;go_big_quiet_skip;go_big_quiet_skip;go_big_quiet_skip;go_big_quiet_skip;go_big_quiet_want;refine qv (.bool false) ?_ ?_
          ·rintro w' ⟨z0,z1,z2⟩;go_simp
          simp only[Act.put,AP];go_big_quiet_on;go_big_quiet_want;refine qv (.bool false) ?_ ?_
          ·rintro w' ⟨z0,z1,z2⟩;go_simp
          simp only[Act.put,AP];go_big_quiet_on;go_big_quiet_want;refine qv (.bool false) ?_ ?_
          ·rintro w' ⟨z0,z1,z2⟩;go_simp
          simp only[Act.put,AP];go_big_quiet_on;refine wpQuiet_nil ?_;intro w' hC
          go_wp2_with fail
          go_meet
          case rel=>exact⟨rfl,hC.1⟩
        case rest =>
         obtain⟨rfl,hbz⟩:=hcut;have HS12:Hid (DrS Pd w p1 p2 P1 P2 D' (j+1) wc):=HS9.out wc hbz;clear hbz HS9 HQC hbd;go_wp2;go_roundw
         case rel=>exact⟨j+1,D',_,_,by omega,by omega,by go_num,HDL'.out,HS12.out⟩
         case measure=>simp[intOf];omega
 have hE2:(E != 0)=true:=by simpa using hE0
 go_wp2;go_ret;exact⟨rfl,HB3'.out⟩
end drivePlays
section
open Go.RowKit
structure PdC (W:World)(p B0:Nat)(O:Nat→Prop)(D:DrT)(xr:SlT)(vd:Value)(t B1 M:Nat):Prop where
 c0:W.cell? ⟨p,0,none⟩=some (slV xr)
 c1:W.cell? ⟨p,1,none⟩=some (.int i64 D.W)
 c2:W.cell? ⟨p,2,none⟩=some (.int i64 (D.s:Int))
 c3:W.cell? ⟨p,3,none⟩=some vd
 c4:W.cell? ⟨p,4,none⟩=some (.int i64 (t:Int))
 f:∀i,W.frozen? ⟨p,i,none⟩=false
 r:∀V,Kb (fun b=>B1≤b∧b<M) W V→RS V (slV xr) D.L
 pB:p<B1∧B1≤M∧M≤W.heap.size
 rO:∀b,B1≤b→b<M→O b
 l:W.ownsRow M 3 inE.n vd D.l.length (cellsG inE D.l)
 lO:∀b,vd.ownBlock=some b→O b
 pO:O p
 lt:∀b,O b→B0≤b∧b<W.heap.size
section
variable {W W':World}{p B0:Nat}{O:Nat→Prop}{D:DrT}{xr:SlT}{vd:Value}{t B1 M:Nat}
theorem PdC.pl (h:PdC W p B0 O D xr vd t B1 M):p<W.heap.size:=(h.lt p h.pO).2
theorem PdC.kb (h:PdC W p B0 O D xr vd t B1 M)(hk:Kb (fun b=>b<B0∨O b) W W'):PdC W' p B0 O D xr vd t B1 M:=by
 have hp:(p<B0∨O p):=.inr h.pO;have hb:Kb (fun b=>B1≤b∧b<M) W W':=hk.mono fun b _ hb=>.inr (h.rO b hb.1 hb.2)
 exact⟨hk.at h.c0 hp,hk.at h.c1 hp,hk.at h.c2 hp,hk.at h.c3 hp,hk.at h.c4 hp,fun i=>(hk.frozen (q:=⟨p,i,none⟩) h.pl hp).trans (h.f i),fun V hV=>h.r V (hb.trans hV),⟨h.pB.1,h.pB.2.1,Nat.le_trans h.pB.2.2 hk.size⟩,h.rO,own_kb h.l hk fun b hb=>.inr (h.lO b hb),h.lO,h.pO,fun b hb=>⟨(h.lt b hb).1,Nat.lt_of_lt_of_le (h.lt b hb).2 hk.size⟩⟩
theorem PdC.later (h:PdC W p B0 O D xr vd t B1 M)(hb:Below W.heap.size W W'):PdC W' p B0 O D xr vd t B1 M:=h.kb (Kb.of_below hb fun b hl _=>hl)
theorem PdC.rest (h:PdC W p B0 O D xr vd t B1 M)(i:Nat)(v:Value):(∀V,Kb (fun b=>B1≤b∧b<M) (W.setCell ⟨p,i,none⟩ v) V→RS V (slV xr) D.L)∧(W.setCell ⟨p,i,none⟩ v).ownsRow M 3 inE.n vd D.l.length (cellsG inE D.l)∧(∀j,(W.setCell ⟨p,i,none⟩ v).frozen? ⟨p,j,none⟩=false)∧(W.setCell ⟨p,i,none⟩ v).heap.size=W.heap.size:=by
 have hpB:=h.pB;have hk:Kb (fun b=>b≠p) W (W.setCell ⟨p,i,none⟩ v):=(Kb.refl _ W).setCell (q:=⟨p,i,none⟩) (fun _ h=>h rfl) v;refine⟨fun V hV=>h.r V ((hk.mono fun b _ hb=>?_).trans hV),own_kb h.l hk fun b hb=>?_,fun j=>?_,set_size _ _ _⟩
 ·have:=hb.1;omega
 ·have:=(h.l.lt b hb).1;omega
 rw[World.frozen?_setCell];exact h.f j
theorem cl_off {W:World}{p i j:Nat}{u:Value}(h:W.cell? ⟨p,i,none⟩=some u)(hij:j≠i)(v:Value):(W.setCell ⟨p,j,none⟩ v).cell? ⟨p,i,none⟩=some u:=by
 rw[World.cell?_setCell_other _ _ _ _ (by intro e;cases e;exact hij rfl)];exact h
theorem PdC.set2 (h:PdC W p B0 O D xr vd t B1 M)(s:Nat):PdC (W.setCell ⟨p,2,none⟩ (.int i64 (s:Int))) p B0 O { D with s:=s } xr vd t B1 M:=by
 obtain⟨h1,h2,h3,h4⟩:=h.rest 2 (.int i64 (s:Int));exact⟨cl_off h.c0 (by omega) _,cl_off h.c1 (by omega) _,World.cell?_setCell_same _ _ _ h.c2,cl_off h.c3 (by omega) _,cl_off h.c4 (by omega) _,h3,h1,by rw[h4];exact h.pB,h.rO,h2,h.lO,h.pO,fun b hb=>by rw[h4];exact h.lt b hb⟩
theorem PdC.set4 (h:PdC W p B0 O D xr vd t B1 M)(t' k:Nat):PdC (W.setCell ⟨p,4,none⟩ (.int i64 (t':Int))) p B0 O { D with k:=k } xr vd t' B1 M:=by
 obtain⟨h1,h2,h3,h4⟩:=h.rest 4 (.int i64 (t':Int));exact⟨cl_off h.c0 (by omega) _,cl_off h.c1 (by omega) _,cl_off h.c2 (by omega) _,cl_off h.c3 (by omega) _,World.cell?_setCell_same _ _ _ h.c4,h3,h1,by rw[h4];exact h.pB,h.rO,h2,h.lO,h.pO,fun b hb=>by rw[h4];exact h.lt b hb⟩
theorem PdC.set3 (h:PdC W p B0 O D xr vd t B1 M){v':Value}{l':List Int}(hy:W.ownsRow M 3 inE.n v' l'.length (cellsG inE l'))(hB:B0≤M):
 PdC (W.setCell ⟨p,3,none⟩ v') p B0 (fun b=>O b∨v'.ownBlock=some b) { D with l:=l' } xr v' t B1 M:=by
 have hpB:=h.pB;obtain⟨h1,h2,h3,h4⟩:=h.rest 3 v';have hy2:(W.setCell ⟨p,3,none⟩ v').ownsRow M 3 inE.n v' l'.length (cellsG inE l'):=own_kb hy ((Kb.refl (fun b=>b≠p) W).setCell (q:=⟨p,3,none⟩) (fun _ h=>h rfl) v') fun b hb=>by
  have:=(hy.lt b hb).1;omega
 refine⟨cl_off h.c0 (by omega) _,cl_off h.c1 (by omega) _,cl_off h.c2 (by omega) _,World.cell?_setCell_same _ _ _ h.c3,cl_off h.c4 (by omega) _,h3,h1,by rw[h4];exact h.pB,fun b h1 h2=>.inl (h.rO b h1 h2),hy2,fun b hb=>.inr hb,.inl h.pO,fun b hb=>?_⟩;rw[h4]
 rcases hb with hb | hb
 ·exact h.lt b hb
 have:=hy.lt b hb;omega
theorem PdC.low (h:PdC W p B0 O D xr vd t B1 M):B0≤M:=by
 have h1:=(h.lt p h.pO).1;have h2:=h.pB;omega
theorem PdC.gl (h:PdC W p B0 O D xr vd t B1 M):GS inE W vd D.l:=own_GS h.l
end
def TwOK (D:DrT)(t:Nat):Prop:=(t:Int)<D.W∧(D.l=[]∨(t:Int)=(D.k:Int) % D.W)
def Pd:DrP:=fun W p B0 O D=>∃xr vd t B1 M,PdC W p B0 O D xr vd t B1 M∧TwOK D t
theorem Pd.kb {W W':World}{p B0:Nat}{O:Nat→Prop}{D:DrT}(h:Pd W p B0 O D)(hk:Kb (fun b=>b<B0∨O b) W W'):Pd W' p B0 O D:=by
 obtain⟨xr,vd,t,B1,M,h,h2⟩:=h;exact⟨xr,vd,t,B1,M,h.kb hk,h2⟩
theorem Pd.lt {W:World}{p B0:Nat}{O:Nat→Prop}{D:DrT}(h:Pd W p B0 O D):∀b,O b→B0≤b∧b<W.heap.size:=by
 obtain⟨xr,vd,t,B1,M,h,_⟩:=h;exact h.lt
theorem rds_at {L:List (List Op8)}{i:Nat}(hi:i<L.length):rdF (L.drop i)=(if osF L[i]=0 then rdF (L.drop (i+1)) else osF L[i]):=by
 rw[List.drop_eq_getElem_cons hi];rfl
theorem oss_at {r:List Op8}{j:Nat}(hj:j<r.length):osF (r.drop j)=(if opF r[j]=0 then osF (r.drop (j+1)) else opF r[j]):=by
 rw[List.drop_eq_getElem_cons hj];rfl
theorem dcheckOp_any (x0:Int)(x1:Bool)(x2 x3 x4 x5 x6 x7:Int)(w:World):
 Calls prog 37 #[.agg #[.int i64 x0,.bool x1,.int i64 x2,.int i64 x3,.int i64 x4,.int i64 x5,.int i64 x6,.int i64 x7]] w fun e w'=>e=.returned (noV (opF ⟨x0,x1,⟨x2,x3,x4,x5,x6,x7⟩⟩))∧Below w.heap.size w w':=by
 obtain⟨Z,hZ⟩:∃Z,Z=opF ⟨x0,x1,⟨x2,x3,x4,x5,x6,x7⟩⟩:=⟨_,rfl⟩;have HZ:Hid (Z=if 1≤x0∧x0≤6 then ruN x2 x3 x4 x5 x6 x7 else 1):=hZ;rw[←hZ];obtain⟨wa,hwa⟩:∃V,V=w.alloc (.cells #[.int i64 x0,.bool x1,.int i64 x2,.int i64 x3,.int i64 x4,.int i64 x5,.int i64 x6,.int i64 x7] 37):=⟨_,rfl⟩;have HWA:Hid (w.alloc (.cells #[.int i64 x0,.bool x1,.int i64 x2,.int i64 x3,.int i64 x4,.int i64 x5,.int i64 x6,.int i64 x7] 37)=wa):=hwa.symm;have hc:=op_new w x0 x1 x2 x3 x4 x5 x6 x7 37;have hba:Below w.heap.size w (w.alloc (.cells #[.int i64 x0,.bool x1,.int i64 x2,.int i64 x3,.int i64 x4,.int i64 x5,.int i64 x6,.int i64 x7] 37)):=(bRQ _ _).alloc (nLQ _) _;rw[←hwa] at hc hba;have HC:Hid (VAt wa w.heap.size 0 (opE.c ⟨x0,x1,⟨x2,x3,x4,x5,x6,x7⟩⟩)):=hc;have HBA:Hid (Below w.heap.size w wa):=hba;obtain⟨r0,r1,r2,r3,r4,r5,r6,r7⟩:=op_cells hc;simp only[Nat.zero_add] at r0 r1 r2 r3 r4 r5 r6 r7;clear hZ hwa hc hba r1 r2 r3 r4 r5 r6 r7;go_enter func37,ntmps37;go_upto_region 1 with fail;rw[HWA.out];clear HWA
 go_wp2_with fail
 refine (isSwitch_any 6 x0 _).mono ?_;rintro e w1 ⟨rfl,hb1⟩;obtain⟨s0,s1,s2,s3,s4,s5,s6,s7⟩:=op_cells (HC.out.later (w':=w1) (hb1.mono (nLQ _)));simp only[Nat.zero_add] at s0 s1 s2 s3 s4 s5 s6 s7;have HB1:Hid (Below w.heap.size w w1):=HBA.out.trans (hb1.mono HBA.out.size);clear hb1 r0 s0 s1;cases hsw:swB 6 x0 with
 | false =>
   have HN:Hid (Z=1):=by
    show _=_;rw[HZ.out,if_neg (fun h=>by rw[sw_of.2 h] at hsw;cases hsw)]
   clear hsw;go_wp2;go_ret;exact⟨by rw[HN.out];rfl,HB1.out⟩
 | true =>
   have HN:Hid (ruN x2 x3 x4 x5 x6 x7=Z):=by
    show _=_;rw[HZ.out,if_pos (sw_of.1 hsw)]
   clear hsw
   go_wp2_with fail
   refine (ruCheck_any x2 x3 x4 x5 x6 x7 _).mono ?_;rintro e w2 ⟨rfl,hb2⟩;rw[HN.out];have HB2:Hid (Below w.heap.size w w2):=HB1.out.trans (hb2.mono HB1.out.size);clear hb2 s2 s3 s4 s5 s6 s7;go_wp2;go_ret;exact⟨rfl,HB2.out⟩
theorem tooLong_any (ao:AdQ)(n cap:Nat)(w:World):
 Calls prog 35 #[.slice ao n cap] w fun e w'=>e=.returned (.bool (decide (200<n)))∧Below w.heap.size w w':=by
 by_cases h:(n:Int) > 200
 ·have e:decide (200<n)=true:=decide_eq_true (by omega);rw[e];go_enter func35,ntmps35;go_wp2;go_ret;exact⟨rfl,bRQ _ _⟩
 have e:decide (200<n)=false:=decide_eq_false (by omega);rw[e];go_enter func35,ntmps35;go_wp2;go_ret;exact⟨rfl,bRQ _ _⟩
theorem enters_long:∀args w,(callFunc 35 args).run prog w=.ok (.enter 35 args) w:=enters_of func35 (by kernel_rfl) rfl
def longB (r:List Op8):Bool:=decide (200<r.length)
def rdAsks (f:FuncId):Prop:=∀(ao:AdQ) (n cap:Nat) (w:World),Calls prog f #[.slice ao n cap] w fun e w'=>e=.returned (.bool (decide (200<n)))∧Below w.heap.size w w'
theorem rd_idxF (ao:AdQ)(n cap:Nat)(f:FuncId)(L:List (List Op8))(w:World)(hs:RS w (.slice ao n cap) L)(he:∀args w,(callFunc f args).run prog w=.ok (.enter f args) w)(hf:rdAsks f):
 Calls prog 48 #[.slice ao n cap,.func (Fn.func f) #[] #[]] w fun e w'=>e=.returned (.int i64 (ixG longB L))∧Below w.heap.size w w':=by
 have HN:Hid (L.length=n):=hs.len;have HR:Hid (∀V,Below w.heap.size w V→RS V (.slice ao n cap) L):=fun V hV=>hs.later hV
 have HF:Hid (rdAsks f):=hf;have hn2:n≤maxLen:=by
  obtain⟨_,_,_,e,h1,h2,_⟩:=hs.form;cases e;exact h2
 unfold maxLen at hn2;clear hf hs;go_enter func48,ntmps48;go_wp2
 go_loopw [8] (fun i wr=>∃k:Nat,k≤n∧i=.int i64 k∧(L.take k).any longB=false∧Below w.heap.size w wr)
  (fun i _=>n-(intOf i).toNat)
 case atStart=>exact⟨0,by omega,rfl,by simp,bRQ _ _⟩
 case round =>
  obtain⟨k,hk,rfl,hno,hB⟩:=hrel;have HB:Hid (Below w.heap.size w wr):=hB;have HNO:Hid ((L.take k).any longB=false):=hno;clear hno;by_cases hlt:k<n
  ·obtain⟨g,o,R,a1,n1,c1,hao,hRs,hc,hG⟩:=(HR.out wr HB.out).at hlt;subst hao;have hkl:k<L.length:=by rw[HN.out];exact hlt
   have hLk:L[k]=R:=by
    have:=List.getElem?_eq_getElem hkl;rw[this] at hRs;cases hRs;rfl
   have HP:Hid (longB L[k]=decide (200<n1)):=show _=_ by rw[hLk,longB,hG.len]
   have kb0:(0:Int)≤(k:Int):=by omega
   have kb1:(k:Int)<(n:Int):=by omega
   clear hB hLk hRs hG;cases ho:decide (200<n1)
   ·go_wp2_with fail
    refine (HF.out a1 n1 c1 _).mono ?_;rintro e w1 ⟨rfl,hb1⟩;rw[ho];have HB1:=HB.out.trans (hb1.mono HB.out.size);have HP2:Hid (longB L[k]=false):=show _=_ by rw[HP.out,ho]
    clear hb1 hc ho HP;go_wp2;go_roundw
    case rel=>exact⟨k+1,by omega,by go_num,any_nextG hkl HNO.out HP2.out,HB1⟩
    case measure=>simp[intOf];omega
   go_wp2_with fail
   refine (HF.out a1 n1 c1 _).mono ?_;rintro e w1 ⟨rfl,hb1⟩;rw[ho];have HP2:Hid (longB L[k]=true):=show _=_ by rw[HP.out,ho]
   clear hc ho HP;go_wp2;go_ret;exact⟨by rw[ixG_hit hkl HNO.out HP2.out];rfl,HB.out.trans (hb1.mono HB.out.size)⟩
  obtain rfl:k=n:=by omega
  go_wp2;go_ret;exact⟨by have:=HNO.out;rw[←HN.out,List.take_length] at this;rw[ixG_no this];rfl,HB.out⟩
theorem rd_hasF (ao:AdQ)(n cap:Nat)(f:FuncId)(L:List (List Op8))(w:World)(hs:RS w (.slice ao n cap) L)(he:∀args w,(callFunc f args).run prog w=.ok (.enter f args) w)(hf:rdAsks f):
 Calls prog 36 #[.slice ao n cap,.func (Fn.func f) #[] #[]] w fun e w'=>e=.returned (.bool (L.any longB))∧Below w.heap.size w w':=by
 rw[←ixG_any];obtain⟨x,hx⟩:∃x,x=ixG longB L:=⟨_,rfl⟩;have HX:Hid (x=ixG longB L):=hx;rw[←hx];clear hx;go_enter func36,ntmps36
 go_wp2_with fail
 refine (rd_idxF ao n cap f L _ hs he hf).mono ?_;rintro e w1 ⟨rfl,hb1⟩;rw[←HX.out];go_wp2;go_ret;exact⟨rfl,hb1⟩
theorem few_long (L:List (List Op8)):fewB L = !(L.any longB):=by
 induction L with
 | nil=>rfl
 | cons r L ih =>
   simp only[fewB,List.all_cons,List.any_cons,longB] at ih ⊢;rw[ih,Bool.not_or]
   congr 1
   by_cases h:r.length≤200
   ·rw[decide_eq_true h,decide_eq_false (by omega)];rfl
   rw[decide_eq_false h,decide_eq_true (by omega)];rfl
theorem pdcheck_any (ao:AdQ)(n cap:Nat)(L:List (List Op8))(T:Int)(w:World)(h:RS w (.slice ao n cap) L):
 Calls prog 19 #[.slice ao n cap,.int i64 T] w fun e w'=>e=.returned (noV (rsF L T))∧Below w.heap.size w w':=by
 have HN:Hid (L.length=n):=h.len;have HR:Hid (∀V,Below w.heap.size w V→RS V (.slice ao n cap) L):=fun V hV=>h.later hV
 have hnm:n≤maxLen:=by
  obtain⟨_,_,_,e,h1,h2,_⟩:=h.form;cases e;exact h2
 unfold maxLen at hnm;obtain⟨Z,hZ⟩:∃Z,Z=rsF L T:=⟨_,rfl⟩;have HZ:Hid (Z=rsF L T):=hZ;rw[←hZ];clear h hZ;go_enter func19,ntmps19;by_cases hT:T<1
 ·have HF:Hid (Z=1):=by
   show _=_;rw[HZ.out,rsF,if_neg (by omega)]
  go_wp2;go_ret;exact⟨by rw[HF.out];rfl,bRQ _ _⟩
 by_cases hT2:T > 100
 ·have HF:Hid (Z=1):=by
   show _=_;rw[HZ.out,rsF,if_neg (by omega)]
  go_wp2;go_ret;exact⟨by rw[HF.out];rfl,bRQ _ _⟩
 by_cases hn20:(n:Int) > 20
 ·have HF:Hid (Z=4):=by
   show _=_;have:=HN.out;rw[HZ.out,rsF,if_pos (by omega),if_neg (by omega)]
  go_wp2;go_ret;exact⟨by rw[HF.out];rfl,bRQ _ _⟩
 have HZ2:Hid (Z=if L.any longB=true then 4 else rdF L):=by
  show _=_;have:=HN.out;rw[HZ.out,rsF,if_pos (by omega),few_long];cases hf:L.any longB
  ·rw[if_pos ⟨by omega,rfl⟩];rfl
  rw[if_neg (fun h=>by cases h.2)];rfl
 go_wp2_with fail
 refine (rd_hasF ao n cap _ L _ (HR.out _ (bRQ _ _)) enters_long tooLong_any).mono ?_;rintro e w1 ⟨rfl,hb1⟩;have HB1:Hid (Below w.heap.size w w1):=hb1;clear hb1;cases hlo:L.any longB with
 | true =>
   have HF:Hid (Z=4):=by
    show _=_;rw[HZ2.out,hlo];rfl
   clear hlo;go_wp2;go_ret;exact⟨by rw[HF.out];rfl,HB1.out⟩
 | false =>
   have HZ3:Hid (Z=rdF L):=by
    show _=_;rw[HZ2.out,hlo];rfl
   clear hlo HZ2 HZ;go_wp2
   go_loopw [29] (fun i wr=>∃q:Nat,q≤n∧i=.int i64 (q:Int)∧Z=rdF (L.drop q)∧Below w.heap.size w wr) (fun i _=>n-(intOf i).toNat)
   case atStart=>exact⟨0,by omega,rfl,HZ3.out,HB1.out⟩
   case round =>
    obtain⟨q,hq,rfl,hz,hb⟩:=hrel;obtain⟨wz,hwz⟩:∃X,X=wr:=⟨_,rfl⟩;subst hwz;have HZ4:Hid (Z=rdF (L.drop q)):=hz;have HB4:Hid (Below w.heap.size w wz):=hb;clear hz hb HZ3 HB1;by_cases hqk:q<n
    ·obtain⟨g,o,R,a1,n1,c1,hao,hRs,hc,hG⟩:=(HR.out wz HB4.out).at hqk;subst hao;have hkl:q<L.length:=by rw[HN.out];exact hqk
     have hLk:L[q]=R:=by
      have:=List.getElem?_eq_getElem hkl;rw[this] at hRs;cases hRs;rfl
     have HR1:Hid (R.length=n1):=hG.len;have hn1:n1≤maxLen:=by
      obtain⟨_,_,_,e,h1,h2,_⟩:=hG.form;cases e;exact h2
     unfold maxLen at hn1;have HZ5:Hid (Z=if osF R=0 then rdF (L.drop (q+1)) else osF R):=by
      show _=_;rw[HZ4.out,rds_at hkl,hLk]
     have HC:Hid (∀V,Below w.heap.size w V→GS opE V (.slice a1 n1 c1) R):=fun V hV=>by
      obtain⟨g',o',R',a1',n1',c1',hao',hRs',hc',hG'⟩:=(HR.out wz HB4.out).at hqk;obtain⟨g2,o2,R2,a2,n2,c2,hao2,hRs2,hc2,hG2⟩:=(HR.out w (bRQ _ _)).at hqk;cases hao2;have e1:=cell_later HB4.out hc2;rw[hc] at e1;cases e1;rw[hRs] at hRs2;cases hRs2;exact hG2.later hV
     have kb0:(0:Int)≤(q:Int):=by omega
     have kb1:(q:Int)<(n:Int):=by omega
     clear hG hRs hLk HZ4;go_wp2;clear hc
     go_loopw [35] (fun i wr=>∃j:Nat,j≤n1∧i=.int i64 (j:Int)∧osF R=osF (R.drop j)∧Below w.heap.size w wr) (fun i _=>n1-(intOf i).toNat)
     case atStart=>exact⟨0,by omega,rfl,rfl,HB4.out⟩
     case round =>
      obtain⟨j,hj,rfl,ho,hb⟩:=hrel;obtain⟨wu,hwu⟩:∃X,X=wr:=⟨_,rfl⟩;subst hwu;have HO:Hid (osF R=osF (R.drop j)):=ho;have HBW:Hid (Below w.heap.size w wu):=hb;have hG:=HC.out wu hb;clear ho hb;by_cases hjn:j<n1
      ·obtain⟨_,_,_,e,_,_,_,ha⟩:=hG.form;cases e;obtain⟨go,oo,ha1,hGo,_⟩:=ha (by omega);subst ha1;obtain⟨x0,x1,x2,x3,x4,x5,x6,x7,hjl,hLj,q0,q1,q2,q3,q4,q5,q6,q7⟩:=op_at hGo HR1.out hjn;obtain⟨E,hE⟩:∃E,E=opF ⟨x0,x1,⟨x2,x3,x4,x5,x6,x7⟩⟩:=⟨_,rfl⟩;have HE:Hid (opF ⟨x0,x1,⟨x2,x3,x4,x5,x6,x7⟩⟩=E):=hE.symm;have HO2:Hid (osF R=if E=0 then osF (R.drop (j+1)) else E):=by
        show _=_;rw[HO.out,oss_at hjl,hLj,←hE]
       have jb0:(0:Int)≤(j:Int):=by omega
       have jb1:(j:Int)<(n1:Int):=by omega
       obtain⟨wa,hwa⟩:∃V,V=wu.alloc (.cells #[.int i64 x0,.bool x1,.int i64 x2,.int i64 x3,.int i64 x4,.int i64 x5,.int i64 x6,.int i64 x7] 37):=⟨_,rfl⟩;have hc:=op_new wu x0 x1 x2 x3 x4 x5 x6 x7 37;have hba:Below wu.heap.size wu (wu.alloc (.cells #[.int i64 x0,.bool x1,.int i64 x2,.int i64 x3,.int i64 x4,.int i64 x5,.int i64 x6,.int i64 x7] 37)):=(bRQ _ _).alloc (nLQ _) _;rw[←hwa] at hc hba;obtain⟨r0,r1,r2,r3,r4,r5,r6,r7⟩:=op_cells hc;simp only[Nat.zero_add] at r0 r1 r2 r3 r4 r5 r6 r7;have HBA:Hid (Below w.heap.size w wa):=HBW.out.trans (hba.mono HBW.out.size);have HWA:Hid (wu.alloc (.cells #[.int i64 x0,.bool x1,.int i64 x2,.int i64 x3,.int i64 x4,.int i64 x5,.int i64 x6,.int i64 x7] 37)=wa):=hwa.symm;clear hGo hG ha hLj HO hE hwa hc hba;go_upto_region 12 with fail;rw[HWA.out];clear HWA q0 q1 q2 q3 q4 q5 q6 q7
       go_wp2_with fail
       refine (dcheckOp_any x0 x1 x2 x3 x4 x5 x6 x7 _).mono ?_;rintro e w5 ⟨rfl,hb5⟩;rw[HE.out];have HB7:Hid (Below w.heap.size w w5):=HBA.out.trans (hb5.mono HBA.out.size);clear hb5 r0 r1 r2 r3 r4 r5 r6 r7;by_cases hE0:E=0
       ·have HO3:Hid (osF R=osF (R.drop (j+1))):=by
         show _=_;rw[HO2.out,if_pos hE0]
        rw[no_ok hE0];clear hE0;go_wp2;go_roundw
        case rel=>exact⟨j+1,by omega,by go_num,HO3.out,HB7.out⟩
        case measure=>simp[intOf];omega
       have HZE:Hid (Z=E):=by
        show _=_;have e:osF R=E:=by rw[HO2.out,if_neg hE0]
        rw[HZ5.out,e,if_neg hE0]
       rw[no_ne hE0];go_wp2;go_ret;exact⟨by rw[HZE.out,no_ne hE0];rfl,HB7.out⟩
      obtain rfl:j=n1:=by omega
      have HE:Hid (Z=rdF (L.drop (q+1))):=by
       show _=_;rw[HZ5.out,HO.out,←HR1.out,List.drop_length];rfl
      go_wp2;go_roundw
      case rel=>exact⟨q+1,by omega,by go_num,HE.out,HBW.out⟩
      case measure=>simp[intOf];omega
    obtain rfl:q=n:=by omega
    have HE:Hid (Z=0):=by
     show _=_;rw[HZ4.out,←HN.out,List.drop_length];rfl
    go_wp2;go_ret;exact⟨by rw[HE.out];rfl,HB4.out⟩
theorem op_grow_nil (n:Nat)(w:World)(hn:n≤1000):
 Calls prog 38 #[.slice none 0 0,.int i64 n] w fun e w'=>∃v,e=.returned v∧w'.ownsRow w.heap.size 37 8 v 0 []∧Below w.heap.size w w':=by
 have h1:¬((n:Int)<0):=by omega
 by_cases h0:n=0
 ·subst h0;go_enter func38,ntmps38;go_wp2;go_ret;exact⟨_,rfl,World.ownsRow_nil _ _ _ _,bRQ _ _⟩
 obtain⟨i0,hi,hz0,hz1,hz2⟩:=info_parts op_info;have h3:wrap64 ((n:Int)-0)=(n:Int):=by unfold wrap64;omega
 have h4:(n:Int) > 0:=by omega
 have hrz:∀ty,(Builtin.append_ #[43,3] ty #[.slice none 0 0,.int i64 n]).run prog w =
  .ok (.slice (some ⟨w.heap.size,0,none⟩) n (grownCap w n 0 37)) (w.drew.alloc (.cells (Builtin.zeroCells (Value.agg #[.int i64 0,.bool false,.int i64 0,.int i64 0,.int i64 0,.int i64 0,.int i64 0,.int i64 0]).cells n++Builtin.zeroCells (Value.agg #[.int i64 0,.bool false,.int i64 0,.int i64 0,.int i64 0,.int i64 0,.int i64 0,.int i64 0]).cells (grownCap w n 0 37-n)) 37)):=fun ty =>
  Lib.run_append_nil_zeros w 43 3 ty 37 i0 _ .i64 .i64 underlying43 underlying3 hi hz0 n (by omega) (by rw[hz1];decide) (by omega) (by rw[hz2];omega)
 have hGn:n≤grownCap w n 0 37:=grownCap_ge w _ _ _;have hGm:grownCap w n 0 37≤maxLen:=grownCap_le_maxLen w n 0 37 (by unfold maxLen;omega)
 generalize grownCap w n 0 37=G at *
 have HM:Hid (G≤maxLen):=hGm;have hG63:G≤9223372036854775807:=by unfold maxLen at hGm;omega
 have HO:Hid ((w.drew.alloc (.cells (Builtin.zeroCells (Value.agg #[.int i64 0,.bool false,.int i64 0,.int i64 0,.int i64 0,.int i64 0,.int i64 0,.int i64 0]).cells n++Builtin.zeroCells (Value.agg #[.int i64 0,.bool false,.int i64 0,.int i64 0,.int i64 0,.int i64 0,.int i64 0,.int i64 0]).cells (G-n)) 37)).ownsRow w.heap.size 37 8 (.slice (some ⟨w.heap.size,0,none⟩) 0 G) 0 []):=
  World.ownsRow_made w.drew _ G (nLQ _) HM.out (by
   simp only[Array.size_append,size_zeroCells,op_zero,←Nat.add_mul]
   congr 1
   omega)
 clear hGm;go_enter func38,ntmps38
 go_wp2_with (at_builtin;refine Lib.wpList_append_run _ rfl _ _ _ _ rfl _ _ rfl rfl _ _ (hrz _) ?_)
 all_goals (go_ret;exact⟨_,rfl,HO.out,((bRQ _ _).drew).alloc (nLQ _) _⟩)
def opPt (w:World)(g o:Nat)(Ls:List (List Op8)):Prop:=∀i (h:i<Ls.length),∃ao n cap,w.cell? ⟨g,o+i,none⟩=some (.slice ao n cap)∧GS opE w (.slice ao n cap) Ls[i]
theorem opPt.later {w w':World}{g o:Nat}{Ls:List (List Op8)}(h:opPt w g o Ls)(hb:Below w.heap.size w w'):opPt w' g o Ls:=fun i hi=>by
 obtain⟨ao,n,cap,h1,h2⟩:=h i hi;exact⟨ao,n,cap,cell_later hb h1,h2.later hb⟩
theorem op_flat_next {Ls:List (List Op8)}{k:Nat}(hk:k<Ls.length):(Ls.take (k+1)).flatten=(Ls.take k).flatten++Ls[k]:=by
 rw[List.take_succ_eq_append_getElem hk];simp only[List.flatten_append,List.flatten_cons,List.flatten_nil,List.append_nil]
theorem op_flat_le {Ls:List (List Op8)}(k:Nat):(Ls.take k).flatten.length≤Ls.flatten.length:=by
 have:Ls.flatten=(Ls.take k).flatten++(Ls.drop k).flatten:=by rw[←List.flatten_append,List.take_append_drop]
 rw[this,List.length_append];omega
theorem op_append (w:World){ops:Array Oper}{rest:List Oper}{o:Oper}{a:Act}{Q:Exit→Act→World→Prop}(hgd:o.guard=none)(s x:Operand)(t:TypeId)
 (ho:o.op=.call { callee:=.builtin .append,args:=#[s,x],argTypes:=#[t,t] }) (ht:Tryd.prog.underlying t=some (.slice 37)) (base:Nat)
 (v:Value) (hs:a.eval s=v) (L:List Op8) (hown:w.ownsRow base 37 8 v L.length (cellsG opE L)) (u:Value) (hx:a.eval x=u) (M:List Op8) (hM:GS opE w u M)
 (h100:L.length+M.length≤1000000) (hbase:base≤w.heap.size)
 (h:∀v' w',w'.ownsRow base 37 8 v' (L++M).length (cellsG opE (L++M))→w.grownBy w' v.ownBlock→wpList prog ops Q rest (a.put o.dst v') w'):wpList prog ops Q (o :: rest) a w:=by
 obtain⟨i0,hi,hz0,hz1,hz2⟩:=info_parts op_info;exact wpList_append_GS (E:=opE) w hgd s x t 37 ho ht i0 _ 64 hi hz0 hz1 hz2 op_zero base v hs L hown u hx M hM (by unfold maxLen;omega) (by omega) hbase h
theorem op_concat (g o m cap:Nat)(Ls:List (List Op8))(w:World)(hm:Ls.length=m)(hm2:m≤1000)(hc:opPt w g o Ls)(hs:Ls.flatten.length≤1000):
 Calls prog 20 #[.slice (some ⟨g,o,none⟩) m cap] w fun e w'=>∃v,e=.returned v∧w'.ownsRow w.heap.size 37 8 v Ls.flatten.length (cellsG opE Ls.flatten)∧Below w.heap.size w w':=by
 have HM:Hid (Ls.length=m):=hm;have HC:Hid (opPt w g o Ls):=hc;have HS:Hid (Ls.flatten.length≤1000):=hs;obtain⟨N,hN⟩:∃N,N=Ls.flatten.length:=⟨_,rfl⟩;have HN:Hid (N=Ls.flatten.length):=hN;have hN2:N≤1000:=by omega
 clear hm hc hs hN;go_enter func20,ntmps20
 go_upto_block 0 with fail
 go_cut [3] from 3 (fun z w'=>z=.int i64 (N:Int)∧w'=w)
 case first =>
  go_wp2
  go_loopw [3,11] (fun z i wr=>∃k:Nat,k≤m∧i=.int i64 k∧z=.int i64 ((Ls.take k).flatten.length:Int)∧wr=w) (fun _ i _=>m-(intOf i).toNat)
  case atStart=>exact⟨0,by omega,rfl,rfl,rfl⟩
  case round =>
   obtain⟨k,hk,rfl,rfl,rfl⟩:=hrel;by_cases hlt:k<m
   ·have hkl:k<Ls.length:=by rw[HM.out];exact hlt
    obtain⟨ao,n,cap2,q0,hsr⟩:=HC.out k hkl;have HT:Hid ((Ls.take (k+1)).flatten.length=(Ls.take k).flatten.length+n):=by
     show _=_;rw[op_flat_next hkl,List.length_append,hsr.len]
    have hb1:(Ls.take k).flatten.length+n≤1000:=by
     have h1:=op_flat_le (Ls:=Ls) (k+1);have h2:=HS.out;have h3:=HT.out;omega
    generalize (Ls.take k).flatten.length=z at *
    clear hsr;go_wp2;go_roundw
    case rel=>exact⟨k+1,by omega,by go_num,by rw[HT.out];go_num,by simp⟩
    case measure=>simp[intOf];omega
   obtain rfl:k=m:=by omega
   go_wp2_with fail
   go_meet
   case rel=>exact⟨by rw[←HM.out,List.take_length,HN.out],rfl⟩
 case rest =>
  obtain⟨rfl,rfl⟩:=hcut
  go_wp2_with fail
  refine (op_grow_nil N _ hN2).mono ?_;rintro e w1 ⟨v,rfl,hown,hB⟩;have HO:Hid (w1.ownsRow wc.heap.size 37 8 v 0 []):=hown;have HB:Hid (Below wc.heap.size wc w1):=hB;clear hown hB;go_wp2
  go_loopw [6,27] (fun u i wr=>∃k:Nat,k≤m∧i=.int i64 k∧wr.ownsRow wc.heap.size 37 8 u (Ls.take k).flatten.length (cellsG opE (Ls.take k).flatten)∧Below wc.heap.size wc wr) (fun _ i _=>m-(intOf i).toNat)
  case atStart=>exact⟨0,by omega,rfl,HO.out,HB.out⟩
  case round =>
   obtain⟨k,hk,rfl,hown,hB⟩:=hrel;have HOW:Hid (wr.ownsRow wc.heap.size 37 8 u6 (Ls.take k).flatten.length (cellsG opE (Ls.take k).flatten)):=hown;have HBW:Hid (Below wc.heap.size wc wr):=hB;clear hown;by_cases hlt:k<m
   ·have hkl:k<Ls.length:=by rw[HM.out];exact hlt
    obtain⟨ao,n,cap2,q0,hsr⟩:=(HC.out.later hB) k hkl;have HSR:Hid (GS opE wr (.slice ao n cap2) Ls[k]):=hsr;have HL1:Hid ((Ls.take k).flatten.length+Ls[k].length≤1000000):=by
     have h1:=op_flat_le (Ls:=Ls) (k+1);rw[op_flat_next hkl,List.length_append] at h1;have h2:=HS.out;show _≤_;omega
    clear hsr hB
    go_wp2_with (at_builtin;refine op_append _ rfl _ _ 43 rfl underlying43 wc.heap.size _ rfl _ HOW.out _ rfl _ HSR.out HL1.out HBW.out.size ?_)
    intro v' w3 hown3 hgrow;have HO5:Hid (w3.ownsRow wc.heap.size 37 8 v' (Ls.take (k+1)).flatten.length (cellsG opE (Ls.take (k+1)).flatten)):=by
     show w3.ownsRow _ _ _ _ _ _;rw[op_flat_next hkl,show ((Ls.take k).flatten++Ls[k]).length=(List.take k (List.map List.length Ls)).sum+Ls[k].length by simp];exact hown3
    have HB5:Hid (Below wc.heap.size wc w3):=HBW.out.grown hgrow HBW.out.size (fun g hg=>(HOW.out.lt g hg).1);clear hown3 hgrow q0;go_wp2;go_roundw
    case rel=>exact⟨k+1,by omega,by go_num,HO5.out,HB5.out⟩
    case measure=>simp[intOf];omega
   obtain rfl:k=m:=by omega
   go_wp2;go_ret;refine⟨_,rfl,?_,HBW.out⟩;have:=HOW.out;rw[←HM.out,List.take_length] at this;exact this
theorem froz_later {W W':World}{g:Nat}{a:Value}(h:∀i,W.frozen? ⟨g,i,none⟩=false)(hc:W.cell? ⟨g,1,none⟩=some a)(hb:Below W.heap.size W W'):∀i,W'.frozen? ⟨g,i,none⟩=false:=fun i =>
 (World.frozen?_of_block (hb.block g (bLQ _ _ hc))).trans (h i)
theorem froz_grown {w w':World}{row:Option Nat}{b i:Nat}(hg:w.grownBy w' row)(hl:b<w.heap.size)(hne:some b≠row):w'.frozen? ⟨b,i,none⟩=w.frozen? ⟨b,i,none⟩:=
 World.frozen?_of_block (hg.block b hl hne)
structure NwB (W:World)(p:Nat)(T:Int)(v:Value)(vs:List SlT)(Rs:List (List Op8)):Prop where
 c0:W.cell? ⟨p,0,none⟩=some v
 c1:W.cell? ⟨p,1,none⟩=some (.int i64 T)
 c2:W.cell? ⟨p,2,none⟩=some (.int i64 0)
 c3:W.cell? ⟨p,3,none⟩=some (.slice none 0 0)
 c4:W.cell? ⟨p,4,none⟩=some (.int i64 0)
 f:∀i,W.frozen? ⟨p,i,none⟩=false
 o:OR W (p+1) v vs Rs
 n:∀x∈vs,∀ad,x.1=some ad→p+1≤ad.block
section
variable {W W1 W2:World}{p:Nat}{T:Int}{v:Value}{vs:List SlT}{Rs:List (List Op8)}
theorem NwB.lt (h:NwB W p T v vs Rs):p<W.heap.size:=bLQ W ⟨p,1,none⟩ h.c1
theorem NwB.later (h:NwB W p T v vs Rs)(hb:Below W.heap.size W W1):NwB W1 p T v vs Rs:=
 ⟨cell_later hb h.c0,cell_later hb h.c1,cell_later hb h.c2,cell_later hb h.c3,cell_later hb h.c4,froz_later h.f h.c1 hb,h.o.later hb,h.n⟩
theorem nwb_new (W:World)(T:Int)(t:TypeId):NwB (W.alloc (.cells #[.slice none 0 0,.int i64 T,.int i64 0,.slice none 0 0,.int i64 0] t)) W.heap.size T (.slice none 0 0) [] []:=by
 have hv:=vat_new W [.slice none 0 0,.int i64 T,.int i64 0,.slice none 0 0,.int i64 0] t;have h0:=hv 0 _ rfl;have h1:=hv 1 _ rfl;have h2:=hv 2 _ rfl;have h3:=hv 3 _ rfl;have h4:=hv 4 _ rfl;rw[Nat.zero_add] at h0 h1 h2 h3 h4;exact⟨h0,h1,h2,h3,h4,fun i=>by simp,or_nil _ _,fun x hx=>by cases hx⟩
theorem NwB.push (h:NwB W p T v vs Rs)(hb:Below W.heap.size W W1){x:SlT}{L:List Op8}(hx:GS opE W1 (slV x) L)(hn:∀ad,x.1=some ad→W.heap.size≤ad.block){v':Value}(hg:W1.grownBy W2 v.ownBlock)
 (ho:W2.ownsRow (p+1) 43 slE.n v' (vs++[x]).length (cellsG slE (vs++[x]))) (hv:v'.ownBlock=v.ownBlock∨v'.ownBlock=some W1.heap.size):NwB (W2.setCell ⟨p,0,none⟩ v') p T v' (vs++[x]) (Rs++[L]):=by
 have h1:=h.later hb;have hpl:=h.lt;have hne:∀b,v.ownBlock=some b→b≠p:=fun b e=>by have:=(h.o.ov.lt b e).1;omega
 have hox:∀b,v.ownBlock=some b→offB x b:=fun b e=>.inr fun ad ha=>by
  have:=hn ad ha;have:=(h.o.ov.lt b e).2;omega
 have hcp:∀i u,W1.cell? ⟨p,i,none⟩=some u→W2.cell? ⟨p,i,none⟩=some u:=fun i u hc=>hg.cell hc fun e=>hne p e.symm rfl
 have h2:=h1.o.push hx hox hg ho hv;have hnn:∀y∈vs++[x],∀ad,y.1=some ad→p+1≤ad.block:=by
  intro y hy ad ha
  rcases List.mem_append.1 hy with hy | hy
  ·exact h.n y hy ad ha
  rw[List.mem_singleton] at hy;subst hy;have:=hn ad ha;omega
 have hps:p<W1.heap.size:=Nat.lt_of_lt_of_le hpl hb.size;refine⟨World.cell?_setCell_same _ _ _ (hcp 0 _ h1.c0),cl_off (hcp 1 _ h1.c1) (by omega) _,cl_off (hcp 2 _ h1.c2) (by omega) _,cl_off (hcp 3 _ h1.c3) (by omega) _,cl_off (hcp 4 _ h1.c4) (by omega) _,fun i=>?_,?_,hnn⟩
 ·rw[World.frozen?_setCell];exact (froz_grown hg hps (fun e=>hne p e.symm rfl)).trans (h1.f i)
 refine⟨h2.ov.kept (grown_set _ _ _ _) (.inr fun e=>?_),h2.lv,fun i y M h3 h4=>?_⟩
 ·have:=(h2.ov.lt p e).1;omega
 obtain⟨h5,h6⟩:=h2.rv i y M h3 h4;refine⟨h5.grown (grown_set _ _ _ _) fun b e=>?_,h6⟩;cases e;exact .inr fun ad ha=>by
  have:=hnn y (List.mem_of_getElem? h3) ad ha;omega
theorem NwB.pd (h:NwB W p T v vs Rs){B0:Nat}(hB:B0≤p)(hT:1≤T):Pd W p B0 (fun b=>p≤b∧b<W.heap.size) (dr0 Rs T):=by
 obtain⟨x,hx⟩:∃x:SlT,v=slV x:=by
  obtain⟨ao,cap,e⟩:=own_form h.o.ov;exact⟨(ao,vs.length,cap),e⟩
 have hpl:=h.lt;subst hx;refine⟨x,.slice none 0 0,0,p+1,W.heap.size,⟨h.c0,h.c1,h.c2,h.c3,h.c4,h.f,fun V hV=>?_,⟨by omega,by omega,by omega⟩,fun b h1 h2=>⟨by omega,h2⟩,World.ownsRow_nil _ _ _ _,(fun b e=>by cases e),⟨nLQ _,hpl⟩,fun b hb=>⟨Nat.le_trans hB hb.1,hb.2⟩⟩,⟨?_,.inl rfl⟩⟩
 ·refine⟨vs,?_,h.o.lv,fun i y M h1 h2=>?_⟩
  ·refine own_GS (own_kb h.o.ov hV fun b hb=>?_);have:=h.o.ov.lt b hb;omega
  have h3:=(h.o.rv i y M h1 h2).1;obtain⟨ya,yn,yc⟩:=y
  rcases h3 with ⟨ao',cap',e,rfl⟩ | ⟨g,o,cap',e,h4,h5,h6⟩
  ·exact .inl ⟨ao',cap',e,rfl⟩
  by_cases h0:M=[]
  ·subst h0;cases e;exact .inl ⟨_,_,rfl,rfl⟩
  have hg:g<W.heap.size:=by
   have hl:0<M.length:=List.length_pos_iff.2 h0;have hc:=h6 0 hl 0 _ rfl;exact bLQ W _ hc
  have hn:=h.n _ (List.mem_of_getElem? h1);cases e;refine .inr ⟨g,o,yc,rfl,h4,h5,fun i hi j u hu=>hV.at (h6 i hi j u hu) ⟨?_,hg⟩⟩;exact hn ⟨g,o,none⟩ rfl
 show ((0:Nat):Int)<T;omega
end
theorem op_pt1 {W:World}{a1:AdQ}{n1 c1:Nat}{L1:List Op8}(t:TypeId)(h1:GS opE W (.slice a1 n1 c1) L1):opPt (W.alloc (.cells #[.slice a1 n1 c1] t)) W.heap.size 0 [L1]:=by
 have hb:Below W.heap.size W (W.alloc (.cells #[.slice a1 n1 c1] t)):=(bRQ _ _).alloc (nLQ _) _;intro i hi
 match i,hi with
 | 0,_=>exact⟨a1,n1,c1,by simp,h1.later hb⟩
theorem rs_zero {L:List (List Op8)}{T:Int}(h:rsF L T=0):1≤T∧L.length≤20∧∀r∈L,r.length≤200:=by
 have h1:=dk_new h;exact⟨h1.w.1,h1.L,h1.r⟩
theorem pdnew_any (ao:AdQ)(n c:Nat)(L:List (List Op8))(T:Int)(B0:Nat)(w:World)(hr:∀V,Below B0 w V→RS V (.slice ao n c) L)(hB:B0≤w.heap.size):
 Calls prog 5 #[.slice ao n c,.int i64 T] w fun e w'=>∃v,e=.returned (.tuple #[v,noV (rsF L T)])∧Below w.heap.size w w'∧(rsF L T=0→∃p O,v=.pointer (some ⟨p,0,none⟩)∧Pd w' p B0 O (dr0 L T)∧∀b,O b→w.heap.size≤b):=by
 have hrs:RS w (.slice ao n c) L:=hr w (bRQ _ _);have HN:Hid (L.length=n):=hrs.len;have HR:Hid (∀V,Below w.heap.size w V→RS V (.slice ao n c) L):=fun V hV=>hrs.later hV
 have HB0:Hid (B0≤w.heap.size):=hB;have hnm:n≤maxLen:=by
  obtain⟨_,_,_,e,h1,h2,_⟩:=hrs.form;cases e;exact h2
 unfold maxLen at hnm;obtain⟨Z,hZ⟩:∃Z,Z=rsF L T:=⟨_,rfl⟩;have HZ:Hid (rsF L T=Z):=hZ.symm;have HZ0:Hid (Z=0→1≤T∧L.length≤20∧∀r∈L,r.length≤200):=fun h=>rs_zero (by rw[←hZ];exact h)
 rw[←hZ];clear hr hB hrs hZ;go_enter func5,ntmps5
 go_wp2_with fail
 refine (pdcheck_any ao n c L T _ (HR.out _ (bRQ _ _))).mono ?_;rintro e w1 ⟨rfl,hb1⟩;rw[HZ.out];have HB1:Hid (Below w.heap.size w w1):=hb1;clear hb1;by_cases hz:Z=0
 ·obtain⟨hT1,hL20,hR200⟩:=HZ0.out hz;have HLR:Hid (∀r∈L,r.length≤200):=hR200;have HT1:Hid (1≤T):=hT1;have hn20:n≤20:=by have:=HN.out;omega
  subst hz;rw[no_ok rfl];have HNB:Hid (NwB (w1.alloc (.cells #[.slice none 0 0,.int i64 T,.int i64 0,.slice none 0 0,.int i64 0] 61)) w1.heap.size T (.slice none 0 0) [] []):=nwb_new w1 T _;have HBN:Hid (Below w.heap.size w (w1.alloc (.cells #[.slice none 0 0,.int i64 T,.int i64 0,.slice none 0 0,.int i64 0] 61))):=HB1.out.alloc HB1.out.size _;obtain⟨j1,hj,hy0,hy1,hy2⟩:=info_parts rd_info;have HI1:Hid (Tryd.prog.info? 43=some j1):=hj;have HI2:Hid (j1.zero=some (.slice none 0 0)):=hy0;have HI3:Hid (j1.size=1):=hy1;have HI4:Hid (j1.bytes=24):=hy2;clear hR200 hL20 hT1 HZ0 hj hy0 hy1 hy2;go_wp2
  go_loopw [21] (fun i wr=>∃(k:Nat) (v0:Value) (vs:List SlT),k≤n∧i=.int i64 (k:Int)∧NwB wr w1.heap.size T v0 vs (L.take k)∧Below w.heap.size w wr) (fun i _=>n-(intOf i).toNat)
  case atStart=>exact⟨0,.slice none 0 0,[],by omega,rfl,HNB.out,HBN.out⟩
  case round =>
   obtain⟨k,v0,vs,hk,rfl,hF,hB⟩:=hrel;obtain⟨wz,hwz⟩:∃X,X=wr:=⟨_,rfl⟩;subst hwz;obtain⟨a7,m7,c7,rfl⟩:∃b1 m1 d1,v0=.slice b1 m1 d1:=by
    obtain⟨a,c,h⟩:=own_form hF.o.ov;exact⟨a,_,c,h⟩
   have HF:Hid (NwB wz w1.heap.size T (.slice a7 m7 c7) vs (L.take k)):=hF;have HB:Hid (Below w.heap.size w wz):=hB;have hlt1:=hF.lt;have HLT:Hid (w1.heap.size<wz.heap.size):=hlt1;clear HNB HBN;by_cases hlt:k<n
   ·obtain⟨g,o,R,a4,n4,c4,hao,hRs,r0,hG⟩:=(HR.out wz hB).at hlt;subst hao;have hkl:k<L.length:=by rw[HN.out];exact hlt
    have hLk:L[k]=R:=by
     have:=List.getElem?_eq_getElem hkl;rw[this] at hRs;cases hRs;rfl
    have HSR:Hid (GS opE wz (.slice a4 n4 c4) R):=hG;have HL12:Hid ([R].flatten.length≤1000):=by
     have h:=HLR.out R (List.mem_of_getElem? hRs);show _≤_;simp only[List.flatten_cons,List.flatten_nil,List.append_nil];omega
    have HTK:Hid (L.take (k+1)=L.take k++[R]):=by
     show _=_;rw[List.take_succ_eq_append_getElem hkl,hLk]
    have kb0:(0:Int)≤(k:Int):=by omega
    have kb1:(k:Int)<(n:Int):=by omega
    have q3:=hF.c0;have f3:=hF.f 0;have HVL:Hid (vs.length≤20):=by
     show _≤_;rw[hF.o.lv,List.length_take];omega
    have HLV1:Hid (vs.length+1≤maxLen):=by
     have:=HVL.out;show _≤_;unfold maxLen;omega
    have HLV2:Hid ((vs.length+1)*24≤140737488355328):=by
     have:=HVL.out;show _≤_;omega
    have HKF:Hid (∀W,Below wz.heap.size wz W→NwB W w1.heap.size T (.slice a7 m7 c7) vs (L.take k)):=fun W hW=>HF.out.later hW
    have HKO:Hid (∀W,Below wz.heap.size wz W→W.ownsRow (w1.heap.size+1) 43 1 (.slice a7 m7 c7) vs.length (cellsG slE vs)):=fun W hW=>own_below HF.out.o.ov hW
    have HKC:Hid (∀w' w2,Below wz.heap.size wz w'→w'.grownBy w2 (Value.slice a7 m7 c7).ownBlock→w2.cell? ⟨w1.heap.size,0,none⟩=some (.slice a7 m7 c7)∧w2.frozen? ⟨w1.heap.size,0,none⟩=false):=fun w' w2 h1 h2=>by
     have h3:=HF.out.later h1;have h4:some w1.heap.size≠(Value.slice a7 m7 c7).ownBlock:=fun e=>by have:=(HF.out.o.ov.lt _ e.symm).1;omega
     exact⟨h2.cell h3.c0 h4,(froz_grown h2 h3.lt h4).trans (h3.f 0)⟩
    have HFIN:Hid (∀w' w2 v5 x,Below wz.heap.size wz w'→GS opE w' (slV x) R→(∀ad,x.1=some ad→wz.heap.size≤ad.block)→w'.grownBy w2 (Value.slice a7 m7 c7).ownBlock→w2.ownsRow (w1.heap.size+1) 43 1 v5 (vs++[x]).length (cellsG slE (vs++[x]))→(v5.ownBlock=(Value.slice a7 m7 c7).ownBlock∨v5.ownBlock=some w'.heap.size) →
     ∃(u3:Value) (vs:List SlT),NwB (w2.setCell ⟨w1.heap.size,0,none⟩ v5) w1.heap.size T u3 vs (L.take (k+1))∧Below w.heap.size w (w2.setCell ⟨w1.heap.size,0,none⟩ v5)):=by
     intro w' w2 v5 x h1 hx hox h2 h3 h4;refine⟨v5,vs++[x],?_,?_⟩
     ·rw[HTK.out];exact HF.out.push h1 hx hox h2 h3 h4
     have hb2:Below w.heap.size w w':=HB.out.trans (h1.mono HB.out.size);have hs1:=HB1.out.size;exact (hb2.grown h2 hb2.size (fun b hb=>by have:=(HF.out.o.ov.lt b hb).1;omega)).setCell (p:=⟨w1.heap.size,0,none⟩) (show w.heap.size≤w1.heap.size by omega) _
    clear hF hB hG hRs hLk;go_upto_region 8 with fail;clear r0
    go_region_law (first
     | ((refine step_append_blk (E:=slE) _ (by rfl) _ _ 22 43 (by rfl) underlying22 j1 _ 24 HI1.out HI2.out HI3.out HI4.out (by rfl) (w1.heap.size+1) (.slice a7 m7 c7) (by rfl) vs (HKO.out _ HBY.out) w'.heap.size 0 1 (by rfl) (a6,n6,c6) HVA.out HLV1.out HLV2.out ?_ ?_;(focus (have:=HBY.out.size;have:=HLT.out;omega));intro v5 w5 ho5 hg5 hb5;have HG:Hid _:=HFIN.out _ _ _ _ HBY.out HSX.out HOFF.out hg5 ho5 hb5;have z2:=(HKC.out _ _ HBY.out hg5).1;have zf2:=(HKC.out _ _ HBY.out hg5).2;obtain⟨a8,m8,c8,rfl⟩:∃b1 m1 d1,v5=Value.slice b1 m1 d1:=(by obtain⟨a,c,h⟩:=own_form ho5;exact⟨a,_,c,h⟩);clear ho5 hg5 hb5))
     | (go_simp;go_at_call 20;refine (op_concat _ 0 1 1 [R] _ rfl (by omega) (op_pt1 43 (HSR.out.later (Below.drew (bRQ _ _)))) HL12.out).mono ?_;rintro e w' ⟨u,rfl,hown,hb⟩;have HBX:Hid (Below wz.heap.size wz w'):=falloc hb;have hNR:NO w' wz.heap.size u R:=(NO.ofn hown (by simp) (by simp)).mono (by simp);obtain⟨⟨a6,n6,c6⟩,hx,hoff⟩:=hNR.sl2;replace hx:u=Value.slice a6 n6 c6:=hx;subst hx;have HOFF:Hid (∀ad,(a6,n6,c6).1=some ad→wz.heap.size≤ad.block):=(fun ad ha=>by cases ha;exact (World.ownsRow.lt hNR ad.block rfl).1);have HBY:Hid (Below wz.heap.size wz (w'.alloc (.cells #[.slice a6 n6 c6] 43))):=HBX.out.alloc HBX.out.size _;have HSX:Hid (GS opE (w'.alloc (.cells #[.slice a6 n6 c6] 43)) (slV (a6,n6,c6)) R):=hNR.gs.later ((bRQ _ _).alloc (nLQ _) _);have HVA:Hid (VAt (w'.alloc (.cells #[.slice a6 n6 c6] 43)) w'.heap.size 0 (slE.c (a6,n6,c6))):=vat_sl (by simp[slV]);have x2:=(HKF.out w' HBX.out).c0;have xlt:=(HKF.out w' HBX.out).lt;clear hb hown hoff hNR;dsimp only))
    all_goals (clear q3 f3;go_wp2)
    all_goals go_roundw
    all_goals first
     | (simp[intOf];omega)
     | (obtain⟨u3,vs2,hG⟩:=HG.out;exact⟨k+1,u3,vs2,by omega,by go_num,hG.1,hG.2⟩)
   obtain rfl:k=n:=by omega
   have HFE:Hid (NwB wz w1.heap.size T (.slice a7 m7 c7) vs L):=by
    have h:=HF.out;rw[←HN.out,List.take_length] at h;exact h
   clear hF hB;go_wp2;refine bodyPost_ret (v:=.tuple #[.pointer (some ⟨w1.heap.size,0,none⟩),.nilIface]) (by simp[results,results5,go_sem]) rfl ?_;have hs1:=HB1.out.size;have HFF:∃p O,(Value.pointer (some ⟨w1.heap.size,0,none⟩)=.pointer (some ⟨p,0,none⟩))∧Pd wz p B0 O (dr0 L T)∧∀b,O b→w.heap.size≤b:=⟨_,_,rfl,HFE.out.pd (Nat.le_trans HB0.out hs1) HT1.out,fun b hb=>Nat.le_trans hs1 hb.1⟩
   first
    | exact⟨_,by rw[no_ok rfl],HB.out,fun _=>HFF⟩
    | (obtain⟨p,O,h1,h2,h3⟩:=HFF;exact⟨_,by rw[no_ok rfl],HB.out,p,h1,O,h2,h3⟩)
 rw[no_ne hz];go_wp2;refine bodyPost_ret (v:=.tuple #[.pointer none,.iface 63 (.int i64 Z)]) (by simp[results,results5,go_sem]) rfl ?_;exact⟨_,by rw[no_ne hz],HB1.out,fun h=>absurd h hz⟩
end
end Go.Proofs.YtpgjkmefomldfaaDoor
