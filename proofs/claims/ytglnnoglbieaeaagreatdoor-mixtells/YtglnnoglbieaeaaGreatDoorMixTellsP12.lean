/- Contracts and facts on the way to MixTells, joined into one text: RefDo, RefDiff, RefWalk, RefSeen, RefFits. -/
import Derived.Test.YtglnnoglbieaeaaGreatDoorMixTellsP11
namespace Go.Proofs.YtglnnoglbieaeaaGreatDoor
set_option linter.unusedSimpArgs false
set_option linter.unusedVariables false
set_option maxHeartbeats 16000000
set_option maxRecDepth 100000
section
open Go.RowKit
theorem eqR_sy (a b:Ru):eqR a b=eqR b a:=by
 cases h:eqR b a
 ·exact eq_no.2 (fun e=>(eq_no.1 h) e.symm)
 exact eq_R.2 (eq_R.1 h).symm
theorem refIn_any (ao:Option Addr)(n cap:Nat)(p m b o s v:Int)(L:List Ru)(w:World)(hs:SR w (.slice ao n cap) L):
 Calls Tryz.prog 73 #[.slice ao n cap,.agg #[.int .i64 p,.int .i64 m,.int .i64 b,.int .i64 o,.int .i64 s,.int .i64 v]] w fun e w'=>e=.returned (.bool (inB L ⟨p,m,b,o,s,v⟩))∧Below w.heap.size w w':=by
 obtain⟨ao',n',cap',e,hn,hn2,hn3,ha⟩:=hs.form;cases e;have HN:Hid (L.length=n):=hn;have HA:Hid (0<n→∃g o,ao=some ⟨g,o,none⟩∧RAt w g o L∧cap≤maxLen):=ha;have HC0:=C6.new w p m b o s v 66;have HB0:Hid (Below w.heap.size w (w.alloc (Obj.cells #[.int .i64 p,.int .i64 m,.int .i64 b,.int .i64 o,.int .i64 s,.int .i64 v] 66))):=(Below.refl _ _).alloc (Nat.le_refl _) _;unfold maxLen at hn2;clear hn ha hs;go_enter Tryz.func73,Tryz.ntmps73;go_wp2
 go_loopw [5] (fun i wr=>∃k:Nat,k≤n∧i=.int .i64 k∧(L.take k).any (fun a=>eqR ⟨p,m,b,o,s,v⟩ a)=false∧Below w.heap.size w wr∧C6 wr w.heap.size 0 ⟨p,m,b,o,s,v⟩)
  (fun i _=>n-(intOf i).toNat)
 case atStart=>exact⟨0,by omega,rfl,by simp,HB0.out,HC0⟩
 case round =>
  obtain⟨k,hk,rfl,hno,hB,hC⟩:=hrel;have HB:Hid (Below w.heap.size w wr):=hB;have HC:Hid (C6 wr w.heap.size 0 ⟨p,m,b,o,s,v⟩):=hC;have HNO:Hid ((L.take k).any (fun a=>eqR ⟨p,m,b,o,s,v⟩ a)=false):=hno;clear hno HC0 HB0;by_cases hlt:k<n
  ·obtain⟨g,og,hao,hc,_⟩:=HA.out (by omega);subst hao;obtain⟨p',m',b',o',s',v',hkl,hL,q0,q1,q2,q3,q4,q5⟩:=(hc.later hB).at HN.out hlt;have HL:Hid (L[k]=⟨p',m',b',o',s',v'⟩):=hL;obtain⟨r0,r1,r2,r3,r4,r5⟩:=hC;simp only[Nat.zero_add] at r0 r1 r2 r3 r4 r5;have HCE:Hid (CI wr w.heap.size p m b o s v g (og+k*6) p' m' b' o' s' v' wr):=⟨Below.refl _ _,⟨r0,r1,r2,r3,r4,r5⟩,q0,q1,q2,q3,q4,q5⟩;clear hL hB HA q0 q1 q2 q3 q4 q5 r0 r1 r2 r3 r4 r5;go_upto_region 4 with fail;have kb0:(0:Int)≤(k:Int):=by omega
   have kb1:(k:Int)<(n:Int):=by omega
   go_cut [17] from 6 to 17 (fun c w'=>c=.bool (eqR ⟨p',m',b',o',s',v'⟩ ⟨p,m,b,o,s,v⟩)∧Below wr.heap.size wr w')
   case first =>
    as_aux_lemma =>
     refine wp_region_quiet (C:=CI wr w.heap.size p m b o s v g (og+k*6) p' m' b' o' s' v') (by kernel_rfl) (by kernel_rfl) (CI.later (W:=wr) (Below.drew (Below.refl _ _)) HCE.out) ?_;simp only[List.toList_toArray];go_big_quiet_want;refine qv (.slice (some ⟨g,og,none⟩) n cap) ?_ ?_
     ·rintro w' ⟨z0,⟨z1,z2,z3,z4,z5,z6⟩,y1,y2,y3,y4,y5,y6⟩;go_simp
     simp only[Act.put,AP];go_big_quiet_on;go_big_quiet_want;refine qv (.int .i64 (k:Int)) ?_ ?_
     ·rintro w' ⟨z0,⟨z1,z2,z3,z4,z5,z6⟩,y1,y2,y3,y4,y5,y6⟩;go_simp
     simp only[Act.put,AP];go_big_quiet_on;go_big_quiet_want;refine qv (.pointer (some ⟨g,og+k*6,none⟩)) ?_ ?_
     ·rintro w' ⟨z0,⟨z1,z2,z3,z4,z5,z6⟩,y1,y2,y3,y4,y5,y6⟩;go_simp
     simp only[Act.put,AP];go_big_quiet_on;go_big_quiet_want;refine qv (.agg #[.int .i64 p',.int .i64 m',.int .i64 b',.int .i64 o',.int .i64 s',.int .i64 v']) ?_ ?_
     ·rintro w' ⟨z0,⟨z1,z2,z3,z4,z5,z6⟩,y1,y2,y3,y4,y5,y6⟩;go_simp
     simp only[Act.put,AP];go_big_quiet_on;go_big_quiet_want;refine qv (.agg #[.int .i64 p,.int .i64 m,.int .i64 b,.int .i64 o,.int .i64 s,.int .i64 v]) ?_ ?_
     ·rintro w' ⟨z0,⟨z1,z2,z3,z4,z5,z6⟩,y1,y2,y3,y4,y5,y6⟩;go_simp
     simp only[Act.put,AP];go_big_quiet_on;go_big_quiet_want;refine quiet_val (v:=.bool (eqR ⟨p',m',b',o',s',v'⟩ ⟨p,m,b,o,s,v⟩)) (fun w' hC=>exec_bin rfl (by go_simp) (run_eqlR p' m' b' o' s' v' p m b o s v w')) ?_;simp only[Act.put,AP];go_big_quiet_on;refine wpQuiet_nil ?_;intro w' hC
     go_wp2_with fail
     go_meet
     case rel=>exact⟨rfl,hC.1⟩
   case rest =>
    obtain⟨rfl,hB2⟩:=hcut;have HB2:Hid (Below w.heap.size w wc):=HB.out.trans (hB2.mono HB.out.size);have HC2:Hid (C6 wc w.heap.size 0 ⟨p,m,b,o,s,v⟩):=HC.out.later hB2;clear hB2;cases ho:eqR ⟨p',m',b',o',s',v'⟩ ⟨p,m,b,o,s,v⟩
    ·go_wp2;go_roundw
     case rel=>exact⟨k+1,by omega,by go_num,any_nextR hkl HNO.out (by rw[HL.out,eqR_sy];exact ho),HB2.out,HC2.out⟩
     case measure=>simp[intOf];omega
    go_wp2;go_ret;exact⟨by rw[inB,any_hitR hkl (by rw[HL.out,eqR_sy];exact ho)];rfl,HB2.out⟩
  obtain rfl:k=n:=by omega
  go_wp2;go_ret;exact⟨by have:=HNO.out;rw[←HN.out,List.take_length] at this;rw[inB,this];rfl,HB.out⟩
def atTo (L:List Ru)(r:Ru)(k:Nat):Int:=if inB (L.take k) r then (ixN L r:Int) else -1
theorem at_0 (L:List Ru)(r:Ru):atTo L r 0 = -1:=by simp[atTo,inB]
theorem at_no {L:List Ru}{r x:Ru}{k:Nat}(hk:k<L.length)(hx:L[k]=x)(h:eqR x r=false):atTo L r (k+1)=atTo L r k:=by
 have e:inB (L.take (k+1)) r=inB (L.take k) r:=by
  rw[List.take_succ_eq_append_getElem hk,hx];simp[inB,eqR_sy r x,h]
 rw[atTo,atTo,e]
theorem at_yes {L:List Ru}{r x:Ru}{k:Nat}(hk:k<L.length)(hx:L[k]=x)(hL:tbN L=0)(h:eqR x r=true):atTo L r (k+1)=(k:Int):=by
 obtain rfl:=eq_R.1 h;have e:inB (L.take (k+1)) x=true:=in_iff.2 (by rw[List.take_succ_eq_append_getElem hk,hx];simp);have hn:=tb_nodup hL;have hsp:L=L.take k++x :: L.drop (k+1):=by
  rw[←hx];simp
 have hno:x ∉ L.take k:=by
  intro hm;rw[hsp,List.nodup_append] at hn;exact hn.2.2 x hm x (by simp) rfl
 rw[atTo,e,if_pos rfl];have:=ix_split (M:=L.drop (k+1)) hno;rw[←hsp] at this;rw[this,List.length_take];omega
theorem key_of_eq {a b:Ru}(h:keyB a b=false):eqR a b=false:=by
 cases e:eqR a b
 ·rfl
 rw[eq_R.1 e,key_rf] at h;cases h
theorem at_all {L:List Ru}{r:Ru}:atTo L r L.length=if inB L r then (ixN L r:Int) else -1:=by rw[atTo,List.take_length]
theorem any_step {L:List Ru}{f:Ru→Bool}{k:Nat}{x:Ru}(hk:k<L.length)(hx:L[k]=x):(L.take (k+1)).any f=((L.take k).any f || f x):=by
 rw[List.take_succ_eq_append_getElem hk,hx];simp
theorem SR.later' {w w':World}{v:Value}{L:List Ru}(h:SR w v L)(hb:Below w.heap.size w w'):SR w' v L:=h.later hb
theorem append_le {L:List Ru}{n:Nat}(h:L.length=n)(h2:tbN L=0):n≤12:=by
 have:=(tb_iff.1 h2).1;omega
theorem refDo_any (ao:Option Addr)(n cap:Nat)(a:Bool)(p m b o s v:Int)(L:List Ru)(w:World)(hs:SR w (.slice ao n cap) L)(h0:tbN L=0):
 Calls Tryz.prog 21 #[.slice ao n cap,.bool a,.agg #[.int .i64 p,.int .i64 m,.int .i64 b,.int .i64 o,.int .i64 s,.int .i64 v]] w fun e w'=>∃u,e=.returned (.tuple #[u,.int .i64 (chN L a ⟨p,m,b,o,s,v⟩)])∧NR w' w.heap.size u (chL L a ⟨p,m,b,o,s,v⟩)∧Below w.heap.size w w':=by
 obtain⟨ao',n',cap',e,hn,hn2,hn3,ha⟩:=hs.form;cases e;have HN:Hid (L.length=n):=hn;have HA:Hid (0<n→∃g o,ao=some ⟨g,o,none⟩∧RAt w g o L∧cap≤maxLen):=ha;have H0:Hid (tbN L=0):=h0;have HS:Hid (SR w (.slice ao n cap) L):=hs;have hn12:=append_le hn h0;have HC0:=C6.new w p m b o s v 66;have HB0:Hid (Below w.heap.size w (w.alloc (Obj.cells #[.int .i64 p,.int .i64 m,.int .i64 b,.int .i64 o,.int .i64 s,.int .i64 v] 66))):=(Below.refl _ _).alloc (Nat.le_refl _) _;clear hn ha hs hn2 h0;go_enter Tryz.func21,Tryz.ntmps21;go_wp2
 go_loopw [8,9,10] (fun x y i wr=>∃k:Nat,k≤n∧i=.int .i64 k∧x=.int .i64 (atTo L ⟨p,m,b,o,s,v⟩ k)∧y=.bool ((L.take k).any fun a=>keyB a ⟨p,m,b,o,s,v⟩)∧Below w.heap.size w wr∧C6 wr w.heap.size 0 ⟨p,m,b,o,s,v⟩)
  (fun x y i _=>n-(intOf i).toNat)
 case atStart=>exact⟨0,by omega,rfl,by rw[at_0],by simp,HB0.out,HC0⟩
 case round =>
  obtain⟨k,hk,rfl,rfl,rfl,hB,hC⟩:=hrel;have HB:Hid (Below w.heap.size w wr):=hB;have HC:Hid (C6 wr w.heap.size 0 ⟨p,m,b,o,s,v⟩):=hC;clear HC0 HB0;by_cases hlt:k<n
  ·obtain⟨g,og,hao,hc,_⟩:=HA.out (by omega);subst hao;obtain⟨p',m',b',o',s',v',hkl,hL,q0,q1,q2,q3,q4,q5⟩:=(hc.later hB).at HN.out hlt;have HL:Hid (L[k]=⟨p',m',b',o',s',v'⟩):=hL;obtain⟨r0,r1,r2,r3,r4,r5⟩:=hC;simp only[Nat.zero_add] at r0 r1 r2 r3 r4 r5;have HCE:Hid (CI wr w.heap.size p m b o s v g (og+k*6) p' m' b' o' s' v' wr):=⟨Below.refl _ _,⟨r0,r1,r2,r3,r4,r5⟩,q0,q1,q2,q3,q4,q5⟩;obtain⟨X,hX⟩:∃X,X=atTo L ⟨p,m,b,o,s,v⟩ k:=⟨_,rfl⟩;obtain⟨Y,hY⟩:∃Y,Y=((L.take k).any fun a=>keyB a ⟨p,m,b,o,s,v⟩):=⟨_,rfl⟩;have HX:Hid (X=atTo L ⟨p,m,b,o,s,v⟩ k):=hX;have HY:Hid (Y=((L.take k).any fun a=>keyB a ⟨p,m,b,o,s,v⟩)):=hY;rw[←hX,←hY];clear hX hY hL hB HA q0 q1 q2 q3 q4 q5 r0 r1 r2 r3 r4 r5;go_upto_region 6 with fail;have kb0:(0:Int)≤(k:Int):=by omega
   have kb1:(k:Int)<(n:Int):=by omega
   go_cut [35] from 12 to 42 (fun c w'=>c=.bool (keyB ⟨p',m',b',o',s',v'⟩ ⟨p,m,b,o,s,v⟩)∧Below wr.heap.size wr w')
   case first =>
    as_aux_lemma =>
     by_cases e1:p'=p
     ·have f1:(p'==p)=true:=by simpa using e1
      by_cases e2:m'=m
      ·have f2:(m'==m)=true:=by simpa using e2
       by_cases e3:b'=b
       ·have f3:(b'==b)=true:=by simpa using e3
        have hky:keyB ⟨p',m',b',o',s',v'⟩ ⟨p,m,b,o,s,v⟩=true:=by rw[key_eq];simp[e1,e2,e3]
        clear e1 e2 e3;refine wp_region_quiet (C:=CI wr w.heap.size p m b o s v g (og+k*6) p' m' b' o' s' v') (by kernel_rfl) (by kernel_rfl) (CI.later (W:=wr) (Below.drew (Below.refl _ _)) HCE.out) ?_;simp only[List.toList_toArray];go_big_quiet_want;refine qv (.slice (some ⟨g,og,none⟩) n cap) ?_ ?_
        ·rintro w' ⟨z0,⟨z1,z2,z3,z4,z5,z6⟩,y1,y2,y3,y4,y5,y6⟩;go_simp
        simp only[Act.put,AP];go_big_quiet_on;go_big_quiet_want;refine qv (.int .i64 (k:Int)) ?_ ?_
        ·rintro w' ⟨z0,⟨z1,z2,z3,z4,z5,z6⟩,y1,y2,y3,y4,y5,y6⟩;go_simp
        simp only[Act.put,AP];go_big_quiet_on;go_big_quiet_want;refine qv (.pointer (some ⟨g,og+k*6,none⟩)) ?_ ?_
        ·rintro w' ⟨z0,⟨z1,z2,z3,z4,z5,z6⟩,y1,y2,y3,y4,y5,y6⟩;go_simp
        simp only[Act.put,AP];go_big_quiet_on;go_big_quiet_want;refine qv (.pointer (some ⟨g,og+k*6,none⟩)) ?_ ?_
        ·rintro w' ⟨z0,⟨z1,z2,z3,z4,z5,z6⟩,y1,y2,y3,y4,y5,y6⟩;go_simp
        simp only[Act.put,AP];go_big_quiet_on;go_big_quiet_want;refine qv (.int .i64 p') ?_ ?_
        ·rintro w' ⟨z0,⟨z1,z2,z3,z4,z5,z6⟩,y1,y2,y3,y4,y5,y6⟩;go_simp
        simp only[Act.put,AP];go_big_quiet_on;go_big_quiet_want;refine qv (.pointer (some ⟨w.heap.size,0,none⟩)) ?_ ?_
        ·rintro w' ⟨z0,⟨z1,z2,z3,z4,z5,z6⟩,y1,y2,y3,y4,y5,y6⟩;go_simp
        simp only[Act.put,AP];go_big_quiet_on;go_big_quiet_want;refine qv (.int .i64 p) ?_ ?_
        ·rintro w' ⟨z0,⟨z1,z2,z3,z4,z5,z6⟩,y1,y2,y3,y4,y5,y6⟩;go_simp
        simp only[Act.put,AP];go_big_quiet_on;go_big_quiet_want;refine qv (.bool true) ?_ ?_
        ·rintro w' ⟨z0,⟨z1,z2,z3,z4,z5,z6⟩,y1,y2,y3,y4,y5,y6⟩;go_simp
        simp only[Act.put,AP];go_big_quiet_on;go_big_quiet_want;refine qv (.bool true) ?_ ?_
        ·rintro w' ⟨z0,⟨z1,z2,z3,z4,z5,z6⟩,y1,y2,y3,y4,y5,y6⟩;go_simp
        simp only[Act.put,AP];go_big_quiet_on;go_big_quiet_want;refine qv (.slice (some ⟨g,og,none⟩) n cap) ?_ ?_
        ·rintro w' ⟨z0,⟨z1,z2,z3,z4,z5,z6⟩,y1,y2,y3,y4,y5,y6⟩;go_simp
        simp only[Act.put,AP];go_big_quiet_on;go_big_quiet_want;refine qv (.int .i64 (k:Int)) ?_ ?_
        ·rintro w' ⟨z0,⟨z1,z2,z3,z4,z5,z6⟩,y1,y2,y3,y4,y5,y6⟩;go_simp
        simp only[Act.put,AP];go_big_quiet_on;go_big_quiet_want;refine qv (.pointer (some ⟨g,og+k*6,none⟩)) ?_ ?_
        ·rintro w' ⟨z0,⟨z1,z2,z3,z4,z5,z6⟩,y1,y2,y3,y4,y5,y6⟩;go_simp
        simp only[Act.put,AP];go_big_quiet_on;go_big_quiet_want;refine qv (.pointer (some ⟨g,og+k*6+1,none⟩)) ?_ ?_
        ·rintro w' ⟨z0,⟨z1,z2,z3,z4,z5,z6⟩,y1,y2,y3,y4,y5,y6⟩;go_simp
        simp only[Act.put,AP];go_big_quiet_on;go_big_quiet_want;refine qv (.agg #[.int .i64 m',.int .i64 b']) ?_ ?_
        ·rintro w' ⟨z0,⟨z1,z2,z3,z4,z5,z6⟩,y1,y2,y3,y4,y5,y6⟩;go_simp
        simp only[Act.put,AP];go_big_quiet_on;go_big_quiet_want;refine qv (.pointer (some ⟨w.heap.size,1,none⟩)) ?_ ?_
        ·rintro w' ⟨z0,⟨z1,z2,z3,z4,z5,z6⟩,y1,y2,y3,y4,y5,y6⟩;go_simp
        simp only[Act.put,AP];go_big_quiet_on;go_big_quiet_want;refine qv (.agg #[.int .i64 m,.int .i64 b]) ?_ ?_
        ·rintro w' ⟨z0,⟨z1,z2,z3,z4,z5,z6⟩,y1,y2,y3,y4,y5,y6⟩;go_simp
        simp only[Act.put,AP];go_big_quiet_on;go_big_quiet_want;refine qv (.bool true) ?_ ?_
        ·rintro w' ⟨z0,⟨z1,z2,z3,z4,z5,z6⟩,y1,y2,y3,y4,y5,y6⟩;go_simp
        simp only[Act.put,AP];go_big_quiet_on;go_big_quiet_want;refine qv (.bool true) ?_ ?_
        ·rintro w' ⟨z0,⟨z1,z2,z3,z4,z5,z6⟩,y1,y2,y3,y4,y5,y6⟩;go_simp
        simp only[Act.put,AP];go_big_quiet_on;refine wpQuiet_nil ?_;intro w' hC
        go_wp2_with fail
        go_meet
        case rel=>exact⟨by rw[hky],hC.1⟩
       have f3:(b'==b)=false:=by simpa using e3
       have hky:keyB ⟨p',m',b',o',s',v'⟩ ⟨p,m,b,o,s,v⟩=false:=by rw[key_eq];simp[e1,e2,e3]
       clear e1 e2 e3;refine wp_region_quiet (C:=CI wr w.heap.size p m b o s v g (og+k*6) p' m' b' o' s' v') (by kernel_rfl) (by kernel_rfl) (CI.later (W:=wr) (Below.drew (Below.refl _ _)) HCE.out) ?_;simp only[List.toList_toArray];go_big_quiet_want;refine qv (.slice (some ⟨g,og,none⟩) n cap) ?_ ?_
       ·rintro w' ⟨z0,⟨z1,z2,z3,z4,z5,z6⟩,y1,y2,y3,y4,y5,y6⟩;go_simp
       simp only[Act.put,AP];go_big_quiet_on;go_big_quiet_want;refine qv (.int .i64 (k:Int)) ?_ ?_
       ·rintro w' ⟨z0,⟨z1,z2,z3,z4,z5,z6⟩,y1,y2,y3,y4,y5,y6⟩;go_simp
       simp only[Act.put,AP];go_big_quiet_on;go_big_quiet_want;refine qv (.pointer (some ⟨g,og+k*6,none⟩)) ?_ ?_
       ·rintro w' ⟨z0,⟨z1,z2,z3,z4,z5,z6⟩,y1,y2,y3,y4,y5,y6⟩;go_simp
       simp only[Act.put,AP];go_big_quiet_on;go_big_quiet_want;refine qv (.pointer (some ⟨g,og+k*6,none⟩)) ?_ ?_
       ·rintro w' ⟨z0,⟨z1,z2,z3,z4,z5,z6⟩,y1,y2,y3,y4,y5,y6⟩;go_simp
       simp only[Act.put,AP];go_big_quiet_on;go_big_quiet_want;refine qv (.int .i64 p') ?_ ?_
       ·rintro w' ⟨z0,⟨z1,z2,z3,z4,z5,z6⟩,y1,y2,y3,y4,y5,y6⟩;go_simp
       simp only[Act.put,AP];go_big_quiet_on;go_big_quiet_want;refine qv (.pointer (some ⟨w.heap.size,0,none⟩)) ?_ ?_
       ·rintro w' ⟨z0,⟨z1,z2,z3,z4,z5,z6⟩,y1,y2,y3,y4,y5,y6⟩;go_simp
       simp only[Act.put,AP];go_big_quiet_on;go_big_quiet_want;refine qv (.int .i64 p) ?_ ?_
       ·rintro w' ⟨z0,⟨z1,z2,z3,z4,z5,z6⟩,y1,y2,y3,y4,y5,y6⟩;go_simp
       simp only[Act.put,AP];go_big_quiet_on;go_big_quiet_want;refine qv (.bool true) ?_ ?_
       ·rintro w' ⟨z0,⟨z1,z2,z3,z4,z5,z6⟩,y1,y2,y3,y4,y5,y6⟩;go_simp
       simp only[Act.put,AP];go_big_quiet_on;go_big_quiet_want;refine qv (.bool true) ?_ ?_
       ·rintro w' ⟨z0,⟨z1,z2,z3,z4,z5,z6⟩,y1,y2,y3,y4,y5,y6⟩;go_simp
       simp only[Act.put,AP];go_big_quiet_on;go_big_quiet_want;refine qv (.slice (some ⟨g,og,none⟩) n cap) ?_ ?_
       ·rintro w' ⟨z0,⟨z1,z2,z3,z4,z5,z6⟩,y1,y2,y3,y4,y5,y6⟩;go_simp
       simp only[Act.put,AP];go_big_quiet_on;go_big_quiet_want;refine qv (.int .i64 (k:Int)) ?_ ?_
       ·rintro w' ⟨z0,⟨z1,z2,z3,z4,z5,z6⟩,y1,y2,y3,y4,y5,y6⟩;go_simp
       simp only[Act.put,AP];go_big_quiet_on;go_big_quiet_want;refine qv (.pointer (some ⟨g,og+k*6,none⟩)) ?_ ?_
       ·rintro w' ⟨z0,⟨z1,z2,z3,z4,z5,z6⟩,y1,y2,y3,y4,y5,y6⟩;go_simp
       simp only[Act.put,AP];go_big_quiet_on;go_big_quiet_want;refine qv (.pointer (some ⟨g,og+k*6+1,none⟩)) ?_ ?_
       ·rintro w' ⟨z0,⟨z1,z2,z3,z4,z5,z6⟩,y1,y2,y3,y4,y5,y6⟩;go_simp
       simp only[Act.put,AP];go_big_quiet_on;go_big_quiet_want;refine qv (.agg #[.int .i64 m',.int .i64 b']) ?_ ?_
       ·rintro w' ⟨z0,⟨z1,z2,z3,z4,z5,z6⟩,y1,y2,y3,y4,y5,y6⟩;go_simp
       simp only[Act.put,AP];go_big_quiet_on;go_big_quiet_want;refine qv (.pointer (some ⟨w.heap.size,1,none⟩)) ?_ ?_
       ·rintro w' ⟨z0,⟨z1,z2,z3,z4,z5,z6⟩,y1,y2,y3,y4,y5,y6⟩;go_simp
       simp only[Act.put,AP];go_big_quiet_on;go_big_quiet_want;refine qv (.agg #[.int .i64 m,.int .i64 b]) ?_ ?_
       ·rintro w' ⟨z0,⟨z1,z2,z3,z4,z5,z6⟩,y1,y2,y3,y4,y5,y6⟩;go_simp
       simp only[Act.put,AP];go_big_quiet_on;go_big_quiet_want;refine qv (.bool false) ?_ ?_
       ·rintro w' ⟨z0,⟨z1,z2,z3,z4,z5,z6⟩,y1,y2,y3,y4,y5,y6⟩;go_simp
       simp only[Act.put,AP];go_big_quiet_on;go_big_quiet_want;refine qv (.bool false) ?_ ?_
       ·rintro w' ⟨z0,⟨z1,z2,z3,z4,z5,z6⟩,y1,y2,y3,y4,y5,y6⟩;go_simp
       simp only[Act.put,AP];go_big_quiet_on;refine wpQuiet_nil ?_;intro w' hC
       go_wp2_with fail
       go_meet
       case rel=>exact⟨by rw[hky],hC.1⟩
      have f2:(m'==m)=false:=by simpa using e2
      have hky:keyB ⟨p',m',b',o',s',v'⟩ ⟨p,m,b,o,s,v⟩=false:=by rw[key_eq];simp[e1,e2]
      clear e1 e2;refine wp_region_quiet (C:=CI wr w.heap.size p m b o s v g (og+k*6) p' m' b' o' s' v') (by kernel_rfl) (by kernel_rfl) (CI.later (W:=wr) (Below.drew (Below.refl _ _)) HCE.out) ?_;simp only[List.toList_toArray];go_big_quiet_want;refine qv (.slice (some ⟨g,og,none⟩) n cap) ?_ ?_
      ·rintro w' ⟨z0,⟨z1,z2,z3,z4,z5,z6⟩,y1,y2,y3,y4,y5,y6⟩;go_simp
      simp only[Act.put,AP];go_big_quiet_on;go_big_quiet_want;refine qv (.int .i64 (k:Int)) ?_ ?_
      ·rintro w' ⟨z0,⟨z1,z2,z3,z4,z5,z6⟩,y1,y2,y3,y4,y5,y6⟩;go_simp
      simp only[Act.put,AP];go_big_quiet_on;go_big_quiet_want;refine qv (.pointer (some ⟨g,og+k*6,none⟩)) ?_ ?_
      ·rintro w' ⟨z0,⟨z1,z2,z3,z4,z5,z6⟩,y1,y2,y3,y4,y5,y6⟩;go_simp
      simp only[Act.put,AP];go_big_quiet_on;go_big_quiet_want;refine qv (.pointer (some ⟨g,og+k*6,none⟩)) ?_ ?_
      ·rintro w' ⟨z0,⟨z1,z2,z3,z4,z5,z6⟩,y1,y2,y3,y4,y5,y6⟩;go_simp
      simp only[Act.put,AP];go_big_quiet_on;go_big_quiet_want;refine qv (.int .i64 p') ?_ ?_
      ·rintro w' ⟨z0,⟨z1,z2,z3,z4,z5,z6⟩,y1,y2,y3,y4,y5,y6⟩;go_simp
      simp only[Act.put,AP];go_big_quiet_on;go_big_quiet_want;refine qv (.pointer (some ⟨w.heap.size,0,none⟩)) ?_ ?_
      ·rintro w' ⟨z0,⟨z1,z2,z3,z4,z5,z6⟩,y1,y2,y3,y4,y5,y6⟩;go_simp
      simp only[Act.put,AP];go_big_quiet_on;go_big_quiet_want;refine qv (.int .i64 p) ?_ ?_
      ·rintro w' ⟨z0,⟨z1,z2,z3,z4,z5,z6⟩,y1,y2,y3,y4,y5,y6⟩;go_simp
      simp only[Act.put,AP];go_big_quiet_on;go_big_quiet_want;refine qv (.bool true) ?_ ?_
      ·rintro w' ⟨z0,⟨z1,z2,z3,z4,z5,z6⟩,y1,y2,y3,y4,y5,y6⟩;go_simp
      simp only[Act.put,AP];go_big_quiet_on;go_big_quiet_want;refine qv (.bool true) ?_ ?_
      ·rintro w' ⟨z0,⟨z1,z2,z3,z4,z5,z6⟩,y1,y2,y3,y4,y5,y6⟩;go_simp
      simp only[Act.put,AP];go_big_quiet_on;go_big_quiet_want;refine qv (.slice (some ⟨g,og,none⟩) n cap) ?_ ?_
      ·rintro w' ⟨z0,⟨z1,z2,z3,z4,z5,z6⟩,y1,y2,y3,y4,y5,y6⟩;go_simp
      simp only[Act.put,AP];go_big_quiet_on;go_big_quiet_want;refine qv (.int .i64 (k:Int)) ?_ ?_
      ·rintro w' ⟨z0,⟨z1,z2,z3,z4,z5,z6⟩,y1,y2,y3,y4,y5,y6⟩;go_simp
      simp only[Act.put,AP];go_big_quiet_on;go_big_quiet_want;refine qv (.pointer (some ⟨g,og+k*6,none⟩)) ?_ ?_
      ·rintro w' ⟨z0,⟨z1,z2,z3,z4,z5,z6⟩,y1,y2,y3,y4,y5,y6⟩;go_simp
      simp only[Act.put,AP];go_big_quiet_on;go_big_quiet_want;refine qv (.pointer (some ⟨g,og+k*6+1,none⟩)) ?_ ?_
      ·rintro w' ⟨z0,⟨z1,z2,z3,z4,z5,z6⟩,y1,y2,y3,y4,y5,y6⟩;go_simp
      simp only[Act.put,AP];go_big_quiet_on;go_big_quiet_want;refine qv (.agg #[.int .i64 m',.int .i64 b']) ?_ ?_
      ·rintro w' ⟨z0,⟨z1,z2,z3,z4,z5,z6⟩,y1,y2,y3,y4,y5,y6⟩;go_simp
      simp only[Act.put,AP];go_big_quiet_on;go_big_quiet_want;refine qv (.pointer (some ⟨w.heap.size,1,none⟩)) ?_ ?_
      ·rintro w' ⟨z0,⟨z1,z2,z3,z4,z5,z6⟩,y1,y2,y3,y4,y5,y6⟩;go_simp
      simp only[Act.put,AP];go_big_quiet_on;go_big_quiet_want;refine qv (.agg #[.int .i64 m,.int .i64 b]) ?_ ?_
      ·rintro w' ⟨z0,⟨z1,z2,z3,z4,z5,z6⟩,y1,y2,y3,y4,y5,y6⟩;go_simp
      simp only[Act.put,AP];go_big_quiet_on;go_big_quiet_want;refine qv (.bool false) ?_ ?_
      ·rintro w' ⟨z0,⟨z1,z2,z3,z4,z5,z6⟩,y1,y2,y3,y4,y5,y6⟩;go_simp
      simp only[Act.put,AP];go_big_quiet_on;go_big_quiet_want;refine qv (.bool false) ?_ ?_
      ·rintro w' ⟨z0,⟨z1,z2,z3,z4,z5,z6⟩,y1,y2,y3,y4,y5,y6⟩;go_simp
      simp only[Act.put,AP];go_big_quiet_on;refine wpQuiet_nil ?_;intro w' hC
      go_wp2_with fail
      go_meet
      case rel=>exact⟨by rw[hky],hC.1⟩
     have f1:(p'==p)=false:=by simpa using e1
     have hky:keyB ⟨p',m',b',o',s',v'⟩ ⟨p,m,b,o,s,v⟩=false:=by rw[key_eq];simp[e1]
     clear e1;refine wp_region_quiet (C:=CI wr w.heap.size p m b o s v g (og+k*6) p' m' b' o' s' v') (by kernel_rfl) (by kernel_rfl) (CI.later (W:=wr) (Below.drew (Below.refl _ _)) HCE.out) ?_;simp only[List.toList_toArray];go_big_quiet_want;refine qv (.slice (some ⟨g,og,none⟩) n cap) ?_ ?_
     ·rintro w' ⟨z0,⟨z1,z2,z3,z4,z5,z6⟩,y1,y2,y3,y4,y5,y6⟩;go_simp
     simp only[Act.put,AP];go_big_quiet_on;go_big_quiet_want;refine qv (.int .i64 (k:Int)) ?_ ?_
     ·rintro w' ⟨z0,⟨z1,z2,z3,z4,z5,z6⟩,y1,y2,y3,y4,y5,y6⟩;go_simp
     simp only[Act.put,AP];go_big_quiet_on;go_big_quiet_want;refine qv (.pointer (some ⟨g,og+k*6,none⟩)) ?_ ?_
     ·rintro w' ⟨z0,⟨z1,z2,z3,z4,z5,z6⟩,y1,y2,y3,y4,y5,y6⟩;go_simp
     simp only[Act.put,AP];go_big_quiet_on;go_big_quiet_want;refine qv (.pointer (some ⟨g,og+k*6,none⟩)) ?_ ?_
     ·rintro w' ⟨z0,⟨z1,z2,z3,z4,z5,z6⟩,y1,y2,y3,y4,y5,y6⟩;go_simp
     simp only[Act.put,AP];go_big_quiet_on;go_big_quiet_want;refine qv (.int .i64 p') ?_ ?_
     ·rintro w' ⟨z0,⟨z1,z2,z3,z4,z5,z6⟩,y1,y2,y3,y4,y5,y6⟩;go_simp
     simp only[Act.put,AP];go_big_quiet_on;go_big_quiet_want;refine qv (.pointer (some ⟨w.heap.size,0,none⟩)) ?_ ?_
     ·rintro w' ⟨z0,⟨z1,z2,z3,z4,z5,z6⟩,y1,y2,y3,y4,y5,y6⟩;go_simp
     simp only[Act.put,AP];go_big_quiet_on;go_big_quiet_want;refine qv (.int .i64 p) ?_ ?_
     ·rintro w' ⟨z0,⟨z1,z2,z3,z4,z5,z6⟩,y1,y2,y3,y4,y5,y6⟩;go_simp
     simp only[Act.put,AP];go_big_quiet_on;go_big_quiet_want;refine qv (.bool false) ?_ ?_
     ·rintro w' ⟨z0,⟨z1,z2,z3,z4,z5,z6⟩,y1,y2,y3,y4,y5,y6⟩;go_simp
     simp only[Act.put,AP];go_big_quiet_on;go_big_quiet_want;refine qv (.bool false) ?_ ?_
     ·rintro w' ⟨z0,⟨z1,z2,z3,z4,z5,z6⟩,y1,y2,y3,y4,y5,y6⟩;go_simp
     simp only[Act.put,AP];go_big_quiet_on;go_big_quiet_skip;go_big_quiet_skip;go_big_quiet_skip;go_big_quiet_skip;go_big_quiet_skip;go_big_quiet_skip;go_big_quiet_skip;go_big_quiet_skip;go_big_quiet_want;refine qv (.bool false) ?_ ?_
     ·rintro w' ⟨z0,⟨z1,z2,z3,z4,z5,z6⟩,y1,y2,y3,y4,y5,y6⟩;go_simp
     simp only[Act.put,AP];go_big_quiet_on;refine wpQuiet_nil ?_;intro w' hC
     go_wp2_with fail
     go_meet
     case rel=>exact⟨by rw[hky],hC.1⟩
   case rest =>
    obtain⟨rfl,hB2⟩:=hcut;have HBk:Hid (Below wr.heap.size wr wc):=hB2;have HB2:Hid (Below w.heap.size w wc):=HB.out.trans (hB2.mono HB.out.size);have HC2:Hid (C6 wc w.heap.size 0 ⟨p,m,b,o,s,v⟩):=HC.out.later hB2;have HCE2:Hid (CI wr w.heap.size p m b o s v g (og+k*6) p' m' b' o' s' v' wc):=CI.later hB2 HCE.out;clear hB2 HCE;cases hky:keyB ⟨p',m',b',o',s',v'⟩ ⟨p,m,b,o,s,v⟩
    ·go_wp2;go_roundw
     case rel=>exact⟨k+1,by omega,by go_num,by rw[HX.out,at_no hkl HL.out (key_of_eq hky)],by rw[HY.out,any_step hkl HL.out,hky,Bool.or_false],HB2.out,HC2.out⟩
     case measure=>simp[intOf];omega
    go_upto_region 8 with fail
    go_cut [41] from 12 to 42 (fun c w'=>c=.bool (eqR ⟨p',m',b',o',s',v'⟩ ⟨p,m,b,o,s,v⟩)∧Below wr.heap.size wr w')
    case first =>
     as_aux_lemma =>
      refine wp_region_quiet (C:=CI wr w.heap.size p m b o s v g (og+k*6) p' m' b' o' s' v') (by kernel_rfl) (by kernel_rfl) (CI.later (W:=wc) (Below.drew (Below.refl _ _)) HCE2.out) ?_;simp only[List.toList_toArray];go_big_quiet_want;refine qv (.slice (some ⟨g,og,none⟩) n cap) ?_ ?_
      ·rintro w' ⟨z0,⟨z1,z2,z3,z4,z5,z6⟩,y1,y2,y3,y4,y5,y6⟩;go_simp
      simp only[Act.put,AP];go_big_quiet_on;go_big_quiet_want;refine qv (.int .i64 (k:Int)) ?_ ?_
      ·rintro w' ⟨z0,⟨z1,z2,z3,z4,z5,z6⟩,y1,y2,y3,y4,y5,y6⟩;go_simp
      simp only[Act.put,AP];go_big_quiet_on;go_big_quiet_want;refine qv (.pointer (some ⟨g,og+k*6,none⟩)) ?_ ?_
      ·rintro w' ⟨z0,⟨z1,z2,z3,z4,z5,z6⟩,y1,y2,y3,y4,y5,y6⟩;go_simp
      simp only[Act.put,AP];go_big_quiet_on;go_big_quiet_want;refine qv (.agg #[.int .i64 p',.int .i64 m',.int .i64 b',.int .i64 o',.int .i64 s',.int .i64 v']) ?_ ?_
      ·rintro w' ⟨z0,⟨z1,z2,z3,z4,z5,z6⟩,y1,y2,y3,y4,y5,y6⟩;go_simp
      simp only[Act.put,AP];go_big_quiet_on;go_big_quiet_want;refine qv (.agg #[.int .i64 p,.int .i64 m,.int .i64 b,.int .i64 o,.int .i64 s,.int .i64 v]) ?_ ?_
      ·rintro w' ⟨z0,⟨z1,z2,z3,z4,z5,z6⟩,y1,y2,y3,y4,y5,y6⟩;go_simp
      simp only[Act.put,AP];go_big_quiet_on;go_big_quiet_want;refine quiet_val (v:=.bool (eqR ⟨p',m',b',o',s',v'⟩ ⟨p,m,b,o,s,v⟩)) (fun w' hC=>exec_bin rfl (by go_simp) (run_eqlR p' m' b' o' s' v' p m b o s v w')) ?_;simp only[Act.put,AP];go_big_quiet_on;refine wpQuiet_nil ?_;intro w' hC
      go_wp2_with fail
      go_meet
      case rel=>exact⟨rfl,hC.1⟩
    case rest =>
     obtain⟨rfl,hB3⟩:=hcut;have HB3:Hid (Below w.heap.size w wc):=HB.out.trans (hB3.mono HB.out.size);have HC3:Hid (C6 wc w.heap.size 0 ⟨p,m,b,o,s,v⟩):=HC.out.later hB3;clear hB3 HCE2 HBk HB2 HC2;cases ho:eqR ⟨p',m',b',o',s',v'⟩ ⟨p,m,b,o,s,v⟩
     ·go_wp2;go_roundw
      case rel=>exact⟨k+1,by omega,by go_num,by rw[HX.out,at_no hkl HL.out ho],by rw[any_step hkl HL.out,hky,Bool.or_true],HB3.out,HC3.out⟩
      case measure=>simp[intOf];omega
     go_wp2;go_roundw
     case rel=>exact⟨k+1,by omega,by go_num,by rw[at_yes hkl HL.out H0.out ho],by rw[any_step hkl HL.out,hky,Bool.or_true],HB3.out,HC3.out⟩
     case measure=>simp[intOf];omega
  obtain rfl:k=n:=by omega
  have HS1:Hid (SR wr (.slice ao k cap) L):=HS.out.later' HB.out;obtain⟨X,hX⟩:∃X,X=atTo L ⟨p,m,b,o,s,v⟩ k:=⟨_,rfl⟩;have HX:Hid (X=if inB L ⟨p,m,b,o,s,v⟩ then (ixN L ⟨p,m,b,o,s,v⟩:Int) else -1):=by
   show _=_;rw[hX,←HN.out,at_all]
  have hY:((L.take k).any fun a=>keyB a ⟨p,m,b,o,s,v⟩)=hitB L ⟨p,m,b,o,s,v⟩:=by rw[←HN.out,List.take_length];rfl
  rw[←hX,hY];obtain⟨r0,r1,r2,r3,r4,r5⟩:=hC;simp only[Nat.zero_add] at r0 r1 r2 r3 r4 r5;have hlt0:w.heap.size<wr.heap.size:=World.block_lt_of_cell? _ _ r0;clear hX hY hB hlt;cases a with
  | true =>
    cases hh:hitB L ⟨p,m,b,o,s,v⟩
    ·by_cases h12:12≤k
     ·have HCN:Hid (chN L true ⟨p,m,b,o,s,v⟩=4):=ch_full hh (by rw[HN.out];exact h12);have HCL:Hid (chL L true ⟨p,m,b,o,s,v⟩=[]):=chL_ne (by rw[ch_full hh (by rw[HN.out];exact h12)];decide);clear hh;go_wp2;refine bodyPost_ret (v:=.tuple #[.slice none 0 0,.int .i64 4]) (by simp[results,Tryz.results21,go_sem]) rfl ⟨_,by rw[HCN.out],by rw[HCL.out];exact NR.nil _ _,HB.out⟩
     have HCN:Hid (chN L true ⟨p,m,b,o,s,v⟩=0):=ch_add hh (by rw[HN.out];exact h12);have HCL:Hid (chL L true ⟨p,m,b,o,s,v⟩=L++[⟨p,m,b,o,s,v⟩]):=chL_add (ch_add hh (by rw[HN.out];exact h12));clear hh
     go_wp2_with (at_builtin;refine wpList_append_SR _ rfl _ _ 62 rfl Tryz.underlying62 w.heap.size _ rfl [] (World.ownsRow_nil _ _ _ _) _ rfl _ HS1.out (by simp[HN.out];omega) HB.out.size ?_)
     intro v1 w1 hown1 hg1;have HB1:Hid (Below w.heap.size w w1):=HB.out.grown hg1 HB.out.size (fun g hg=>by cases hg);have hBr:Below wr.heap.size wr w1:=(Below.refl _ _).grown hg1 (Nat.le_refl _) (fun g hg=>by cases hg);have HO1:Hid (w1.ownsRow w.heap.size 66 6 v1 L.length (cellsR L)):=hown1;obtain⟨d0,d1,d2,d3,d4,d5⟩:=HC.out.later hBr;simp only[Nat.zero_add] at d0 d1 d2 d3 d4 d5;have hlt1:w.heap.size<w1.heap.size:=World.block_lt_of_cell? _ _ d0;have hBB:Below w1.heap.size w1 (w1.alloc (Obj.cells #[.int .i64 p,.int .i64 m,.int .i64 b,.int .i64 o,.int .i64 s,.int .i64 v] 66)):=(Below.refl _ _).alloc (Nat.le_refl _) _;have HSO:=sr_one w1 p m b o s v 66;clear hown1 hg1 hBr r0 r1 r2 r3 r4 r5
     go_wp2_with (at_builtin;refine wpList_append_SR _ rfl _ _ 62 rfl Tryz.underlying62 w.heap.size _ rfl L (own_below HO1.out hBB) _ rfl [⟨p,m,b,o,s,v⟩] HSO (by simp[HN.out];omega) (HB1.out.trans (hBB.mono HB1.out.size)).size ?_)
     intro v2 w2 hown2 hg2;have HO2:Hid (NR w2 w.heap.size v2 (L++[⟨p,m,b,o,s,v⟩])):=NR.ofn hown2 (by simp);have HB2:Hid (Below w.heap.size w w2):=(HB1.out.trans (hBB.mono HB1.out.size)).grown hg2 (HB1.out.trans (hBB.mono HB1.out.size)).size (fun g hg=>((own_below HO1.out hBB).lt g hg).1);clear hown2 hg2 hBB HSO d0 d1 d2 d3 d4 d5;go_wp2;refine bodyPost_ret (v:=.tuple #[v2,.int .i64 0]) (by simp[results,Tryz.results21,go_sem]) rfl ⟨_,by rw[HCN.out],by rw[HCL.out];exact HO2.out,HB2.out⟩
    have HCN:Hid (chN L true ⟨p,m,b,o,s,v⟩=7):=ch_hit hh;have HCL:Hid (chL L true ⟨p,m,b,o,s,v⟩=[]):=chL_ne (by rw[ch_hit hh];decide);clear hh;go_wp2;refine bodyPost_ret (v:=.tuple #[.slice none 0 0,.int .i64 7]) (by simp[results,Tryz.results21,go_sem]) rfl ⟨_,by rw[HCN.out],by rw[HCL.out];exact NR.nil _ _,HB.out⟩
  | false =>
    generalize hitB L ⟨p,m,b,o,s,v⟩=Y
    cases hh:inB L ⟨p,m,b,o,s,v⟩
    ·have HCN:Hid (chN L false ⟨p,m,b,o,s,v⟩=5):=ch_none hh;have HCL:Hid (chL L false ⟨p,m,b,o,s,v⟩=[]):=chL_ne (by rw[ch_none hh];decide);obtain rfl:X = -1:=by rw[HX.out,hh];rfl
     clear hh HX;go_wp2;refine bodyPost_ret (v:=.tuple #[.slice none 0 0,.int .i64 5]) (by simp[results,Tryz.results21,go_sem]) rfl ⟨_,by rw[HCN.out],by rw[HCL.out];exact NR.nil _ _,HB.out⟩
    have HCN:Hid (chN L false ⟨p,m,b,o,s,v⟩=0):=ch_take hh;have HCL:Hid (chL L false ⟨p,m,b,o,s,v⟩=L.take (ixN L ⟨p,m,b,o,s,v⟩)++L.drop (ixN L ⟨p,m,b,o,s,v⟩+1)):=chL_take (ch_take hh);obtain rfl:X=(ixN L ⟨p,m,b,o,s,v⟩:Int):=by rw[HX.out,hh,if_pos rfl]
    have hi:ixN L ⟨p,m,b,o,s,v⟩<k:=by
     have:=ix_lt hh;rw[HN.out] at this;exact this
    obtain⟨g,og,hao,hRA,hcm⟩:=HA.out (by omega);subst hao
    generalize ixN L ⟨p,m,b,o,s,v⟩=i at *
    have HRA:Hid (RAt wr g og L):=hRA.later HB.out;have HCM:Hid (cap≤maxLen):=hcm;have hc63:(cap:Int)≤9223372036854775807:=by unfold maxLen at hcm;omega
    clear hh hRA hcm HA HX;have i0:¬((i:Int)<0):=by omega
    have i01:(0:Int)≤(i:Int):=by omega
    have i1:(i:Int)≤(cap:Int):=by omega
    have i2:((i+1:Nat):Int)≤(k:Int):=by omega
    have i21:(0:Int)≤((i+1:Nat):Int):=by omega
    have i3:IntKind.i64.wrap ((i:Int)+1)=((i+1:Nat):Int):=by rw[IntKind.wrap_i64];omega
    have HT1:Hid (SR wr (.slice (some ⟨g,og,none⟩) i cap) (L.take i)):=by
     have e1:(L.take i).length=i:=by rw[List.length_take,HN.out];omega
     exact .inr ⟨g,og,cap,by rw[e1],by rw[e1];omega,HCM.out,HRA.out.take i⟩
    have HL1:Hid ((L.take i).length≤12):=by
     show _≤_;rw[List.length_take];omega
    have HL2:Hid ((L.drop (i+1)).length≤12):=by
     show _≤_;rw[List.length_drop,HN.out];omega
    go_wp2_with (at_builtin;refine wpList_append_SR _ rfl _ _ 62 rfl Tryz.underlying62 w.heap.size _ rfl [] (World.ownsRow_nil _ _ _ _) _ rfl _ HT1.out (by have:=HL1.out;simp at this ⊢;omega) HB.out.size ?_)
    intro v1 w1 hown1 hg1;have HB1:Hid (Below w.heap.size w w1):=HB.out.grown hg1 HB.out.size (fun g hg=>by cases hg);have hBr:Below wr.heap.size wr w1:=(Below.refl _ _).grown hg1 (Nat.le_refl _) (fun g hg=>by cases hg);have HO1:Hid (w1.ownsRow w.heap.size 66 6 v1 (L.take i).length (cellsR (L.take i))):=NR.ofn hown1 (by simp);have HR1:Hid (RAt w1 g og L):=HRA.out.later hBr;clear hown1 hg1 hBr r0 r1 r2 r3 r4 r5;by_cases hcj:cap=i+1
    ·have HT2:Hid (SR w1 (.slice (some ⟨g,og,none⟩) 0 0) (L.drop (i+1))):=.inl ⟨_,_,rfl,List.drop_eq_nil_of_le (by rw[HN.out];omega)⟩;have hkj:k=i+1:=by omega
     generalize hj:i+1=j at i2 i21 i3 hcj hkj HT2 HL2
     subst hcj
     go_wp2_with (at_builtin;refine wpList_append_SR _ rfl _ _ 62 rfl Tryz.underlying62 w.heap.size _ rfl _ HO1.out _ rfl _ HT2.out (by have:=HL1.out;have:=HL2.out;omega) HB1.out.size ?_)
     intro v2 w2 hown2 hg2;have HO2:Hid (NR w2 w.heap.size v2 (L.take i++L.drop (i+1))):=by
      rw[hj];exact NR.ofn hown2 (by simp)
     have HB2:Hid (Below w.heap.size w w2):=HB1.out.grown hg2 HB1.out.size (fun g hg=>(HO1.out.lt g hg).1);clear hown2 hg2;go_wp2;refine bodyPost_ret (v:=.tuple #[v2,.int .i64 0]) (by simp[results,Tryz.results21,go_sem]) rfl ⟨_,by rw[HCN.out],by rw[HCL.out];exact HO2.out,HB2.out⟩
    have HT2:Hid (SR w1 (.slice (some ⟨g,og+(i+1)*6,none⟩) (k-(i+1)) (cap-(i+1))) (L.drop (i+1))):=by
     have e1:(L.drop (i+1)).length=k-(i+1):=by rw[List.length_drop,HN.out]
     exact .inr ⟨g,og+(i+1)*6,cap-(i+1),by rw[e1],by rw[e1];omega,Nat.le_trans (Nat.sub_le _ _) HCM.out,HR1.out.drop (i+1)⟩
    generalize hj:i+1=j at i2 i21 i3 hcj HT2 HL2
    go_wp2_with (at_builtin;refine wpList_append_SR _ rfl _ _ 62 rfl Tryz.underlying62 w.heap.size _ rfl _ HO1.out _ rfl _ HT2.out (by have:=HL1.out;have:=HL2.out;omega) HB1.out.size ?_)
    intro v2 w2 hown2 hg2;have HO2:Hid (NR w2 w.heap.size v2 (L.take i++L.drop (i+1))):=by
     rw[hj];exact NR.ofn hown2 (by simp)
    have HB2:Hid (Below w.heap.size w w2):=HB1.out.grown hg2 HB1.out.size (fun g hg=>(HO1.out.lt g hg).1);clear hown2 hg2;go_wp2;refine bodyPost_ret (v:=.tuple #[v2,.int .i64 0]) (by simp[results,Tryz.results21,go_sem]) rfl ⟨_,by rw[HCN.out],by rw[HCL.out];exact HO2.out,HB2.out⟩
theorem bey_no {A B:List Ru}{k:Nat}{r:Ru}(hk:k<A.length)(hr:A[k]=r)(h:inB B r=true):bey (A.take (k+1)) B=bey (A.take k) B:=by
 rw[List.take_succ_eq_append_getElem hk,hr];simp[bey,h]
theorem bey_yes {A B:List Ru}{k:Nat}{r:Ru}(hk:k<A.length)(hr:A[k]=r)(h:inB B r=false):bey (A.take (k+1)) B=bey (A.take k) B++[r]:=by
 rw[List.take_succ_eq_append_getElem hk,hr];simp[bey,h]
def opsS (s:Int)(a:Bool)(L:List Ru):List Op8:=L.map fun r=>⟨s,a,r⟩
theorem ops_app (s:Int)(a:Bool)(L:List Ru)(r:Ru):opsS s a (L++[r])=opsS s a L++[⟨s,a,r⟩]:=by simp[opsS]
theorem ops_len (s:Int)(a:Bool)(L:List Ru):(opsS s a L).length=L.length:=by simp[opsS]
theorem bey_few (A B:List Ru)(k:Nat):(bey (A.take k) B).length≤A.length:=by
 have h1:(bey (A.take k) B).length≤(A.take k).length:=List.length_filter_le _ _;have h2:=List.length_take_le' k A;omega
theorem refDiff_any (ao:Option Addr)(n cap:Nat)(ao2:Option Addr)(n2 cap2:Nat)(s:Int)(A B:List Ru)(w:World)(hA:SR w (.slice ao n cap) A)(hB:SR w (.slice ao2 n2 cap2) B)(h1:A.length≤12)(h2:B.length≤12):
 Calls Tryz.prog 45 #[.slice ao n cap,.slice ao2 n2 cap2,.int .i64 s] w fun e w'=>∃v,e=.returned v∧NO w' w.heap.size v (opsS s false (bey A B)++opsS s true (bey B A))∧Below w.heap.size w w':=by
 obtain⟨ao',n',cap',e,hn,hn2,hn3,ha⟩:=hA.form;cases e;obtain⟨ao',n',cap',e,hm,hm2,hm3,hb⟩:=hB.form;cases e;have HN:Hid (A.length=n):=hn;have HM:Hid (B.length=n2):=hm;have HA:Hid (0<n→∃g o,ao=some ⟨g,o,none⟩∧RAt w g o A∧cap≤maxLen):=ha;have HA2:Hid (0<n2→∃g o,ao2=some ⟨g,o,none⟩∧RAt w g o B∧cap2≤maxLen):=hb;have HSA:Hid (SR w (.slice ao n cap) A):=hA;have HSB:Hid (SR w (.slice ao2 n2 cap2) B):=hB;have n12:n≤12:=by omega
 have m12:n2≤12:=by omega
 clear hn ha hm hb hA hB hn2 hm2 h1 h2;go_enter Tryz.func45,Tryz.ntmps45;go_wp2
 go_loopw [7,8] (fun x i wr=>∃k:Nat,k≤n∧i=.int .i64 k∧NO wr w.heap.size x (opsS s false (bey (A.take k) B))∧Below w.heap.size w wr) (fun x i _=>n-(intOf i).toNat)
 case atStart=>exact⟨0,by omega,rfl,NO.nil _ _,Below.refl _ _⟩
 case round =>
  obtain⟨k,hk,rfl,hO,hB⟩:=hrel;have HB:Hid (Below w.heap.size w wr):=hB;have HO:Hid (NO wr w.heap.size u7 (opsS s false (bey (A.take k) B))):=hO;clear hO;by_cases hlt:k<n
  ·obtain⟨g,og,hao,hc,_⟩:=HA.out (by omega);subst hao;have HCk:Hid (RAt w g og A):=hc;obtain⟨p,m,b,q,t,v,hkl,hL,q0,q1,q2,q3,q4,q5⟩:=(hc.later hB).at HN.out hlt;have HL:Hid (A[k]=⟨p,m,b,q,t,v⟩):=hL;have hlt0:g<wr.heap.size:=World.block_lt_of_cell? _ _ q0;clear hL hB hc
   go_wp2_with fail
   refine (refIn_any ao2 n2 cap2 p m b q t v B _ (HSB.out.later HB.out)).mono ?_;rintro e w1 ⟨rfl,hb1⟩;have HB1:Hid (Below w.heap.size w w1):=HB.out.trans (hb1.mono HB.out.size);have HO1:Hid (NO w1 w.heap.size u7 (opsS s false (bey (A.take k) B))):=HO.out.later hb1;clear hb1 q0 q1 q2 q3 q4 q5;cases hi:inB B ⟨p,m,b,q,t,v⟩
   ·obtain⟨p',m',b',q',t',v',_,hL2,q0,q1,q2,q3,q4,q5⟩:=(HCk.out.later HB1.out).at HN.out hlt;rw[HL.out] at hL2;simp only[Ru.mk.injEq] at hL2;obtain⟨rfl,rfl,rfl,rfl,rfl,rfl⟩:=hL2;have hBB:Below w1.heap.size w1 (w1.alloc (Obj.cells #[.int .i64 s,.bool false,.int .i64 p,.int .i64 m,.int .i64 b,.int .i64 q,.int .i64 t,.int .i64 v] 68)):=(Below.refl _ _).alloc (Nat.le_refl _) _;have HRW:=op_row w1 s false p m b q t v 68;have HLN:Hid ((opsS s false (bey (A.take k) B)).length≤12):=by
     have:=bey_few A B k;show _≤_;rw[ops_len];have:=HN.out;omega
    go_wp2_with (at_builtin;refine wpList_append_ops _ rfl _ _ 29 rfl Tryz.underlying29 w.heap.size _ rfl _ (HO1.out.later hBB) _ rfl _ HRW (by have:=HLN.out;simp at this ⊢;omega) (HB1.out.trans (hBB.mono HB1.out.size)).size ?_)
    intro v' w3 hown3 hgrow;have HO3:Hid (NO w3 w.heap.size v' (opsS s false (bey (A.take (k+1)) B))):=by
     show NO _ _ _ _;rw[bey_yes hkl HL.out hi,ops_app];exact hown3
    have HB3:Hid (Below w.heap.size w w3):=(HB1.out.trans (hBB.mono HB1.out.size)).grown hgrow (HB1.out.trans (hBB.mono HB1.out.size)).size (fun g hg=>((HO1.out.later hBB).lt g hg).1);clear hown3 hgrow hBB HRW q0 q1 q2 q3 q4 q5;go_wp2;go_roundw
    case rel=>exact⟨k+1,by omega,by go_num,HO3.out,HB3.out⟩
    case measure=>simp[intOf];omega
   go_wp2;go_roundw
   case rel=>exact⟨k+1,by omega,by go_num,by rw[bey_no hkl HL.out hi];exact HO1.out,HB1.out⟩
   case measure=>simp[intOf];omega
  obtain rfl:k=n:=by omega
  have HO2:Hid (NO wr w.heap.size u7 (opsS s false (bey A B))):=by
   have:=HO.out;rw[←HN.out,List.take_length] at this;exact this
  clear HO hB HA hlt;go_wp2
  go_loopw [7,10] (fun x i w2=>∃j:Nat,j≤n2∧i=.int .i64 j∧NO w2 w.heap.size x (opsS s false (bey A B)++opsS s true (bey (B.take j) A))∧Below w.heap.size w w2) (fun x i _=>n2-(intOf i).toNat)
  case atStart=>exact⟨0,by omega,rfl,by simpa[opsS,bey] using HO2.out,HB.out⟩
  case round =>
   obtain⟨j,hj,rfl,hO,hB⟩:=hrel;clear HB HO2;have HB:Hid (Below w.heap.size w wr):=hB;have HO:Hid (NO wr w.heap.size u7 (opsS s false (bey A B)++opsS s true (bey (B.take j) A))):=hO;clear hO;by_cases hlt:j<n2
   ·obtain⟨g,og,hao,hc,_⟩:=HA2.out (by omega);subst hao;have HCk:Hid (RAt w g og B):=hc;obtain⟨p,m,b,q,t,v,hkl,hL,q0,q1,q2,q3,q4,q5⟩:=(hc.later hB).at HM.out hlt;have HL:Hid (B[j]=⟨p,m,b,q,t,v⟩):=hL;clear hL hB hc
    go_wp2_with fail
    refine (refIn_any ao k cap p m b q t v A _ (HSA.out.later HB.out)).mono ?_;rintro e w1 ⟨rfl,hb1⟩;have HB1:Hid (Below w.heap.size w w1):=HB.out.trans (hb1.mono HB.out.size);have HO1:Hid (NO w1 w.heap.size u7 (opsS s false (bey A B)++opsS s true (bey (B.take j) A))):=HO.out.later hb1;clear hb1 q0 q1 q2 q3 q4 q5;cases hi:inB A ⟨p,m,b,q,t,v⟩
    ·obtain⟨p',m',b',q',t',v',_,hL2,q0,q1,q2,q3,q4,q5⟩:=(HCk.out.later HB1.out).at HM.out hlt;rw[HL.out] at hL2;simp only[Ru.mk.injEq] at hL2;obtain⟨rfl,rfl,rfl,rfl,rfl,rfl⟩:=hL2;have hBB:Below w1.heap.size w1 (w1.alloc (Obj.cells #[.int .i64 s,.bool true,.int .i64 p,.int .i64 m,.int .i64 b,.int .i64 q,.int .i64 t,.int .i64 v] 68)):=(Below.refl _ _).alloc (Nat.le_refl _) _;have HRW:=op_row w1 s true p m b q t v 68;have HLN:Hid ((opsS s false (bey A B)++opsS s true (bey (B.take j) A)).length≤24):=by
      have h1:=bey_few B A j;have h2:(bey A B).length≤A.length:=List.length_filter_le _ _;show _≤_;rw[List.length_append,ops_len,ops_len];have:=HN.out;have:=HM.out;omega
     go_wp2_with (at_builtin;refine wpList_append_ops _ rfl _ _ 29 rfl Tryz.underlying29 w.heap.size _ rfl _ (HO1.out.later hBB) _ rfl _ HRW (by have:=HLN.out;simp at this ⊢;omega) (HB1.out.trans (hBB.mono HB1.out.size)).size ?_)
     intro v' w3 hown3 hgrow;have HO3:Hid (NO w3 w.heap.size v' (opsS s false (bey A B)++opsS s true (bey (B.take (j+1)) A))):=by
      show NO _ _ _ _;rw[bey_yes hkl HL.out hi,ops_app];exact hown3
     have HB3:Hid (Below w.heap.size w w3):=(HB1.out.trans (hBB.mono HB1.out.size)).grown hgrow (HB1.out.trans (hBB.mono HB1.out.size)).size (fun g hg=>((HO1.out.later hBB).lt g hg).1);clear hown3 hgrow hBB HRW q0 q1 q2 q3 q4 q5;go_wp2;go_roundw
     case rel=>exact⟨j+1,by omega,by go_num,HO3.out,HB3.out⟩
     case measure=>simp[intOf];omega
    go_wp2;go_roundw
    case rel=>exact⟨j+1,by omega,by go_num,by rw[bey_no hkl HL.out hi];exact HO1.out,HB1.out⟩
    case measure=>simp[intOf];omega
   obtain rfl:j=n2:=by omega
   have HO2:Hid (NO wr w.heap.size u7 (opsS s false (bey A B)++opsS s true (bey B A))):=by
    have:=HO.out;rw[←HM.out,List.take_length] at this;exact this
   clear HO hB hlt;go_wp2;go_ret;exact⟨_,rfl,HO2.out,HB.out⟩
def WkE (W:World)(v1 v2 v3 u3:Value)(Ls:List ((Int×Int)×(Int×Int)))(Hs:List (ByteArray×(Int×Int)))(As Bs:List (List Ru)):Prop:=GS lnkE W v1 Ls∧GS hstE W v2 Hs∧TS W v3 As∧TS W u3 Bs
theorem WkE.later {W W':World}{v1 v2 v3 u3:Value}{Ls:List ((Int×Int)×(Int×Int))}{Hs:List (ByteArray×(Int×Int))}{As Bs:List (List Ru)}(h:WkE W v1 v2 v3 u3 Ls Hs As Bs)(hb:Below W.heap.size W W'):WkE W' v1 v2 v3 u3 Ls Hs As Bs:=⟨h.1.later hb,h.2.1.later hb,h.2.2.1.later hb,h.2.2.2.later hb⟩
def WkB (W:World)(g:Nat)(S:Int)(v1 v2 v3:Value)(S':Int)(u1 u2 u3 f:Value):Prop:=NeBox W g S v1 v2 v3∧NeBox W (g+1) S' u1 u2 u3∧VAt W (g+1+1) 0 [.int .i64 0,.string ⟨#[]⟩,f]
theorem WkB.later {W W':World}{g:Nat}{S:Int}{v1 v2 v3:Value}{S':Int}{u1 u2 u3 f:Value}(h:WkB W g S v1 v2 v3 S' u1 u2 u3 f)(hb:Below W.heap.size W W'):WkB W' g S v1 v2 v3 S' u1 u2 u3 f:=⟨h.1.later hb,h.2.1.later hb,h.2.2.later hb⟩
theorem wkb_new (w:World)(S:Int)(v1 v2 v3:Value)(S':Int)(u1 u2 u3 f:Value)(t t2:TypeId):WkB (((w.alloc (Obj.cells #[.int .i64 S,v1,v2,v3] t)).alloc (Obj.cells #[.int .i64 S',u1,u2,u3] t)).alloc (Obj.cells #[.int .i64 0,.string ⟨#[]⟩,f] t2)) w.heap.size S v1 v2 v3 S' u1 u2 u3 f∧Below w.heap.size w (((w.alloc (Obj.cells #[.int .i64 S,v1,v2,v3] t)).alloc (Obj.cells #[.int .i64 S',u1,u2,u3] t)).alloc (Obj.cells #[.int .i64 0,.string ⟨#[]⟩,f] t2)):=by
 have hb:∀(W:World) (o:Obj),Below W.heap.size W (W.alloc o):=fun W o=>(Below.refl _ _).alloc (Nat.le_refl _) _
 have h1:=nebox_new w S v1 v2 v3 t;have b1:=hb w (Obj.cells #[.int .i64 S,v1,v2,v3] t);have e1:(w.alloc (Obj.cells #[.int .i64 S,v1,v2,v3] t)).heap.size=w.heap.size+1:=by simp
 generalize w.alloc (Obj.cells #[.int .i64 S,v1,v2,v3] t)=A at h1 b1 e1 ⊢
 have h2:=nebox_new A S' u1 u2 u3 t;have b2:=hb A (Obj.cells #[.int .i64 S',u1,u2,u3] t);have e2:(A.alloc (Obj.cells #[.int .i64 S',u1,u2,u3] t)).heap.size=w.heap.size+1+1:=by simp[e1]
 rw[e1] at h2
 generalize A.alloc (Obj.cells #[.int .i64 S',u1,u2,u3] t)=C at h2 b2 e2 ⊢
 have h3:=vat_new C [.int .i64 0,.string ⟨#[]⟩,f] t2;have b3:=hb C (Obj.cells #[.int .i64 0,.string ⟨#[]⟩,f] t2);rw[e2] at h3;exact⟨⟨(h1.later b2).later b3,h2.later b3,h3⟩,(b1.trans (b2.mono (by omega))).trans (b3.mono (by omega))⟩
theorem walk_any (S S':Int)(ao:Option Addr)(n cap:Nat)(ao2:Option Addr)(n2 cap2:Nat)(ao3:Option Addr)(n3 cap3:Nat)(u1 u2:Value)(bo3:Option Addr)(m3 dap3:Nat)(Ls:List ((Int×Int)×(Int×Int)))(Hs:List (ByteArray×(Int×Int)))(As Bs:List (List Ru))
 (ht:tpN S Ls Hs=0) (hSA:(As.length:Int)=S) (hSB:(Bs.length:Int)=S) (hA:∀k,k<As.length→tbN (As.getD k [])=0) (hB:∀k,k<Bs.length→tbN (Bs.getD k [])=0):
 ∀(N:Nat) (l:List ((Int×Int)×Int)) (met:List Int) (A:List Ft) (w:World) (a4:Option Addr) (n4 c4:Nat) (a5:Option Addr) (n5 c5:Nat) (a6:Option Addr) (n6 c6:Nat),
 WkE w (.slice ao n cap) (.slice ao2 n2 cap2) (.slice ao3 n3 cap3) (.slice bo3 m3 dap3) Ls Hs As Bs→GS hopE w (.slice a4 n4 c4) l→GS inE w (.slice a5 n5 c5) met→FTs w (.slice a6 n6 c6) A→SK a6 n6 c6→l.length+N=25→1≤N→1≤l.length→met.length+N≤25→spB S (laH l).1=true→hdrB (laH l).2=true→GL N A →
 Calls Tryz.prog 22 #[.agg #[.int .i64 S,.slice ao n cap,.slice ao2 n2 cap2,.slice ao3 n3 cap3],.agg #[.int .i64 S',u1,u2,.slice bo3 m3 dap3],.agg #[.int .i64 0,.string ⟨#[]⟩,.slice a4 n4 c4],.slice a5 n5 c5,.slice a6 n6 c6] w fun e w'=>∃a7 n7 c7,e=.returned (.slice a7 n7 c7)∧FTs w' (.slice a7 n7 c7) (wkL Ls Hs As Bs N l met A)∧SK a7 n7 c7∧Below w.heap.size w w':=by
 intro N
 induction N with
 | zero =>
   intro l met A w a4 n4 c4 a5 n5 c5 a6 n6 c6 hE hG hM hF hK hlN hN1 hl1 hmN hsp hhd hGL;omega
 | succ N ih =>
   intro l met A w a4 n4 c4 a5 n5 c5 a6 n6 c6 hE hG hM hF hK hlN hN1 hl1 hmN hsp hhd hGL;obtain⟨hX,hb0⟩:=wkb_new w S (.slice ao n cap) (.slice ao2 n2 cap2) (.slice ao3 n3 cap3) S' u1 u2 (.slice bo3 m3 dap3) (.slice a4 n4 c4) 28 77;have hln:=hG.len;have hn3:As.length=n3:=hE.2.2.1.len;have hm3:Bs.length=m3:=hE.2.2.2.len;obtain⟨_,_,_,e5,_,_,_,hGa⟩:=hG.form;cases e5;obtain⟨g5,o5,hao5,hc5,_⟩:=hGa (by omega);subst hao5;obtain⟨p0,p1,p2,hkl,hLk,_,_,_⟩:=hop_at hc5 hln (show n4-1<n4 by omega);have hla:laH l=((p0,p1),p2):=by
    have e:laH l=l[n4-1]:=by
     unfold laH;rw[hln];simp[List.getD,hkl]
    rw[e,hLk]
   have hsp2:=sp_of hsp;rw[hla] at hsp2;simp only at hsp2;have hn6:=(tp_0 ht).1.2;obtain⟨j,hj⟩:∃j:Nat,p0-1=(j:Int):=⟨(p0-1).toNat,by omega⟩;have hjA:j<n3:=by omega
   have hjB:j<m3:=by omega
   have htA:taT As (laH l).1.1=As.getD j []:=by
    unfold taT;rw[hla];show As.getD (p0-1).toNat []=_;rw[hj,Int.toNat_natCast]
   have htB:taT Bs (laH l).1.1=Bs.getD j []:=by
    unfold taT;rw[hla];show Bs.getD (p0-1).toNat []=_;rw[hj,Int.toNat_natCast]
   have hg5:g5<w.heap.size:=World.block_lt_of_cell? _ _ (by assumption:w.cell? ⟨g5,_,none⟩=some (.int .i64 p0));obtain⟨w0,hw0⟩:∃W,((w.alloc (Obj.cells #[.int .i64 S,.slice ao n cap,.slice ao2 n2 cap2,.slice ao3 n3 cap3] 28)).alloc (Obj.cells #[.int .i64 S',u1,u2,.slice bo3 m3 dap3] 28)).alloc (Obj.cells #[.int .i64 0,.string ⟨#[]⟩,.slice (some ⟨g5,o5,none⟩) n4 c4] 77)=W:=⟨_,rfl⟩;rw[hw0] at hX hb0;have HW0:Hid (((w.alloc (Obj.cells #[.int .i64 S,.slice ao n cap,.slice ao2 n2 cap2,.slice ao3 n3 cap3] 28)).alloc (Obj.cells #[.int .i64 S',u1,u2,.slice bo3 m3 dap3] 28)).alloc (Obj.cells #[.int .i64 0,.string ⟨#[]⟩,.slice (some ⟨g5,o5,none⟩) n4 c4] 77)=w0):=hw0;have HB0:Hid (Below w.heap.size w w0):=hb0;have HK:Hid (∀W,Below w0.heap.size w0 W→WkB W w.heap.size S (.slice ao n cap) (.slice ao2 n2 cap2) (.slice ao3 n3 cap3) S' u1 u2 (.slice bo3 m3 dap3) (.slice (some ⟨g5,o5,none⟩) n4 c4)∧WkE W (.slice ao n cap) (.slice ao2 n2 cap2) (.slice ao3 n3 cap3) (.slice bo3 m3 dap3) Ls Hs As Bs∧GS hopE W (.slice (some ⟨g5,o5,none⟩) n4 c4) l∧GS inE W (.slice a5 n5 c5) met):=fun W hb=>⟨hX.later hb,(hE.later hb0).later hb,(hG.later hb0).later hb,(hM.later hb0).later hb⟩
   have HF0:Hid (FTs w0 (.slice a6 n6 c6) A):=hF.later hb0;have HSK:Hid (SK a6 n6 c6):=hK;have HLN:Hid (l.length+(N+1)=25∧l.length=n4∧met.length+(N+1)≤25):=⟨hlN,hln,hmN⟩;have HTP:Hid (tpN S Ls Hs=0):=ht;have HIH:Hid _:=ih;have HHD:Hid (hdrB (laH l).2=true):=hhd;have HGL:Hid (GL (N+1) A):=hGL;have HLA:Hid (laH l=((p0,p1),p2)):=hla;have HTA:Hid (taT As (laH l).1.1=As.getD j []∧tbN (taT As (laH l).1.1)=0):=⟨htA,by rw[htA];exact hA j (by omega)⟩;have HTB:Hid (taT Bs (laH l).1.1=Bs.getD j []∧tbN (taT Bs (laH l).1.1)=0):=⟨htB,by rw[htB];exact hB j (by omega)⟩;have HAL:Hid (As.length=n3∧Bs.length=m3):=⟨hn3,hm3⟩;have n4b:0<n4∧n4≤24:=by omega
   obtain⟨n4a,n4z⟩:=n4b;have hpw:IntKind.i64.wrap (p0-1)=(j:Int):=by
    rw[hj];exact wrap_small (by omega) (by omega)
   have hmi:IntKind.i64.wrap ((n4:Int)-1)=((n4-1:Nat):Int):=by
    rw[show (n4:Int)-1=((n4-1:Nat):Int) by omega];exact wrap_small (by omega) (by omega)
   have jb0:(0:Int)≤(j:Int):=by omega
   have jb1:(j:Int)<(n3:Int):=by omega
   have jb2:(j:Int)<(m3:Int):=by omega
   have mb0:(0:Int)≤((n4-1:Nat):Int):=by omega
   have mb1:((n4-1:Nat):Int)<(n4:Int):=by omega
   obtain⟨B,hBB⟩:∃B,B=met.any fun y=>y==p0:=⟨_,rfl⟩
   have HBB:Hid ((met.any fun y=>y==p0)=B):=hBB.symm;obtain⟨CH,hCH⟩:∃C,C=chB As Bs p0:=⟨_,rfl⟩;have HCH:Hid (chB As Bs p0=CH):=hCH.symm;have HMEM:Hid (WkB w0 w.heap.size S (.slice ao n cap) (.slice ao2 n2 cap2) (.slice ao3 n3 cap3) S' u1 u2 (.slice bo3 m3 dap3) (.slice (some ⟨g5,o5,none⟩) n4 c4)∧GS hopE w0 (.slice (some ⟨g5,o5,none⟩) n4 c4) l):=⟨hX,hG.later hb0⟩;clear hE hG hM hF hK hlN hN1 hl1 hmN hsp hhd hGL hX hb0 hw0 hln hn3 hm3 hGa hc5 hkl hLk hla hsp2 hn6 hj htA htB hBB hCH ih ht;clear hSA hSB hA hB;obtain⟨⟨⟨b0,b1,b2,b3⟩,⟨d0,d1,d2,d3⟩,hV⟩,hGw⟩:=HMEM.out;have f0:=hV 0 _ rfl;have f1:=hV 1 _ rfl;have f2:=hV 2 _ rfl;simp only[Nat.zero_add] at f0 f1 f2;obtain⟨_,_,_,e5,_,_,_,hGa⟩:=hGw.form;cases e5;obtain⟨_,_,hao5,hc5,_⟩:=hGa n4a;cases hao5;obtain⟨r0,r1,r2,hkl,hLk,c0,c1,c2⟩:=hop_at hc5 HLN.out.2.1 (show n4-1<n4 by omega);obtain⟨rfl,rfl,rfl⟩:p0=r0∧p1=r1∧p2=r2:=by
    have e:laH l=l[n4-1]:=by
     unfold laH;rw[HLN.out.2.1];simp[List.getD,hkl]
    rw[HLA.out,hLk] at e;simp only[Prod.mk.injEq] at e;exact⟨e.1.1,e.1.2,e.2⟩
   clear hGa hc5 hkl hLk hGw hV HMEM;go_enter Tryz.func22,Tryz.ntmps22;go_upto_region 1 with fail;rw[HW0.out];clear HW0
   go_wp2_with fail
   refine (in_any a5 n5 c5 met p0 _ (HK.out _ (Below.refl _ _)).2.2.2).mono ?_;rintro e w1 ⟨rfl,hw1⟩;rw[hw1];clear hw1 w1;rw[HBB.out]
   go_upto_if 33 with fail
   go_cut [4] from 32 to 56 (fun v w'=>∃a7 n7 c7,v=.slice a7 n7 c7∧FTs w' (.slice a7 n7 c7) (stA Ls Hs As Bs N l met A)∧SK a7 n7 c7∧Below w0.heap.size w0 w')
   case first =>
    cases B with
    | true =>
      have HST:Hid (stA Ls Hs As Bs N l met A=A):=show _=_ by
       unfold stA;rw[HLA.out,HBB.out];simp
      go_wp2_with fail
      go_meet
      case rel=>exact⟨a6,n6,c6,rfl,by rw[HST.out];exact HF0.out,HSK.out,Below.refl _ _⟩
    | false =>
      have HST:Hid (stA Ls Hs As Bs N l met A=stW Ls Hs As Bs N l met A (taT As (laH l).1.1)):=show _=_ by
       unfold stA;rw[HLA.out,HBB.out];simp
      obtain⟨_,_,_,e8,_,_,_,hTa⟩:=(HK.out _ (Below.refl _ _)).2.1.2.2.1.form;cases e8;obtain⟨g3,o3,hao3,hc3,_⟩:=hTa (by omega);subst hao3;obtain⟨at8,nt8,ct8,t0,hs8⟩:=hc3 j (by have:=HAL.out;omega);have HS8:Hid (SR w0 (.slice at8 nt8 ct8) (taT As (laH l).1.1)):=by
       show SR _ _ _;rw[HTA.out.1,getT (by have:=HAL.out;omega)];exact hs8
      obtain⟨G1,O,hGO⟩:∃G1 O,gnF Ls Hs (taT As (laH l).1.1) l=(G1,O):=⟨_,_,rfl⟩;have HGG:Hid (gnF Ls Hs (taT As (laH l).1.1) l=(G1,O)):=hGO;have y3:g3<w0.heap.size:=World.block_lt_of_cell? _ _ t0;have y0:w.heap.size<w0.heap.size:=World.block_lt_of_cell? _ _ b0;have y1:w.heap.size+1<w0.heap.size:=World.block_lt_of_cell? _ _ d0;have y2:w.heap.size+1+1<w0.heap.size:=World.block_lt_of_cell? _ _ f0;have HG5:Hid (∀g o,(some ⟨g5,o5,none⟩:Option Addr)=some ⟨g,o,none⟩→g<w0.heap.size):=fun g o e=>by cases e;omega
      clear hTa hc3 hs8 hGO;have HGO:Hid (∀W,Below w0.heap.size w0 W→Calls Tryz.prog 43 #[.agg #[.int .i64 S,.slice ao n cap,.slice ao2 n2 cap2],.slice at8 nt8 ct8,.agg #[.int .i64 0,.string ⟨#[]⟩,.slice (some ⟨g5,o5,none⟩) n4 c4]] W fun e w'=>∃a8 n8 c8,e=.returned (.tuple #[.agg #[.int .i64 G1.1,.string G1.2.1,.slice a8 n8 c8],.bool O])∧GS hopE w' (.slice a8 n8 c8) G1.2.2∧Below W.heap.size W w'∧(a8=some ⟨g5,o5,none⟩∨∀g o,a8=some ⟨g,o,none⟩→W.heap.size≤g)):=fun W hW=>by
       have h0:=HK.out W ((Below.refl w0.heap.size w0).trans (hW.mono (Below.refl w0.heap.size w0).size));have q:=rgo_any S ao n cap ao2 n2 cap2 at8 nt8 ct8 (some ⟨g5,o5,none⟩) n4 c4 Ls Hs (taT As (laH l).1.1) l W h0.2.1.1 h0.2.1.2.1 (HS8.out.later hW) h0.2.2.1 HTA.out.2 HHD.out n4a n4z;rw[HGG.out] at q;exact q
      go_upto_region 4 with fail
      go_cut [13,14] from 34 to 46 (fun p q w'=>GN G1 O w0 p q w')
      case first =>
       have y5:g5<w0.heap.size:=HG5.out g5 o5 rfl;have HSW:Hid (∀W,Below w0.heap.size w0 W→W.cell? ⟨w.heap.size,0,none⟩=some (.int .i64 S)∧W.cell? ⟨w.heap.size,1,none⟩=some (.slice ao n cap)∧W.cell? ⟨w.heap.size,2,none⟩=some (.slice ao2 n2 cap2)∧W.cell? ⟨w.heap.size,3,none⟩=some (.slice (some ⟨g3,o3,none⟩) n3 cap3)∧W.cell? ⟨g3,o3+j,none⟩=some (.slice at8 nt8 ct8)∧W.cell? ⟨w.heap.size+1+1,0,none⟩=some (.int .i64 0)∧W.cell? ⟨w.heap.size+1+1,1,none⟩=some (.string ⟨#[]⟩)∧W.cell? ⟨w.heap.size+1+1,2,none⟩=some (.slice (some ⟨g5,o5,none⟩) n4 c4)):=fun W hW=>⟨cell_later hW b0,cell_later hW b1,cell_later hW b2,cell_later hW b3,cell_later hW t0,cell_later hW f0,cell_later hW f1,cell_later hW f2⟩
       go_region_held3 (fun W=>W.cell? ⟨w.heap.size,0,none⟩=some (.int .i64 S)∧W.cell? ⟨w.heap.size,1,none⟩=some (.slice ao n cap)∧W.cell? ⟨w.heap.size,2,none⟩=some (.slice ao2 n2 cap2)∧W.cell? ⟨w.heap.size,3,none⟩=some (.slice (some ⟨g3,o3,none⟩) n3 cap3)∧W.cell? ⟨g3,o3+j,none⟩=some (.slice at8 nt8 ct8)∧W.cell? ⟨w.heap.size+1+1,0,none⟩=some (.int .i64 0)∧W.cell? ⟨w.heap.size+1+1,1,none⟩=some (.string ⟨#[]⟩)∧W.cell? ⟨w.heap.size+1+1,2,none⟩=some (.slice (some ⟨g5,o5,none⟩) n4 c4))
        (first | (with_reducible assumption) | (with_reducible exact HSW.out _ (Below.drew (Below.refl _ _))) | (with_reducible exact HSW.out _ ((Below.drew (Below.refl _ _)).alloc (Nat.le_refl _) _)) | (with_reducible exact HSW.out _ ((Below.refl _ _).alloc (Nat.le_refl _) _).drew) | (with_reducible exact HSW.out _ HBV.out) | (with_reducible exact HSW.out _ (HBV.out.alloc HBV.out.size _)) | (with_reducible exact HSW.out _ (below_3 HBV.out _ (Nat.le_refl _) _ _ _)) | (with_reducible exact HSW.out _ (below_3 HBV.out _ HBV.out.size _ _ _)))
        (first
         | (go_at_call 43;refine (HGO.out _ (by first | exact Below.drew (Below.refl _ _) | exact (Below.drew (Below.refl _ _)).alloc (Nat.le_refl _) _)).mono ?_;rintro e w' ⟨a8,n8,c8,rfl,hg8,hb8,hw8⟩;have HBV:Hid (Below w0.heap.size w0 w'):=(by first | exact bdrew hb8 | exact balloc hb8);have HG8:Hid (GS hopE w' (.slice a8 n8 c8) G1.2.2):=hg8;(try (have HN8:Hid (∀g o,a8=some ⟨g,o,none⟩→g≠w0.heap.size):=gn_ne hw8 y5));(try (have hbc:=zf_d hb8;obtain⟨hvz,yf⟩:=hbc;have v0:=hvz 0 _ rfl;have v1:=hvz 1 _ rfl;have v2:=hvz 2 _ rfl;simp only[Nat.zero_add] at v0 v1 v2;have yf0:=yf 0;have yf1:=yf 1;have yf2:=yf 2;clear yf hvz));clear hb8 hg8 hw8))
       all_goals (go_wp2_with fail;go_meet)
       all_goals first
        | (with_reducible exact gn_a HBV.out HG8.out)
        | (with_reducible exact gn_b HBV.out HG8.out HN8.out v0 v1 v2)
        | exact gn_b HBV.out HG8.out HN8.out v0 v1 v2
      case rest =>
       obtain⟨gb,a8,n8,c8,rfl,rfl,q0,q1,q2,hG8,hb8⟩:=hcut;obtain⟨⟨⟨b0,b1,b2,b3⟩,⟨d0,d1,d2,d3⟩,hV⟩,hE8,hH8,hM8⟩:=HK.out wc hb8;have f0:=hV 0 _ rfl;have f1:=hV 1 _ rfl;have f2:=hV 2 _ rfl;simp only[Nat.zero_add] at f0 f1 f2;have HB8:Hid (Below w0.heap.size w0 wc):=hb8;have HG8:Hid (GS hopE wc (.slice a8 n8 c8) G1.2.2):=hG8;have HE8:Hid (WkE wc (.slice ao n cap) (.slice ao2 n2 cap2) (.slice (some ⟨g3,o3,none⟩) n3 cap3) (.slice bo3 m3 dap3) Ls Hs As Bs∧GS inE wc (.slice a5 n5 c5) met):=⟨hE8,hM8⟩;clear hV hE8 hH8 hM8 hG8 hb8 t0 HGO;cases O with
       | true =>
         obtain⟨q,hq,_,hq24,hqs,hqh⟩:=gn_on (Ts:=As) (l:=l) HTP.out (by have:=HLN.out;omega) (by rw[HGG.out]);have hq2:=hq;rw[HGG.out] at hq2;simp only at hq2;subst hq2;have HQ:Hid (stW Ls Hs As Bs N l met A (taT As (laH l).1.1)=wkL Ls Hs As Bs N (l++[q]) met A):=st_on (by rw[HGG.out]) hq;have HQ2:Hid ((l++[q]).length≤24∧spB S q.1=true∧hdrB q.2=true):=⟨hq24,hqs,hqh⟩;clear hq hq24 hqs hqh
         go_wp2_with fail
         refine (HIH.out (l++[q]) met A _ a8 n8 c8 a5 n5 c5 a6 n6 c6 HE8.out.1 HG8.out HE8.out.2 (HF0.out.later HB8.out) HSK.out (by have:=HLN.out;simp;omega) (by have:=HQ2.out.1;have:=HLN.out;simp at *;omega) (by simp) (by have:=HLN.out;omega) (by rw[la_app];exact HQ2.out.2.1) (by rw[la_app];exact HQ2.out.2.2) HGL.out.less).mono ?_;rintro e w2 ⟨a9,n9,c9,rfl,hF9,hS9,hb9⟩;have HR:Hid (FTs w2 (.slice a9 n9 c9) (stA Ls Hs As Bs N l met A)∧SK a9 n9 c9∧Below w0.heap.size w0 w2):=⟨by rw[HST.out,HQ.out];exact hF9,hS9,HB8.out.trans (hb9.mono HB8.out.size)⟩;clear hF9 hS9 hb9 q0 q1 q2 b0 b1 b2 b3 d0 d1 d2 d3 f0 f1 f2
         go_wp2_with fail
         go_meet
         case rel=>exact⟨a9,n9,c9,rfl,HR.out⟩
       | false =>
         have HQ:Hid (stW Ls Hs As Bs N l met A (taT As (laH l).1.1)=puR faL G1 A∧G1.2.2=l):=show _∧_ by
          have h:=st_end (As:=As) (Bs:=Bs) (n:=N) (met:=met) (a:=A) (show (gnF Ls Hs (taT As (laH l).1.1) l).2=false by rw[HGG.out]);rw[HGG.out] at h;exact h
         go_wp2_with fail
         refine (put_any a6 n6 c6 G1 a8 n8 c8 A _ (HF0.out.later HB8.out) HG8.out HGL.out.1 HGL.out.2.1 (by rw[HQ.out.2];have:=HLN.out;omega) (by have:=HGL.out.2.2;have:=Nat.one_le_two_pow (n:=N);omega) HSK.out).mono ?_;rintro e w2 ⟨a9,n9,c9,rfl,hF9,hS9,hb9⟩;have HR:Hid (FTs w2 (.slice a9 n9 c9) (stA Ls Hs As Bs N l met A)∧SK a9 n9 c9∧Below w0.heap.size w0 w2):=⟨by rw[HST.out,HQ.out.1];exact hF9,.inr hS9,HB8.out.trans (hb9.mono HB8.out.size)⟩;clear hF9 hS9 hb9 q0 q1 q2 b0 b1 b2 b3 d0 d1 d2 d3 f0 f1 f2
         go_wp2_with fail
         go_meet
         case rel=>exact⟨a9,n9,c9,rfl,HR.out⟩
   case rest =>
    obtain⟨a7,n7,c7,rfl,hF7,hS7,hb7⟩:=hcut;obtain⟨wz,hwz⟩:∃X,X=wc:=⟨_,rfl⟩;subst hwz;have HB7:Hid (Below w0.heap.size w0 wz):=hb7;have HF7:Hid (FTs wz (.slice a7 n7 c7) (stA Ls Hs As Bs N l met A)):=hF7;have HS7:Hid (SK a7 n7 c7):=hS7;clear hF7 hS7 hb7 b0 b1 b2 b3 d0 d1 d2 d3 f0 f1 f2 c0 c1 c2;go_upto_region 8 with fail
    go_cut [15] from 57 to 72 (fun v w'=>v=.bool CH∧Below wz.heap.size wz w')
    case first =>
     obtain⟨⟨⟨b0,b1,b2,b3⟩,⟨d0,d1,d2,d3⟩,hV⟩,hE8,hH8,hM8⟩:=HK.out wz HB7.out;obtain⟨_,_,_,e8,_,_,_,hTa⟩:=hE8.2.2.1.form;cases e8;obtain⟨gA,oA,hao3,hcA,_⟩:=hTa (by omega);subst hao3;obtain⟨a3,l3,c3,t0,hs3⟩:=hcA j (by have:=HAL.out;omega);obtain⟨_,_,_,e9,_,_,_,hTb⟩:=hE8.2.2.2.form;cases e9;obtain⟨gB,oB,hbo3,hcB,_⟩:=hTb (by omega);subst hbo3;obtain⟨a9,l9,c9,t1,hs9⟩:=hcB j (by have:=HAL.out;omega);have HSA:Hid (SR wz (.slice a3 l3 c3) (taT As (laH l).1.1)):=by
      show SR _ _ _;rw[HTA.out.1,getT (by have:=HAL.out;omega)];exact hs3
     have HSB:Hid (SR wz (.slice a9 l9 c9) (taT Bs (laH l).1.1)):=by
      show SR _ _ _;rw[HTB.out.1,getT (by have:=HAL.out;omega)];exact hs9
     have HDF:Hid (∀W,Below wz.heap.size wz W→Calls Tryz.prog 45 #[.slice a3 l3 c3,.slice a9 l9 c9,.int .i64 p0] W fun e w'=>∃ad nd cd,e=.returned (.slice ad nd cd)∧decide ((0:Int)<(nd:Int))=CH∧Below wz.heap.size wz w'):=fun W hW=>by
      refine (refDiff_any a3 l3 c3 a9 l9 c9 p0 _ _ W (HSA.out.later hW) (HSB.out.later hW) (tb_iff.1 HTA.out.2).1 (tb_iff.1 HTB.out.2).1).mono ?_;rintro e w' ⟨v,e1,e2,e3⟩;obtain⟨ad,nd,cd,rfl,hnd,_⟩:=e2.gs.form;refine⟨ad,nd,cd,e1,?_,hW.trans (e3.mono hW.size)⟩;rw[←HCH.out,←hnd,List.length_append,ops_len,ops_len];unfold chB;rw[HLA.out];simp only[decide_eq_decide];omega
     have HMK:Hid (∀W,Below wz.heap.size wz W→Below wz.heap.size wz W∧W.cell? ⟨w.heap.size,3,none⟩=some (.slice (some ⟨gA,oA,none⟩) n3 cap3)∧W.cell? ⟨w.heap.size+1,3,none⟩=some (.slice (some ⟨gB,oB,none⟩) m3 dap3)∧W.cell? ⟨gA,oA+j,none⟩=some (.slice a3 l3 c3)∧W.cell? ⟨gB,oB+j,none⟩=some (.slice a9 l9 c9)):=fun W hW=>⟨hW,cell_later hW b3,cell_later hW d3,cell_later hW t0,cell_later hW t1⟩
     clear hV hE8 hH8 hM8 hTa hTb hcA hcB hs3 hs9
     go_region_held3 (fun W=>Below wz.heap.size wz W∧W.cell? ⟨w.heap.size,3,none⟩=some (.slice (some ⟨gA,oA,none⟩) n3 cap3)∧W.cell? ⟨w.heap.size+1,3,none⟩=some (.slice (some ⟨gB,oB,none⟩) m3 dap3)∧W.cell? ⟨gA,oA+j,none⟩=some (.slice a3 l3 c3)∧W.cell? ⟨gB,oB+j,none⟩=some (.slice a9 l9 c9))
      (first | assumption | exact HMK.out _ (Below.drew (Below.refl _ _)) | exact HMK.out _ HBX.out)
      (first | (go_at_call 45;refine (HDF.out _ (by first | exact Below.drew (Below.refl _ _) | exact Below.refl _ _)).mono ?_;rintro e w' ⟨ad,nd,cd,rfl,hnd,hb⟩;have HBX:Hid (Below wz.heap.size wz w'):=hb;clear hb))
     all_goals (go_wp2_with fail;go_meet)
     all_goals exact⟨by (have h:=hnd;simp at h ⊢;exact h),HBX.out⟩
    case rest =>
     obtain⟨rfl,hb9⟩:=hcut;have HBZ:Hid (Below w0.heap.size w0 wc):=HB7.out.trans (hb9.mono HB7.out.size);have HFZ:Hid (FTs wc (.slice a7 n7 c7) (stA Ls Hs As Bs N l met A)):=HF7.out.later hb9;clear hb9 HF7 HB7;cases CH with
     | false =>
       have HWK:Hid (wkL Ls Hs As Bs (N+1) l met A=stA Ls Hs As Bs N l met A):=wk_no (by rw[HLA.out];exact HCH.out);go_wp2;go_ret;exact⟨a7,n7,c7,rfl,by rw[HWK.out];exact HFZ.out,HS7.out,HB0.out.trans (HBZ.out.mono HB0.out.size)⟩
     | true =>
       obtain⟨wy,hwy⟩:∃X,X=wc:=⟨_,rfl⟩;subst hwy;obtain⟨i0,hi,hz0,hz1,hz2⟩:=info_parts infoInt;have hml:met.length≤25:=by have:=HLN.out;omega
       have HM5:Hid (met.length=n5):=(HK.out _ HBZ.out).2.2.2.len;go_upto_region 12 with fail
       go_wp2_with (at_builtin;refine wpList_append_GS (E:=inE) _ rfl _ _ 56 3 rfl Tryz.underlying56 i0 (.int .i64 0) 8 hi hz0 hz1 hz2 rfl wy.heap.size (.slice none 0 0) rfl [] (World.ownsRow_nil _ _ _ _) _ rfl met ?a1 ?a2 ?a3 (Nat.le_refl _) ?_)
       case a1=>exact (HK.out _ HBZ.out).2.2.2
       case a2=>unfold maxLen;simp;omega
       case a3=>simp;omega
       intro v1 w1 ho1 hg1
       try rw[List.nil_append] at ho1
       have hb1:Below wy.heap.size wy w1:=(Below.refl _ wy).grown hg1 (Nat.le_refl _) (fun g hg=>by cases hg);obtain⟨a1,c1,hv1⟩:=own_form ho1;subst hv1;obtain⟨nm,hnm⟩:∃q,q=met.length:=⟨_,rfl⟩;rw[←hnm];have HNM:Hid (met.length=nm):=hnm.symm;have HO1:Hid (w1.ownsRow wy.heap.size 3 inE.n (.slice a1 nm c1) met.length (cellsG inE met)):=by
        show World.ownsRow _ _ _ _ _ _ _;rw[hnm];exact ho1
       have HB1:Hid (Below wy.heap.size wy w1):=hb1;clear ho1 hg1 hb1 hnm
       go_upto_if 80 with fail
       go_cut [16] from 79 to 84 (fun v w'=>∃ax nx cx,v=.slice ax nx cx∧GS inE w' (.slice ax nx cx) (met++if B=true then [] else [p0])∧Below wy.heap.size wy w')
       case first =>
        cases B with
        | true =>
          go_wp2_with fail
          go_meet
          case rel=>exact⟨a1,nm,c1,rfl,by simp only[if_true,List.append_nil];exact own_GS HO1.out,HB1.out⟩
        | false =>
          go_wp2_with (at_builtin;refine wpList_append_blk (E:=inE) _ rfl _ _ 56 3 rfl Tryz.underlying56 i0 (.int .i64 0) 8 hi hz0 hz1 hz2 rfl wy.heap.size (.slice a1 nm c1) rfl met ?m0 w1.heap.size 0 1 rfl p0 (vat_new w1 [.int .i64 p0] 3) ?m1 ?m2 ?m3 ?_)
          case m0=>exact HO1.out.alloc _
          case m1=>unfold maxLen;omega
          case m2=>omega
          case m3=>have:=HB1.out.size;simp;omega
          intro v2 w2 ho2 hg2 _;have hb2:Below wy.heap.size w1 w2:=((Below.refl _ w1).alloc HB1.out.size _).grown hg2 (by have:=HB1.out.size;simp;omega) (fun g hg=>(HO1.out.lt g hg).1);have hG2:GS inE w2 v2 (met++[p0]):=own_GS (by simpa using ho2);obtain⟨ax,nx,cx,hv2,_⟩:=hG2.form;subst hv2;have HG2:Hid (GS inE w2 (.slice ax nx cx) (met++[p0])∧Below wy.heap.size wy w2):=⟨hG2,HB1.out.trans hb2⟩;clear hG2 ho2 hg2 hb2
          go_wp2_with fail
          go_meet
          case rel=>exact⟨ax,nx,cx,rfl,HG2.out⟩
       case rest =>
        obtain⟨ax,nx,cx,rfl,hGx,hbx⟩:=hcut;obtain⟨wx,hwx⟩:∃X,X=wc:=⟨_,rfl⟩;subst hwx;have HBX:Hid (Below w0.heap.size w0 wx):=HBZ.out.trans (hbx.mono HBZ.out.size);have HMX:Hid (GS inE wx (.slice ax nx cx) (met++if B=true then [] else [p0])):=hGx;have HFX:Hid (FTs wx (.slice a7 n7 c7) (stA Ls Hs As Bs N l met A)):=HFZ.out.later hbx;clear hGx hbx HO1 HB1 HBZ HFZ;obtain⟨⟨⟨b0,b1,b2,b3⟩,⟨d0,d1,d2,d3⟩,hV⟩,_,_,_⟩:=HK.out wx HBX.out;have f0:=hV 0 _ rfl;have f1:=hV 1 _ rfl;have f2:=hV 2 _ rfl;simp only[Nat.zero_add] at f0 f1 f2;clear hV;obtain⟨_,_,_,e8,_,_,_,hTa⟩:=(HK.out _ HBX.out).2.1.2.2.2.form;cases e8;obtain⟨g3,o3,hao3,hc3,_⟩:=hTa (by omega);subst hao3;obtain⟨at8,nt8,ct8,t0,hs8⟩:=hc3 j (by have:=HAL.out;omega);have HS8:Hid (SR wx (.slice at8 nt8 ct8) (taT Bs (laH l).1.1)):=by
         show SR _ _ _;rw[HTB.out.1,getT (by have:=HAL.out;omega)];exact hs8
        obtain⟨G1,O,hGO⟩:∃G1 O,gnF Ls Hs (taT Bs (laH l).1.1) l=(G1,O):=⟨_,_,rfl⟩;have HGG:Hid (gnF Ls Hs (taT Bs (laH l).1.1) l=(G1,O)):=hGO;have y3:g3<wx.heap.size:=World.block_lt_of_cell? _ _ t0;have y0:w.heap.size<wx.heap.size:=World.block_lt_of_cell? _ _ b0;have y1:w.heap.size+1<wx.heap.size:=World.block_lt_of_cell? _ _ d0;have y2:w.heap.size+1+1<wx.heap.size:=World.block_lt_of_cell? _ _ f0;have HG5:Hid (∀g o,(some ⟨g5,o5,none⟩:Option Addr)=some ⟨g,o,none⟩→g<wx.heap.size):=fun g o e=>by cases e;omega
        clear hTa hc3 hs8 hGO;have HGO:Hid (∀W,Below wx.heap.size wx W→Calls Tryz.prog 43 #[.agg #[.int .i64 S,.slice ao n cap,.slice ao2 n2 cap2],.slice at8 nt8 ct8,.agg #[.int .i64 0,.string ⟨#[]⟩,.slice (some ⟨g5,o5,none⟩) n4 c4]] W fun e w'=>∃a8 n8 c8,e=.returned (.tuple #[.agg #[.int .i64 G1.1,.string G1.2.1,.slice a8 n8 c8],.bool O])∧GS hopE w' (.slice a8 n8 c8) G1.2.2∧Below W.heap.size W w'∧(a8=some ⟨g5,o5,none⟩∨∀g o,a8=some ⟨g,o,none⟩→W.heap.size≤g)):=fun W hW=>by
         have h0:=HK.out W (HBX.out.trans (hW.mono HBX.out.size));have q:=rgo_any S ao n cap ao2 n2 cap2 at8 nt8 ct8 (some ⟨g5,o5,none⟩) n4 c4 Ls Hs (taT Bs (laH l).1.1) l W h0.2.1.1 h0.2.1.2.1 (HS8.out.later hW) h0.2.2.1 HTB.out.2 HHD.out n4a n4z;rw[HGG.out] at q;exact q
        go_upto_region 15 with fail
        go_cut [17,18] from 85 to 97 (fun p q w'=>GN G1 O wx p q w')
        case first =>
         have y5:g5<wx.heap.size:=HG5.out g5 o5 rfl;have HSW:Hid (∀W,Below wx.heap.size wx W→W.cell? ⟨w.heap.size,0,none⟩=some (.int .i64 S)∧W.cell? ⟨w.heap.size,1,none⟩=some (.slice ao n cap)∧W.cell? ⟨w.heap.size,2,none⟩=some (.slice ao2 n2 cap2)∧W.cell? ⟨w.heap.size+1,3,none⟩=some (.slice (some ⟨g3,o3,none⟩) m3 dap3)∧W.cell? ⟨g3,o3+j,none⟩=some (.slice at8 nt8 ct8)∧W.cell? ⟨w.heap.size+1+1,0,none⟩=some (.int .i64 0)∧W.cell? ⟨w.heap.size+1+1,1,none⟩=some (.string ⟨#[]⟩)∧W.cell? ⟨w.heap.size+1+1,2,none⟩=some (.slice (some ⟨g5,o5,none⟩) n4 c4)):=fun W hW=>⟨cell_later hW b0,cell_later hW b1,cell_later hW b2,cell_later hW d3,cell_later hW t0,cell_later hW f0,cell_later hW f1,cell_later hW f2⟩
         go_region_held3 (fun W=>W.cell? ⟨w.heap.size,0,none⟩=some (.int .i64 S)∧W.cell? ⟨w.heap.size,1,none⟩=some (.slice ao n cap)∧W.cell? ⟨w.heap.size,2,none⟩=some (.slice ao2 n2 cap2)∧W.cell? ⟨w.heap.size+1,3,none⟩=some (.slice (some ⟨g3,o3,none⟩) m3 dap3)∧W.cell? ⟨g3,o3+j,none⟩=some (.slice at8 nt8 ct8)∧W.cell? ⟨w.heap.size+1+1,0,none⟩=some (.int .i64 0)∧W.cell? ⟨w.heap.size+1+1,1,none⟩=some (.string ⟨#[]⟩)∧W.cell? ⟨w.heap.size+1+1,2,none⟩=some (.slice (some ⟨g5,o5,none⟩) n4 c4))
          (first | (with_reducible assumption) | (with_reducible exact HSW.out _ (Below.drew (Below.refl _ _))) | (with_reducible exact HSW.out _ ((Below.drew (Below.refl _ _)).alloc (Nat.le_refl _) _)) | (with_reducible exact HSW.out _ ((Below.refl _ _).alloc (Nat.le_refl _) _).drew) | (with_reducible exact HSW.out _ HBV.out) | (with_reducible exact HSW.out _ (HBV.out.alloc HBV.out.size _)) | (with_reducible exact HSW.out _ (below_3 HBV.out _ (Nat.le_refl _) _ _ _)) | (with_reducible exact HSW.out _ (below_3 HBV.out _ HBV.out.size _ _ _)))
          (first
           | (go_at_call 43;refine (HGO.out _ (by first | exact Below.drew (Below.refl _ _) | exact (Below.drew (Below.refl _ _)).alloc (Nat.le_refl _) _)).mono ?_;rintro e w' ⟨a8,n8,c8,rfl,hg8,hb8,hw8⟩;have HBV:Hid (Below wx.heap.size wx w'):=(by first | exact bdrew hb8 | exact balloc hb8);have HG8:Hid (GS hopE w' (.slice a8 n8 c8) G1.2.2):=hg8;(try (have HN8:Hid (∀g o,a8=some ⟨g,o,none⟩→g≠wx.heap.size):=gn_ne hw8 y5));(try (have hbc:=zf_d hb8;obtain⟨hvz,yf⟩:=hbc;have v0:=hvz 0 _ rfl;have v1:=hvz 1 _ rfl;have v2:=hvz 2 _ rfl;simp only[Nat.zero_add] at v0 v1 v2;have yf0:=yf 0;have yf1:=yf 1;have yf2:=yf 2;clear yf hvz));clear hb8 hg8 hw8))
         all_goals (go_wp2_with fail;go_meet)
         all_goals first
          | (with_reducible exact gn_a HBV.out HG8.out)
          | (with_reducible exact gn_b HBV.out HG8.out HN8.out v0 v1 v2)
          | exact gn_b HBV.out HG8.out HN8.out v0 v1 v2
        case rest =>
         obtain⟨gb,a8,n8,c8,rfl,rfl,q0,q1,q2,hG8,hb8⟩:=hcut;have HB8:Hid (Below w0.heap.size w0 wc):=HBX.out.trans (hb8.mono HBX.out.size);have HBY:Hid (Below wx.heap.size wx wc):=hb8;obtain⟨⟨⟨b0,b1,b2,b3⟩,⟨d0,d1,d2,d3⟩,hV⟩,hE8,hH8,hM8⟩:=HK.out wc HB8.out;have HG8:Hid (GS hopE wc (.slice a8 n8 c8) G1.2.2):=hG8;have HE8:Hid (WkE wc (.slice ao n cap) (.slice ao2 n2 cap2) (.slice ao3 n3 cap3) (.slice (some ⟨g3,o3,none⟩) m3 dap3) Ls Hs As Bs):=hE8;have HMR:Hid (GS inE wc (.slice ax nx cx) (met++if B=true then [] else [p0])):=HMX.out.later hb8;have HFR:Hid (FTs wc (.slice a7 n7 c7) (stA Ls Hs As Bs N l met A)):=HFX.out.later hb8;clear hV hE8 hH8 hM8 hG8 hb8 t0 HGO;have HWK:Hid (wkL Ls Hs As Bs (N+1) l met A=stW Ls Hs As Bs N l (met++if B=true then [] else [p0]) (stA Ls Hs As Bs N l met A) (taT Bs (laH l).1.1)):=show _=_ by
          rw[wk_yes (by rw[HLA.out];exact HCH.out)];rw[HLA.out,HBB.out]
         obtain⟨MT,hMT⟩:∃M,M=met++if B=true then [] else [p0]:=⟨_,rfl⟩
         have HML:Hid (MT.length+N≤25):=show _≤_ by
          rw[hMT];have:=HLN.out;cases B <;> simp <;> omega
         rw[←hMT] at HWK HMR;clear hMT;have HGA:Hid (GL N (stA Ls Hs As Bs N l met A)):=HGL.out.sa (by have:=HLN.out;omega);obtain⟨A1,hA1⟩:∃X,X=stA Ls Hs As Bs N l met A:=⟨_,rfl⟩;rw[←hA1] at HGA HWK HFR;clear hA1;cases O with
         | true =>
           obtain⟨q,hq,_,hq24,hqs,hqh⟩:=gn_on (Ts:=Bs) (l:=l) HTP.out (by have:=HLN.out;omega) (by rw[HGG.out]);have hq2:=hq;rw[HGG.out] at hq2;simp only at hq2;subst hq2;have HQ:Hid (stW Ls Hs As Bs N l MT A1 (taT Bs (laH l).1.1)=wkL Ls Hs As Bs N (l++[q]) MT A1):=st_on (by rw[HGG.out]) hq;have HQ2:Hid ((l++[q]).length≤24∧spB S q.1=true∧hdrB q.2=true):=⟨hq24,hqs,hqh⟩;clear hq hq24 hqs hqh
           go_wp2_with fail
           refine (HIH.out (l++[q]) MT A1 _ a8 n8 c8 ax nx cx a7 n7 c7 HE8.out HG8.out HMR.out HFR.out HS7.out (by have:=HLN.out;simp;omega) (by have:=HQ2.out.1;have:=HLN.out;simp at *;omega) (by simp) HML.out (by rw[la_app];exact HQ2.out.2.1) (by rw[la_app];exact HQ2.out.2.2) HGA.out).mono ?_;rintro e w2 ⟨a9,n9,c9,rfl,hF9,hS9,hb9⟩;have HR:Hid (FTs w2 (.slice a9 n9 c9) (wkL Ls Hs As Bs (N+1) l met A)∧SK a9 n9 c9∧Below w.heap.size w w2):=⟨by rw[HWK.out,HQ.out];exact hF9,hS9,HB0.out.trans ((HB8.out.trans (hb9.mono HB8.out.size)).mono HB0.out.size)⟩;clear hF9 hS9 hb9 q0 q1 q2 b0 b1 b2 b3 d0 d1 d2 d3;go_wp2;go_ret;exact⟨a9,n9,c9,rfl,HR.out⟩
         | false =>
           have HQ:Hid (stW Ls Hs As Bs N l MT A1 (taT Bs (laH l).1.1)=puR faL G1 A1∧G1.2.2=l):=show _∧_ by
            have h:=st_end (As:=As) (Bs:=Bs) (n:=N) (met:=MT) (a:=A1) (show (gnF Ls Hs (taT Bs (laH l).1.1) l).2=false by rw[HGG.out]);rw[HGG.out] at h;exact h
           go_wp2_with fail
           refine (put_any a7 n7 c7 G1 a8 n8 c8 A1 _ HFR.out HG8.out HGA.out.1 HGA.out.2.1 (by rw[HQ.out.2];have:=HLN.out;omega) (by have:=HGA.out.2.2;have:=Nat.one_le_two_pow (n:=N);omega) HS7.out).mono ?_;rintro e w2 ⟨a9,n9,c9,rfl,hF9,hS9,hb9⟩;have HR:Hid (FTs w2 (.slice a9 n9 c9) (wkL Ls Hs As Bs (N+1) l met A)∧SK a9 n9 c9∧Below w.heap.size w w2):=⟨by rw[HWK.out,HQ.out.1];exact hF9,.inr hS9,HB0.out.trans ((HB8.out.trans (hb9.mono HB8.out.size)).mono HB0.out.size)⟩;clear hF9 hS9 hb9 q0 q1 q2 b0 b1 b2 b3 d0 d1 d2 d3;go_wp2;go_ret;exact⟨a9,n9,c9,rfl,HR.out⟩
theorem gl_nil:GL 24 []:=⟨List.Pairwise.nil,fun x h=>by simp at h,by decide⟩
theorem rseen_any (S S':Int)(ao:Option Addr)(n cap:Nat)(ao2:Option Addr)(n2 cap2:Nat)(ao3:Option Addr)(n3 cap3:Nat)(u1 u2:Value)(bo3:Option Addr)(m3 dap3:Nat)(Ls:List ((Int×Int)×(Int×Int)))(Hs:List (ByteArray×(Int×Int)))(As Bs:List (List Ru))
 (ht:tpN S Ls Hs=0) (hSA:(As.length:Int)=S) (hSB:(Bs.length:Int)=S) (hA:∀k,k<As.length→tbN (As.getD k [])=0) (hB:∀k,k<Bs.length→tbN (Bs.getD k [])=0) (x y h:Int) (w:World)
 (hE:WkE w (.slice ao n cap) (.slice ao2 n2 cap2) (.slice ao3 n3 cap3) (.slice bo3 m3 dap3) Ls Hs As Bs) (hsp:spB S (x,y)=true) (hhd:hdrB h=true):
 Calls Tryz.prog 8 #[.agg #[.int .i64 S,.slice ao n cap,.slice ao2 n2 cap2,.slice ao3 n3 cap3],.agg #[.int .i64 S',u1,u2,.slice bo3 m3 dap3],.agg #[.int .i64 x,.int .i64 y],.int .i64 h] w fun e w'=>∃a7 n7 c7,e=.returned (.slice a7 n7 c7)∧FTs w' (.slice a7 n7 c7) (seeL Ls Hs As Bs (x,y) h)∧Below w.heap.size w w':=by
 have hb:∀(W:World) (o:Obj),Below W.heap.size W (W.alloc o):=fun W o=>(Below.refl _ _).alloc (Nat.le_refl _) _
 obtain⟨w0,hw0⟩:∃W,((w.alloc (Obj.cells #[.int .i64 S,.slice ao n cap,.slice ao2 n2 cap2,.slice ao3 n3 cap3] 28)).alloc (Obj.cells #[.int .i64 S',u1,u2,.slice bo3 m3 dap3] 28)).alloc (Obj.cells #[.int .i64 x,.int .i64 y] 39)=W:=⟨_,rfl⟩;have hX:NeBox w0 w.heap.size S (.slice ao n cap) (.slice ao2 n2 cap2) (.slice ao3 n3 cap3)∧NeBox w0 (w.heap.size+1) S' u1 u2 (.slice bo3 m3 dap3)∧VAt w0 (w.heap.size+1+1) 0 [.int .i64 x,.int .i64 y]∧Below w.heap.size w w0:=by
  rw[←hw0];have h1:=nebox_new w S (.slice ao n cap) (.slice ao2 n2 cap2) (.slice ao3 n3 cap3) 28;have b1:=hb w (Obj.cells #[.int .i64 S,.slice ao n cap,.slice ao2 n2 cap2,.slice ao3 n3 cap3] 28);have e1:(w.alloc (Obj.cells #[.int .i64 S,.slice ao n cap,.slice ao2 n2 cap2,.slice ao3 n3 cap3] 28)).heap.size=w.heap.size+1:=by simp
  generalize w.alloc (Obj.cells #[.int .i64 S,.slice ao n cap,.slice ao2 n2 cap2,.slice ao3 n3 cap3] 28)=A at h1 b1 e1 ⊢
  have h2:=nebox_new A S' u1 u2 (.slice bo3 m3 dap3) 28;have b2:=hb A (Obj.cells #[.int .i64 S',u1,u2,.slice bo3 m3 dap3] 28);have e2:(A.alloc (Obj.cells #[.int .i64 S',u1,u2,.slice bo3 m3 dap3] 28)).heap.size=w.heap.size+1+1:=by simp[e1]
  rw[e1] at h2
  generalize A.alloc (Obj.cells #[.int .i64 S',u1,u2,.slice bo3 m3 dap3] 28)=C at h2 b2 e2 ⊢
  have h3:=vat_new C [.int .i64 x,.int .i64 y] 39;have b3:=hb C (Obj.cells #[.int .i64 x,.int .i64 y] 39);rw[e2] at h3;exact⟨(h1.later b2).later b3,h2.later b3,h3,(b1.trans (b2.mono (by omega))).trans (b3.mono (by omega))⟩
 have HW0:Hid (((w.alloc (Obj.cells #[.int .i64 S,.slice ao n cap,.slice ao2 n2 cap2,.slice ao3 n3 cap3] 28)).alloc (Obj.cells #[.int .i64 S',u1,u2,.slice bo3 m3 dap3] 28)).alloc (Obj.cells #[.int .i64 x,.int .i64 y] 39)=w0):=hw0;have hB1:Below w0.heap.size w0 (w0.alloc (Obj.cells #[.int .i64 x,.int .i64 y,.int .i64 h] 74)):=hb _ _;have HGH:Hid (GS hopE (w0.alloc (Obj.cells #[.int .i64 x,.int .i64 y,.int .i64 h] 74)) (.slice (some ⟨w0.heap.size,0,none⟩) 1 1) [((x,y),h)]):=gs_one (E:=hopE) w0 ((x,y),h) 74 (vs:=[.int .i64 x,.int .i64 y,.int .i64 h]) rfl;have HE1:Hid (WkE (w0.alloc (Obj.cells #[.int .i64 x,.int .i64 y,.int .i64 h] 74)) (.slice ao n cap) (.slice ao2 n2 cap2) (.slice ao3 n3 cap3) (.slice bo3 m3 dap3) Ls Hs As Bs):=(hE.later hX.2.2.2).later hB1;have HB1:Hid (Below w.heap.size w (w0.alloc (Obj.cells #[.int .i64 x,.int .i64 y,.int .i64 h] 74))):=hX.2.2.2.trans (hB1.mono hX.2.2.2.size);have HC:Hid (tpN S Ls Hs=0∧(As.length:Int)=S∧(Bs.length:Int)=S∧(∀k,k<As.length→tbN (As.getD k [])=0)∧(∀k,k<Bs.length→tbN (Bs.getD k [])=0)∧spB S (x,y)=true∧hdrB h=true):=⟨ht,hSA,hSB,hA,hB,hsp,hhd⟩;obtain⟨⟨b0,b1,b2,b3⟩,⟨d0,d1,d2,d3⟩,hV,_⟩:=hX;have f0:=hV 0 _ rfl;have f1:=hV 1 _ rfl;simp only[Nat.zero_add] at f0 f1;clear hV ht hSA hSB hA hB hE hsp hhd hw0 hB1 hb;go_enter Tryz.func8,Tryz.ntmps8;go_upto_region 1 with fail;rw[HW0.out];clear HW0
 go_wp2_with fail
 refine (walk_any S S' ao n cap ao2 n2 cap2 ao3 n3 cap3 u1 u2 bo3 m3 dap3 Ls Hs As Bs HC.out.1 HC.out.2.1 HC.out.2.2.1 HC.out.2.2.2.1 HC.out.2.2.2.2.1 24 [((x,y),h)] [] [] _ (some ⟨w0.heap.size,0,none⟩) 1 1 none 0 0 none 0 0 HE1.out HGH.out (.inl ⟨none,0,rfl,rfl⟩) ⟨[],.inl ⟨none,0,rfl,rfl⟩,rfl,fun z hz=>by simp at hz⟩ (.inl ⟨rfl,rfl,rfl⟩) rfl (by decide) (by simp) (by simp) HC.out.2.2.2.2.2.1 HC.out.2.2.2.2.2.2 gl_nil).mono ?_;rintro e w2 ⟨a7,n7,c7,rfl,hF,_,hb2⟩;have HR:Hid (FTs w2 (.slice a7 n7 c7) (seeL Ls Hs As Bs (x,y) h)∧Below w.heap.size w w2):=⟨hF,HB1.out.trans (hb2.mono HB1.out.size)⟩;clear hF hb2 b0 b1 b2 b3 d0 d1 d2 d3 f0 f1;go_wp2;go_ret;exact⟨a7,n7,c7,rfl,HR.out⟩
def CF (w:World)(gw gf:Nat)(v:Int)(c:Value)(g o:Nat)(x:Int)(w':World):Prop:=
 Below w.heap.size w w'∧w'.cell? ⟨gw,3,none⟩=some (.int .i64 v)∧w'.cell? ⟨gf,2,none⟩=some c∧w'.cell? ⟨g,o,none⟩=some (.int .i64 x)
theorem CF.later {w W W':World}{gw gf:Nat}{v:Int}{c:Value}{g o:Nat}{x:Int}(hb:Below W.heap.size W W')(h:CF w gw gf v c g o x W):CF w gw gf v c g o x W':=
 ⟨h.1.trans (hb.mono h.1.size),cell_later hb h.2.1,cell_later hb h.2.2.1,cell_later hb h.2.2.2⟩
theorem rfits_any (k:Int)(f t:ByteArray)(v:Int)(m:ByteArray)(a:Int)(b:ByteArray)(ao:Option Addr)(n cap:Nat)(l:List ((Int×Int)×Int))(w:World)(hl:GS hopE w (.slice ao n cap) l):
 Calls Tryz.prog 33 #[.agg #[.int .i64 k,.string f,.string t,.int .i64 v],.string m,.agg #[.int .i64 a,.string b,.slice ao n cap]] w fun e w'=>e=.returned (.bool (fiB ⟨k,f,t,v⟩ m (a,b,l)))∧Below w.heap.size w w':=by
 have hX:=gbox_new w k f t v a b (.slice ao n cap);obtain⟨w0,hw0⟩:∃W,(w.alloc (Obj.cells #[.int .i64 k,.string f,.string t,.int .i64 v] 96)).alloc (Obj.cells #[.int .i64 a,.string b,.slice ao n cap] 77)=W:=⟨_,rfl⟩;rw[hw0] at hX;have HX:Hid (GBox w w0 k f t v a b (.slice ao n cap)):=hX;have HW0:Hid ((w.alloc (Obj.cells #[.int .i64 k,.string f,.string t,.int .i64 v] 96)).alloc (Obj.cells #[.int .i64 a,.string b,.slice ao n cap] 77)=w0):=hw0;have HL:Hid (∀W,Below w.heap.size w W→GS hopE W (.slice ao n cap) l):=fun W hb=>hl.later hb
 have HB0:Hid (Below w.heap.size w w0):=hX.below;obtain⟨R,hR⟩:∃R,R=fiB ⟨k,f,t,v⟩ m (a,b,l):=⟨_,rfl⟩;have HR:Hid (R=fiB ⟨k,f,t,v⟩ m (a,b,l)):=hR;rw[←hR];clear hX hw0 hl hR;go_enter Tryz.func33,Tryz.ntmps33;go_upto_region 1 with fail;rw[HW0.out];obtain⟨_,⟨x0,x1,x2,x3⟩,y0,y1,y2⟩:=HX.out;clear HW0;by_cases k4:k=4
 ·subst k4;have HR1:Hid (R = !(a==4)):=by
   show _=_;rw[HR.out,fiB,if_pos (show abW ⟨4,f,t,v⟩ m=true from rfl)];simp
  go_wp2;go_ret;exact⟨by rw[HR1.out];rfl,HB0.out⟩
 obtain⟨AB,hAB⟩:∃q,q=(m.toList==f.toList):=⟨_,rfl⟩;have hab2:abW ⟨k,f,t,v⟩ m=AB:=by
  rw[hAB,abW,←beq_toListBytes];simp only[show (k==4)=false from by simp[k4],Bool.false_or];cases h:(f==m) with
  | true=>rw[ba_eq.1 h];exact (ba_eq.2 rfl).symm
  | false =>
    cases h2:(m==f) with
    | false=>rfl
    | true=>rw[ba_eq.1 h2,ba_eq.2 rfl] at h;cases h
 have hne:(m.toList==f.toList)=AB:=hAB.symm;have HAB:Hid (abW ⟨k,f,t,v⟩ m=AB):=hab2;clear hAB hab2;cases AB with
 | false =>
   have HR1:Hid (R=true):=by
    show _=_;rw[HR.out,fi_off HAB.out]
   have hne2:(m.toList==f.toList)=false:=hne;clear hne;go_wp2;go_ret;exact⟨by rw[HR1.out];rfl,HB0.out⟩
 | true =>
   have hne2:(m.toList==f.toList)=true:=hne;clear hne;obtain⟨TH,hTH⟩:∃q,q=(a==1&&b.toList==t.toList):=⟨_,rfl⟩;have hTW:thW ⟨k,f,t,v⟩ (a,b,l)=TH:=by rw[hTH,thW,←beq_toListBytes]
   have HR1:Hid (R=if k=1 then TH else if k=2 then !TH else if k=3 then (!TH || haW v l) else if k=4 then !(a==4) else true):=by
    show _=_;rw[HR.out,fiB,if_pos HAB.out,hTW]
   have HTH:Hid ((a==1&&b.toList==t.toList)=TH):=hTH.symm;clear hTH hTW HR HAB;go_upto_region 5 with fail;clear hne2;rw[show (k==4)=false from by simp[k4]]
   go_cut [7] from 19 to 29 (fun q w'=>q=.bool TH∧w'=w0)
   case first =>
    by_cases a1:a=1
    ·subst a1;have h2:=HTH.out;rw[show ((1:Int)==1&&b.toList==t.toList)=(b.toList==t.toList) from rfl] at h2
     go_wp2_with fail
     go_meet
     exact⟨by rw[←h2],rfl⟩
    have h2:=HTH.out;rw[show (a==1)=false from by simp[a1],Bool.false_and] at h2;subst h2
    go_wp2_with fail
    go_meet
    exact⟨rfl,rfl⟩
   case rest =>
   obtain⟨rfl,hwc⟩:=hcut;subst hwc;by_cases k1:k=1
   ·subst k1;have HR2:Hid (R=TH):=by
     show _=_;rw[HR1.out,if_pos rfl]
    clear HR1;go_wp2;go_ret;exact⟨by rw[HR2.out];rfl,HB0.out⟩
   by_cases k2:k=2
   ·subst k2;have HR2:Hid (R = !TH):=by
     show _=_;rw[HR1.out,if_neg (by decide),if_pos rfl]
    clear HR1;go_wp2;go_ret;exact⟨by rw[HR2.out];rfl,HB0.out⟩
   by_cases k3:k=3
   ·subst k3;have HR2:Hid (R=(!TH || haW v l)):=by
     show _=_;rw[HR1.out,if_neg (by decide),if_neg (by decide),if_pos rfl]
    clear HR1;cases TH with
    | false =>
      go_wp2;go_ret;exact⟨by rw[HR2.out];rfl,HB0.out⟩
    | true =>
      obtain⟨_,_,_,e5,hGn,hGm,_,hGa⟩:=(HL.out _ HB0.out).form;cases e5;have HGN:Hid (l.length=n):=hGn;have HGA:Hid (0<n→∃g o,ao=some ⟨g,o,none⟩∧GAt hopE wc g o l∧cap≤maxLen):=hGa;have hnm:n≤maxLen:=hGm;unfold maxLen at hnm;clear hGn hGm hGa;go_wp2
      go_loopw [8] (fun i wr=>∃j:Nat,j≤n∧i=.int .i64 j∧(l.take j).any (fun h=>h.1.1==v)=false∧Below wc.heap.size wc wr) (fun i _=>n-(intOf i).toNat)
      case atStart=>exact⟨0,by omega,rfl,by simp,Below.refl _ _⟩
      case round =>
       obtain⟨j,hj,rfl,hno,hB⟩:=hrel;have HB:Hid (Below wc.heap.size wc wr):=hB;have HBw:Hid (Below w.heap.size w wr):=HB0.out.trans (hB.mono HB0.out.size);have HNO:Hid ((l.take j).any (fun h=>h.1.1==v)=false):=hno;clear hno x0 x1 x2 x3 y0 y1 y2;obtain⟨_,⟨x0,x1,x2,x3⟩,y0,y1,y2⟩:=HX.out.later hB;by_cases hlt:j<n
       ·obtain⟨g,o,hao,hc,_⟩:=HGA.out (by omega);subst hao;obtain⟨h1,h2,h3,hkl,hLk,q0,q1,q2⟩:=hop_at (hc.later hB) HGN.out hlt;have HLk:Hid (l[j]=((h1,h2),h3)):=hLk;have HCF:Hid (CF wr w.heap.size (w.heap.size+1) v (.slice (some ⟨g,o,none⟩) n cap) g (o+j*3) h1 wr):=⟨Below.refl _ _,x3,y2,q0⟩;have kb0:(0:Int)≤(j:Int):=by omega
        have kb1:(j:Int)<(n:Int):=by omega
        clear hc hLk hB q0 q1 q2;go_upto_region 15 with fail;clear x0 x1 x2 x3 y0 y1 y2;obtain⟨P,hP⟩:∃q,q=(h1==v):=⟨_,rfl⟩;have HP:Hid ((h1==v)=P):=hP.symm
        go_cut [61] from 52 to 62 (fun q w'=>q=.bool P∧Below wr.heap.size wr w')
        case first =>
         refine wp_region_quiet (C:=CF wr w.heap.size (w.heap.size+1) v (.slice (some ⟨g,o,none⟩) n cap) g (o+j*3) h1) (by kernel_rfl) (by kernel_rfl) (CF.later (W:=wr) (Below.drew (Below.refl _ _)) HCF.out) ?_;simp only[List.toList_toArray];go_big_quiet_want;refine qv (.pointer (some ⟨w.heap.size+1,2,none⟩)) ?_ ?_
         ·rintro w' ⟨z0,z1,z2,z3⟩;go_simp
         simp only[Act.put,AP];go_big_quiet_on;go_big_quiet_want;refine qv (.slice (some ⟨g,o,none⟩) n cap) ?_ ?_
         ·rintro w' ⟨z0,z1,z2,z3⟩;go_simp
         simp only[Act.put,AP];go_big_quiet_on;go_big_quiet_want;refine qv (.int .i64 (j:Int)) ?_ ?_
         ·rintro w' ⟨z0,z1,z2,z3⟩;go_simp
         simp only[Act.put,AP];go_big_quiet_on;go_big_quiet_want;refine qv (.pointer (some ⟨g,o+j*3,none⟩)) ?_ ?_
         ·rintro w' ⟨z0,z1,z2,z3⟩;go_simp
         simp only[Act.put,AP];go_big_quiet_on;go_big_quiet_want;refine qv (.pointer (some ⟨g,o+j*3,none⟩)) ?_ ?_
         ·rintro w' ⟨z0,z1,z2,z3⟩;go_simp
         simp only[Act.put,AP];go_big_quiet_on;go_big_quiet_want;refine qv (.pointer (some ⟨g,o+j*3,none⟩)) ?_ ?_
         ·rintro w' ⟨z0,z1,z2,z3⟩;go_simp
         simp only[Act.put,AP];go_big_quiet_on;go_big_quiet_want;refine qv (.int .i64 h1) ?_ ?_
         ·rintro w' ⟨z0,z1,z2,z3⟩;go_simp
         simp only[Act.put,AP];go_big_quiet_on;go_big_quiet_want;refine qv (.pointer (some ⟨w.heap.size,3,none⟩)) ?_ ?_
         ·rintro w' ⟨z0,z1,z2,z3⟩;go_simp
         simp only[Act.put,AP];go_big_quiet_on;go_big_quiet_want;refine qv (.int .i64 v) ?_ ?_
         ·rintro w' ⟨z0,z1,z2,z3⟩;go_simp
         simp only[Act.put,AP];go_big_quiet_on;go_big_quiet_want;refine qv (.bool (h1==v)) ?_ ?_
         ·rintro w' ⟨z0,z1,z2,z3⟩;go_simp
         simp only[Act.put,AP];go_big_quiet_on;refine wpQuiet_nil ?_;intro w' hC;have HBY:Hid (Below wr.heap.size wr w'):=hC.1;clear hC
         go_wp2_with fail
         go_meet
         exact⟨by rw[hP],HBY.out⟩
        case rest =>
         obtain⟨rfl,hbc⟩:=hcut;have HBd:Hid (Below _ _ wc):=HB.out.trans (hbc.mono HB.out.size);clear hbc hP;cases P with
         | false =>
           go_wp2;go_roundw
           case rel=>exact⟨j+1,by omega,by go_num,any_nextG hkl HNO.out (by rw[HLk.out];exact HP.out),HBd.out⟩
           case measure=>simp[intOf];omega
         | true =>
           have HR3:Hid (R=true):=by
            show _=_;rw[HR2.out];have:haW v l=true:=any_hitG hkl (by rw[HLk.out];exact HP.out);rw[this];rfl
           go_wp2;go_ret;exact⟨by rw[HR3.out];rfl,HB0.out.trans (HBd.out.mono HB0.out.size)⟩
       obtain rfl:j=n:=by omega
       have HR3:Hid (R=false):=by
        show _=_;rw[HR2.out];have h1:=HNO.out;rw[←HGN.out,List.take_length] at h1;have:haW v l=false:=h1;rw[this];rfl
       go_wp2;go_ret;exact⟨by rw[HR3.out];rfl,HBw.out⟩
   have HR2:Hid (R=true):=by
    show _=_;rw[HR1.out,if_neg k1,if_neg k2,if_neg k3,if_neg k4]
   clear HR1;go_wp2;go_ret;exact⟨by rw[HR2.out];rfl,HB0.out⟩
end
end Go.Proofs.YtglnnoglbieaeaaGreatDoor
