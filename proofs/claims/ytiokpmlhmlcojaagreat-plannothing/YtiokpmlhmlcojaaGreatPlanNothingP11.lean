/- Contracts and facts on the way to PlanNothing, joined into one text: PlanShort, WishBroken, WishHolds. -/
import Derived.Test.YtiokpmlhmlcojaaGreatPlanNothingP10
namespace Go.Proofs.YtiokpmlhmlcojaaGreat
set_option linter.unusedSimpArgs false
set_option linter.unusedVariables false
set_option maxHeartbeats 16000000
set_option maxRecDepth 100000
section
open Go.RowKit Go.Shelf
attribute [local go_sem] Oper.semAt_some
def setKey:KeyE Tryz.prog 55 Int:=
 KeyE.now (fun k=>.int .i64 k) qI qI_iff (fun e k w=>Go.MapKept.run_checkKey Tryz.underlying55 (by simp[Go.MapKept.IsKey]) e 9999) _ Tryz.underlying55 (fun a b=>by simp[Instr.sameNow,qI]) (fun k=>by simp[Instr.sameBits])
def crV (c:Nat×Nat):Value:=.agg #[.int .i64 (c.1:Int),.int .i64 (c.2:Int)]
def KN (sf:Nat→Nat→Bool)(all bk:Nat)(W:World):Prop:=∃M,MAt setKey crV W bk M∧∀d:Nat,DnOK all d→∀c,mget setKey.q (d:Int) M=some c→c=shC sf all d
theorem KN.kb {sf:Nat→Nat→Bool}{all bk:Nat}{W W':World}{p:Nat→Prop}(h:KN sf all bk W)(hk:Kb p W W')(hp:p bk):KN sf all bk W':=by
 obtain⟨M,⟨es,cl,h1,h2⟩,h3⟩:=h;exact⟨M,⟨es,cl,(hk.block bk (Array.getElem?_eq_some_iff.1 h1).1 hp).trans h1,h2⟩,h3⟩
theorem KN.lt {sf:Nat→Nat→Bool}{all bk:Nat}{W:World}(h:KN sf all bk W):bk<W.heap.size:=by
 obtain⟨M,h1,_⟩:=h;exact h1.lt
theorem sets_val (S:Int)(ao:Option Addr)(n cap:Nat)(ao2:Option Addr)(n2 cap2:Nat)(ao3:Option Addr)(n3 cap3:Nat)(a4:Option Addr)(n4 c4 bm all done:Nat)(w:World):
 Calls Tryz.prog 41 #[.agg #[.int .i64 S,.slice ao n cap,.slice ao2 n2 cap2,.slice ao3 n3 cap3,.slice a4 n4 c4,.map (some bm),.int .i64 (all:Int)],.int .i64 (done:Int)] w fun e w'=>e=.returned (.func (.func 67) #[] #[.pointer (some ⟨w.heap.size,0,none⟩),.pointer (some ⟨w.heap.size+1,0,none⟩)]) ∧
  w'=(w.alloc (.cells #[.int .i64 S,.slice ao n cap,.slice ao2 n2 cap2,.slice ao3 n3 cap3,.slice a4 n4 c4,.map (some bm),.int .i64 (all:Int)] 57)).alloc (.cells #[.int .i64 (done:Int)] 55):=by
 go_enter Tryz.func41,Tryz.ntmps41;go_wp2;go_ret;exact⟨rfl,rfl⟩
theorem sets_it {w0:World}{gt gd:Nat}{S:Int}{v1 v2 v3 v4:Value}{bm all done:Nat}{Ls:List LkT}{Hs:List HoT}{As Bs:List (List Ru)}{ws:List Wi}{D:List Op8}
 (hT:TskOK w0 v1 v2 v3 v4 bm Ls Hs As ws D) (hP:PlOK S Ls Hs As Bs ws D) (ha:all<64) (hd:done<64):
 ItQ Tryz.prog 67 #[.pointer (some ⟨gt,0,none⟩),.pointer (some ⟨gd,0,none⟩)] seV1 (SS w0 gt gd S v1 v2 v3 v4 (.map (some bm)) all done) (ssP w0 gt gd) (ysL (sfB Ls Hs As Bs ws) all done):=
 fun l J Jx W hss h0 hX hJ hJx hY=>(callsIn_wide (n:=4)).1 (sets_in 4 (by omega) hT hP ha hd l J Jx W hss h0 hX hJ hJx hY)
structure C2 (A:World)(g:Nat)(x y:Value):Prop where
 c0:A.cell? ⟨g,0,none⟩=some x
 c1:A.cell? ⟨g,1,none⟩=some y
 f:∀i,A.frozen? ⟨g,i,none⟩=false
section
variable {A A':World}{g:Nat}{x y:Value}
theorem C2.lt (h:C2 A g x y):g<A.heap.size:=bLQ A ⟨g,0,none⟩ h.c0
theorem C2.kb {p:Nat→Prop}(h:C2 A g x y)(hk:Kb p A A')(hp:p g):C2 A' g x y:=⟨hk.at h.c0 hp,hk.at h.c1 hp,fun i=>by rw[hk.frozen (q:=⟨g,i,none⟩) h.lt hp];exact h.f i⟩
theorem c2_new (A:World)(x y:Value)(t:TypeId):C2 (A.alloc (.cells #[x,y] t)) A.heap.size x y:=⟨by simp,by simp,fun i=>by simp⟩
theorem C2.put (h:C2 A g x y)(x' y':Value):C2 ((A.setCell ⟨g,0,none⟩ x').setCell ⟨g,1,none⟩ y') g x' y':=
 ⟨cellOff (by decide) (cellSame h.c0),cellSame (cellOff (by decide) h.c1),fun i=>by rw[frozSet,frozSet];exact h.f i⟩
theorem kb_put {p:Nat→Prop}(hp:g<A.heap.size→¬p g)(x y:Value):Kb p A ((A.setCell ⟨g,0,none⟩ x).setCell ⟨g,1,none⟩ y):=
 ((Kb.refl p A).setCell (q:=⟨g,0,none⟩) hp x).setCell (q:=⟨g,1,none⟩) hp y
end
structure SB (W:World)(bk:Nat)(S:Int)(v1 v2 v3 v4 v5:Value)(sf:Nat→Nat→Bool)(all done:Nat)(b:Nat×Nat)(A:World):Prop where
 kb:Kb (fun x=>x≠bk) W A
 sz:W.heap.size+6≤A.heap.size
 kn:KN sf all bk A
 tk:TkB A W.heap.size S v1 v2 v3 v4 v5 (all:Int)
 dn:Boxed A (W.heap.size+1) 55 (.int .i64 (done:Int))
 kc:Boxed A (W.heap.size+1+1) 73 (.map (some bk))
 rs:C2 A (W.heap.size+1+1+1) (.int .i64 0) (.int .i64 0)
 bs:C2 A (W.heap.size+1+1+1+1+1) (.int .i64 (b.1:Int)) (.int .i64 (b.2:Int))
section
variable {W:World}{bk:Nat}{S:Int}{v1 v2 v3 v4 v5:Value}{sf:Nat→Nat→Bool}{all done:Nat}{b:Nat×Nat}{A A':World}
theorem SB.keep (h:SB W bk S v1 v2 v3 v4 v5 sf all done b A){p:Nat→Prop}(hk:Kb p A A')(hp:∀x,x<W.heap.size+6→p x)(hbk:bk<W.heap.size):SB W bk S v1 v2 v3 v4 v5 sf all done b A':=by
 have hz:=h.sz;exact⟨⟨hk.os.trans h.kb.os,hk.tape.trans h.kb.tape,hk.output.trans h.kb.output,Nat.le_trans h.kb.size hk.size,fun k h1 h2=>(hk.block k (by omega) (hp k (by omega))).trans (h.kb.block k h1 h2)⟩,Nat.le_trans hz hk.size,h.kn.kb hk (hp _ (by omega)),h.tk.kb hk (hp _ (by omega)),hk.boxed h.dn (hp _ (by omega)),hk.boxed h.kc (hp _ (by omega)),h.rs.kb hk (hp _ (by omega)),h.bs.kb hk (hp _ (by omega))⟩
theorem SB.know (h:SB W bk S v1 v2 v3 v4 v5 sf all done b A)(hk:Kb (fun x=>x≠bk) A A')(hn:KN sf all bk A')(hbk:bk<W.heap.size):SB W bk S v1 v2 v3 v4 v5 sf all done b A':=by
 have hz:=h.sz;exact⟨h.kb.trans hk,Nat.le_trans hz hk.size,hn,h.tk.kb hk (show _≠_ by omega),hk.boxed h.dn (show _≠_ by omega),hk.boxed h.kc (show _≠_ by omega),h.rs.kb hk (show _≠_ by omega),h.bs.kb hk (show _≠_ by omega)⟩
theorem SB.put (h:SB W bk S v1 v2 v3 v4 v5 sf all done b A)(hbk:bk<W.heap.size)(c:Nat×Nat):SB W bk S v1 v2 v3 v4 v5 sf all done c ((A.setCell ⟨W.heap.size+1+1+1+1+1,0,none⟩ (.int .i64 (c.1:Int))).setCell ⟨W.heap.size+1+1+1+1+1,1,none⟩ (.int .i64 (c.2:Int))):=by
 have hz:=h.sz;have hk:Kb (fun x=>x≠W.heap.size+1+1+1+1+1) A ((A.setCell ⟨W.heap.size+1+1+1+1+1,0,none⟩ (.int .i64 (c.1:Int))).setCell ⟨W.heap.size+1+1+1+1+1,1,none⟩ (.int .i64 (c.2:Int))):=kb_put (fun _ hx=>hx rfl) _ _;exact⟨⟨hk.os.trans h.kb.os,hk.tape.trans h.kb.tape,hk.output.trans h.kb.output,Nat.le_trans h.kb.size hk.size,fun k h1 h2=>(hk.block k (by omega) (show _≠_ by omega)).trans (h.kb.block k h1 h2)⟩,Nat.le_trans hz hk.size,h.kn.kb hk (show _≠_ by omega),h.tk.kb hk (show _≠_ by omega),hk.boxed h.dn (show _≠_ by omega),hk.boxed h.kc (show _≠_ by omega),h.rs.kb hk (show _≠_ by omega),h.bs.put _ _⟩
end
structure S4 (W:World)(bk:Nat)(S:Int)(v1 v2 v3 v4 v5:Value)(sf:Nat→Nat→Bool)(all done:Nat)(A:World):Prop where
 below:Below W.heap.size W A
 sz:A.heap.size=W.heap.size+4
 kn:KN sf all bk A
 tk:TkB A W.heap.size S v1 v2 v3 v4 v5 (all:Int)
 dn:Boxed A (W.heap.size+1) 55 (.int .i64 (done:Int))
 kc:Boxed A (W.heap.size+1+1) 73 (.map (some bk))
 rs:C2 A (W.heap.size+1+1+1) (.int .i64 0) (.int .i64 0)
section
variable {W:World}{bk:Nat}{S:Int}{v1 v2 v3 v4 v5:Value}{sf:Nat→Nat→Bool}{all done:Nat}{A:World}
theorem s4_new (h:KN sf all bk W):S4 W bk S v1 v2 v3 v4 v5 sf all done ((((W.alloc (.cells #[.int .i64 S,v1,v2,v3,v4,v5,.int .i64 (all:Int)] 57)).alloc (.cells #[.int .i64 (done:Int)] 55)).alloc (.cells #[.map (some bk)] 73)).alloc (.cells #[.int .i64 0,.int .i64 0] 75)):=by
 have hb:∀(W:World) (o:Obj),Below W.heap.size W (W.alloc o):=fun W o=>(Below.refl _ _).alloc (Nat.le_refl _) _
 have k1:=tkb_new W S v1 v2 v3 v4 v5 (all:Int) 57;have b1:=hb W (.cells #[.int .i64 S,v1,v2,v3,v4,v5,.int .i64 (all:Int)] 57);have e1:=World.size_alloc W (.cells #[.int .i64 S,v1,v2,v3,v4,v5,.int .i64 (all:Int)] 57)
 generalize W.alloc (.cells #[.int .i64 S,v1,v2,v3,v4,v5,.int .i64 (all:Int)] 57)=A1 at *
 have k2:=Boxed.new A1 55 (.int .i64 (done:Int));have b2:=hb A1 (.cells #[.int .i64 (done:Int)] 55);have e2:=World.size_alloc A1 (.cells #[.int .i64 (done:Int)] 55)
 generalize A1.alloc (.cells #[.int .i64 (done:Int)] 55)=A2 at *
 have k3:=Boxed.new A2 73 (.map (some bk));have b3:=hb A2 (.cells #[.map (some bk)] 73);have e3:=World.size_alloc A2 (.cells #[.map (some bk)] 73)
 generalize A2.alloc (.cells #[.map (some bk)] 73)=A3 at *
 have k4:=c2_new A3 (.int .i64 0) (.int .i64 0) 75;have b4:=hb A3 (.cells #[.int .i64 0,.int .i64 0] 75);have e4:=World.size_alloc A3 (.cells #[.int .i64 0,.int .i64 0] 75)
 generalize A3.alloc (.cells #[.int .i64 0,.int .i64 0] 75)=A4 at *
 rw[e1] at k2;rw[e2,e1] at k3;rw[e3,e2,e1] at k4;have b14:Below W.heap.size W A4:=((b1.trans (b2.mono (by omega))).trans (b3.mono (by omega))).trans (b4.mono (by omega));refine⟨b14,by omega,h.kb (p:=fun _=>True) (Kb.of_below b14 fun _ h _=>h) trivial,((k1.later b2).later b3).later b4,(k2.kept (grown_below b3) (by simp)).kept (grown_below b4) (by simp),k3.kept (grown_below b4) (by simp),k4⟩
theorem S4.sb (h:S4 W bk S v1 v2 v3 v4 v5 sf all done A)(hbk:bk<W.heap.size)(x y:Value)(b:Nat×Nat):SB W bk S v1 v2 v3 v4 v5 sf all done b ((A.alloc (.cells #[x,y] 75)).alloc (.cells #[.int .i64 (b.1:Int),.int .i64 (b.2:Int)] 75)):=by
 have hb:∀(W:World) (o:Obj),Below W.heap.size W (W.alloc o):=fun W o=>(Below.refl _ _).alloc (Nat.le_refl _) _
 have b1:=hb A (.cells #[x,y] 75);have e1:=World.size_alloc A (.cells #[x,y] 75)
 generalize A.alloc (.cells #[x,y] 75)=A1 at *
 have k2:=c2_new A1 (.int .i64 (b.1:Int)) (.int .i64 (b.2:Int)) 75;have b2:=hb A1 (.cells #[.int .i64 (b.1:Int),.int .i64 (b.2:Int)] 75);have e2:=World.size_alloc A1 (.cells #[.int .i64 (b.1:Int),.int .i64 (b.2:Int)] 75)
 generalize A1.alloc (.cells #[.int .i64 (b.1:Int),.int .i64 (b.2:Int)] 75)=A2 at *
 have hz:=h.sz;have b12:Below A.heap.size A A2:=b1.trans (b2.mono (by omega));have hk:Kb (fun _=>True) A A2:=Kb.of_below b12 fun _ h _=>h
 rw[e1,hz] at k2;exact⟨(Kb.of_below (h.below.trans (b12.mono (by omega))) fun _ h _=>h),by omega,h.kn.kb hk trivial,h.tk.kb hk trivial,hk.boxed h.dn trivial,hk.boxed h.kc trivial,h.rs.kb hk trivial,k2⟩
end
theorem below5 (W:World)(a b c d e:Obj):Below W.heap.size W (((((W.alloc a).alloc b).alloc c).alloc d).alloc e):=
 (((((Below.refl _ W).alloc (Nat.le_refl _) a).alloc (by simp) b).alloc (by simp;omega) c).alloc (by simp;omega) d).alloc (by simp;omega) e
theorem below_two (W:World)(a b:Obj):Below W.heap.size W ((W.alloc a).alloc b):=((Below.refl _ W).alloc (Nat.le_refl _) a).alloc (by simp) b
theorem sh_7 {sf:Nat→Nat→Bool}{all d:Nat}(ha:all<64)(hd:DnOK all d):(shC sf all d).1≤7∧(shC sf all d).2<64:=by
 refine⟨?_,(nx_sh (sf:=sf) (all:=all) d).1⟩;by_cases e:d=all
 ·rw[e,sh_all];exact Nat.zero_le _
 exact (sh_spec ha hd e).2.1
section
variable {w0:World}{bk:Nat}{S:Int}{v1 v2 v3 v4:Value}{bm all:Nat}{Ls:List LkT}{Hs:List HoT}{As Bs:List (List Ru)}{ws:List Wi}{D:List Op8}
theorem short_step (hT:TskOK w0 v1 v2 v3 v4 bm Ls Hs As ws D)(hP:PlOK S Ls Hs As Bs ws D)(ha:all<64)(h0:w0.heap.size≤bk)(done:Nat)(hd:DnOK all done)
 (ih:∀d,DnOK all d→lfN all d<lfN all done→∀W,Below w0.heap.size w0 W→KN (sfB Ls Hs As Bs ws) all bk W→Calls Tryz.prog 19 #[.agg #[.int .i64 S,v1,v2,v3,v4,.map (some bm),.int .i64 (all:Int)],.int .i64 (d:Int),.map (some bk)] W fun e W'=>e=.returned (crV (shC (sfB Ls Hs As Bs ws) all d))∧KN (sfB Ls Hs As Bs ws) all bk W'∧Kb (fun x=>x≠bk) W W')
 (W:World) (hW:Below w0.heap.size w0 W) (hK:KN (sfB Ls Hs As Bs ws) all bk W):
 Calls Tryz.prog 19 #[.agg #[.int .i64 S,v1,v2,v3,v4,.map (some bm),.int .i64 (all:Int)],.int .i64 (done:Int),.map (some bk)] W fun e W'=>e=.returned (crV (shC (sfB Ls Hs As Bs ws) all done))∧KN (sfB Ls Hs As Bs ws) all bk W'∧Kb (fun x=>x≠bk) W W':=by
 obtain⟨ao,n,cap,ao2,n2,cap2,ao3,n3,cap3,rfl,rfl,rfl⟩:=hT.n.form;obtain⟨a4,n4,c4,rfl,_⟩:=hT.w.form;have HIT:Hid (∀gt gd,ItQ Tryz.prog 67 #[.pointer (some ⟨gt,0,none⟩),.pointer (some ⟨gd,0,none⟩)] seV1 (SS w0 gt gd S (.slice ao n cap) (.slice ao2 n2 cap2) (.slice ao3 n3 cap3) (.slice a4 n4 c4) (.map (some bm)) all done) (ssP w0 gt gd) (ysL (sfB Ls Hs As Bs ws) all done)):=fun gt gd=>sets_it hT hP ha hd.1
 have HC:Hid (done≠all→shC (sfB Ls Hs As Bs ws) all done=bsF (fun s=>(shC (sfB Ls Hs As Bs ws) all (done ||| s)).1+1) (ysL (sfB Ls Hs As Bs ws) all done) (7,0)):=fun h=>sh_step ha hd h
 have HCA:Hid (done=all→shC (sfB Ls Hs As Bs ws) all done=(0,0)):=fun h=>by rw[h];exact sh_all
 clear hT hP
 generalize sfB Ls Hs As Bs ws=sf at *
 have HBK:Hid (bk<W.heap.size∧w0.heap.size≤bk):=⟨hK.lt,h0⟩;have HA:Hid (all<64):=ha;have HD:Hid (DnOK all done):=hd;have HIH:Hid (∀d,DnOK all d→lfN all d<lfN all done→∀W,Below w0.heap.size w0 W→KN sf all bk W→Calls Tryz.prog 19 #[.agg #[.int .i64 S,.slice ao n cap,.slice ao2 n2 cap2,.slice ao3 n3 cap3,.slice a4 n4 c4,.map (some bm),.int .i64 (all:Int)],.int .i64 (d:Int),.map (some bk)] W fun e W'=>e=.returned (crV (shC sf all d))∧KN sf all bk W'∧Kb (fun x=>x≠bk) W W'):=ih;obtain⟨r1,r2,hR⟩:∃r1 r2,shC sf all done=(r1,r2):=⟨_,_,rfl⟩;have HR:Hid (shC sf all done=(r1,r2)):=hR;rw[hR] at HC HCA ⊢;have hS4:=s4_new (S:=S) (v1:=.slice ao n cap) (v2:=.slice ao2 n2 cap2) (v3:=.slice ao3 n3 cap3) (v4:=.slice a4 n4 c4) (v5:=.map (some bm)) (done:=done) hK;obtain⟨W1,hW1⟩:∃X,X=(((W.alloc (.cells #[.int .i64 S,.slice ao n cap,.slice ao2 n2 cap2,.slice ao3 n3 cap3,.slice a4 n4 c4,.map (some bm),.int .i64 (all:Int)] 57)).alloc (.cells #[.int .i64 (done:Int)] 55)).alloc (.cells #[.map (some bk)] 73)).alloc (.cells #[.int .i64 0,.int .i64 0] 75):=⟨_,rfl⟩;rw[←hW1] at hS4;have HW1:Hid (W1=(((W.alloc (.cells #[.int .i64 S,.slice ao n cap,.slice ao2 n2 cap2,.slice ao3 n3 cap3,.slice a4 n4 c4,.map (some bm),.int .i64 (all:Int)] 57)).alloc (.cells #[.int .i64 (done:Int)] 55)).alloc (.cells #[.map (some bk)] 73)).alloc (.cells #[.int .i64 0,.int .i64 0] 75)):=hW1;have HWB:Hid (Below w0.heap.size w0 W):=hW;have HKW:Hid (KN sf all bk W):=hK;have HS4:Hid (S4 W bk S (.slice ao n cap) (.slice ao2 n2 cap2) (.slice ao3 n3 cap3) (.slice a4 n4 c4) (.map (some bm)) sf all done W1):=hS4;clear ih ha hd h0 hR hW1 hW hK hS4;unfold crV
 dsimp only
 refine (callsIn_wide (n:=6)).1 ?_;refine callsIn_of_wp_marks Tryz.func19 rfl trivial ?_ rfl;simp only[Tryz.ntmps19,List.size_toArray,List.length_cons,List.length_nil,Nat.reduceAdd,Nat.reduceSub,Array.replicate_succ,Array.replicate_zero,List.push_toArray,List.append_toArray,List.nil_append,List.cons_append];by_cases hda:done=all
 ·have hq:((done:Int)==(all:Int))=true:=by rw[hda];simp
  have he:=HCA.out hda;cases he;clear hda
  gi_wp2
  rw[←HW1.out];have q0:=HS4.out.rs.c0;have q1:=HS4.out.rs.c1;have qs:=HS4.out.sz;refine⟨_,by simp[results,Tryz.results19,go_sem, *],rfl,HS4.out.kn,Kb.of_below HS4.out.below fun _ h _=>h⟩
 have hq:((done:Int)==(all:Int))=false:=by rw[beq_eq_false_iff_ne];omega
 obtain⟨M,hM,hMs⟩:=HS4.out.kn;have HM:Hid (∀d:Nat,DnOK all d→∀c,mget setKey.q (d:Int) M=some c→c=shC sf all d):=hMs;have hz:∀w,(zeroValue 75).run Tryz.prog w=.ok (.agg #[.int .i64 0,.int .i64 0]) w:=fun w=>by kernel_rfl
 have hlk:=run_lookup_M hM 73 75 Tryz.underlying73 (.agg #[.int .i64 0,.int .i64 0]) hz (done:Int) true;have HCC:=HC.out hda;clear hM hMs hz;cases hmg:mget setKey.q (done:Int) M with
 | some c =>
   have hc:=HM.out done HD.out c hmg;rw[HR.out] at hc;subst hc;rw[hmg] at hlk;have hlk2:(Instr.lookup 73 (.map (some bk)) (.int .i64 (done:Int)) true).run Tryz.prog W1=.ok (.tuple #[.agg #[.int .i64 (r1:Int),.int .i64 (r2:Int)],.bool true]) W1:=hlk;rw[HW1.out] at hlk2;clear hlk hmg;have HK0:Hid (KN sf all bk W∧Below W.heap.size W W):=⟨HKW.out,Below.refl _ _⟩
   gi_wp2
   refine⟨_,by simp[results,Tryz.results19,go_sem, *],rfl,HK0.out.1.kb (p:=fun _=>True) (Kb.of_below (below5 W _ _ _ _ _) fun _ h _=>h) trivial,Kb.of_below (below5 W _ _ _ _ _) fun _ h _=>h⟩
 | none =>
   rw[hmg] at hlk;have hlk2:(Instr.lookup 73 (.map (some bk)) (.int .i64 (done:Int)) true).run Tryz.prog W1=.ok (.tuple #[.agg #[.int .i64 0,.int .i64 0],.bool false]) W1:=hlk;rw[HW1.out] at hlk2;clear hlk hmg
   gi_wp2_with fail
   rw[←HW1.out];have hS2:=HS4.out.sb HBK.out.1 (.int .i64 0) (.int .i64 0) (7,0);obtain⟨W2,hW2⟩:∃X,X=(W1.alloc (.cells #[.int .i64 0,.int .i64 0] 75)).alloc (.cells #[.int .i64 7,.int .i64 0] 75):=⟨_,rfl⟩
   change SB _ _ _ _ _ _ _ _ _ _ _ _ ((W1.alloc (.cells #[.int .i64 0,.int .i64 0] 75)).alloc (.cells #[.int .i64 7,.int .i64 0] 75)) at hS2
   rw[←hW2] at hS2 ⊢;refine⟨trivial,(callsIn_wide.2 (sets_val S ao n cap ao2 n2 cap2 ao3 n3 cap3 a4 n4 c4 bm all done W2)).mono ?_⟩;rintro e W3 ⟨rfl,hW3⟩;have hb23:Below W2.heap.size W2 W3:=by rw[hW3];exact below_two _ _ _
   have hs3:W3.heap.size=W2.heap.size+2:=by rw[hW3];simp
   have hS3:=hS2.keep (p:=fun _=>True) (Kb.of_below hb23 fun _ h _=>h) (fun _ _=>trivial) HBK.out.1;have hz2:=hS2.sz;have hk3:=hS3.kb;have hB3:Below w0.heap.size w0 W3:=HWB.out.trans (hk3.below HWB.out.size fun b hb=>by show b≠bk;have:=HBK.out.2;omega);have hSS:SS w0 W2.heap.size (W2.heap.size+1) S (.slice ao n cap) (.slice ao2 n2 cap2) (.slice ao3 n3 cap3) (.slice a4 n4 c4) (.map (some bm)) all done W3:=by
    have hw02:w0.heap.size≤W2.heap.size:=by have:=HWB.out.size;omega
    refine⟨hB3,?_,?_⟩
    ·rw[hW3];exact (tkb_new W2 S _ _ _ _ _ (all:Int) 57).later ((Below.refl _ _).alloc (Nat.le_refl _) _)
    rw[hW3];simp
   have HZ:Hid (W.heap.size+8≤W3.heap.size∧W3.heap.size=W2.heap.size+2∧W.heap.size+6≤W2.heap.size):=⟨by omega,hs3,hz2⟩;clear hlk2 hW2 hW3 hS2
   gi_wp2
   refine wpIn_rangeFunc_itQ (by omega) (gf:=67) (lb:=#[.pointer (some ⟨W2.heap.size,0,none⟩),.pointer (some ⟨W2.heap.size+1,0,none⟩)]) rfl (enters_of Tryz.func67 (by kernel_rfl) rfl) (HIT.out _ _) (fun W' h=>hSS.later h) (fun b h=>hSS.lt h) (fun A args x hx=>by rw[hx];rfl)
    (fun k X A=>(∃b,SB W bk S (.slice ao n cap) (.slice ao2 n2 cap2) (.slice ao3 n3 cap3) (.slice a4 n4 c4) (.map (some bm)) sf all done b A∧(r1,r2)=bsF (fun s=>(shC sf all (done ||| s)).1+1) ((ysL sf all done).drop k) b∧b.1≤7∧b.2<64)∧∀x,¬X x)
    (fun c A=>c=.exit 0∧SB W bk S (.slice ao n cap) (.slice ao2 n2 cap2) (.slice ao3 n3 cap3) (.slice a4 n4 c4) (.map (some bm)) sf all done (r1,r2) A)
    (fun k X A h b hx=>absurd hx (h.2 b))
    (fun k X A A' h hk=>⟨h.1.imp fun b hb=>⟨hb.1.keep hk (fun x hx=>.inl (by omega)) HBK.out.1,hb.2⟩,h.2⟩)
    (fun c A A' h hk=>⟨h.1,h.2.keep hk (fun x hx=>.inl (by omega)) HBK.out.1⟩)
    ⟨⟨(7,0),hS3,HCC,by decide,by decide⟩,fun b h=>h⟩ ?round ?done ?stop
   case round =>
    rintro l' k X Y x args A hl' hBW ⟨⟨⟨b1,b2⟩,hS,hb,hb7,hb64⟩,hX⟩ hLk hV hY hnl;unfold seV1 at hV;subst hV;have hxm:x∈ysL sf all done:=List.mem_of_getElem? hLk;obtain⟨hx64,hx0,hxs,hxf⟩:=ys_mem.1 hxm;obtain⟨d,hd⟩:∃d,d=done ||| x:=⟨_,rfl⟩
    have hDx:DnOK all d:=by rw[hd];exact HD.out.next hxm
    have hlx:lfN all d<lfN all done:=by rw[hd];exact ys_less hxm
    have hor:bits .or .i64 (done:Int) (x:Int)=(d:Int):=by rw[hd];exact bits_or HD.out.1 hx64
    obtain⟨q,q2,hq'⟩:∃q q2,shC sf all d=(q,q2):=⟨_,_,rfl⟩;have hq7:q≤7:=by have:=(sh_7 (sf:=sf) HA.out hDx).1;rw[hq'] at this;exact this
    obtain⟨Q,hQ⟩:∃Q,Q=q+1:=⟨_,rfl⟩;have hQ8:Q≤8:=by rw[hQ];exact Nat.succ_le_succ hq7
    have hwr:IntKind.i64.wrap ((q:Int)+1)=(Q:Int):=by rw[IntKind.wrap_i64];omega
    have hwr2:wrap64 ((q:Int)+1)=(Q:Int):=by unfold wrap64;omega
    have HST:Hid ((r1,r2)=if (if Q<b1 then (Q,x) else (b1,b2)).1≤2 then (if Q<b1 then (Q,x) else (b1,b2)) else bsF (fun s=>(shC sf all (done ||| s)).1+1) ((ysL sf all done).drop (k+1)) (if Q<b1 then (Q,x) else (b1,b2))):=by
     show _=_;obtain⟨hkl,hkx⟩:=List.getElem?_eq_some_iff.1 hLk;rw[hb,List.drop_eq_getElem_cons hkl,hkx,bsF];have e:nxB (fun s=>(shC sf all (done ||| s)).1+1) x (b1,b2)=if Q<b1 then (Q,x) else (b1,b2):=by
      show (if (shC sf all (done ||| x)).1+1<b1 then ((shC sf all (done ||| x)).1+1,x) else (b1,b2))=_;rw[←hd,hq',←hQ]
     rw[e]
    have HQB:Hid (Q≤8∧b1≤7∧b2<64∧x<64):=⟨hQ8,hb7,hb64,hx64⟩;have HNP:Hid (∀b,(ssP w0 W2.heap.size (W2.heap.size+1) b∨b=W3.heap.size∨b=l'∨Y b)→b≠bk∧b≠W.heap.size+1+1+1+1+1):=by
     have h1:=HBK.out;have h2:=HWB.out.size;rintro b ((h | h | h) | h | h | h)
     ·omega
     ·omega
     ·omega
     ·omega
     ·omega
     have:=(hY b h).1;omega
    have HXN:Hid (∀I:Prop,I→∃X':Nat→Prop,(I∧∀b,¬X' b)∧∀b,X' b→X b∨A.heap.size≤b):=fun I h=>⟨fun _=>False,⟨h,fun _ h=>h⟩,fun _ h=>h.elim⟩
    have HSA:Hid (SB W bk S (.slice ao n cap) (.slice ao2 n2 cap2) (.slice ao3 n3 cap3) (.slice a4 n4 c4) (.map (some bm)) sf all done (b1,b2) A):=hS;have HL':Hid (l'=W3.heap.size+1):=hl';clear hb hLk hxm hxs hxf hx0 hd hS hX hY hnl hQ hQ8 hb7 hb64 hx64 hq7 HIT HCC hSS hS3 hk3 hB3 hb23 hs3 hz2 hl'
    gi_wp2
    refine⟨Kb.refl _ _,fun A2 hk2=>?_⟩;have hS2:=HSA.out.keep hk2 (fun y hy=>by show y≠l';have:=HL'.out;have:=HZ.out;omega) HBK.out.1;have HS2:Hid (SB W bk S (.slice ao n cap) (.slice ao2 n2 cap2) (.slice ao3 n3 cap3) (.slice a4 n4 c4) (.map (some bm)) sf all done (b1,b2) A2):=hS2;have HB2:Hid (Below w0.heap.size w0 A2):=HWB.out.trans (hS2.kb.below HWB.out.size fun b hb=>by show b≠bk;have:=HBK.out.2;omega);have t0:=hS2.tk.c0;have t1:=hS2.tk.c1;have t2:=hS2.tk.c2;have t3:=hS2.tk.c3;have t4:=hS2.tk.c4;have t5:=hS2.tk.c5;have t6:=hS2.tk.c6;have t7:=hS2.dn.cell;have t8:=hS2.kc.cell;clear hS2 hk2
    gi_wp2_with fail
    refine⟨trivial,(CallsIn.inRound _ (callsIn_wide.2 (HIH.out d hDx hlx _ HB2.out HS2.out.kn))).mono ?_⟩;rintro e A3 ⟨rfl,hkn,hkb⟩;rw[hq'];unfold crV
    dsimp only
    have hS3:=HS2.out.know hkb hkn HBK.out.1;have HS3:Hid (SB W bk S (.slice ao n cap) (.slice ao2 n2 cap2) (.slice ao3 n3 cap3) (.slice a4 n4 c4) (.map (some bm)) sf all done (b1,b2) A3):=hS3;have HK3:Hid (Kb (fun b=>ssP w0 W2.heap.size (W2.heap.size+1) b∨b=W3.heap.size∨b=l'∨Y b) A2 A3):=hkb.mono fun b _ h=>(HNP.out b h).1
    have c0:=hS3.bs.c0;have c1:=hS3.bs.c1;have f0:=hS3.bs.f 0;have f1:=hS3.bs.f 1
    dsimp only at c0 c1
    clear hS3 hkb hkn t0 t1 t2 t3 t4 t5 t6 t7 t8;have hfd:∀w,(Instr.field 75 (.agg #[.int .i64 (q:Int),.int .i64 (q2:Int)]) 0).run Tryz.prog w=.ok (.int .i64 (q:Int)) w:=fun w=>by kernel_rfl
    by_cases hlt:Q<b1
    ·have hi:(Q:Int)<(b1:Int):=Int.ofNat_lt.2 hlt;have HP:Hid (SB W bk S (.slice ao n cap) (.slice ao2 n2 cap2) (.slice ao3 n3 cap3) (.slice a4 n4 c4) (.map (some bm)) sf all done (Q,x) ((A3.setCell ⟨W.heap.size+1+1+1+1+1,0,none⟩ (.int .i64 (Q:Int))).setCell ⟨W.heap.size+1+1+1+1+1,1,none⟩ (.int .i64 (x:Int)))):=HS3.out.put HBK.out.1 (Q,x);have HKP:Hid (Kb (fun b=>ssP w0 W2.heap.size (W2.heap.size+1) b∨b=W3.heap.size∨b=l'∨Y b) A2 ((A3.setCell ⟨W.heap.size+1+1+1+1+1,0,none⟩ (.int .i64 (Q:Int))).setCell ⟨W.heap.size+1+1+1+1+1,1,none⟩ (.int .i64 (x:Int)))):=HK3.out.trans (kb_put (fun _ h=>(HNP.out _ h).2 rfl) _ _);by_cases h2:Q≤2
     ·have hi2:(Q:Int)≤2:=Int.ofNat_le.2 h2;have HE:Hid ((r1,r2)=(Q,x)):=by
       have:=HST.out;rw[if_pos hlt,if_pos h2] at this;exact this
      clear hlt h2
      gi_wp2
      exact⟨HKP.out,rfl,by rw[HE.out];exact HP.out⟩
     have hi2:¬(Q:Int)≤2:=fun h=>h2 (Int.ofNat_le.1 h)
     have HE:Hid ((r1,r2)=bsF (fun s=>(shC sf all (done ||| s)).1+1) ((ysL sf all done).drop (k+1)) (Q,x)):=by
      have:=HST.out;rw[if_pos hlt,if_neg h2] at this;exact this
     have HQ7:Hid (Q≤7):=Nat.le_trans (Nat.le_of_lt hlt) HQB.out.2.1;clear hlt h2
     gi_wp2
     exact⟨HKP.out,HXN.out _ ⟨Q,x,HP.out,HE.out,HQ7.out,HQB.out.2.2.2⟩⟩
    have hi:¬(Q:Int)<(b1:Int):=fun h=>hlt (Int.ofNat_lt.1 h)
    by_cases h2:b1≤2
    ·have hi2:(b1:Int)≤2:=Int.ofNat_le.2 h2;have HE:Hid ((r1,r2)=(b1,b2)):=by
      have:=HST.out;rw[if_neg hlt,if_pos h2] at this;exact this
     clear hlt h2
     gi_wp2
     exact⟨HK3.out,rfl,by rw[HE.out];exact HS3.out⟩
    have hi2:¬(b1:Int)≤2:=fun h=>h2 (Int.ofNat_le.1 h)
    have HE:Hid ((r1,r2)=bsF (fun s=>(shC sf all (done ||| s)).1+1) ((ysL sf all done).drop (k+1)) (b1,b2)):=by
     have:=HST.out;rw[if_neg hlt,if_neg h2] at this;exact this
    clear hlt h2
    gi_wp2
    exact⟨HK3.out,HXN.out _ ⟨b1,b2,HS3.out,HE.out,HQB.out.2.1,HQB.out.2.2.1⟩⟩
   case done =>
    rintro X A ⟨⟨b,hS',hb,hb7,hb64⟩,hX⟩ hK;have hS:SB W bk S (.slice ao n cap) (.slice ao2 n2 cap2) (.slice ao3 n3 cap3) (.slice a4 n4 c4) (.map (some bm)) sf all done (r1,r2) A:=by
     rw[List.drop_length] at hb;have e:(r1,r2)=b:=hb;rw[e];exact hS'
    clear hS' hb hb7 hb64 hX hSS hS3 hk3 hB3 hb23 HIT HCC;obtain⟨M2,hM2,hMs2⟩:=hS.kn;obtain⟨w1,hup,hM3,hg3⟩:=run_update_M hM2 73 75 Tryz.underlying73 (done:Int) (r1,r2);have hup2:(Instr.mapUpdate 73 (.map (some bk)) (.int .i64 (done:Int)) (.agg #[.int .i64 (r1:Int),.int .i64 (r2:Int)])).run Tryz.prog A=_:=hup;have hk3:Kb (fun x=>x≠bk) A w1:=(Kb.refl _ A).grown hg3 fun r e _ hx=>hx (by cases e;rfl)
    have hn3:KN sf all bk w1:=⟨_,hM3,fun d hd c hc=>by
     rw[mget_put setKey.qeq] at hc;by_cases e:setKey.q (d:Int) (done:Int)=true
     ·rw[if_pos e] at hc;have e2:=(setKey.qeq _ _).1 e;have e3:d=done:=by omega
      cases hc;rw[e3,HR.out]
     rw[if_neg e] at hc;exact hMs2 d hd c hc⟩
    have hS5:=hS.know hk3 hn3 HBK.out.1;have HS5:Hid (SB W bk S (.slice ao n cap) (.slice ao2 n2 cap2) (.slice ao3 n3 cap3) (.slice a4 n4 c4) (.map (some bm)) sf all done (r1,r2) w1):=hS5;have HDF:Hid (w1.heap[W3.heap.size]?=some (.deferred (some []))):=(hk3.block _ (Array.getElem?_eq_some_iff.1 hK).1 (show _≠_ by have:=HBK.out.1;have:=HZ.out;omega)).trans hK;have a0:=hS.bs.c0;have a1:=hS.bs.c1;have a2:=hS.kc.cell;have a3:=hS.dn.cell;have d0:=hS5.bs.c0;have d1:=hS5.bs.c1;have d2:=hS5.rs.c0;have d3:=hS5.rs.c1;have d4:=hS5.rs.f 0;have d5:=hS5.rs.f 1
    dsimp only at a0 a1 d0 d1
    clear hM2 hMs2 hM3 hg3 hup hk3 hn3 hS5 hS hK
    gi_wp2
    have hP:=HS5.out.rs.put (.int .i64 (r1:Int)) (.int .i64 (r2:Int));have hkb:Kb (fun x=>x≠W.heap.size+1+1+1) w1 ((w1.setCell ⟨W.heap.size+1+1+1,0,none⟩ (.int .i64 (r1:Int))).setCell ⟨W.heap.size+1+1+1,1,none⟩ (.int .i64 (r2:Int))):=kb_put (fun _ h=>h rfl) _ _
    generalize (w1.setCell ⟨W.heap.size+1+1+1,0,none⟩ (.int .i64 (r1:Int))).setCell ⟨W.heap.size+1+1+1,1,none⟩ (.int .i64 (r2:Int))=w5 at *
    have hz5:=HS5.out.sz;have hZ:=HZ.out;have hBk:=HBK.out.1;have hdf:=(hkb.block _ (Array.getElem?_eq_some_iff.1 HDF.out).1 (show _≠_ by omega)).trans HDF.out;have hkq:Kb (fun x=>x≠W3.heap.size) w5 (w5.putObj W3.heap.size (.deferred none)):=(Kb.refl _ _).putObj (fun _ h=>h rfl) _;have hP2:=hP.kb hkq (show _≠_ by omega);have hkn:KN sf all bk (w5.putObj W3.heap.size (.deferred none)):=(HS5.out.kn.kb hkb (show _≠_ by omega)).kb hkq (show _≠_ by omega);have hkw:Kb (fun x=>x≠bk) W (w5.putObj W3.heap.size (.deferred none)):=⟨hkq.os.trans (hkb.os.trans HS5.out.kb.os),hkq.tape.trans (hkb.tape.trans HS5.out.kb.tape),hkq.output.trans (hkb.output.trans HS5.out.kb.output),Nat.le_trans HS5.out.kb.size (Nat.le_trans hkb.size hkq.size),fun k h1 h2=>(hkq.block k (by have:=HS5.out.kb.size;have:=hkb.size;omega) (show _≠_ by omega)).trans ((hkb.block k (by have:=HS5.out.kb.size;omega) (show _≠_ by omega)).trans (HS5.out.kb.block k h1 h2))⟩;refine⟨by simp,.inl ⟨_,_,rfl,run_takeDeferred hdf,?_⟩⟩;have q0:=hP2.c0;have q1:=hP2.c1;clear hs3 hZ hz5 hBk hdf hkb hkq hP hP2 hz2;exact⟨_,(by simp[results,Tryz.results19,go_sem, *]),rfl,hkn,hkw⟩
   case stop =>
    rintro c A ⟨rfl,hS⟩ hK;clear hSS hS3 hk3 hB3 hb23 HIT HCC;obtain⟨M2,hM2,hMs2⟩:=hS.kn;obtain⟨w1,hup,hM3,hg3⟩:=run_update_M hM2 73 75 Tryz.underlying73 (done:Int) (r1,r2);have hup2:(Instr.mapUpdate 73 (.map (some bk)) (.int .i64 (done:Int)) (.agg #[.int .i64 (r1:Int),.int .i64 (r2:Int)])).run Tryz.prog A=_:=hup;have hk3:Kb (fun x=>x≠bk) A w1:=(Kb.refl _ A).grown hg3 fun r e _ hx=>hx (by cases e;rfl)
    have hn3:KN sf all bk w1:=⟨_,hM3,fun d hd c hc=>by
     rw[mget_put setKey.qeq] at hc;by_cases e:setKey.q (d:Int) (done:Int)=true
     ·rw[if_pos e] at hc;have e2:=(setKey.qeq _ _).1 e;have e3:d=done:=by omega
      cases hc;rw[e3,HR.out]
     rw[if_neg e] at hc;exact hMs2 d hd c hc⟩
    have hS5:=hS.know hk3 hn3 HBK.out.1;have HS5:Hid (SB W bk S (.slice ao n cap) (.slice ao2 n2 cap2) (.slice ao3 n3 cap3) (.slice a4 n4 c4) (.map (some bm)) sf all done (r1,r2) w1):=hS5;have HDF:Hid (w1.heap[W3.heap.size]?=some (.deferred (some []))):=(hk3.block _ (Array.getElem?_eq_some_iff.1 hK).1 (show _≠_ by have:=HBK.out.1;have:=HZ.out;omega)).trans hK;have a0:=hS.bs.c0;have a1:=hS.bs.c1;have a2:=hS.kc.cell;have a3:=hS.dn.cell;have d0:=hS5.bs.c0;have d1:=hS5.bs.c1;have d2:=hS5.rs.c0;have d3:=hS5.rs.c1;have d4:=hS5.rs.f 0;have d5:=hS5.rs.f 1
    dsimp only at a0 a1 d0 d1
    clear hM2 hMs2 hM3 hg3 hup hk3 hn3 hS5 hS hK
    gi_wp2
    have hP:=HS5.out.rs.put (.int .i64 (r1:Int)) (.int .i64 (r2:Int));have hkb:Kb (fun x=>x≠W.heap.size+1+1+1) w1 ((w1.setCell ⟨W.heap.size+1+1+1,0,none⟩ (.int .i64 (r1:Int))).setCell ⟨W.heap.size+1+1+1,1,none⟩ (.int .i64 (r2:Int))):=kb_put (fun _ h=>h rfl) _ _
    generalize (w1.setCell ⟨W.heap.size+1+1+1,0,none⟩ (.int .i64 (r1:Int))).setCell ⟨W.heap.size+1+1+1,1,none⟩ (.int .i64 (r2:Int))=w5 at *
    have hz5:=HS5.out.sz;have hZ:=HZ.out;have hBk:=HBK.out.1;have hdf:=(hkb.block _ (Array.getElem?_eq_some_iff.1 HDF.out).1 (show _≠_ by omega)).trans HDF.out;have hkq:Kb (fun x=>x≠W3.heap.size) w5 (w5.putObj W3.heap.size (.deferred none)):=(Kb.refl _ _).putObj (fun _ h=>h rfl) _;have hP2:=hP.kb hkq (show _≠_ by omega);have hkn:KN sf all bk (w5.putObj W3.heap.size (.deferred none)):=(HS5.out.kn.kb hkb (show _≠_ by omega)).kb hkq (show _≠_ by omega);have hkw:Kb (fun x=>x≠bk) W (w5.putObj W3.heap.size (.deferred none)):=⟨hkq.os.trans (hkb.os.trans HS5.out.kb.os),hkq.tape.trans (hkb.tape.trans HS5.out.kb.tape),hkq.output.trans (hkb.output.trans HS5.out.kb.output),Nat.le_trans HS5.out.kb.size (Nat.le_trans hkb.size hkq.size),fun k h1 h2=>(hkq.block k (by have:=HS5.out.kb.size;have:=hkb.size;omega) (show _≠_ by omega)).trans ((hkb.block k (by have:=HS5.out.kb.size;omega) (show _≠_ by omega)).trans (HS5.out.kb.block k h1 h2))⟩;refine⟨by simp,.inl ⟨_,_,rfl,run_takeDeferred hdf,?_⟩⟩;have q0:=hP2.c0;have q1:=hP2.c1;clear hs3 hZ hz5 hBk hdf hkb hkq hP hP2 hz2;exact⟨_,(by simp[results,Tryz.results19,go_sem, *]),rfl,hkn,hkw⟩
end
end
section
open Go.RowKit
def FwAsks (w:World)(g:Nat)(Hs:HoQ)(Fs:Nat→Nat→List Ft):Prop:=
 ∀ (z:Nat) (hz:z<Hs.length) (h:Nat),h<16→∀W:World,Below w.heap.size w W→Calls Tryz.prog 30 #[.agg #[.string Hs[z].1,.int .i64 Hs[z].2.1,.int .i64 Hs[z].2.2],.int .i64 h,.pointer (some ⟨g,0,none⟩)] W fun e W' =>
   ∃gi lb,e=.returned (.func (Fn.func gi) #[] lb)∧(∀args w,(callFunc gi args).run Tryz.prog w=.ok (.enter gi args) w)∧ItF Tryz.prog gi lb FtV W'.heap.size (Fs z h) W'∧Below W.heap.size W W'
theorem fwbrk_any (g:Nat)(ao2:Option Addr)(n2 cap2:Nat)(a4:Option Addr)(n4 c4:Nat)(Hs:HoQ)(Fs:Nat→Nat→List Ft)(l:List Wi)(w:World)
 (hH:GS hstE w (.slice ao2 n2 cap2) Hs) (hl:GS wisE w (.slice a4 n4 c4) l) (hnm:∀h∈Hs,h.1.size≤1000000) (hfc:FwAsks w g Hs Fs):
 Calls Tryz.prog 29 #[.slice ao2 n2 cap2,.slice a4 n4 c4,.func (Fn.func 30) #[] #[.pointer (some ⟨g,0,none⟩)]] w fun e w'=>∃held p,e=.returned (.tuple #[.agg #[.int .i64 p.1,.string p.2.1,.int .i64 p.2.2],.bool (decide (held<l.length))])∧Fb l Hs Fs Hs.length 0 held p∧Below w.heap.size w w':=by
 have hX:=rbx_new w;obtain⟨w0,hw0⟩:∃W,(w.alloc (Obj.cells #[.int .i64 0,.string ⟨#[]⟩,.int .i64 0] 65)).alloc (Obj.cells #[.int .i64 0,.string ⟨#[]⟩,.int .i64 0] 65)=W:=⟨_,rfl⟩;rw[hw0] at hX;have HW0:Hid ((w.alloc (Obj.cells #[.int .i64 0,.string ⟨#[]⟩,.int .i64 0] 65)).alloc (Obj.cells #[.int .i64 0,.string ⟨#[]⟩,.int .i64 0] 65)=w0):=hw0;have HX:Hid (Rbx w w0 (0,ByteArray.empty,0)):=hX;have HLW:Hid (∀W,Below w.heap.size w W→GS wisE W (.slice a4 n4 c4) l):=fun W hb=>hl.later hb
 have HFC:Hid (FwAsks w g Hs Fs):=hfc;have HNM:Hid (∀h∈Hs,h.1.size≤1000000):=hnm;obtain⟨_,_,_,e5,hGn,hGm,hGc,hGa⟩:=hl.form;cases e5;obtain⟨_,_,_,e6,hHn,hHm,_,hHa⟩:=hH.form;cases e6;have HGN:Hid (l.length=n4):=hGn;have HCAP:Hid (n4≤c4):=hGc;have HHN:Hid (Hs.length=n2):=hHn;have HHA:Hid (0<n2→∃g o,ao2=some ⟨g,o,none⟩∧GAt hstE w g o Hs∧cap2≤maxLen):=hHa;have hn4:n4≤maxLen:=hGm;have hn2:n2≤maxLen:=hHm;unfold maxLen at hn4 hn2;have HF0:Hid (Fb l Hs Fs 0 0 n4 (0,ByteArray.empty,0)):=by
  have h:=fb_0 (l:=l) (Hs:=Hs) (Fs:=Fs);rw[hGn] at h;exact h
 clear hX hw0 hl hH hfc hnm hGn hGm hGc hGa hHn hHm hHa;go_enter Tryz.func29,Tryz.ntmps29;go_upto_region 2 with fail;rw[HW0.out];clear HW0;go_wp2
 go_loopw [9,18] (fun hv i wr=>∃(z hd:Nat) (p:Int×ByteArray×Int),z≤n2∧hv=.int .i64 hd∧i=.int .i64 z∧Fb l Hs Fs z 0 hd p∧Rbx w wr p) (fun _ i _=>n2-(intOf i).toNat)
 case atStart=>exact⟨0,n4,(0,ByteArray.empty,0),by omega,rfl,rfl,HF0.out,HX.out⟩
 case round =>
  obtain⟨z,hd,p,hz,rfl,rfl,hF,hR⟩:=hrel;have HF:Hid (Fb l Hs Fs z 0 hd p):=hF;have HR:Hid (Rbx w wr p):=hR;have hdle:hd≤n4:=by rw[←HGN.out];exact hF.le
  clear hF hR;by_cases hlt:z<n2
  ·obtain⟨g2,o2,hao2,hc2,_⟩:=HHA.out (by omega);subst hao2;obtain⟨z0,z1,z2,hzl,hZk,p0,p1,p2⟩:=hst_at (hc2.later HR.out.below) HHN.out hlt;have HZK:Hid (Hs[z]=(z0,(z1,z2))):=hZk;have HZD:Hid (Hs.getD z zeO=(z0,(z1,z2))):=by
    show _=_;rw[getO hzl,hZk]
   have HSZ:Hid (z0.size≤1000000):=by
    have:=HNM.out Hs[z] (List.getElem_mem hzl);rw[hZk] at this;exact this
   have hba:Below wr.heap.size wr (wr.alloc (Obj.cells #[Value.string z0,.int .i64 z1,.int .i64 z2] 33)):=(Below.refl _ _).alloc (Nat.le_refl _) _;have hhb:=hsbox_new wr z0 z1 z2 33;have hR2:=HR.out.later hba;obtain⟨w2,hw2⟩:∃W,wr.alloc (Obj.cells #[Value.string z0,.int .i64 z1,.int .i64 z2] 33)=W:=⟨_,rfl⟩;obtain⟨gh,hgh⟩:∃q,q=wr.heap.size:=⟨_,rfl⟩;rw[hw2] at hhb hR2;rw[←hgh] at hhb;have HW2:Hid (wr.alloc (Obj.cells #[Value.string z0,.int .i64 z1,.int .i64 z2] 33)=w2):=hw2;have HGH:Hid (wr.heap.size=gh):=hgh.symm;have HHB:Hid (HsBox w2 gh z0 z1 z2):=hhb;have HR2:Hid (Rbx w w2 p):=hR2;have HLG:Hid (w.heap.size+1<gh):=by
    show _<_;rw[hgh];exact HR.out.p.lt
   clear hc2 hZk hba hhb hR2 hw2 hgh HR;go_upto_region 6 with fail;rw[HW2.out,HGH.out];clear HW2 HGH p0 p1 p2;go_wp2
   go_loopw [9,22] (fun hv i wr=>∃(h hd:Nat) (p:Int×ByteArray×Int),h≤16∧hv=.int .i64 hd∧i=.int .i64 h∧Fb l Hs Fs z h hd p∧Rbx w wr p∧HsBox wr gh z0 z1 z2) (fun _ i _=>16-(intOf i).toNat)
   case atStart=>exact⟨0,hd,p,by omega,rfl,rfl,HF.out,HR2.out,HHB.out⟩
   case round =>
    clear HF HR2 HHB hdle;obtain⟨h,hd,p,hh,rfl,rfl,hF,hR,hS⟩:=hrel;have HF:Hid (Fb l Hs Fs z h hd p):=hF;have HR:Hid (Rbx w wr p):=hR;have HS:Hid (HsBox wr gh z0 z1 z2):=hS;have hdle:hd≤n4:=by rw[←HGN.out];exact hF.le
    clear hF hR hS;by_cases hlt16:h<16
    ·have HGT:Hid (∀W,Below wr.heap.size wr W→GS wisE W (.slice a4 hd c4) (l.take hd)):=fun W hb=>(HLW.out W (HR.out.below.trans (hb.mono HR.out.below.size))).take hdle
     obtain⟨_,_,_,e7,hTn,hTm,_,hTa⟩:=(HGT.out wr (Below.refl _ _)).form;cases e7;have HTN:Hid ((l.take hd).length=hd):=hTn;have HTM:Hid (hd≤maxLen):=hTm;have HTA:Hid (0<hd→∃g o,a4=some ⟨g,o,none⟩∧GAt wisE wr g o (l.take hd)∧c4≤maxLen):=hTa;have HASK:Hid (wisAsks wr 50 (.pointer (some ⟨gh,0,none⟩)) (fun u=>abW u z0)):=fun y0 y1 y2 y3 W hb=>first1_any y0 y1 y2 y3 gh z0 z1 z2 W (HS.out.later hb)
     obtain⟨c,hc⟩:∃c,c=(l.take hd).any (fun u=>abW u z0):=⟨_,rfl⟩;have HC:Hid ((l.take hd).any (fun u=>abW u z0)=c):=hc.symm;obtain⟨s0,s1,s2⟩:=HS.out;have hcap:=HCAP.out;have nb0:(0:Int)≤(hd:Int):=by omega
     have nb1:(hd:Int)≤(c4:Int):=by omega
     have nb2:(hd:Int)≤(n4:Int):=by omega
     clear hc hTn hTm hTa
     go_wp2_with fail
     refine (wis_hasF a4 hd c4 _ _ (fun u=>abW u z0) (l.take hd) _ HTN.out HTM.out HTA.out (enters_of Tryz.func50 (by kernel_rfl) rfl) HASK.out).mono ?_;rintro e w3 ⟨rfl,hb3⟩;rw[HC.out];have HR3:Hid (Rbx w w3 p):=HR.out.later hb3;have HS3:Hid (HsBox w3 gh z0 z1 z2):=HS.out.later hb3;have HGT3:Hid (∀W,Below w3.heap.size w3 W→GS wisE W (.slice a4 hd c4) (l.take hd)):=fun W hb=>HGT.out W (hb3.trans (hb.mono hb3.size))
     clear hb3 s0 s1 s2 HTN HTM HTA HASK HGT HR HS;cases c with
     | false =>
       have HFO:Hid (Fb l Hs Fs (z+1) 0 hd p):=HF.out.off (by rw[HZD.out];exact HC.out);go_wp2;go_roundw
       case rel=>exact⟨z+1,hd,p,by omega,rfl,by go_num,HFO.out,HR3.out⟩
       case measure=>simp[intOf];omega
     | true =>
       obtain⟨N,hN⟩:∃N,N=hwN (l.take hd) z0 (Fs z h):=⟨_,rfl⟩;have HN:Hid (hwN (l.take hd) z0 (Fs z h)=N):=hN.symm;have HFCW:Hid (∀W,Below w3.heap.size w3 W→Calls Tryz.prog 30 #[.agg #[.string z0,.int .i64 z1,.int .i64 z2],.int .i64 h,.pointer (some ⟨g,0,none⟩)] W fun e W' =>
        ∃gi lb,e=.returned (.func (Fn.func gi) #[] lb)∧(∀args w,(callFunc gi args).run Tryz.prog w=.ok (.enter gi args) w)∧ItF Tryz.prog gi lb FtV W'.heap.size (Fs z h) W'∧Below W.heap.size W W'):=fun W hb=>by
        have h:=HFC.out z hzl h hlt16 W (HR3.out.below.trans (hb.mono HR3.out.below.size));rw[HZK.out] at h;exact h
       have HHOL:Hid (∀(gi:Nat) (lb:Array Value) (W:World),(∀args w,(callFunc gi args).run Tryz.prog w=.ok (.enter gi args) w)→ItF Tryz.prog gi lb FtV W.heap.size (Fs z h) W→Below w3.heap.size w3 W→Calls Tryz.prog 52 #[.slice a4 hd c4,.string z0,.func (Fn.func gi) #[] lb] W fun e W'=>e=.returned (.int .i64 N)∧Below W.heap.size W W'):=fun gi lb W eg hit hb=>by
        rw[hN];exact holding_any a4 hd c4 (l.take hd) z0 gi lb (Fs z h) W.heap.size W (HGT3.out W hb) eg hit (Nat.le_refl _)
       have HSW:Hid (∀W,Below w3.heap.size w3 W→W.cell? ⟨gh,0,none⟩=some (.string z0)∧W.cell? ⟨gh,1,none⟩=some (.int .i64 z1)∧W.cell? ⟨gh,2,none⟩=some (.int .i64 z2)):=fun W hb=>HS3.out.later hb
       obtain⟨s0,s1,s2⟩:=HS3.out;clear hN;go_upto_region 10 with fail
       go_cut [13] from 23 to 51 (fun v w'=>v=.int .i64 N∧Below w3.heap.size w3 w')
       case first =>
        go_region_held3 (fun W=>W.cell? ⟨gh,0,none⟩=some (.string z0)∧W.cell? ⟨gh,1,none⟩=some (.int .i64 z1)∧W.cell? ⟨gh,2,none⟩=some (.int .i64 z2))
         (first | (with_reducible assumption) | (with_reducible exact HSW.out _ (Below.drew (Below.refl _ _))) | (with_reducible exact HSW.out _ HBX.out) | (with_reducible exact HSW.out _ HBY.out))
         (first
          | (go_at_call 30;refine (HFCW.out _ (Below.drew (Below.refl _ _))).mono ?_;rintro e w' ⟨gi,lb,rfl,eg,hit,hb⟩;have HBX:Hid (Below w3.heap.size w3 w'):=bdrew hb;have HEG:Hid (∀args w,(callFunc gi args).run Tryz.prog w=.ok (.enter gi args) w):=eg;have HIT:Hid (ItF Tryz.prog gi lb FtV w'.heap.size (Fs z h) w'):=hit;clear hb eg hit)
          | (go_at_call 52;refine (HHOL.out _ _ _ HEG.out HIT.out HBX.out).mono ?_;rintro e w'' ⟨rfl,hb⟩;have HBY:Hid (Below w3.heap.size w3 w''):=HBX.out.trans (hb.mono HBX.out.size);clear hb))
        all_goals (go_wp2_with fail;go_meet)
        all_goals exact⟨rfl,HBY.out⟩
       case rest =>
        obtain⟨rfl,hbw⟩:=hcut;have HR4:Hid (Rbx w wc p):=HR3.out.later hbw;have HS4:Hid (HsBox wc gh z0 z1 z2):=HS3.out.later hbw;clear hbw HR3 HS3 HGT3 HFCW HHOL HSW s0 s1 s2;obtain⟨s0,s1,s2⟩:=HS4.out;by_cases hNl:N<hd
        ·have HFL:Hid (Fb l Hs Fs z (h+1) N ((N:Int),z0,(h:Int))):=by
          have:=HF.out.less hlt16 hzl (by rw[HZD.out];exact HN.out) hNl;rw[HZD.out] at this;exact this
         have dN:decide ((N:Int)<(hd:Int))=true:=by simp;omega
         go_wp2_with fail
         refine (clone_any z0 _ HSZ.out).mono ?_;rintro e w6 ⟨rfl,hb6⟩;have HR6:Hid (Rbx w w6 p):=HR4.out.later hb6;have HS6:Hid (HsBox w6 gh z0 z1 z2):=HS4.out.later hb6;obtain⟨r0,r1,r2,rf⟩:=HR6.out.p;have f0:=rf 0;have f1:=rf 1;have f2:=rf 2;have HSP:Hid (∀a b c,HsBox (put3 w6 (w.heap.size+1) a b c) gh z0 z1 z2):=fun a b c=>by
          have o:∀(W:World) (i j:Nat) (x:Value),(W.setCell ⟨w.heap.size+1,i,none⟩ x).cell? ⟨gh,j,none⟩=W.cell? ⟨gh,j,none⟩:=fun W i j x=>World.cell?_setCell_other _ _ _ _ (by intro e;injection e with e1;have:=HLG.out;omega)
          unfold put3;obtain⟨x0,x1,x2⟩:=HS6.out;exact⟨by rw[o,o,o];exact x0,by rw[o,o,o];exact x1,by rw[o,o,o];exact x2⟩
         clear hb6 rf s0 s1 s2 hNl;go_wp2;go_roundw
         case rel=>exact⟨h+1,N,((N:Int),z0,(h:Int)),by omega,rfl,by go_num,HFL.out,HR6.out.put ((N:Int),z0,(h:Int)),HSP.out _ _ _⟩
         case measure=>simp[intOf];omega
        have HFS:Hid (Fb l Hs Fs z (h+1) hd p):=HF.out.same (by rw[HZD.out,HN.out];exact hNl);have dN:decide ((N:Int)<(hd:Int))=false:=by simp;omega
        have hNl2:hd≤N:=by omega
        go_wp2;go_roundw
        case rel=>exact⟨h+1,hd,p,by omega,rfl,by go_num,HFS.out,HR4.out,HS4.out⟩
        case measure=>simp[intOf];omega
    obtain rfl:h=16:=by omega
    have HFO:Hid (Fb l Hs Fs (z+1) 0 hd p):=HF.out.host;go_wp2;go_roundw
    case rel=>exact⟨z+1,hd,p,by omega,rfl,by go_num,HFO.out,HR.out⟩
    case measure=>simp[intOf];omega
  obtain rfl:z=n2:=by omega
  obtain⟨P1,P2,P3⟩:=p;obtain⟨q0,q1,q2,_⟩:=HR.out.p;obtain⟨r0,r1,r2,rf⟩:=HR.out.r;have f0:=rf 0;have f1:=rf 1;have f2:=rf 2;have HB:Hid (Below w.heap.size w wr):=HR.out.below;have HFE:Hid (Fb l Hs Fs Hs.length 0 hd (P1,P2,P3)):=by
   have h:=HF.out;rw[←HHN.out] at h;exact h
  dsimp only at q0 q1 q2
  clear rf;go_wp2;refine bodyPost_ret (v:=.tuple #[.agg #[.int .i64 P1,.string P2,.int .i64 P3],.bool (decide ((hd:Int)<(n4:Int)))]) (by simp[results,Tryz.results29,go_sem, *]) rfl ⟨hd,(P1,P2,P3),?_,HFE.out,below_put3 HB.out _ (Nat.le_refl _) _ _ _⟩;rw[show decide (hd<l.length)=decide ((hd:Int)<(n4:Int)) by rw[HGN.out];simp]
end
section
open Go.RowKit Go.Shelf
attribute [local go_sem] Oper.semAt_some
theorem nm_small {a:ByteArray}(h:nmB a=true):a.size≤6:=by
 simp only[nmB,Bool.and_eq_true,decide_eq_true_eq] at h;exact h.2.1
structure NIn (w:World)(g:Nat)(S:Int)(v1 v2 v3:Value)(Ls:LkQ)(Hs:HoQ)(Ts:List (List Ru)):Prop where
 box:NeBox w g S v1 v2 v3
 l:GS lnkE w v1 Ls
 h:GS hstE w v2 Hs
 t:TS w v3 Ts
theorem NIn.later {w w':World}{g:Nat}{S:Int}{v1 v2 v3:Value}{Ls:LkQ}{Hs:HoQ}{Ts:List (List Ru)}(k:NIn w g S v1 v2 v3 Ls Hs Ts)(hb:Below w.heap.size w w'):NIn w' g S v1 v2 v3 Ls Hs Ts:=
 ⟨k.box.later hb,k.l.later hb,k.h.later hb,k.t.later hb⟩
theorem values1_in (n:Nat)(h3:3≤n)(l n₀:Nat)(F:Ft)(b Bs:Nat)(ao4:Option Addr)(n4 cap4:Nat)(J:Nat→(Nat→Prop)→World→Prop)(Jx:World→Prop)(W:World)(hB:Boxed W Bs 95 (.slice (some ⟨b,0,none⟩) 1 1))(hf:FaBox W b F.1 F.2.1 (.slice ao4 n4 cap4))(hG:GS hopE W (.slice ao4 n4 cap4) F.2.2)
 (h0:J 0 (fun _=>False) W) (hab:∀k X A A',J k X A→Kb (fun b=>b<W.heap.size∨X b) A A'→J k X A')
 (hY:∀k X A args x (Y:Nat→Prop),J k X A→[F][k]?=some x→FtV A args x→W.heap.size≤A.heap.size→(∀b,Y b→W.heap.size≤b∧¬X b)→YieldAt Fence.wide 0 Tryz.prog l args A fun e A' =>
  (e=.returned (.bool true)∧(∃X',J (k+1) X' A'∧∀b,X' b→X b∨A.heap.size≤b)∧Kb (fun b=>b<n₀∨Y b) A A')∨(e=.returned (.bool false)∧Jx A'∧Kb (fun b=>b<n₀∨Y b) A A')):
 CallsIn Fence.wide n Tryz.prog 54 #[.func (.yield l) #[] #[],.pointer (some ⟨Bs,0,none⟩)] W fun e W'=>(∃v,e=.returned v)∧((∃X,J 1 X W')∨Jx W'):=by
 have h1:1≤n:=by omega
 obtain⟨F1,F2,F3⟩:=F
 dsimp only at hf hG
 have hBA:Below W.heap.size W (W.alloc (Obj.cells #[.int .i64 F1,.string F2,.slice ao4 n4 cap4] 98)):=(Below.refl _ _).alloc (Nat.le_refl _) _;have hJ0:=hab _ _ _ _ h0 (Kb.of_below hBA (fun b hb _=>hb));have hy0:=yield_any (m':=n-1) (hY 0 _ (W.alloc (Obj.cells #[.int .i64 F1,.string F2,.slice ao4 n4 cap4] 98)) #[.agg #[.int .i64 F1,.string F2,.slice ao4 n4 cap4]] (F1,F2,F3) (fun _=>False) hJ0 rfl ⟨ao4,n4,cap4,rfl,hG.later hBA⟩ hBA.size (fun _ h=>h.elim));obtain⟨fn,tmps,assign,body,hy,hR⟩:=hy0;have HR:Hid (RoundIn Fence.wide (n-1) Tryz.prog l fn tmps assign body (W.alloc (Obj.cells #[.int .i64 F1,.string F2,.slice ao4 n4 cap4] 98)) _):=hR;obtain⟨f0,f1,f2⟩:=hf;have hc0:=hB.cell;refine callsIn_of_wp Tryz.func54 rfl trivial ?_ rfl;simp only[Tryz.ntmps54,List.size_toArray,List.length_cons,List.length_nil,Nat.reduceAdd,Nat.reduceSub,Array.replicate_succ,Array.replicate_zero,List.push_toArray,List.append_toArray,List.nil_append,List.cons_append];clear hY hBA hJ0 hB hG hR h0 hab
 gi_wp2
 gi_loopw [7] (fun i wr=>∃k:Nat,k≤1∧i=.int .i64 k∧(k=0→wr=W)∧(k=1→∃X,J 1 X wr)) (fun i _=>1-(intOf i).toNat)
 case atStart=>exact⟨0,by omega,rfl,fun _=>rfl,fun h=>by omega⟩
 case round =>
  obtain⟨k,hk,rfl,hk0,hk1⟩:=hrel;by_cases hlt:k<1
  ·obtain rfl:k=0:=by omega
   have hw:=hk0 rfl;subst hw;clear hk0 hk1
   gi_wp2
   refine HR.out.mono ?_;rintro e W3 (⟨rfl,⟨X',hJ3,_⟩,hk3⟩ | ⟨rfl,hJx3,_⟩)
   ·have HJ3:Hid (∃X,J 1 X W3):=⟨X',hJ3⟩;clear hJ3 hk3
    gi_wp2
    go_roundw
    case rel=>exact⟨1,by omega,by go_num,fun h=>by omega,fun _=>HJ3.out⟩
    case measure=>simp[intOf]
   gi_wp2
   refine bodyPost_ret (results_none rfl _ _ _) rfl ?_;exact⟨⟨_,rfl⟩,.inr hJx3⟩
  obtain rfl:k=1:=by omega
  have HJ:Hid (∃X,J 1 X wr):=hk1 rfl;clear hk0 hk1
  gi_wp2
  go_end0
  exact⟨⟨_,rfl⟩,.inl HJ.out⟩
theorem values_it (F:Ft)(b Bs:Nat)(ao4:Option Addr)(n4 cap4:Nat)(w:World)(hB:Boxed w Bs 95 (.slice (some ⟨b,0,none⟩) 1 1))(hf:FaBox w b F.1 F.2.1 (.slice ao4 n4 cap4))(hG:GS hopE w (.slice ao4 n4 cap4) F.2.2):
 ItF Tryz.prog 54 #[.pointer (some ⟨Bs,0,none⟩)] FtV w.heap.size [F] w:=by
 intro l J Jx W hW hn h0 hlt hab hax hY;exact (callsIn_wide (n:=3)).1 (values1_in 3 (by omega) l w.heap.size F b Bs ao4 n4 cap4 J Jx W ((Kb.of_below hW (fun b hb _=>hb):Kb (fun _=>True) w W).boxed hB trivial) (hf.later hW) (hG.later hW) h0 hab hY)
theorem values_any (a:Option Addr)(len cap:Nat)(w:World):
 Calls Tryz.prog 31 #[.slice a len cap] w fun e w'=>e=.returned (.func (Fn.func 54) #[] #[.pointer (some ⟨w.heap.size,0,none⟩)])∧w'=w.alloc (.cells #[.slice a len cap] 95):=by
 go_enter Tryz.func31,Tryz.ntmps31;go_wp2;go_ret;exact⟨rfl,rfl⟩
theorem fates_any (m:ByteArray)(x y h:Int)(g:Nat)(S:Int)(ao:Option Addr)(n cap:Nat)(ao2:Option Addr)(n2 cap2:Nat)(ao3:Option Addr)(n3 cap3:Nat)(Ls:LkQ)(Hs:HoQ)(Ts:List (List Ru))(w:World)
 (hI:NIn w g S (.slice ao n cap) (.slice ao2 n2 cap2) (.slice ao3 n3 cap3) Ls Hs Ts) (hN:ntN S Ls Hs Ts=0) (hx:spB S (x,y)=true):
 Calls Tryz.prog 30 #[.agg #[.string m,.int .i64 x,.int .i64 y],.int .i64 h,.pointer (some ⟨g,0,none⟩)] w fun e w'=>∃gi lb,e=.returned (.func (Fn.func gi) #[] lb)∧(∀args w,(callFunc gi args).run Tryz.prog w=.ok (.enter gi args) w)∧ItF Tryz.prog gi lb FtV w'.heap.size [frF Ls Hs Ts (x,y) h] w'∧Below w.heap.size w w':=by
 have hb0:Below w.heap.size w (w.alloc (Obj.cells #[.string m,.int .i64 x,.int .i64 y] 33)):=(Below.refl _ _).alloc (Nat.le_refl _) _;have hI0:=hI.later hb0;have hs:=hsbox_new w m x y 33;obtain⟨w0,hw0⟩:∃W,w.alloc (Obj.cells #[.string m,.int .i64 x,.int .i64 y] 33)=W:=⟨_,rfl⟩;rw[hw0] at hb0 hI0 hs;have HW0:Hid (w.alloc (Obj.cells #[.string m,.int .i64 x,.int .i64 y] 33)=w0):=hw0;have HB0:Hid (Below w.heap.size w w0):=hb0;have HI0:Hid (NIn w0 g S (.slice ao n cap) (.slice ao2 n2 cap2) (.slice ao3 n3 cap3) Ls Hs Ts):=hI0;have HN:Hid (ntN S Ls Hs Ts=0):=hN;have HSP:Hid (spB S (x,y)=true):=hx;obtain⟨F,hF⟩:∃F,F=frF Ls Hs Ts (x,y) h:=⟨_,rfl⟩;have HF:Hid (frF Ls Hs Ts (x,y) h=F):=hF.symm;rw[←hF];obtain⟨b0,b1,b2,b3⟩:=hI0.box;obtain⟨s0,s1,s2⟩:=hs;clear hb0 hI0 hI hN hx hw0 hF;go_enter Tryz.func30,Tryz.ntmps30;go_upto_region 1 with fail;rw[HW0.out];clear HW0
 go_wp2_with fail
 refine (follow_any S ao n cap ao2 n2 cap2 ao3 n3 cap3 Ls Hs Ts x y h _ HI0.out.l HI0.out.h HI0.out.t HN.out HSP.out).mono ?_;rintro e w1 ⟨ao4,n4,cap4,rfl,hown,hb1⟩;rw[HF.out] at hown;rw[HF.out];have hG:GS hopE w1 (.slice ao4 n4 cap4) F.2.2:=own_GS (E:=hopE) hown;have HB1:Hid (Below w.heap.size w w1):=HB0.out.trans (hb1.mono HB0.out.size);have HG:Hid (GS hopE w1 (.slice ao4 n4 cap4) F.2.2):=hG;obtain⟨F1,hF1⟩:∃q,q=F.1:=⟨_,rfl⟩;obtain⟨F2,hF2⟩:∃q,q=F.2.1:=⟨_,rfl⟩;rw[←hF1,←hF2];have HFV:Hid (F.1=F1∧F.2.1=F2):=⟨hF1.symm,hF2.symm⟩;clear hF1 hF2 hown hb1 hG b0 b1 b2 b3 s0 s1 s2
 go_wp2_with fail
 refine (values_any _ _ _ _).mono ?_;rintro e w2 ⟨rfl,hw2⟩;have hal:Below w1.heap.size w1 (w1.alloc (Obj.cells #[.int .i64 F1,.string F2,.slice ao4 n4 cap4] 98)):=(Below.refl _ _).alloc (Nat.le_refl _) _;have hal2:Below (w1.alloc (Obj.cells #[.int .i64 F1,.string F2,.slice ao4 n4 cap4] 98)).heap.size (w1.alloc (Obj.cells #[.int .i64 F1,.string F2,.slice ao4 n4 cap4] 98)) w2:=by rw[hw2];exact (Below.refl _ _).alloc (Nat.le_refl _) _
 have hbx:Boxed w2 (w1.alloc (Obj.cells #[.int .i64 F1,.string F2,.slice ao4 n4 cap4] 98)).heap.size 95 (.slice (some ⟨w1.heap.size,0,none⟩) 1 1):=by rw[hw2];exact Boxed.new _ _ _
 have hfb:FaBox w2 w1.heap.size F.1 F.2.1 (.slice ao4 n4 cap4):=by rw[HFV.out.1,HFV.out.2];exact (fabox_new w1 F1 F2 _ 98).later hal2
 have HIT:Hid (ItF Tryz.prog 54 #[.pointer (some ⟨(w1.alloc (Obj.cells #[.int .i64 F1,.string F2,.slice ao4 n4 cap4] 98)).heap.size,0,none⟩)] FtV w2.heap.size [F] w2):=values_it F _ _ ao4 n4 cap4 w2 hbx hfb ((HG.out.later hal).later hal2);have HB2:Hid (Below w.heap.size w w2):=HB1.out.trans ((hal.trans (hal2.mono hal.size)).mono HB1.out.size);clear hw2 hal hal2 hbx hfb;go_wp2;go_ret;refine⟨_,_,rfl,enters_of Tryz.func54 (by kernel_rfl) rfl,?_,HB2.out⟩;have h:=HIT.out;rw[World.size_alloc] at h;exact h
theorem broken_any (g:Nat)(S:Int)(ao:Option Addr)(n cap:Nat)(ao2:Option Addr)(n2 cap2:Nat)(ao3:Option Addr)(n3 cap3:Nat)(a4:Option Addr)(n4 c4:Nat)(Ls:LkQ)(Hs:HoQ)(Ts:List (List Ru))(l:List Wi)(w:World)
 (hI:NIn w g S (.slice ao n cap) (.slice ao2 n2 cap2) (.slice ao3 n3 cap3) Ls Hs Ts) (hN:ntN S Ls Hs Ts=0) (hl:GS wisE w (.slice a4 n4 c4) l):
 Calls Tryz.prog 29 #[.slice ao2 n2 cap2,.slice a4 n4 c4,.func (Fn.func 30) #[] #[.pointer (some ⟨g,0,none⟩)]] w fun e w'=>e=.returned (.tuple #[.agg #[.int .i64 (prV Hs (brW Ls Hs Ts l Hs l.length)).1,.string (prV Hs (brW Ls Hs Ts l Hs l.length)).2.1,.int .i64 (prV Hs (brW Ls Hs Ts l Hs l.length)).2.2],.bool (brW Ls Hs Ts l Hs l.length).isSome])∧Below w.heap.size w w':=by
 have hHG:=(tp_0 (nt_0 hN).1).2.2.2.2.1;refine (fwbrk_any g ao2 n2 cap2 a4 n4 c4 Hs (fun z h=>[frF Ls Hs Ts (Hs.getD z zeO).2 (h:Int)]) l w hI.h hl (fun h hh=>?_) ?_).mono ?_
 ·have:=nm_small (hHG h hh).1;omega
 ·intro z hz h h16 W hW;have e:Hs.getD z zeO=Hs[z]:=getO hz
  dsimp only
  rw[e];exact fates_any Hs[z].1 Hs[z].2.1 Hs[z].2.2 h g S ao n cap ao2 n2 cap2 ao3 n3 cap3 Ls Hs Ts W (hI.later hW) hN (hHG _ (List.getElem_mem hz)).2
 rintro e w' ⟨held,p,rfl,hF,hb⟩;obtain⟨e1,e2⟩:=fb_br hF;rw[e1,e2];exact⟨rfl,hb⟩
structure HoBox (w W:World)(S:Int)(v1 v2 v3:Value):Prop where
 below:Below w.heap.size w W
 n:NeBox W w.heap.size S v1 v2 v3
 p:PrBox w W (w.heap.size+1) 0 ⟨#[]⟩ 0
theorem hobox_new (w:World)(S:Int)(v1 v2 v3:Value):HoBox w ((w.alloc (Obj.cells #[.int .i64 S,v1,v2,v3] 28)).alloc (Obj.cells #[.int .i64 0,.string ⟨#[]⟩,.int .i64 0] 65)) S v1 v2 v3:=by
 have e1:(w.alloc (Obj.cells #[.int .i64 S,v1,v2,v3] 28)).heap.size=w.heap.size+1:=by simp
 have hb:∀(W:World) (o:Obj),Below W.heap.size W (W.alloc o):=fun W o=>(Below.refl _ _).alloc (Nat.le_refl _) _
 have hn:=(nebox_new w S v1 v2 v3 28).later (hb _ (Obj.cells #[.int .i64 0,.string ⟨#[]⟩,.int .i64 0] 65));have hB:=((Below.refl w.heap.size w).alloc (Nat.le_refl _) (Obj.cells #[.int .i64 S,v1,v2,v3] 28)).alloc (by rw[e1];omega) (Obj.cells #[.int .i64 0,.string ⟨#[]⟩,.int .i64 0] 65)
 generalize w.alloc (Obj.cells #[.int .i64 S,v1,v2,v3] 28)=X at e1 hn hB
 have hr:=prbox_new X w 0 ⟨#[]⟩ 0;rw[e1] at hr;exact⟨hB,hn,hr⟩
theorem HoBox.later {w W W':World}{S:Int}{v1 v2 v3:Value}(k:HoBox w W S v1 v2 v3)(hb:Below W.heap.size W W'):HoBox w W' S v1 v2 v3:=
 ⟨k.below.trans (hb.mono k.below.size),k.n.later hb,k.p.later hb⟩
theorem holds_any (S:Int)(ao:Option Addr)(n cap:Nat)(ao2:Option Addr)(n2 cap2:Nat)(ao3:Option Addr)(n3 cap3:Nat)(a4:Option Addr)(n4 c4:Nat)(Ls:LkQ)(Hs:HoQ)(Ts:List (List Ru))(l:List Wi)(w:World)
 (hL:GS lnkE w (.slice ao n cap) Ls) (hH:GS hstE w (.slice ao2 n2 cap2) Hs) (hT:TS w (.slice ao3 n3 cap3) Ts) (hl:GS wisE w (.slice a4 n4 c4) l):
 Calls Tryz.prog 14 #[.agg #[.int .i64 S,.slice ao n cap,.slice ao2 n2 cap2,.slice ao3 n3 cap3],.slice a4 n4 c4] w fun e w'=>e=.returned (.tuple #[.agg #[.int .i64 (wiV S Ls Hs Ts l).1,.string (wiV S Ls Hs Ts l).2.1,.int .i64 (wiV S Ls Hs Ts l).2.2],noV (wiN S Ls Hs Ts l)])∧Below w.heap.size w w':=by
 obtain⟨R,hR⟩:∃R,R=wiN S Ls Hs Ts l:=⟨_,rfl⟩;obtain⟨V,hV⟩:∃V,V=wiV S Ls Hs Ts l:=⟨_,rfl⟩;have HR:Hid (R=wiN S Ls Hs Ts l):=hR;have HV:Hid (V=wiV S Ls Hs Ts l):=hV;rw[←hR,←hV];have HLW:Hid (∀W,Below w.heap.size w W→GS lnkE W (.slice ao n cap) Ls):=fun W hb=>hL.later hb
 have HHW:Hid (∀W,Below w.heap.size w W→GS hstE W (.slice ao2 n2 cap2) Hs):=fun W hb=>hH.later hb
 have HTW:Hid (∀W,Below w.heap.size w W→TS W (.slice ao3 n3 cap3) Ts):=fun W hb=>hT.later hb
 have HlW:Hid (∀W,Below w.heap.size w W→GS wisE W (.slice a4 n4 c4) l):=fun W hb=>hl.later hb
 have hX:=hobox_new w S (.slice ao n cap) (.slice ao2 n2 cap2) (.slice ao3 n3 cap3);obtain⟨w0,hw0⟩:∃W,(w.alloc (Obj.cells #[.int .i64 S,.slice ao n cap,.slice ao2 n2 cap2,.slice ao3 n3 cap3] 28)).alloc (Obj.cells #[.int .i64 0,.string ⟨#[]⟩,.int .i64 0] 65)=W:=⟨_,rfl⟩;rw[hw0] at hX;have HX:Hid (HoBox w w0 S (.slice ao n cap) (.slice ao2 n2 cap2) (.slice ao3 n3 cap3)):=hX;have HW0:Hid ((w.alloc (Obj.cells #[.int .i64 S,.slice ao n cap,.slice ao2 n2 cap2,.slice ao3 n3 cap3] 28)).alloc (Obj.cells #[.int .i64 0,.string ⟨#[]⟩,.int .i64 0] 65)=w0):=hw0;clear hL hH hT hl hR hV hX hw0;go_enter Tryz.func14,Tryz.ntmps14;go_upto_region 1 with fail;rw[HW0.out];obtain⟨_,⟨b0,b1,b2,b3⟩,_⟩:=HX.out;clear HW0
 go_wp2_with fail
 refine (ncheck_any S ao n cap ao2 n2 cap2 ao3 n3 cap3 Ls Hs Ts _ (HLW.out _ HX.out.below) (HHW.out _ HX.out.below) (HTW.out _ HX.out.below)).mono ?_;rintro e w1 ⟨rfl,hb1⟩;obtain⟨T,hT⟩:∃T,T=ntN S Ls Hs Ts:=⟨_,rfl⟩;have HT:Hid (T=ntN S Ls Hs Ts):=hT;rw[←hT];have HX1:Hid (HoBox w w1 S (.slice ao n cap) (.slice ao2 n2 cap2) (.slice ao3 n3 cap3)):=HX.out.later hb1;clear hT hb1 HX b0 b1 b2 b3;by_cases h0:T=0
 ·have HN0:Hid (ntN S Ls Hs Ts=0):=HT.out.symm.trans h0;subst h0;rw[no_ok rfl];obtain⟨_,⟨b0,b1,b2,b3⟩,_⟩:=HX1.out
  go_wp2_with fail
  refine (wcheck_any S ao n cap ao2 n2 cap2 a4 n4 c4 Ls Hs l _ (HLW.out _ HX1.out.below) (HHW.out _ HX1.out.below) (HlW.out _ HX1.out.below)).mono ?_;rintro e w2 ⟨rfl,hb2⟩;obtain⟨U,hU⟩:∃U,U=wsN S Ls Hs l:=⟨_,rfl⟩;have HU:Hid (U=wsN S Ls Hs l):=hU;rw[←hU];have HX2:Hid (HoBox w w2 S (.slice ao n cap) (.slice ao2 n2 cap2) (.slice ao3 n3 cap3)):=HX1.out.later hb2;clear hU hb2 HX1 b0 b1 b2 b3;by_cases h5:U=0
  ·have HU0:Hid (wsN S Ls Hs l=0):=HU.out.symm.trans h5;subst h5;rw[no_ok rfl];obtain⟨_,⟨b0,b1,b2,b3⟩,_⟩:=HX2.out;have hlw:w.heap.size<w2.heap.size:=bLQ _ _ b0
   go_wp2_with fail
   refine (broken_any w.heap.size S ao n cap ao2 n2 cap2 ao3 n3 cap3 a4 n4 c4 Ls Hs Ts l _ ⟨HX2.out.n,HLW.out _ HX2.out.below,HHW.out _ HX2.out.below,HTW.out _ HX2.out.below⟩ HN0.out (HlW.out _ HX2.out.below)).mono ?_;rintro e w3 ⟨rfl,hb3⟩;obtain⟨O,hO⟩:∃O,O=brW Ls Hs Ts l Hs l.length:=⟨_,rfl⟩;have HRO:Hid (R=if O.isSome then 9 else 0):=by
    show _=_;rw[HR.out,wiN,if_pos HN0.out,if_pos HU0.out,hO]
   have HVO:Hid (V=prV Hs O):=by
    show _=_;rw[HV.out,wiV,if_pos ⟨HN0.out,HU0.out⟩,hO]
   rw[←hO,←HVO.out];have HX3:Hid (HoBox w w3 S (.slice ao n cap) (.slice ao2 n2 cap2) (.slice ao3 n3 cap3)):=HX2.out.later hb3;obtain⟨V1,hV1⟩:∃q,q=V.1:=⟨_,rfl⟩;obtain⟨V2,hV2⟩:∃q,q=V.2.1:=⟨_,rfl⟩;obtain⟨V3,hV3⟩:∃q,q=V.2.2:=⟨_,rfl⟩;have HVV:Hid (V.1=V1∧V.2.1=V2∧V.2.2=V3):=⟨hV1.symm,hV2.symm,hV3.symm⟩;rw[←hV1,←hV2,←hV3];have hal:Below w3.heap.size w3 (w3.alloc (Obj.cells #[.int .i64 V1,.string V2,.int .i64 V3] 65)):=(Below.refl _ _).alloc (Nat.le_refl _) _;have hpr:=prbox_new w3 w V1 V2 V3;have hX4:=HX3.out.later hal;obtain⟨w4,hw4⟩:∃W,w3.alloc (Obj.cells #[.int .i64 V1,.string V2,.int .i64 V3] 65)=W:=⟨_,rfl⟩;obtain⟨gp,hgp⟩:∃q,q=w3.heap.size:=⟨_,rfl⟩;rw[hw4] at hal hpr hX4;rw[←hgp] at hpr;have HW4:Hid (w3.alloc (Obj.cells #[.int .i64 V1,.string V2,.int .i64 V3] 65)=w4):=hw4;have HGP:Hid (w3.heap.size=gp):=hgp.symm;have HLP:Hid (w.heap.size+1<gp):=by
    show _<_;rw[hgp];have h1:=bLQ _ _ HX3.out.p.c0;simpa using h1
   have HPR:Hid (PrBox w w4 gp V1 V2 V3):=hpr;have HX4:Hid (HoBox w w4 S (.slice ao n cap) (.slice ao2 n2 cap2) (.slice ao3 n3 cap3)):=hX4;clear hb3 hO hV1 hV2 hV3 hal hpr hX4 hw4 hgp b0 b1 b2 b3 HX2;obtain⟨B,hB⟩:∃B,B=O.isSome:=⟨_,rfl⟩;have HBO:Hid (O.isSome=B):=hB.symm;rw[←hB];clear hB;go_upto_region 8 with fail;rw[HW4.out,HGP.out];clear HW4 HGP;obtain⟨hB4,_,⟨r0,r1,r2,rf⟩⟩:=HX4.out;have f0:=rf 0;have f1:=rf 1;have f2:=rf 2;have HB4:Hid (Below w.heap.size w w4):=hB4;obtain⟨p0,p1,p2,_⟩:=HPR.out;clear hB4 rf;cases B with
   | true =>
     have HR9:Hid (R=9):=by
      show _=_;rw[HRO.out,HBO.out,if_pos rfl]
     go_wp2;refine bodyPost_ret (v:=.tuple #[.agg #[.int .i64 V1,.string V2,.int .i64 V3],.iface 63 (.int .i64 9)]) (by simp[results,Tryz.results14,go_sem, *]) rfl ⟨by rw[HR9.out,HVV.out.1,HVV.out.2.1,HVV.out.2.2];rfl,below_put3 HB4.out _ (by omega) _ _ _⟩
   | false =>
     have HR9:Hid (R=0):=by
      show _=_;rw[HRO.out,HBO.out,if_neg (by decide)]
     have HVZ:Hid (V=(0,ByteArray.empty,0)):=by
      show _=_;rw[HVO.out];cases O with
      | none=>rfl
      | some p=>have:=HBO.out;simp at this
     go_wp2;refine bodyPost_ret (v:=.tuple #[.agg #[.int .i64 0,.string ⟨#[]⟩,.int .i64 0],.nilIface]) (by simp[results,Tryz.results14,go_sem, *]) rfl ⟨by rw[HR9.out,HVZ.out];rfl,below_put3 HB4.out _ (by omega) _ _ _⟩
  rw[no_ne h5];have HNE:Hid (U≠0):=h5;have HR1:Hid (R=U):=by
   show _=_;rw[HR.out,wiN,if_pos HN0.out,if_neg (by rw[←HU.out];exact h5),HU.out]
  have HV1:Hid (V=(0,ByteArray.empty,0)):=by
   show _=_;rw[HV.out,wiV,if_neg (fun h=>h5 (HU.out.trans h.2))]
  obtain⟨hB2,_,⟨r0,r1,r2,rf⟩⟩:=HX2.out;have f0:=rf 0;have f1:=rf 1;have f2:=rf 2;have HB2:Hid (Below w.heap.size w w2):=hB2;clear h5 hB2 rf;go_wp2;refine bodyPost_ret (v:=.tuple #[.agg #[.int .i64 0,.string ⟨#[]⟩,.int .i64 0],.iface 63 (.int .i64 U)]) (by simp[results,Tryz.results14,go_sem, *]) rfl ⟨by rw[HR1.out,HV1.out,no_ne HNE.out];rfl,below_put3 HB2.out _ (by omega) _ _ _⟩
 rw[no_ne h0];have HNE:Hid (T≠0):=h0;have HR1:Hid (R=T):=by
  show _=_;rw[HR.out,wiN,if_neg (by rw[←HT.out];exact h0),HT.out]
 have HV1:Hid (V=(0,ByteArray.empty,0)):=by
  show _=_;rw[HV.out,wiV,if_neg (fun h=>h0 (HT.out.trans h.1))]
 obtain⟨hB2,_,⟨r0,r1,r2,rf⟩⟩:=HX1.out;have f0:=rf 0;have f1:=rf 1;have f2:=rf 2;have HB2:Hid (Below w.heap.size w w1):=hB2;clear h0 hB2 rf;go_wp2;refine bodyPost_ret (v:=.tuple #[.agg #[.int .i64 0,.string ⟨#[]⟩,.int .i64 0],.iface 63 (.int .i64 T)]) (by simp[results,Tryz.results14,go_sem, *]) rfl ⟨by rw[HR1.out,HV1.out,no_ne HNE.out];rfl,below_put3 HB2.out _ (by omega) _ _ _⟩
end
end Go.Proofs.YtiokpmlhmlcojaaGreat
