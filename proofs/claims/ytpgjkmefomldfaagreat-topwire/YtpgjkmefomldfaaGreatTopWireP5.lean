/- Contracts and facts on the way to TopWire, joined into one text: ItLaw, GenTake, WishHold, SlWish, BrokenBox, WishBroken, WishCheck, WishHolds, RuleOwn, TableApp. -/
import Derived.Test.YtpgjkmefomldfaaGreatTopWireP4
namespace Go.Proofs.YtpgjkmefomldfaaGreat
set_option linter.unusedSimpArgs false
set_option linter.unusedVariables false
set_option maxHeartbeats 16000000
set_option maxRecDepth 100000
open Go.Proofs.Tryz
open IntKind (i64)
section
open Go.RowKit Go.Shelf
structure Kb (p:Nat→Prop)(w w':World):Prop where
 os:w'.os=w.os
 tape:w'.tape=w.tape
 output:w'.output=w.output
 size:w.heap.size≤w'.heap.size
 block:∀k,k<w.heap.size→p k→w'.heap[k]?=w.heap[k]?
theorem Kb.refl (p:Nat→Prop)(w:World):Kb p w w:=⟨rfl,rfl,rfl,nLQ _,fun _ _ _=>rfl⟩
theorem Kb.trans {p:Nat→Prop}{a b c:World}(h:Kb p a b)(k:Kb p b c):Kb p a c:=
 ⟨k.os.trans h.os,k.tape.trans h.tape,k.output.trans h.output,Nat.le_trans h.size k.size,fun i hi hx=>(k.block i (Nat.lt_of_lt_of_le hi h.size) hx).trans (h.block i hi hx)⟩
theorem Kb.mono {p q:Nat→Prop}{w w':World}(h:Kb p w w')(hq:∀b,b<w.heap.size→q b→p b):Kb q w w':=⟨h.os,h.tape,h.output,h.size,fun k hk hx=>h.block k hk (hq k hk hx)⟩
theorem Kb.of_below {p:Nat→Prop}{n₀:Nat}{w w':World}(h:Below n₀ w w')(hp:∀b,b<w.heap.size→p b→b<n₀):Kb p w w':=⟨h.os,h.tape,h.output,h.size,fun k hk hx=>h.block k (hp k hk hx)⟩
theorem Kb.below {p:Nat→Prop}{n₀:Nat}{w w':World}(h:Kb p w w')(hn:n₀≤w.heap.size)(hp:∀b,b<n₀→p b):Below n₀ w w':=⟨h.os,h.tape,h.output,h.size,fun k hk=>h.block k (by omega) (hp k hk)⟩
theorem Kb.drew {p:Nat→Prop}{a w:World}(h:Kb p a w):Kb p a w.drew:=⟨h.os,h.tape,h.output,h.size,h.block⟩
theorem Kb.alloc {p:Nat→Prop}{a w:World}(h:Kb p a w)(o:Obj):Kb p a (w.alloc o):=
 h.trans (Kb.of_below ((Below.refl w.heap.size w).alloc (nLQ _) o) (fun b hb _=>hb))
theorem Kb.setCell {p:Nat→Prop}{a w:World}(h:Kb p a w){q:Addr}(hq:q.block<a.heap.size→¬p q.block)(v:Value):Kb p a (w.setCell q v):=by
 refine⟨h.os,h.tape,h.output,?_,fun k hk hx=>(Below.heap_setCell w q v k ?_).trans (h.block k hk hx)⟩
 ·show a.heap.size≤(w.heap.modify _ _).size;rw[Array.size_modify];exact h.size
 intro e;subst e;exact hq hk hx
theorem Kb.putObj {p:Nat→Prop}{a w:World}(h:Kb p a w){l:Nat}(hl:l<a.heap.size→¬p l)(o:Obj):Kb p a (w.putObj l o):=by
 have hg:=grownBy_putObj' w l o;refine⟨hg.os.trans h.os,hg.tape.trans h.tape,hg.output.trans h.output,Nat.le_trans h.size hg.size,fun k hk hx=>(hg.block k (Nat.lt_of_lt_of_le hk h.size) (fun e=>?_)).trans (h.block k hk hx)⟩;cases e;exact hl hk hx
theorem Kb.grown {p:Nat→Prop}{a w w':World}{row:Option Nat}(h:Kb p a w)(hg:w.grownBy w' row)(hr:∀r,row=some r→r<a.heap.size→¬p r):Kb p a w':=
 ⟨hg.os.trans h.os,hg.tape.trans h.tape,hg.output.trans h.output,Nat.le_trans h.size hg.size,fun k hk hx=>(hg.block k (Nat.lt_of_lt_of_le hk h.size) (fun e=>hr k e.symm hk hx)).trans (h.block k hk hx)⟩
theorem Kb.cell {p:Nat→Prop}{w w':World}(h:Kb p w w'){q:Addr}(hl:q.block<w.heap.size)(hp:p q.block):w'.cell? q=w.cell? q:=World.cell?_of_block (w:=w) (h.block q.block hl hp)
theorem Kb.at {p:Nat→Prop}{w w':World}(h:Kb p w w'){q:Addr}{v:Value}(hc:w.cell? q=some v)(hp:p q.block):w'.cell? q=some v:=(h.cell (bLQ _ _ hc) hp).trans hc
theorem Kb.frozen {p:Nat→Prop}{w w':World}(h:Kb p w w'){q:Addr}(hl:q.block<w.heap.size)(hp:p q.block):w'.frozen? q=w.frozen? q:=by
 simp only[World.frozen?,h.block q.block hl hp]
theorem Kb.boxed {p:Nat→Prop}{w w':World}(h:Kb p w w'){b:Nat}{t:TypeId}{v:Value}(hb:Boxed w b t v)(hp:p b):Boxed w' b t v:=(h.block b hb.lt hp).trans hb
theorem room_none (k:Nat):Fence.wide.room k:=room_wide k
theorem round_any {m m':Nat}{P:Program}{l:Nat}{f:FuncId}{tmps:Array Value}{assign body:Code}{w:World}{R:Ending→World→Prop}(h:RoundIn Fence.wide m P l f tmps assign body w R):RoundIn Fence.wide m' P l f tmps assign body w R:=⟨h.1,fun c cs _=>h.2 c cs (room_none _)⟩
theorem yield_any {m m':Nat}{P:Program}{l:Nat}{args:Array Value}{W:World}{R:Ending→World→Prop}(h:YieldAt Fence.wide m P l args W R):YieldAt Fence.wide m' P l args W R:=by
 obtain⟨fn,tmps,assign,body,hy,hR⟩:=h;exact⟨fn,tmps,assign,body,hy,round_any hR⟩
def ItF {α:Type}(P:Program)(g:Nat)(lb:Array Value)(Vl:World→Array Value→α→Prop)(n₀:Nat)(L:List α)(w:World):Prop:=
 ∀ (l:Nat) (J:Nat→(Nat→Prop)→World→Prop) (Jx:World→Prop) (W:World),Below n₀ w W→n₀≤W.heap.size →
   J 0 (fun _=>False) W →
   (∀k X A,J k X A→∀b,X b→b<A.heap.size) →
   (∀k X A A',J k X A→Kb (fun b=>b<W.heap.size∨X b) A A'→J k X A') →
   (∀A A',Jx A→Kb (fun _=>True) A A'→Jx A') →
   (∀k X A args x (Y:Nat→Prop),J k X A→L[k]?=some x→Vl A args x→W.heap.size≤A.heap.size→(∀b,Y b→W.heap.size≤b∧¬X b)→YieldAt Fence.wide 0 P l args A fun e A' =>
    (e=.returned (.bool true)∧(∃X',J (k+1) X' A'∧∀b,X' b→X b∨A.heap.size≤b)∧Kb (fun b=>b<n₀∨Y b) A A')∨(e=.returned (.bool false)∧Jx A'∧Kb (fun b=>b<n₀∨Y b) A A')) →
   Calls P g (#[.func (.yield l) #[] #[]]++lb) W fun e W'=>(∃v,e=.returned v)∧((∃X,J L.length X W')∨Jx W')
theorem ItF.later {α:Type}{P:Program}{g:Nat}{lb:Array Value}{Vl:World→Array Value→α→Prop}{n₀:Nat}{L:List α}{w w':World}(h:ItF P g lb Vl n₀ L w)(hb:Below n₀ w w'):ItF P g lb Vl n₀ L w':=
 fun l J Jx W hW hn h1 h2 h3 h4 h5=>h l J Jx W (hb.trans hW) hn h1 h2 h3 h4 h5
def itPost (p:Nat→Prop)(I:World→Prop)(Ix:Code→World→Prop)(W:World):Exit→Act→World→Prop
 | .normal,_,W'=>Kb p W W'∧I W'
 | .ret,_,W'=>Kb p W W'∧Ix .ret W'
 | .exit id,_,W'=>Kb p W W'∧Ix (.exit id) W'
 | .goto t,_,W'=>Kb p W W'∧Ix (.goto t) W'
 | .panic _,_,_=>False
 | .outgrown,_,_=>False
theorem wpIn_rangeFunc_it {P:Program}{n:Nat}{α:Type}{g:Operand}{ps:Array Tmp}{assign body:Code}{Q:Exit→Act→World→Prop}{a:Act}{w:World}
 (h1:1≤n) {gf:Nat} {lb:Array Value} (hg:a.eval g=.func (.func gf) #[] lb) (eg:∀args w,(callFunc gf args).run P w=.ok (.enter gf args) w)
 {Vl:World→Array Value→α→Prop} {n₀:Nat} {L:List α} {w0:World} (hseq:ItF P gf lb Vl n₀ L w0) (hb0:Below n₀ w0 w) (hn₀:n₀≤w.heap.size) (hps:∀A args x,Vl A args x→args.size=ps.size)
 (I:Nat→(Nat→Prop)→World→Prop) (Ix:Code→World→Prop)
 (hlt:∀k X A,I k X A→∀b,X b→w.heap.size+2≤b∧b<A.heap.size)
 (hI:∀k X A A',I k X A→Kb (fun b=>b<w.heap.size∨X b) A A'→I k X A')
 (hIx:∀c A A',Ix c A→Kb (fun b=>b<w.heap.size∨w.heap.size+2≤b) A A'→Ix c A')
 (h0:I 0 (fun _=>False) w)
 (hround:∀(l k:Nat) (X Y:Nat→Prop) (x:α) (args:Array Value) (W:World),l=w.heap.size+1→w.heap.size+2≤W.heap.size→I k X W→L[k]?=some x→Vl W args x→(∀b,Y b→w.heap.size+2≤b∧¬X b)→(∀q:Addr,q.block=l→W.cell? q=none) →
  assign.wpIn (Fence.wide.inRound l) (n-1-1) P (Exit.then (fun a' Wa=>Kb (fun b=>b<n₀∨b=w.heap.size∨b=l∨Y b) W Wa∧∀W2,Kb (fun b=>b≠l) Wa W2→body.wpIn (Fence.wide.inRound l) (n-1-1) P (itPost (fun b=>b<n₀∨b=w.heap.size∨b=l∨Y b) (fun W'=>∃X',I (k+1) X' W'∧∀b,X' b→X b∨W.heap.size≤b) Ix W2) a' W2) (fun _ _ _=>False)) { tmps:=(ps.zip args).foldl (fun t (p,v)=>t.setIfInBounds p v) a.tmps,defers:=[] } W)
 (hdone:∀(X:Nat→Prop) (W:World),I L.length X W→W.heap[w.heap.size]?=some (.deferred (some []))→Q .normal { a with defers:={ target:=.collected w.heap.size,args:=#[] } :: a.defers } W)
 (hstop:∀(c:Code) (W:World),Ix c W→W.heap[w.heap.size]?=some (.deferred (some []))→c.wpIn Fence.wide n P Q { a with defers:={ target:=.collected w.heap.size,args:=#[] } :: a.defers } W):
 (Code.rangeFunc g ps assign body).wpIn Fence.wide n P Q a w:=by
 refine wpIn_rangeFunc ?_;intro fn hfn;rw[show Fence.wide.round=none from rfl];obtain⟨rec,hrec⟩:∃rec:LoopState→Option Code→Loop,rec=fun st pe=>{ state:=st,pending:=pe,fn,tmps:=a.tmps,params:=ps,assign,body,defers:=w.heap.size }:=⟨_,rfl⟩
 obtain⟨W1,hW1⟩:∃W1,(w.alloc (.deferred (some []))).alloc (.loop (rec .ready none))=W1:=⟨_,rfl⟩;have hL1:W1.heap[w.heap.size+1]?=some (.loop (rec .ready none)):=by
  rw[←hW1];have:=World.alloc_heap_new (w.alloc (.deferred (some []))) (.loop (rec .ready none));rwa [World.size_alloc] at this
 have hK1:W1.heap[w.heap.size]?=some (.deferred (some [])):=by
  rw[←hW1];exact (Below.heap_alloc _ _ _ (by simp)).trans (World.alloc_heap_new w _)
 have hS1:W1.heap.size=w.heap.size+2:=by rw[←hW1];simp
 have hB1:Below w.heap.size w W1:=by
  rw[←hW1];exact ((Below.refl _ w).alloc (nLQ _) _).alloc (by simp) _
 have hb1:Below n₀ w0 W1:=hb0.trans (hB1.mono hn₀);refine⟨w.heap.size+1,[{ target:=.collected w.heap.size,args:=#[] }],W1,{ target:=.fn (.func gf) lb,args:=#[.func (.yield (w.heap.size+1)) #[] #[]] },W1,gf,
  #[.func (.yield (w.heap.size+1)) #[] #[]]++lb,W1,?_,?_,?_,?_,fun _=>h1,?_⟩
 ·rw[←hW1,hrec];exact run_enterLoop_outer _ _ _ _ _
 ·simp only[resolve,hg];simp[go_sem]
 ·intro f' hf';trivial
 ·simp[invoke,go_sem,eg]
 have hI1:∀{k:Nat} {X:Nat→Prop} {A:World} (o:Obj),I k X A→I k X (A.putObj (w.heap.size+1) o):=fun o h=>hI _ _ _ _ h ((Kb.refl _ _).putObj (fun _ hp=>hp.elim (fun h=>by omega) (fun hx=>by have:=(hlt _ _ _ h _ hx).1;omega)) o)
 refine (callsIn_wide.2 (hseq (w.heap.size+1)
  (fun k X W=>I k X W∧W.heap[w.heap.size+1]?=some (.loop (rec .ready none))∧W.heap[w.heap.size]?=some (.deferred (some [])))
  (fun W=>∃c,Ix c W∧W.heap[w.heap.size+1]?=some (.loop (rec .done (some c)))∧W.heap[w.heap.size]?=some (.deferred (some [])))
  W1 hb1 (by omega) ?_ ?_ ?_ ?_ ?_)).mono ?_
 ·exact⟨hI _ _ _ _ h0 (Kb.of_below hB1 (fun b _ h=>h.elim id False.elim)),hL1,hK1⟩
 ·exact fun k X A h b hx=>(hlt _ _ _ h.1 b hx).2
 ·rintro k X A A' ⟨hi,hl,hd⟩ hk;rw[hS1] at hk;have hlt':w.heap.size+1<A.heap.size:=(Array.getElem?_eq_some_iff.1 hl).1;exact⟨hI k X A A' hi (hk.mono (fun b _ h=>h.imp (fun h=>by omega) id)),(hk.block _ hlt' (.inl (by omega))).trans hl,(hk.block _ (by omega) (.inl (by omega))).trans hd⟩
 ·rintro A A' ⟨c,hi,hl,hd⟩ hk;have hlt':w.heap.size+1<A.heap.size:=(Array.getElem?_eq_some_iff.1 hl).1;exact⟨c,hIx c A A' hi (hk.mono (fun _ _ _=>trivial)),(hk.block _ hlt' trivial).trans hl,(hk.block _ (by omega) trivial).trans hd⟩
 ·rintro k X W args x Y ⟨hi,hl,hd⟩ hx hv hWW hY;rw[hS1] at hY hWW;have hlt':w.heap.size+1<W.heap.size:=(Array.getElem?_eq_some_iff.1 hl).1;have hy:=run_yield (P:=P) (args:=args) hl (by rw[hrec];exact hps _ _ _ hv);rw[hrec] at hy;refine yield_any (m:=n-1-1) ⟨fn,_,assign,body,hy,roundIn_of_wpIn hfn (wpIn_mono (hround _ k X Y x args W rfl hWW hi hx hv hY (fun q hq=>by simp[World.cell?,hq,hl])) ?_)⟩;clear hy;intro e1 a' Wa hp;cases e1 with
  | normal =>
    obtain⟨hka,hbody⟩:=hp;have hl2:=(hka.block _ hlt' (.inr (.inr (.inl rfl)))).trans hl;have hd2:=(hka.block w.heap.size (by omega) (.inr (.inl rfl))).trans hd;have hlta:w.heap.size+1<Wa.heap.size:=(Array.getElem?_eq_some_iff.1 hl2).1;refine⟨_,run_beginRound hl2 (by rw[hrec]),?_⟩;have hkb:Kb (fun b=>b≠w.heap.size+1) Wa (Wa.putObj (w.heap.size+1) (.loop { rec .ready none with state:=.busy })):=(Kb.refl _ _).putObj (fun _ h=>h rfl) _;have hl3:(Wa.putObj (w.heap.size+1) (.loop { rec .ready none with state:=.busy })).heap[w.heap.size+1]?=some (.loop { rec .ready none with state:=.busy }):=World.putObj_heap_same hlta;have hd3:=(hkb.block w.heap.size (by omega) (by omega)).trans hd2;refine wpIn_mono (hbody _ hkb) ?_
    generalize Wa.putObj (w.heap.size+1) (.loop { rec .ready none with state:=.busy })=W2 at hkb hl3 hd3
    have hlt2:w.heap.size+1<W2.heap.size:=(Array.getElem?_eq_some_iff.1 hl3).1;have fin:∀(jump:Option Code) (W3:World),Kb (fun b=>b<n₀∨b=w.heap.size∨b=w.heap.size+1∨Y b) W2 W3 →
     (Instr.endRound (w.heap.size+1) jump).run P W3=.ok (.bool jump.isNone) (W3.putObj (w.heap.size+1) (.loop (rec (if jump.isNone then .ready else .done) jump))) ∧
     W3.heap[w.heap.size+1]?=some (.loop { rec .ready none with state:=.busy }) ∧
     (W3.putObj (w.heap.size+1) (.loop (rec (if jump.isNone then .ready else .done) jump))).heap[w.heap.size+1]?=some (.loop (rec (if jump.isNone then .ready else .done) jump)) ∧
     (W3.putObj (w.heap.size+1) (.loop (rec (if jump.isNone then .ready else .done) jump))).heap[w.heap.size]?=some (.deferred (some [])):=fun jump W3 hk3=>by
     have hl4:=(hk3.block _ hlt2 (.inr (.inr (.inl rfl)))).trans hl3;have hd4:=(hk3.block w.heap.size (by omega) (.inr (.inl rfl))).trans hd3;have:=run_endRound (P:=P) jump hl4;rw[hrec] at this ⊢;exact⟨this,by rw[hrec] at hl4;exact hl4,World.putObj_heap_same (Array.getElem?_eq_some_iff.1 hl4).1,(World.putObj_heap_other (by omega)).trans hd4⟩
    rintro e a3 W3 hp;have hny:∀b,b<n₀∨Y b→b≠w.heap.size+1:=fun b h e=>h.elim (fun h=>by omega) (fun h=>by have:=(hY b h).1;omega)
    have hall:∀(W3:World) (o:Obj),Kb (fun b=>b<n₀∨b=w.heap.size∨b=w.heap.size+1∨Y b) W2 W3→Kb (fun b=>b<n₀∨Y b) W (W3.putObj (w.heap.size+1) o):=fun W3 o hk3=>(((hka.mono (fun b _ h=>h.imp id (fun h=>.inr (.inr h)))).trans ((hkb.mono (fun b _ h=>hny b h)).trans (hk3.mono (fun b _ h=>h.imp id (fun h=>.inr (.inr h)))))).trans ((Kb.refl _ _).putObj (fun _ h=>hny _ h rfl) _))
    cases e with
    | normal =>
      obtain⟨hk3,X',hi3,hX'⟩:=hp;obtain⟨hr,hl4,hl5,hd5⟩:=fin none W3 hk3;exact⟨_,_,hr,.inl ⟨rfl,⟨X',⟨hI1 _ hi3,hl5,hd5⟩,hX'⟩,hall _ _ hk3⟩⟩
    | ret =>
      obtain⟨hk3,hi3⟩:=hp;obtain⟨hr,hl4,hl5,hd5⟩:=fin (some .ret) W3 hk3;exact⟨_,_,hr,.inr ⟨rfl,⟨.ret,hIx _ W3 _ hi3 ((Kb.refl _ _).putObj (fun _ h=>by omega) _),hl5,hd5⟩,hall _ _ hk3⟩⟩
    | exit id =>
      obtain⟨hk3,hi3⟩:=hp;obtain⟨hr,hl4,hl5,hd5⟩:=fin (some (.exit id)) W3 hk3;exact⟨_,_,hr,.inr ⟨rfl,⟨.exit id,hIx _ W3 _ hi3 ((Kb.refl _ _).putObj (fun _ h=>by omega) _),hl5,hd5⟩,hall _ _ hk3⟩⟩
    | goto t =>
      obtain⟨hk3,hi3⟩:=hp;obtain⟨hr,hl4,hl5,hd5⟩:=fin (some (.goto t)) W3 hk3;exact⟨_,_,hr,.inr ⟨rfl,⟨.goto t,hIx _ W3 _ hi3 ((Kb.refl _ _).putObj (fun _ h=>by omega) _),hl5,hd5⟩,hall _ _ hk3⟩⟩
    | panic ch=>exact hp.elim
    | outgrown=>exact hp.elim
  | ret=>exact hp.elim
  | exit id=>exact hp.elim
  | goto t=>exact hp.elim
  | panic ch=>exact hp.elim
  | outgrown=>exact hp.elim
 rintro e W2 ⟨⟨v,rfl⟩,(⟨X,hi,hl,hd⟩ | ⟨c,hi,hl,hd⟩)⟩
 ·refine⟨none,_,by have:=run_endLoop (P:=P) hl (by rw[hrec];simp);rw[hrec] at this;exact this,?_⟩;exact hdone X _ (hI1 _ hi) ((World.putObj_heap_other (by omega)).trans hd)
 refine⟨some c,_,by have:=run_endLoop (P:=P) hl (by rw[hrec];simp);rw[hrec] at this;exact this,?_⟩;exact hstop c _ (hIx c W2 _ hi ((Kb.refl _ _).putObj (fun _ h=>by omega) _)) ((World.putObj_heap_other (by omega)).trans hd)
end
section
open Go.RowKit
theorem GS.take {α:Type}{E:Enc α}{W:World}{ao:AdQ}{n cap c:Nat}{L:List α}(h:GS E W (.slice ao n cap) L)(hc:c≤n):GS E W (.slice ao c cap) (L.take c):=by
 rcases h with ⟨ao',cap',e,rfl⟩ | ⟨g,o,cap',e,h1,h2,h3⟩
 ·simp only[Value.slice.injEq] at e;obtain⟨rfl,rfl,rfl⟩:=e;obtain rfl:c=0:=by omega
  exact .inl ⟨_,_,rfl,by simp⟩
 simp only[Value.slice.injEq] at e;obtain⟨rfl,rfl,rfl⟩:=e;have e1:(L.take c).length=c:=by rw[List.length_take];omega
 exact .inr ⟨g,o,cap,by rw[e1],by rw[e1];omega,h2,h3.take c⟩
theorem GS.drop {α:Type}{E:Enc α}{W:World}{g o n cap c:Nat}{L:List α}(h:GS E W (.slice (some ⟨g,o,none⟩) n cap) L)(hc:c≤n):GS E W (.slice (some ⟨g,o+c*E.n,none⟩) (n-c) (cap-c)) (L.drop c):=by
 rcases h with ⟨ao',cap',e,rfl⟩ | ⟨g',o',cap',e,h1,h2,h3⟩
 ·simp only[Value.slice.injEq] at e;obtain⟨rfl,rfl,rfl⟩:=e;obtain rfl:c=0:=by omega
  exact .inl ⟨_,_,rfl,by simp⟩
 simp only[Value.slice.injEq,Option.some.injEq,Addr.mk.injEq,and_true] at e;obtain⟨⟨rfl,rfl⟩,rfl,rfl⟩:=e;have e1:(L.drop c).length=L.length-c:=List.length_drop;exact .inr ⟨g,o+c*E.n,cap-c,by rw[e1],by rw[e1];omega,Nat.le_trans (Nat.sub_le _ _) h2,h3.drop c⟩
end
section
open Go.RowKit Go.Shelf
attribute [local go_sem] Oper.semAt_some
def FaBox (W:World)(g:Nat)(a:Int)(b:ByteArray)(c:Value):Prop:=W.cell? ⟨g,0,none⟩=some (.int i64 a)∧W.cell? ⟨g,1,none⟩=some (.string b)∧W.cell? ⟨g,2,none⟩=some c
theorem FaBox.later {W W':World}{g:Nat}{a:Int}{b:ByteArray}{c:Value}(h:FaBox W g a b c)(hb:Below W.heap.size W W'):FaBox W' g a b c:=
 ⟨cell_later hb h.1,cell_later hb h.2.1,cell_later hb h.2.2⟩
theorem fabox_new (w:World)(a:Int)(b:ByteArray)(c:Value)(T:TypeId):FaBox (w.alloc (.cells #[.int i64 a,.string b,c] T)) w.heap.size a b c:=by
 refine⟨?_,?_,?_⟩ <;> simp
def FtV (A:World)(args:Array Value)(x:Ft):Prop:=∃ao n cap,args=#[.agg #[.int i64 x.1,.string x.2.1,.slice ao n cap]]∧GS hopE A (.slice ao n cap) x.2.2
theorem GS.kb {α:Type}{E:Enc α}{W W':World}{v:Value}{L:List α}{p:Nat→Prop}(h:GS E W v L)(hk:Kb p W W')(hp:∀q u,W.cell? q=some u→p q.block):GS E W' v L:=by
 rcases h with ⟨ao',cap',e,rfl⟩ | ⟨g,o,cap',e,h1,h2,h3⟩
 ·exact .inl ⟨ao',cap',e,rfl⟩
 exact .inr ⟨g,o,cap',e,h1,h2,fun i hi j u hu=>hk.at (h3 i hi j u hu) (hp _ _ (h3 i hi j u hu))⟩
theorem holding1_any (a:Int)(b:ByteArray)(ao:AdQ)(n cap:Nat)(l:HpQ)(g1 g2:Nat)(k:Int)(f t:ByteArray)(v:Int)(m:ByteArray)(w:World)(hl:GS hopE w (.slice ao n cap) l)(h1:w.cell? ⟨g1,0,none⟩=some (.string m))(h2:FaBox w g2 a b (.slice ao n cap)):
 Calls prog 102 #[.agg #[.int i64 k,.string f,.string t,.int i64 v],.pointer (some ⟨g1,0,none⟩),.pointer (some ⟨g2,0,none⟩)] w fun e w'=>e=.returned (.bool (!fiB ⟨k,f,t,v⟩ m (a,b,l)))∧Below w.heap.size w w':=by
 have hb0:Below w.heap.size w (w.alloc (.cells #[.int i64 k,.string f,.string t,.int i64 v] 78)):=(bRQ _ _).alloc (nLQ _) _;have hl0:=hl.later hb0;have hx0:=wibox_new w k f t v 78;have hs0:=cell_later hb0 h1;have hf0:=h2.later hb0;obtain⟨w0,hw0⟩:∃W,w.alloc (.cells #[.int i64 k,.string f,.string t,.int i64 v] 78)=W:=⟨_,rfl⟩;rw[hw0] at hb0 hl0 hx0 hs0 hf0;have HW0:Hid (w.alloc (.cells #[.int i64 k,.string f,.string t,.int i64 v] 78)=w0):=hw0;have HB0:Hid (Below w.heap.size w w0):=hb0;have HL0:Hid (GS hopE w0 (.slice ao n cap) l):=hl0;obtain⟨x0,x1,x2,x3⟩:=hx0;obtain⟨f0,f1,f2⟩:=hf0;obtain⟨R,hR⟩:∃R,R=fiB ⟨k,f,t,v⟩ m (a,b,l):=⟨_,rfl⟩;have HR:Hid (fiB ⟨k,f,t,v⟩ m (a,b,l)=R):=hR.symm;rw[←hR];clear hb0 hl0 hl h1 h2 hw0 hR;go_enter func102,ntmps102;go_upto_region 1 with fail;rw[HW0.out];clear HW0
 go_wp2_with fail
 refine (fits_any k f t v m a b ao n cap l _ HL0.out).mono ?_;rintro e w1 ⟨rfl,hb1⟩;rw[HR.out];go_wp2;go_ret;exact⟨rfl,HB0.out.trans (hb1.mono HB0.out.size)⟩
structure HB (w W:World)(v:Value)(m:ByteArray)(k:Nat):Prop where
 below:Below w.heap.size w W
 l:Boxed W w.heap.size 79 v
 m:Boxed W (w.heap.size+1) 9 (.string m)
 n:Boxed W (w.heap.size+1+1) 3 (.int i64 k)
theorem HB.kb {w W W':World}{v:Value}{m:ByteArray}{k:Nat}{p:Nat→Prop}(h:HB w W v m k)(hk:Kb p W W')(hp:∀b,b<w.heap.size+3→p b):HB w W' v m k:=
 ⟨h.below.trans (hk.below (by have:=h.l.lt;omega) (fun b hb=>hp b (by omega))),hk.boxed h.l (hp _ (by omega)),hk.boxed h.m (hp _ (by omega)),hk.boxed h.n (hp _ (by omega))⟩
theorem HB.put {w W:World}{v:Value}{m:ByteArray}{k:Nat}(h:HB w W v m k)(j:Nat):HB w (W.setCell ⟨w.heap.size+1+1,0,none⟩ (.int i64 j)) v m j:=
 ⟨h.below.setCell (p:=⟨w.heap.size+1+1,0,none⟩) (show w.heap.size≤w.heap.size+1+1 by omega) _,h.l.other (by omega) _,h.m.other (by omega) _,h.n.set _⟩
theorem holding_in (n:Nat)(h4:4≤n)(a4:AdQ)(n4 c4:Nat)(l:List Wi)(m:ByteArray)(gi:Nat)(lb:Array Value)(L:List Ft)(n₀:Nat)(w:World)
 (hl:GS wisE w (.slice a4 n4 c4) l) (eg:∀args w,(callFunc gi args).run prog w=.ok (.enter gi args) w) (hit:ItF prog gi lb FtV n₀ L w) (hn₀:n₀≤w.heap.size):
 CallsIn Fence.wide n prog 81 #[.slice a4 n4 c4,.string m,.func (.func gi) #[] lb] w fun e W'=>e=.returned (.int i64 (hwN l m L))∧Below w.heap.size w W':=by
 have h1:1≤n:=by omega
 have h2:1≤n-1-1:=by omega
 obtain⟨_,_,_,e5,hGn,hGm,hGc,hGa⟩:=hl.form;cases e5;have HLW:Hid (∀W,Below w.heap.size w W→GS wisE W (.slice a4 n4 c4) l):=fun W hb=>hl.later hb
 have HGN:Hid (l.length=n4):=hGn;have HCAP:Hid (n4≤c4):=hGc;refine callsIn_of_wp_marks func81 rfl trivial ?_ rfl;simp only[ntmps81,List.size_toArray,List.length_cons,List.length_nil,Nat.reduceAdd,Nat.reduceSub,Array.replicate_succ,Array.replicate_zero,List.push_toArray,List.append_toArray,List.nil_append,List.cons_append];clear hGa hGm hGc hGn hl
 gi_wp2
 have bL:=Boxed.new w 79 (.slice a4 n4 c4);have bM:=Boxed.new (w.alloc (.cells #[.slice a4 n4 c4] 79)) 9 (.string m);have bN:=Boxed.new ((w.alloc (.cells #[.slice a4 n4 c4] 79)).alloc (.cells #[.string m] 9)) 3 (.int i64 n4);simp only[World.size_alloc] at bM bN;have hB0:Below w.heap.size w (((w.alloc (.cells #[.slice a4 n4 c4] 79)).alloc (.cells #[.string m] 9)).alloc (.cells #[.int i64 n4] 3)):=(((Below.refl _ w).alloc (nLQ _) _).alloc (by simp) _).alloc (by simp;omega) _;have hH0:HB w (((w.alloc (.cells #[.slice a4 n4 c4] 79)).alloc (.cells #[.string m] 9)).alloc (.cells #[.int i64 n4] 3)) (.slice a4 n4 c4) m (hwTo l m L 0):=⟨hB0,(bL.alloc _).alloc _,bM.alloc _,by rw[show hwTo l m L 0=n4 from HGN.out];exact bN⟩;have hsz:(((w.alloc (.cells #[.slice a4 n4 c4] 79)).alloc (.cells #[.string m] 9)).alloc (.cells #[.int i64 n4] 3)).heap.size=w.heap.size+3:=by simp
 obtain⟨W0,hW0⟩:∃W0,((w.alloc (.cells #[.slice a4 n4 c4] 79)).alloc (.cells #[.string m] 9)).alloc (.cells #[.int i64 n4] 3)=W0:=⟨_,rfl⟩;rw[hW0] at hB0 hH0 hsz ⊢;clear hW0 bL bM bN;refine wpIn_rangeFunc_it h1 (gf:=gi) (lb:=lb) rfl eg (Vl:=FtV) (n₀:=n₀) (L:=L) (w0:=w) hit (hB0.mono hn₀) (by omega) (fun A args x hx=>by obtain⟨_,_,_,rfl,_⟩:=hx;rfl)
  (fun k X W=>HB w W (.slice a4 n4 c4) m (hwTo l m L k)∧∀b,¬X b) (fun c W=>c=.exit 0∧HB w W (.slice a4 n4 c4) m (hwN l m L))
  (fun k X A h b hx=>absurd hx (h.2 b))
  (fun k X A A' h hk=>⟨h.1.kb hk (fun b hb=>.inl (by omega)),h.2⟩)
  (fun c A A' h hk=>⟨h.1,h.2.kb hk (fun b hb=>.inl (by omega))⟩)
  ⟨hH0,fun b h=>h⟩ ?round ?done ?stop
 case round =>
  rintro l' k X Y x args W hl' hBW ⟨hI,hX⟩ hLk ⟨ao,nn,cap,rfl,hG⟩ hY hnl;obtain⟨xa,xb,xl⟩:=x;rw[hsz] at hl' hBW;have hwN2:hwTo l m L (k+1)=hwS l m (xa,xb,xl) (hwTo l m L k):=by
   rw[hwTo]
   congr 1
   simp[List.getD,hLk]
  have hkL:k<L.length:=by
   obtain⟨h,_⟩:=List.getElem?_eq_some_iff.1 hLk;exact h
  obtain⟨N,hN⟩:∃N,N=hwTo l m L k:=⟨_,rfl⟩;have hNle:N≤n4:=by
   rw[hN,←HGN.out];exact hwTo_le L k
  rw[←hN] at hI hwN2;have HNK:Hid (hwTo l m L k=N):=hN.symm;have HN2:Hid (hwTo l m L (k+1)=hwS l m (xa,xb,xl) N):=hwN2;clear hN hwN2;have hcap:=HCAP.out
  dsimp only at hG
  gi_wp2
  refine⟨(Kb.refl _ _).alloc _,fun W2 hk2=>?_⟩;have hBA:Below W.heap.size W (W.alloc (.cells #[.int i64 xa,.string xb,.slice ao nn cap] 70)):=(bRQ _ _).alloc (nLQ _) _;have hfb:=fabox_new W xa xb (.slice ao nn cap) 70;have hnl2:∀q u,(W.alloc (.cells #[.int i64 xa,.string xb,.slice ao nn cap] 70)).cell? q=some u→q.block≠l':=by
   intro q u hq e;have hlt:q.block<W.heap.size:=by rw[e,hl'];omega
   have h:=(hBA.cell (p:=q) hlt).symm.trans hq;rw[hnl q e] at h;cases h
  have hG2:=(hG.later hBA).kb hk2 hnl2;have hf2:FaBox W2 W.heap.size xa xb (.slice ao nn cap):=⟨hk2.at hfb.1 (hnl2 _ _ hfb.1),hk2.at hfb.2.1 (hnl2 _ _ hfb.2.1),hk2.at hfb.2.2 (hnl2 _ _ hfb.2.2)⟩;have hI2:HB w W2 (.slice a4 n4 c4) m N:=(hI.kb (Kb.of_below hBA (fun b hb _=>hb):Kb (fun _=>True) _ _) (fun _ _=>trivial)).kb hk2 (fun b hb=>by omega);have HI2:Hid (HB w W2 (.slice a4 n4 c4) m N):=hI2;have HGT:Hid (GS wisE W2 (.slice a4 N c4) (l.take N)):=(HLW.out W2 hI2.below).take hNle;obtain⟨_,_,_,e6,hTn,hTm,_,hTa⟩:=HGT.out.form;cases e6;have HASK:Hid (wi2Asks W2 102 (.pointer (some ⟨w.heap.size+1,0,none⟩)) (.pointer (some ⟨W.heap.size,0,none⟩)) (fun u => !fiB u m (xa,xb,xl))):=fun y0 y1 y2 y3 W3 hb3=>holding1_any xa xb ao nn cap xl _ _ y0 y1 y2 y3 m W3 (hG2.later hb3) (cell_later hb3 hI2.m.cell) (hf2.later hb3)
  obtain⟨z,hz⟩:∃z,z=ixG (fun u => !fiB u m (xa,xb,xl)) (l.take N):=⟨_,rfl⟩;have HZ:Hid (ixG (fun u => !fiB u m (xa,xb,xl)) (l.take N)=z):=hz.symm;have HTN:Hid ((l.take N).length=N):=hTn;have HTM:Hid (N≤maxLen):=hTm;have HTA:Hid (0<N→∃g o,a4=some ⟨g,o,none⟩∧GAt wisE W2 g o (l.take N)∧c4≤maxLen):=hTa;have hlc:=hI2.l.cell;have hmc:=hI2.m.cell;have hnc:=hI2.n.cell;have nb0:(0:Int)≤(N:Int):=by omega
  have nb1:(N:Int)≤(c4:Int):=by omega
  have nb2:(N:Int)≤(n4:Int):=by omega
  clear hz hTn hTm hTa hG2 hf2 hI2 hfb hnl2 hI hG hk2 hX
  gi_wp2_with fail
  refine⟨trivial,(CallsIn.inRound _ (callsIn_wide.2 (wi2_idxF a4 N c4 _ _ _ (fun u => !fiB u m (xa,xb,xl)) (l.take N) _ HTN.out HTM.out HTA.out (enters_of func102 (by kernel_rfl) rfl) HASK.out))).mono ?_⟩;rintro e W3 ⟨rfl,hb3⟩;rw[HZ.out];have hI3:HB w W3 (.slice a4 n4 c4) m N:=HI2.out.kb (Kb.of_below hb3 (fun b hb _=>hb):Kb (fun _=>True) _ _) (fun _ _=>trivial);have HI3:Hid (HB w W3 (.slice a4 n4 c4) m N):=hI3;have HK3:Hid (Kb (fun b=>b<n₀∨b=W0.heap.size∨b=l'∨Y b) W2 W3):=Kb.of_below hb3 (fun b hb _=>hb);have hlc:=hI3.l.cell;have hmc:=hI3.m.cell;have hnc:=hI3.n.cell;have hnf:=hI3.n.frozen;have HNP:Hid (¬(w.heap.size+1+1<n₀∨w.heap.size+1+1=W0.heap.size∨w.heap.size+1+1=l'∨Y (w.heap.size+1+1))):=by
   rintro (h | h | h | h)
   ·omega
   ·omega
   ·omega
   have:=(hY _ h).1;omega
  have HXN:Hid (∀I:Prop,I→∃X':Nat→Prop,(I∧∀b,¬X' b)∧∀b,X' b→X b∨W.heap.size≤b):=fun I h=>⟨fun _=>False,⟨h,fun _ h=>h⟩,fun _ h=>h.elim⟩
  clear hb3 hI3;by_cases hz0:0≤z
  ·obtain⟨z',rfl⟩:∃z':Nat,z=(z':Int):=⟨z.toNat,by omega⟩;have HS:Hid (hwTo l m L (k+1)=z'):=by
    show _=_;rw[HN2.out,hwS,HZ.out,if_neg (by omega)];simp
   clear hz0;by_cases h0:z'=0
   ·subst h0;have HL0:Hid (hwN l m L=0):=hwTo_zero HS.out (by omega)
    gi_wp2
    exact⟨HK3.out.setCell (fun _=>HNP.out) _,rfl,by rw[HL0.out];exact HI3.out.put 0⟩
   have e0:((z':Int)==0)=false:=by simp;omega
   clear h0
   gi_wp2
   exact⟨HK3.out.setCell (fun _=>HNP.out) _,HXN.out _ (by rw[HS.out];exact HI3.out.put z')⟩
  have HS:Hid (hwTo l m L (k+1)=N):=by
   show _=_;rw[HN2.out,hwS,HZ.out,if_pos (by omega)]
  have ez:decide (0≤z)=false:=by simpa using hz0
  by_cases h0:N=0
  ·subst h0;have HL0:Hid (hwN l m L=0):=hwTo_zero HS.out (by omega)
   gi_wp2
   exact⟨HK3.out,rfl,by rw[HL0.out];exact HI3.out⟩
  have e0:((N:Int)==0)=false:=by simp;omega
  clear h0
  gi_wp2
  exact⟨HK3.out,HXN.out _ (by rw[HS.out];exact HI3.out)⟩
 case done =>
  rintro X W ⟨hI,_⟩ hK;have hc:=hI.n.cell;have HBW:Hid (Below w.heap.size w W):=hI.below;clear hI
  gi_wp2
  refine⟨by simp,.inl ⟨_,_,rfl,run_takeDeferred hK,?_⟩⟩;exact⟨_,results_tmp rfl _ _ _,rfl,HBW.out.trans (belowK_b (w:=w) (nLQ _) W _ _ _ (by omega) hK rfl rfl)⟩
 case stop =>
  rintro c W ⟨rfl,hI⟩ hK;have hc:=hI.n.cell;have HBW:Hid (Below w.heap.size w W):=hI.below;clear hI
  gi_wp2
  refine⟨by simp,.inl ⟨_,_,rfl,run_takeDeferred hK,?_⟩⟩;exact⟨_,results_tmp rfl _ _ _,rfl,HBW.out.trans (belowK_b (w:=w) (nLQ _) W _ _ _ (by omega) hK rfl rfl)⟩
theorem holding_any (a4:AdQ)(n4 c4:Nat)(l:List Wi)(m:ByteArray)(gi:Nat)(lb:Array Value)(L:List Ft)(n₀:Nat)(w:World)
 (hl:GS wisE w (.slice a4 n4 c4) l) (eg:∀args w,(callFunc gi args).run prog w=.ok (.enter gi args) w) (hit:ItF prog gi lb FtV n₀ L w) (hn₀:n₀≤w.heap.size):
 Calls prog 81 #[.slice a4 n4 c4,.string m,.func (.func gi) #[] lb] w fun e W'=>e=.returned (.int i64 (hwN l m L))∧Below w.heap.size w W':=
 (callsIn_wide (n:=4)).1 (holding_in 4 (by omega) a4 n4 c4 l m gi lb L n₀ w hl eg hit hn₀)
end
section
open Go.RowKit
def wisAsks (w:World)(f:FuncId)(c:Value)(P:Wi→Bool):Prop:=
 ∀(x0:Int) (x1:ByteArray) (x2:ByteArray) (x3:Int) (W:World),Below w.heap.size w W→Calls prog f #[.agg #[.int i64 x0,.string x1,.string x2,.int i64 x3],c] W fun e w'=>e=.returned (.bool (P ⟨x0,x1,x2,x3⟩))∧Below W.heap.size W w'
theorem wisAsks.later {w w':World}{f:FuncId}{c:Value}{P:Wi→Bool}(h:wisAsks w f c P)(hb:Below w.heap.size w w'):wisAsks w' f c P:=
 fun x0 x1 x2 x3 W hW=>h x0 x1 x2 x3 W (hb.trans (hW.mono hb.size))
theorem wis_idxF (ao:AdQ)(n cap:Nat)(f:FuncId)(c:Value)(P:Wi→Bool)(L:List (Wi))(w:World)(hn:L.length=n)(hn2:n≤maxLen)(ha:0<n→∃g o,ao=some ⟨g,o,none⟩∧GAt wisE w g o L∧cap≤maxLen)(he:∀args w,(callFunc f args).run prog w=.ok (.enter f args) w)(hf:wisAsks w f c P):
 Calls prog 101 #[.slice ao n cap,.func (Fn.func f) #[] #[c]] w fun e w'=>e=.returned (.int i64 (ixG P L))∧Below w.heap.size w w':=by
 have HN:Hid (L.length=n):=hn;have HF:Hid (wisAsks w f c P):=hf;have HA:Hid (0<n→∃g o,ao=some ⟨g,o,none⟩∧GAt wisE w g o L∧cap≤maxLen):=ha;unfold maxLen at hn2;clear hn hf ha;go_enter func101,ntmps101;go_wp2
 go_loopw [8] (fun i wr=>∃k:Nat,k≤n∧i=.int i64 k∧(L.take k).any P=false∧Below w.heap.size w wr)
  (fun i _=>n-(intOf i).toNat)
 case atStart=>exact⟨0,by omega,rfl,by simp,bRQ _ _⟩
 case round =>
  obtain⟨k,hk,rfl,hno,hB⟩:=hrel;have HB:Hid (Below w.heap.size w wr):=hB;have HNO:Hid ((L.take k).any P=false):=hno;clear hno;by_cases hlt:k<n
  ·obtain⟨g,o,hao,hc,_⟩:=HA.out (by omega);subst hao;obtain⟨x0,x1,x2,x3,hkl,hL,q0,q1,q2,q3⟩:=wis_at (hc.later hB) HN.out hlt;have HL:Hid (L[k]=⟨x0,x1,x2,x3⟩):=hL;clear hL hB;cases ho:P ⟨x0,x1,x2,x3⟩
   ·go_wp2_with fail
    refine (HF.out x0 x1 x2 x3 _ HB.out).mono ?_;rintro e w1 ⟨rfl,hb1⟩;rw[ho];have HB1:=HB.out.trans (hb1.mono HB.out.size);clear hb1;go_wp2;go_roundw
    case rel=>exact⟨k+1,by omega,by go_num,any_nextG hkl HNO.out (by rw[HL.out];exact ho),HB1⟩
    case measure=>simp[intOf];omega
   go_wp2_with fail
   refine (HF.out x0 x1 x2 x3 _ HB.out).mono ?_;rintro e w1 ⟨rfl,hb1⟩;rw[ho];go_wp2;go_ret;exact⟨by rw[ixG_hit hkl HNO.out (by rw[HL.out];exact ho)];rfl,HB.out.trans (hb1.mono HB.out.size)⟩
  obtain rfl:k=n:=by omega
  go_wp2;go_ret;exact⟨by have:=HNO.out;rw[←HN.out,List.take_length] at this;rw[ixG_no this];rfl,HB.out⟩
theorem wis_hasF (ao:AdQ)(n cap:Nat)(f:FuncId)(c:Value)(P:Wi→Bool)(L:List (Wi))(w:World)(hn:L.length=n)(hn2:n≤maxLen)(ha:0<n→∃g o,ao=some ⟨g,o,none⟩∧GAt wisE w g o L∧cap≤maxLen)(he:∀args w,(callFunc f args).run prog w=.ok (.enter f args) w)(hf:wisAsks w f c P):
 Calls prog 78 #[.slice ao n cap,.func (Fn.func f) #[] #[c]] w fun e w'=>e=.returned (.bool (L.any P))∧Below w.heap.size w w':=by
 rw[←ixG_any];obtain⟨x,hx⟩:∃x,x=ixG P L:=⟨_,rfl⟩;have HX:Hid (x=ixG P L):=hx;rw[←hx];clear hx;go_enter func78,ntmps78
 go_wp2_with fail
 refine (wis_idxF ao n cap f c P L _ hn hn2 ha he hf).mono ?_;rintro e w1 ⟨rfl,hb1⟩;rw[←HX.out];go_wp2;go_ret;exact⟨rfl,hb1⟩
def HsBox (W:World)(g:Nat)(m:ByteArray)(x y:Int):Prop:=W.cell? ⟨g,0,none⟩=some (.string m)∧W.cell? ⟨g,1,none⟩=some (.int i64 x)∧W.cell? ⟨g,2,none⟩=some (.int i64 y)
theorem HsBox.later {W W':World}{g:Nat}{m:ByteArray}{x y:Int}(h:HsBox W g m x y)(hb:Below W.heap.size W W'):HsBox W' g m x y:=
 ⟨cell_later hb h.1,cell_later hb h.2.1,cell_later hb h.2.2⟩
theorem hsbox_new (w:World)(m:ByteArray)(x y:Int)(T:TypeId):HsBox (w.alloc (.cells #[.string m,.int i64 x,.int i64 y] T)) w.heap.size m x y:=by
 refine⟨?_,?_,?_⟩ <;> simp
structure PrBox (w W:World)(g:Nat)(a:Int)(b:ByteArray)(c:Int):Prop where
 c0:W.cell? ⟨g,0,none⟩=some (.int i64 a)
 c1:W.cell? ⟨g,1,none⟩=some (.string b)
 c2:W.cell? ⟨g,2,none⟩=some (.int i64 c)
 f:∀i,W.frozen? ⟨g,i,none⟩=false
theorem prbox_new (w u:World)(a:Int)(b:ByteArray)(c:Int):PrBox u (w.alloc (.cells #[.int i64 a,.string b,.int i64 c] 74)) w.heap.size a b c:=by
 refine⟨?_,?_,?_,fun i=>?_⟩ <;> simp
theorem PrBox.lt {u W:World}{g:Nat}{a:Int}{b:ByteArray}{c:Int}(h:PrBox u W g a b c):g<W.heap.size:=bLQ W ⟨g,0,none⟩ h.c0
theorem PrBox.later {u W W':World}{g:Nat}{a:Int}{b:ByteArray}{c:Int}(h:PrBox u W g a b c)(hb:Below W.heap.size W W'):PrBox u W' g a b c:=
 ⟨cell_later hb h.c0,cell_later hb h.c1,cell_later hb h.c2,fun i=>(hb.frozen (p:=⟨g,i,none⟩) h.lt).trans (h.f i)⟩
theorem PrBox.put {u W:World}{g:Nat}{a:Int}{b:ByteArray}{c:Int}(h:PrBox u W g a b c)(a':Int)(b':ByteArray)(c':Int):PrBox u (put3 W g (.int i64 a') (.string b') (.int i64 c')) g a' b' c':=by
 obtain⟨x,y,z⟩:=put3_cells (a:=.int i64 a') (b:=.string b') (c:=.int i64 c') ⟨h.c0,h.c1,h.c2⟩;refine⟨x,y,z,fun i=>?_⟩;unfold put3;rw[World.frozen?_setCell,World.frozen?_setCell,World.frozen?_setCell];exact h.f i
theorem PrBox.other {u W:World}{g g':Nat}{a:Int}{b:ByteArray}{c:Int}(h:PrBox u W g a b c)(hg:g≠g')(a' b' c':Value):PrBox u (put3 W g' a' b' c') g a b c:=by
 have o:∀(W:World) (i j:Nat) (x:Value),(W.setCell ⟨g',i,none⟩ x).cell? ⟨g,j,none⟩=W.cell? ⟨g,j,none⟩:=fun W i j x=>World.cell?_setCell_other _ _ _ _ (by intro e;exact hg (by injection e with e1;exact e1.symm))
 unfold put3;refine⟨?_,?_,?_,fun i=>?_⟩
 ·rw[o,o,o];exact h.c0
 ·rw[o,o,o];exact h.c1
 ·rw[o,o,o];exact h.c2
 rw[World.frozen?_setCell,World.frozen?_setCell,World.frozen?_setCell];exact h.f i
structure Rbx (w W:World)(p:Int×ByteArray×Int):Prop where
 below:Below w.heap.size w W
 r:PrBox w W w.heap.size 0 ⟨#[]⟩ 0
 p:PrBox w W (w.heap.size+1) p.1 p.2.1 p.2.2
theorem Rbx.later {w W W':World}{p:Int×ByteArray×Int}(h:Rbx w W p)(hb:Below W.heap.size W W'):Rbx w W' p:=⟨h.below.trans (hb.mono h.below.size),h.r.later hb,h.p.later hb⟩
theorem Rbx.put {w W:World}{p:Int×ByteArray×Int}(h:Rbx w W p)(q:Int×ByteArray×Int):Rbx w (put3 W (w.heap.size+1) (.int i64 q.1) (.string q.2.1) (.int i64 q.2.2)) q:=⟨below_put3 h.below _ (by omega) _ _ _,h.r.other (by omega) _ _ _,h.p.put _ _ _⟩
theorem rbx_new (w:World):Rbx w ((w.alloc (.cells #[.int i64 0,.string ⟨#[]⟩,.int i64 0] 74)).alloc (.cells #[.int i64 0,.string ⟨#[]⟩,.int i64 0] 74)) (0,ByteArray.empty,0):=by
 have e1:(w.alloc (.cells #[.int i64 0,.string ⟨#[]⟩,.int i64 0] 74)).heap.size=w.heap.size+1:=by simp
 have hb:∀(W:World) (o:Obj),Below W.heap.size W (W.alloc o):=fun W o=>(bRQ _ _).alloc (nLQ _) _
 have h2:=prbox_new (w.alloc (.cells #[.int i64 0,.string ⟨#[]⟩,.int i64 0] 74)) w 0 ⟨#[]⟩ 0;rw[e1] at h2;exact⟨((Below.refl _ w).alloc (nLQ _) _).alloc (by rw[e1];omega) _,(prbox_new w w 0 ⟨#[]⟩ 0).later (hb _ _),h2⟩
theorem first1_any (k:Int)(f t:ByteArray)(v:Int)(g:Nat)(m:ByteArray)(x y:Int)(w:World)(h2:HsBox w g m x y):
 Calls prog 79 #[.agg #[.int i64 k,.string f,.string t,.int i64 v],.pointer (some ⟨g,0,none⟩)] w fun e w'=>e=.returned (.bool (abW ⟨k,f,t,v⟩ m))∧Below w.heap.size w w':=by
 have hb0:Below w.heap.size w (w.alloc (.cells #[.int i64 k,.string f,.string t,.int i64 v] 78)):=(bRQ _ _).alloc (nLQ _) _;have hx0:=wibox_new w k f t v 78;have hs0:=h2.later hb0;obtain⟨w0,hw0⟩:∃W,w.alloc (.cells #[.int i64 k,.string f,.string t,.int i64 v] 78)=W:=⟨_,rfl⟩;rw[hw0] at hb0 hx0 hs0;have HW0:Hid (w.alloc (.cells #[.int i64 k,.string f,.string t,.int i64 v] 78)=w0):=hw0;have HB0:Hid (Below w.heap.size w w0):=hb0;obtain⟨x0,x1,x2,x3⟩:=hx0;obtain⟨s0,s1,s2⟩:=hs0;obtain⟨R,hR⟩:∃R,R=abW ⟨k,f,t,v⟩ m:=⟨_,rfl⟩;have HR:Hid (abW ⟨k,f,t,v⟩ m=R):=hR.symm;rw[←hR];clear hb0 h2 hw0 hR;go_enter func79,ntmps79;go_upto_region 1 with fail;rw[HW0.out];clear HW0
 go_wp2_with fail
 refine (isAbout_any k f t v m _).mono ?_;rintro e w1 ⟨rfl,hb1⟩;rw[HR.out];go_wp2;go_ret;exact⟨rfl,HB0.out.trans (hb1.mono HB0.out.size)⟩
def FwAsks (w:World)(g:Nat)(Hs:HoQ)(Fs:Nat→Nat→List Ft):Prop:=
 ∀ (z:Nat) (hz:z<Hs.length) (h:Nat),h<16→∀W:World,Below w.heap.size w W→Calls prog 48 #[.agg #[.string Hs[z].1,.int i64 Hs[z].2.1,.int i64 Hs[z].2.2],.int i64 h,.pointer (some ⟨g,0,none⟩)] W fun e W' =>
   ∃gi lb,e=.returned (.func (Fn.func gi) #[] lb)∧(∀args w,(callFunc gi args).run prog w=.ok (.enter gi args) w)∧ItF prog gi lb FtV W'.heap.size (Fs z h) W'∧Below W.heap.size W W'
theorem fwbrk_any (g:Nat)(ao2:AdQ)(n2 cap2:Nat)(a4:AdQ)(n4 c4:Nat)(Hs:HoQ)(Fs:Nat→Nat→List Ft)(l:List Wi)(w:World)
 (hH:GS hstE w (.slice ao2 n2 cap2) Hs) (hl:GS wisE w (.slice a4 n4 c4) l) (hnm:∀h∈Hs,h.1.size≤1000000) (hfc:FwAsks w g Hs Fs):
 Calls prog 47 #[.slice ao2 n2 cap2,.slice a4 n4 c4,.func (Fn.func 48) #[] #[.pointer (some ⟨g,0,none⟩)]] w fun e w'=>∃held p,e=.returned (.tuple #[.agg #[.int i64 p.1,.string p.2.1,.int i64 p.2.2],.bool (decide (held<l.length))])∧Fb l Hs Fs Hs.length 0 held p∧Below w.heap.size w w':=by
 have hX:=rbx_new w;obtain⟨w0,hw0⟩:∃W,(w.alloc (.cells #[.int i64 0,.string ⟨#[]⟩,.int i64 0] 74)).alloc (.cells #[.int i64 0,.string ⟨#[]⟩,.int i64 0] 74)=W:=⟨_,rfl⟩;rw[hw0] at hX;have HW0:Hid ((w.alloc (.cells #[.int i64 0,.string ⟨#[]⟩,.int i64 0] 74)).alloc (.cells #[.int i64 0,.string ⟨#[]⟩,.int i64 0] 74)=w0):=hw0;have HX:Hid (Rbx w w0 (0,ByteArray.empty,0)):=hX;have HLW:Hid (∀W,Below w.heap.size w W→GS wisE W (.slice a4 n4 c4) l):=fun W hb=>hl.later hb
 have HFC:Hid (FwAsks w g Hs Fs):=hfc;have HNM:Hid (∀h∈Hs,h.1.size≤1000000):=hnm;obtain⟨_,_,_,e5,hGn,hGm,hGc,hGa⟩:=hl.form;cases e5;obtain⟨_,_,_,e6,hHn,hHm,_,hHa⟩:=hH.form;cases e6;have HGN:Hid (l.length=n4):=hGn;have HCAP:Hid (n4≤c4):=hGc;have HHN:Hid (Hs.length=n2):=hHn;have HHA:Hid (0<n2→∃g o,ao2=some ⟨g,o,none⟩∧GAt hstE w g o Hs∧cap2≤maxLen):=hHa;have hn4:n4≤maxLen:=hGm;have hn2:n2≤maxLen:=hHm;unfold maxLen at hn4 hn2;have HF0:Hid (Fb l Hs Fs 0 0 n4 (0,ByteArray.empty,0)):=by
  have h:=fb_0 (l:=l) (Hs:=Hs) (Fs:=Fs);rw[hGn] at h;exact h
 clear hX hw0 hl hH hfc hnm hGn hGm hGc hGa hHn hHm hHa;go_enter func47,ntmps47;go_upto_region 2 with fail;rw[HW0.out];clear HW0;go_wp2
 go_loopw [9,18] (fun hv i wr=>∃(z hd:Nat) (p:Int×ByteArray×Int),z≤n2∧hv=.int i64 hd∧i=.int i64 z∧Fb l Hs Fs z 0 hd p∧Rbx w wr p) (fun _ i _=>n2-(intOf i).toNat)
 case atStart=>exact⟨0,n4,(0,ByteArray.empty,0),by omega,rfl,rfl,HF0.out,HX.out⟩
 case round =>
  obtain⟨z,hd,p,hz,rfl,rfl,hF,hR⟩:=hrel;have HF:Hid (Fb l Hs Fs z 0 hd p):=hF;have HR:Hid (Rbx w wr p):=hR;have hdle:hd≤n4:=by rw[←HGN.out];exact hF.le
  clear hF hR;by_cases hlt:z<n2
  ·obtain⟨g2,o2,hao2,hc2,_⟩:=HHA.out (by omega);subst hao2;obtain⟨z0,z1,z2,hzl,hZk,p0,p1,p2⟩:=hst_at (hc2.later HR.out.below) HHN.out hlt;have HZK:Hid (Hs[z]=(z0,(z1,z2))):=hZk;have HZD:Hid (Hs.getD z zeO=(z0,(z1,z2))):=by
    show _=_;rw[getO hzl,hZk]
   have HSZ:Hid (z0.size≤1000000):=by
    have:=HNM.out Hs[z] (List.getElem_mem hzl);rw[hZk] at this;exact this
   have hba:Below wr.heap.size wr (wr.alloc (.cells #[Value.string z0,.int i64 z1,.int i64 z2] 67)):=(bRQ _ _).alloc (nLQ _) _;have hhb:=hsbox_new wr z0 z1 z2 67;have hR2:=HR.out.later hba;obtain⟨w2,hw2⟩:∃W,wr.alloc (.cells #[Value.string z0,.int i64 z1,.int i64 z2] 67)=W:=⟨_,rfl⟩;obtain⟨gh,hgh⟩:∃q,q=wr.heap.size:=⟨_,rfl⟩;rw[hw2] at hhb hR2;rw[←hgh] at hhb;have HW2:Hid (wr.alloc (.cells #[Value.string z0,.int i64 z1,.int i64 z2] 67)=w2):=hw2;have HGH:Hid (wr.heap.size=gh):=hgh.symm;have HHB:Hid (HsBox w2 gh z0 z1 z2):=hhb;have HR2:Hid (Rbx w w2 p):=hR2;have HLG:Hid (w.heap.size+1<gh):=by
    show _<_;rw[hgh];exact HR.out.p.lt
   clear hc2 hZk hba hhb hR2 hw2 hgh HR;go_upto_region 6 with fail;rw[HW2.out,HGH.out];clear HW2 HGH p0 p1 p2;go_wp2
   go_loopw [9,22] (fun hv i wr=>∃(h hd:Nat) (p:Int×ByteArray×Int),h≤16∧hv=.int i64 hd∧i=.int i64 h∧Fb l Hs Fs z h hd p∧Rbx w wr p∧HsBox wr gh z0 z1 z2) (fun _ i _=>16-(intOf i).toNat)
   case atStart=>exact⟨0,hd,p,by omega,rfl,rfl,HF.out,HR2.out,HHB.out⟩
   case round =>
    clear HF HR2 HHB hdle;obtain⟨h,hd,p,hh,rfl,rfl,hF,hR,hS⟩:=hrel;have HF:Hid (Fb l Hs Fs z h hd p):=hF;have HR:Hid (Rbx w wr p):=hR;have HS:Hid (HsBox wr gh z0 z1 z2):=hS;have hdle:hd≤n4:=by rw[←HGN.out];exact hF.le
    clear hF hR hS;by_cases hlt16:h<16
    ·have HGT:Hid (∀W,Below wr.heap.size wr W→GS wisE W (.slice a4 hd c4) (l.take hd)):=fun W hb=>(HLW.out W (HR.out.below.trans (hb.mono HR.out.below.size))).take hdle
     obtain⟨_,_,_,e7,hTn,hTm,_,hTa⟩:=(HGT.out wr (bRQ _ _)).form;cases e7;have HTN:Hid ((l.take hd).length=hd):=hTn;have HTM:Hid (hd≤maxLen):=hTm;have HTA:Hid (0<hd→∃g o,a4=some ⟨g,o,none⟩∧GAt wisE wr g o (l.take hd)∧c4≤maxLen):=hTa;have HASK:Hid (wisAsks wr 79 (.pointer (some ⟨gh,0,none⟩)) (fun u=>abW u z0)):=fun y0 y1 y2 y3 W hb=>first1_any y0 y1 y2 y3 gh z0 z1 z2 W (HS.out.later hb)
     obtain⟨c,hc⟩:∃c,c=(l.take hd).any (fun u=>abW u z0):=⟨_,rfl⟩;have HC:Hid ((l.take hd).any (fun u=>abW u z0)=c):=hc.symm;obtain⟨s0,s1,s2⟩:=HS.out;have hcap:=HCAP.out;have nb0:(0:Int)≤(hd:Int):=by omega
     have nb1:(hd:Int)≤(c4:Int):=by omega
     have nb2:(hd:Int)≤(n4:Int):=by omega
     clear hc hTn hTm hTa
     go_wp2_with fail
     refine (wis_hasF a4 hd c4 _ _ (fun u=>abW u z0) (l.take hd) _ HTN.out HTM.out HTA.out (enters_of func79 (by kernel_rfl) rfl) HASK.out).mono ?_;rintro e w3 ⟨rfl,hb3⟩;rw[HC.out];have HR3:Hid (Rbx w w3 p):=HR.out.later hb3;have HS3:Hid (HsBox w3 gh z0 z1 z2):=HS.out.later hb3;have HGT3:Hid (∀W,Below w3.heap.size w3 W→GS wisE W (.slice a4 hd c4) (l.take hd)):=fun W hb=>HGT.out W (hb3.trans (hb.mono hb3.size))
     clear hb3 s0 s1 s2 HTN HTM HTA HASK HGT HR HS;cases c with
     | false =>
       have HFO:Hid (Fb l Hs Fs (z+1) 0 hd p):=HF.out.off (by rw[HZD.out];exact HC.out);go_wp2;go_roundw
       case rel=>exact⟨z+1,hd,p,by omega,rfl,by go_num,HFO.out,HR3.out⟩
       case measure=>simp[intOf];omega
     | true =>
       obtain⟨N,hN⟩:∃N,N=hwN (l.take hd) z0 (Fs z h):=⟨_,rfl⟩;have HN:Hid (hwN (l.take hd) z0 (Fs z h)=N):=hN.symm;have HFCW:Hid (∀W,Below w3.heap.size w3 W→Calls prog 48 #[.agg #[.string z0,.int i64 z1,.int i64 z2],.int i64 h,.pointer (some ⟨g,0,none⟩)] W fun e W' =>
        ∃gi lb,e=.returned (.func (Fn.func gi) #[] lb)∧(∀args w,(callFunc gi args).run prog w=.ok (.enter gi args) w)∧ItF prog gi lb FtV W'.heap.size (Fs z h) W'∧Below W.heap.size W W'):=fun W hb=>by
        have h:=HFC.out z hzl h hlt16 W (HR3.out.below.trans (hb.mono HR3.out.below.size));rw[HZK.out] at h;exact h
       have HHOL:Hid (∀(gi:Nat) (lb:Array Value) (W:World),(∀args w,(callFunc gi args).run prog w=.ok (.enter gi args) w)→ItF prog gi lb FtV W.heap.size (Fs z h) W→Below w3.heap.size w3 W→Calls prog 81 #[.slice a4 hd c4,.string z0,.func (Fn.func gi) #[] lb] W fun e W'=>e=.returned (.int i64 N)∧Below W.heap.size W W'):=fun gi lb W eg hit hb=>by
        rw[hN];exact holding_any a4 hd c4 (l.take hd) z0 gi lb (Fs z h) W.heap.size W (HGT3.out W hb) eg hit (nLQ _)
       have HSW:Hid (∀W,Below w3.heap.size w3 W→W.cell? ⟨gh,0,none⟩=some (.string z0)∧W.cell? ⟨gh,1,none⟩=some (.int i64 z1)∧W.cell? ⟨gh,2,none⟩=some (.int i64 z2)):=fun W hb=>HS3.out.later hb
       obtain⟨s0,s1,s2⟩:=HS3.out;clear hN;go_upto_region 10 with fail
       go_cut [13] from 23 to 51 (fun v w'=>v=.int i64 N∧Below w3.heap.size w3 w')
       case first =>
        go_region_held3 (fun W=>W.cell? ⟨gh,0,none⟩=some (.string z0)∧W.cell? ⟨gh,1,none⟩=some (.int i64 z1)∧W.cell? ⟨gh,2,none⟩=some (.int i64 z2))
         (first | (with_reducible assumption) | (with_reducible exact HSW.out _ (Below.drew (bRQ _ _))) | (with_reducible exact HSW.out _ HBX.out) | (with_reducible exact HSW.out _ HBY.out))
         (first
          | (go_at_call 48;refine (HFCW.out _ (Below.drew (bRQ _ _))).mono ?_;rintro e w' ⟨gi,lb,rfl,eg,hit,hb⟩;have HBX:Hid (Below w3.heap.size w3 w'):=bdrew hb;have HEG:Hid (∀args w,(callFunc gi args).run prog w=.ok (.enter gi args) w):=eg;have HIT:Hid (ItF prog gi lb FtV w'.heap.size (Fs z h) w'):=hit;clear hb eg hit)
          | (go_at_call 81;refine (HHOL.out _ _ _ HEG.out HIT.out HBX.out).mono ?_;rintro e w'' ⟨rfl,hb⟩;have HBY:Hid (Below w3.heap.size w3 w''):=HBX.out.trans (hb.mono HBX.out.size);clear hb))
        all_goals (go_wp2_with fail;go_meet)
        all_goals exact⟨rfl,HBY.out⟩
       case rest =>
        obtain⟨rfl,hbw⟩:=hcut;have HR4:Hid (Rbx w wc p):=HR3.out.later hbw;have HS4:Hid (HsBox wc gh z0 z1 z2):=HS3.out.later hbw;clear hbw HR3 HS3 HGT3 HFCW HHOL HSW s0 s1 s2;obtain⟨s0,s1,s2⟩:=HS4.out;by_cases hNl:N<hd
        ·have HFL:Hid (Fb l Hs Fs z (h+1) N ((N:Int),z0,(h:Int))):=by
          have:=HF.out.less hlt16 hzl (by rw[HZD.out];exact HN.out) hNl;rw[HZD.out] at this;exact this
         have dN:decide ((N:Int)<(hd:Int))=true:=by simp;omega
         go_wp2_with fail
         refine (clone_any z0 _ HSZ.out).mono ?_;rintro e w6 ⟨rfl,hb6⟩;have HR6:Hid (Rbx w w6 p):=HR4.out.later hb6;have HS6:Hid (HsBox w6 gh z0 z1 z2):=HS4.out.later hb6;obtain⟨r0,r1,r2,rf⟩:=HR6.out.p;have f0:=rf 0;have f1:=rf 1;have f2:=rf 2;have HSP:Hid (∀a b c,HsBox (put3 w6 (w.heap.size+1) a b c) gh z0 z1 z2):=fun a b c=>by
          have o:∀(W:World) (i j:Nat) (x:Value),(W.setCell ⟨w.heap.size+1,i,none⟩ x).cell? ⟨gh,j,none⟩=W.cell? ⟨gh,j,none⟩:=fun W i j x=>World.cell?_setCell_other _ _ _ _ (by intro e;injection e with e1;have:=HLG.out;omega)
          unfold put3;obtain⟨x0,x1,x2⟩:=HS6.out;exact⟨by rw[o,o,o];exact x0,by rw[o,o,o];exact x1,by rw[o,o,o];exact x2⟩
         clear hb6 rf s0 s1 s2 hNl;go_wp2;go_roundw
         case rel=>exact⟨h+1,N,((N:Int),z0,(h:Int)),by omega,rfl,by go_num,HFL.out,HR6.out.put ((N:Int),z0,(h:Int)),HSP.out _ _ _⟩
         case measure=>simp[intOf];omega
        have HFS:Hid (Fb l Hs Fs z (h+1) hd p):=HF.out.same (by rw[HZD.out,HN.out];exact hNl);have dN:decide ((N:Int)<(hd:Int))=false:=by simp;omega
        have hNl2:hd≤N:=by omega
        go_wp2;go_roundw
        case rel=>exact⟨h+1,hd,p,by omega,rfl,by go_num,HFS.out,HR4.out,HS4.out⟩
        case measure=>simp[intOf];omega
    obtain rfl:h=16:=by omega
    have HFO:Hid (Fb l Hs Fs (z+1) 0 hd p):=HF.out.host;go_wp2;go_roundw
    case rel=>exact⟨z+1,hd,p,by omega,rfl,by go_num,HFO.out,HR.out⟩
    case measure=>simp[intOf];omega
  obtain rfl:z=n2:=by omega
  obtain⟨P1,P2,P3⟩:=p;obtain⟨q0,q1,q2,_⟩:=HR.out.p;obtain⟨r0,r1,r2,rf⟩:=HR.out.r;have f0:=rf 0;have f1:=rf 1;have f2:=rf 2;have HB:Hid (Below w.heap.size w wr):=HR.out.below;have HFE:Hid (Fb l Hs Fs Hs.length 0 hd (P1,P2,P3)):=by
   have h:=HF.out;rw[←HHN.out] at h;exact h
  dsimp only at q0 q1 q2
  clear rf;go_wp2;refine bodyPost_ret (v:=.tuple #[.agg #[.int i64 P1,.string P2,.int i64 P3],.bool (decide ((hd:Int)<(n4:Int)))]) (by simp[results,results47,go_sem, *]) rfl ⟨hd,(P1,P2,P3),?_,HFE.out,below_put3 HB.out _ (nLQ _) _ _ _⟩;rw[show decide (hd<l.length)=decide ((hd:Int)<(n4:Int)) by rw[HGN.out];simp]
structure CBox (w W:World)(S:Int)(v1 v2:Value)(k:Int)(f t:ByteArray)(v:Int):Prop where
 below:Below w.heap.size w W
 b:TBox W w.heap.size S v1 v2
 x:WiBox W (w.heap.size+1) k f t v
theorem cbox_new (w:World)(S:Int)(v1 v2:Value)(k:Int)(f t:ByteArray)(v:Int):CBox w ((w.alloc (.cells #[.int i64 S,v1,v2] 25)).alloc (.cells #[.int i64 k,.string f,.string t,.int i64 v] 78)) S v1 v2 k f t v:=by
 have e1:(w.alloc (.cells #[.int i64 S,v1,v2] 25)).heap.size=w.heap.size+1:=by simp
 have hb:∀(W:World) (o:Obj),Below W.heap.size W (W.alloc o):=fun W o=>(bRQ _ _).alloc (nLQ _) _
 have hn:=(tbox_new w S v1 v2 25).later (hb _ (Obj.cells #[.int i64 k,.string f,.string t,.int i64 v] 78));have hB:=((Below.refl w.heap.size w).alloc (nLQ _) (Obj.cells #[.int i64 S,v1,v2] 25)).alloc (by rw[e1];omega) (Obj.cells #[.int i64 k,.string f,.string t,.int i64 v] 78)
 generalize w.alloc (.cells #[.int i64 S,v1,v2] 25)=X at e1 hn hB
 have hr:=wibox_new X k f t v 78;rw[e1] at hr;exact⟨hB,hn,hr⟩
theorem CBox.later {w W W':World}{S:Int}{v1 v2:Value}{k:Int}{f t:ByteArray}{v:Int}(h:CBox w W S v1 v2 k f t v)(hb:Below W.heap.size W W'):CBox w W' S v1 v2 k f t v:=
 ⟨h.below.trans (hb.mono h.below.size),h.b.later hb,h.x.later hb⟩
theorem checkOne_any (S:Int)(ao:AdQ)(n cap:Nat)(ao2:AdQ)(n2 cap2:Nat)(Hs:HoQ)(k:Int)(f t:ByteArray)(v:Int)(w:World)(hH:GS hstE w (.slice ao2 n2 cap2) Hs):
 Calls prog 77 #[.agg #[.int i64 S,.slice ao n cap,.slice ao2 n2 cap2],.agg #[.int i64 k,.string f,.string t,.int i64 v]] w fun e w'=>e=.returned (noV (woN S Hs ⟨k,f,t,v⟩))∧Below w.heap.size w w':=by
 have hX:=cbox_new w S (.slice ao n cap) (.slice ao2 n2 cap2) k f t v;obtain⟨w0,hw0⟩:∃W,(w.alloc (.cells #[.int i64 S,.slice ao n cap,.slice ao2 n2 cap2] 25)).alloc (.cells #[.int i64 k,.string f,.string t,.int i64 v] 78)=W:=⟨_,rfl⟩;rw[hw0] at hX;have HX:Hid (CBox w w0 S (.slice ao n cap) (.slice ao2 n2 cap2) k f t v):=hX;have HW0:Hid ((w.alloc (.cells #[.int i64 S,.slice ao n cap,.slice ao2 n2 cap2] 25)).alloc (.cells #[.int i64 k,.string f,.string t,.int i64 v] 78)=w0):=hw0;have HH:Hid (∀W,Below w.heap.size w W→GS hstE W (.slice ao2 n2 cap2) Hs):=fun W hb=>hH.later hb
 obtain⟨R,hR⟩:∃R,R=woN S Hs ⟨k,f,t,v⟩:=⟨_,rfl⟩;rw[←hR];obtain⟨Q,hQ⟩:∃q,q=(!wkB k || (!viB ⟨k,f,t,v⟩ S || veB ⟨k,f,t,v⟩)):=⟨_,rfl⟩;have HR:Hid (R=if Q then 1 else if k=4 then (if nlB ⟨k,f,t,v⟩ then 0 else 3) else if hoB Hs f&&hoB Hs t then 0 else 5):=by
  show _=_;rw[hR,hQ];rfl
 have HQ:Hid ((!wkB k || (!viB ⟨k,f,t,v⟩ S || veB ⟨k,f,t,v⟩))=Q):=hQ.symm;clear hX hw0 hH hR hQ;go_enter func77,ntmps77;go_upto_region 1 with fail;rw[HW0.out];obtain⟨_,⟨b0,b1,b2⟩,x0,x1,x2,x3⟩:=HX.out;clear HW0
 go_cut [25] from 5 to 26 (fun c w'=>c=.bool Q∧Below w0.heap.size w0 w')
 case first =>
  go_wp2_with fail
  refine (isWhat_any k _).mono ?_;rintro e w1 ⟨rfl,hb1⟩;obtain⟨WK,hWK⟩:∃q,q=wkB k:=⟨_,rfl⟩;have HQ1:Hid ((!WK || (!viB ⟨k,f,t,v⟩ S || veB ⟨k,f,t,v⟩))=Q):=by
   show _=_;rw[hWK];exact HQ.out
  rw[←hWK];have HB1:Hid (Below w0.heap.size w0 w1):=hb1;have HX1:Hid (CBox w w1 S (.slice ao n cap) (.slice ao2 n2 cap2) k f t v):=HX.out.later hb1;clear hWK hb1 HQ b0 b1 b2 x0 x1 x2 x3;obtain⟨_,⟨b0,b1,b2⟩,x0,x1,x2,x3⟩:=HX1.out;cases WK with
  | false =>
    have hq:=HQ1.out;simp only[Bool.not_false,Bool.true_or] at hq;subst hq
    go_wp2_with fail
    go_meet
    exact⟨rfl,HB1.out⟩
  | true =>
    go_wp2_with fail
    refine (isVia_any k f t v S _).mono ?_;rintro e w2 ⟨rfl,hb2⟩;obtain⟨VI,hVI⟩:∃q,q=viB ⟨k,f,t,v⟩ S:=⟨_,rfl⟩;have HQ2:Hid ((!VI || veB ⟨k,f,t,v⟩)=Q):=by
     show _=_;rw[hVI];have:=HQ1.out;simpa using this
    rw[←hVI];have HB2:Hid (Below w0.heap.size w0 w2):=HB1.out.trans (hb2.mono HB1.out.size);have HX2:Hid (CBox w w2 S (.slice ao n cap) (.slice ao2 n2 cap2) k f t v):=HX1.out.later hb2;clear hVI hb2 HQ1 b0 b1 b2 x0 x1 x2 x3;obtain⟨_,⟨b0,b1,b2⟩,x0,x1,x2,x3⟩:=HX2.out;cases VI with
    | false =>
      have hq:=HQ2.out;simp only[Bool.not_false,Bool.true_or] at hq;subst hq
      go_wp2_with fail
      go_meet
      exact⟨rfl,HB2.out⟩
    | true =>
      by_cases k3:k=3
      ·subst k3;have hq:false=Q:=HQ2.out;subst hq
       go_wp2_with fail
       go_meet
       exact⟨rfl,HB2.out⟩
      have hq:(k != 3&&v != 0)=Q:=HQ2.out;subst hq
      go_wp2_with fail
      go_meet
      exact⟨rfl,HB2.out⟩
 case rest =>
 obtain⟨rfl,hbc⟩:=hcut;have HXc:Hid (CBox w wc S (.slice ao n cap) (.slice ao2 n2 cap2) k f t v):=HX.out.later hbc;clear hbc HX b0 b1 b2 x0 x1 x2 x3;obtain⟨hBc,⟨b0,b1,b2⟩,x0,x1,x2,x3⟩:=HXc.out;have HBc:Hid (Below w.heap.size w wc):=hBc;clear hBc;cases Q with
 | true =>
   have HR1:Hid (R=1):=by
    show _=_;rw[HR.out,if_pos rfl]
   go_wp2;go_ret;exact⟨by rw[HR1.out];rfl,HBc.out⟩
 | false =>
   by_cases k4:k=4
   ·subst k4;obtain⟨NL,hNL⟩:∃q,q=nlB ⟨4,f,t,v⟩:=⟨_,rfl⟩;have HR1:Hid (R=if NL then 0 else 3):=by
     show _=_;rw[HR.out,if_neg (by decide),if_pos rfl,hNL]
    have HNL:Hid (nlB ⟨4,f,t,v⟩=NL):=hNL.symm;clear hNL HR
    go_wp2_with fail
    refine (isNameless_any 4 f t v _).mono ?_;rintro e w2 ⟨rfl,hb2⟩;rw[HNL.out];have HB2:Hid (Below w.heap.size w w2):=HBc.out.trans (hb2.mono HBc.out.size);clear hb2;cases NL with
    | false =>
      go_wp2;go_ret;exact⟨by rw[HR1.out];rfl,HB2.out⟩
    | true =>
      go_wp2;go_ret;exact⟨by rw[HR1.out];rfl,HB2.out⟩
   obtain⟨HF,hHF⟩:∃q,q=hoB Hs f:=⟨_,rfl⟩;obtain⟨HT,hHT⟩:∃q,q=hoB Hs t:=⟨_,rfl⟩;have HR1:Hid (R=if HF&&HT then 0 else 5):=by
    show _=_;rw[HR.out,if_neg (by decide),if_neg k4,hHF,hHT]
   have HHF:Hid (hoB Hs f=HF):=hHF.symm;have HHT:Hid (hoB Hs t=HT):=hHT.symm;clear hHF hHT HR
   go_wp2_with fail
   refine (isHost_any S (.slice ao n cap) ao2 n2 cap2 Hs f _ rfl (HH.out _ HBc.out)).mono ?_;rintro e w2 ⟨rfl,hb2⟩;rw[HHF.out];have HX2:Hid (CBox w w2 S (.slice ao n cap) (.slice ao2 n2 cap2) k f t v):=HXc.out.later hb2;clear hb2 HHF HBc b0 b1 b2 x0 x1 x2 x3;obtain⟨hB2,⟨b0,b1,b2⟩,x0,x1,x2,x3⟩:=HX2.out;have HB2:Hid (Below w.heap.size w w2):=hB2;clear hB2;cases HF with
   | false =>
     go_wp2;go_ret;exact⟨by rw[HR1.out];rfl,HB2.out⟩
   | true =>
     go_wp2_with fail
     refine (isHost_any S (.slice ao n cap) ao2 n2 cap2 Hs t _ rfl (HH.out _ HB2.out)).mono ?_;rintro e w3 ⟨rfl,hb3⟩;rw[HHT.out];have HB3:Hid (Below w.heap.size w w3):=HB2.out.trans (hb3.mono HB2.out.size);clear hb3;cases HT with
     | false =>
       go_wp2;go_ret;exact⟨by rw[HR1.out];rfl,HB3.out⟩
     | true =>
       go_wp2;go_ret;exact⟨by rw[HR1.out];rfl,HB3.out⟩
theorem wcheck_any (S:Int)(ao:AdQ)(n cap:Nat)(ao2:AdQ)(n2 cap2:Nat)(a4:AdQ)(n4 c4:Nat)(Ls:LkQ)(Hs:HoQ)(l:List Wi)(w:World)
 (hL:GS lnkE w (.slice ao n cap) Ls) (hH:GS hstE w (.slice ao2 n2 cap2) Hs) (hl:GS wisE w (.slice a4 n4 c4) l):
 Calls prog 46 #[.agg #[.int i64 S,.slice ao n cap,.slice ao2 n2 cap2],.slice a4 n4 c4] w fun e w'=>e=.returned (noV (wsN S Ls Hs l))∧Below w.heap.size w w':=by
 have hX:=tbox_new w S (.slice ao n cap) (.slice ao2 n2 cap2) 25;have hB0:Below w.heap.size w (w.alloc (.cells #[.int i64 S,.slice ao n cap,.slice ao2 n2 cap2] 25)):=(bRQ _ _).alloc (nLQ _) _;obtain⟨w0,hw0⟩:∃W,w.alloc (.cells #[.int i64 S,.slice ao n cap,.slice ao2 n2 cap2] 25)=W:=⟨_,rfl⟩;rw[hw0] at hX hB0;have HX:Hid (TBox w0 w.heap.size S (.slice ao n cap) (.slice ao2 n2 cap2)):=hX;have HW0:Hid (w.alloc (.cells #[.int i64 S,.slice ao n cap,.slice ao2 n2 cap2] 25)=w0):=hw0;have HB0:Hid (Below w.heap.size w w0):=hB0;have HLW:Hid (∀W,Below w.heap.size w W→GS lnkE W (.slice ao n cap) Ls):=fun W hb=>hL.later hb
 have HHW:Hid (∀W,Below w.heap.size w W→GS hstE W (.slice ao2 n2 cap2) Hs):=fun W hb=>hH.later hb
 obtain⟨_,_,_,e5,hGn,hGm,_,hGa⟩:=hl.form;cases e5;have HGN:Hid (l.length=n4):=hGn;have HGA:Hid (0<n4→∃g o,a4=some ⟨g,o,none⟩∧GAt wisE w g o l∧c4≤maxLen):=hGa;obtain⟨R,hR⟩:∃R,R=wsN S Ls Hs l:=⟨_,rfl⟩;have HR:Hid (R=wsN S Ls Hs l):=hR;rw[←hR];have hn4:n4≤maxLen:=hGm;unfold maxLen at hn4;clear hX hB0 hw0 hL hH hl hGn hGm hGa hR;go_enter func46,ntmps46;go_upto_region 1 with fail;rw[HW0.out];obtain⟨b0,b1,b2⟩:=HX.out;clear HW0
 go_wp2_with fail
 refine (check_any S ao n cap ao2 n2 cap2 Ls Hs _ (HLW.out _ HB0.out) (HHW.out _ HB0.out)).mono ?_;rintro e w1 ⟨rfl,hb1⟩;obtain⟨T,hT⟩:∃T,T=tpN S Ls Hs:=⟨_,rfl⟩;have HT:Hid (T=tpN S Ls Hs):=hT;rw[←hT];have HB1:Hid (Below w.heap.size w w1):=HB0.out.trans (hb1.mono HB0.out.size);have HX1:Hid (TBox w1 w.heap.size S (.slice ao n cap) (.slice ao2 n2 cap2)):=HX.out.later hb1;clear hT hb1 b0 b1 b2 HX;by_cases h0:T=0
 ·have HR1:Hid (R=if 8<l.length then 4 else wsTo S Hs l l.length):=by
   show _=_;rw[HR.out,wsN,if_pos (HT.out.symm.trans h0)]
  subst h0;rw[no_ok rfl];by_cases h8:8<n4
  ·have HR2:Hid (R=4):=by
    show _=_;rw[HR1.out,if_pos (by rw[HGN.out];exact h8)]
   have h8':(8:Int)<(n4:Int):=by omega
   go_wp2;go_ret;exact⟨by rw[HR2.out];rfl,HB1.out⟩
  have HR2:Hid (R=wsTo S Hs l n4):=by
   show _=_;rw[HR1.out,if_neg (by rw[HGN.out];exact h8),HGN.out]
  have h8':¬(8:Int)<(n4:Int):=by omega
  clear HR HR1;go_wp2
  go_loopw [20] (fun i wr=>∃j:Nat,j≤n4∧i=.int i64 j∧wsTo S Hs l j=0∧Below w1.heap.size w1 wr) (fun i _=>n4-(intOf i).toNat)
  case atStart=>exact⟨0,by omega,rfl,rfl,bRQ _ _⟩
  case round =>
   obtain⟨j,hj,rfl,hno,hB⟩:=hrel;have HB:Hid (Below w1.heap.size w1 wr):=hB;have HBw:Hid (Below w.heap.size w wr):=HB1.out.trans (hB.mono HB1.out.size);have HNO:Hid (wsTo S Hs l j=0):=hno;have HXr:Hid (TBox wr w.heap.size S (.slice ao n cap) (.slice ao2 n2 cap2)):=HX1.out.later hB;clear hno hB;by_cases hlt:j<n4
   ·obtain⟨g,o,hao,hc,_⟩:=HGA.out (by omega);subst hao;obtain⟨y0,y1,y2,y3,hkl,hLk,q0,q1,q2,q3⟩:=wis_at (hc.later HBw.out) HGN.out hlt;obtain⟨N,hN⟩:∃q,q=woN S Hs ⟨y0,y1,y2,y3⟩:=⟨_,rfl⟩;have HN:Hid (woN S Hs ⟨y0,y1,y2,y3⟩=N):=hN.symm;have HST:Hid (wsTo S Hs l (j+1)=N):=by
     show _=_;rw[wsTo,if_pos HNO.out,getW hkl,hLk,←hN]
    have hba:Below wr.heap.size wr (wr.alloc (.cells #[.int i64 y0,Value.string y1,Value.string y2,.int i64 y3] 78)):=(bRQ _ _).alloc (nLQ _) _;have HBA:Hid (Below wr.heap.size wr (wr.alloc (.cells #[.int i64 y0,Value.string y1,Value.string y2,.int i64 y3] 78))):=hba;obtain⟨b0,b1,b2⟩:=HXr.out;have hlw:w.heap.size<wr.heap.size:=bLQ _ _ b0;clear hc hLk hN hba
    go_wp2_with fail
    refine (checkOne_any S ao n cap ao2 n2 cap2 Hs y0 y1 y2 y3 _ (HHW.out _ (HBw.out.trans (HBA.out.mono HBw.out.size)))).mono ?_;rintro e w3 ⟨rfl,hb3⟩;rw[HN.out];have HB3:Hid (Below w1.heap.size w1 w3):=(HB.out.trans (HBA.out.mono HB.out.size)).trans (hb3.mono (HB.out.trans (HBA.out.mono HB.out.size)).size);clear hb3 HBA b0 b1 b2 q0 q1 q2 q3 hlw HXr HB;by_cases hN0:N=0
    ·subst hN0;rw[no_ok rfl];go_wp2;go_roundw
     case rel=>exact⟨j+1,by omega,by go_num,HST.out,HB3.out⟩
     case measure=>simp[intOf];omega
    rw[no_ne hN0];have HR3:Hid (R=N):=by
     show _=_;rw[HR2.out,ws_le (k:=j+1) (by rw[HST.out];exact hN0) (by omega),HST.out]
    have HNN:Hid (N≠0):=hN0;clear hN0;go_wp2;go_ret;exact⟨by rw[HR3.out,no_ne HNN.out];rfl,HB1.out.trans (HB3.out.mono HB1.out.size)⟩
   obtain rfl:j=n4:=by omega
   have HR3:Hid (R=0):=by
    show _=_;rw[HR2.out,HNO.out]
   go_wp2;go_ret;exact⟨by rw[HR3.out,no_ok rfl];rfl,HBw.out⟩
 rw[no_ne h0];have HR1:Hid (R=T):=by
  show _=_;rw[HR.out,wsN,if_neg (by rw[←HT.out];exact h0),HT.out]
 have HNN:Hid (T≠0):=h0;clear h0;go_wp2;go_ret;exact⟨by rw[HR1.out,no_ne HNN.out];rfl,HB1.out⟩
end
section
open Go.RowKit Go.Shelf
attribute [local go_sem] Oper.semAt_some
theorem nm_small {a:ByteArray}(h:nmB a=true):a.size≤6:=by
 simp only[nmB,Bool.and_eq_true,decide_eq_true_eq] at h;exact h.2.1
structure NIn (w:World)(g:Nat)(S:Int)(v1 v2 v3:Value)(Ls:LkQ)(Hs:HoQ)(Ts:TsQ):Prop where
 box:NeBox w g S v1 v2 v3
 l:GS lnkE w v1 Ls
 h:GS hstE w v2 Hs
 t:TS w v3 Ts
theorem NIn.later {w w':World}{g:Nat}{S:Int}{v1 v2 v3:Value}{Ls:LkQ}{Hs:HoQ}{Ts:TsQ}(k:NIn w g S v1 v2 v3 Ls Hs Ts)(hb:Below w.heap.size w w'):NIn w' g S v1 v2 v3 Ls Hs Ts:=
 ⟨k.box.later hb,k.l.later hb,k.h.later hb,k.t.later hb⟩
theorem values1_in (n:Nat)(h3:3≤n)(l n₀:Nat)(F:Ft)(b Bs:Nat)(ao4:AdQ)(n4 cap4:Nat)(J:Nat→(Nat→Prop)→World→Prop)(Jx:World→Prop)(W:World)(hB:Boxed W Bs 129 (.slice (some ⟨b,0,none⟩) 1 1))(hf:FaBox W b F.1 F.2.1 (.slice ao4 n4 cap4))(hG:GS hopE W (.slice ao4 n4 cap4) F.2.2)
 (h0:J 0 (fun _=>False) W) (hab:∀k X A A',J k X A→Kb (fun b=>b<W.heap.size∨X b) A A'→J k X A')
 (hY:∀k X A args x (Y:Nat→Prop),J k X A→[F][k]?=some x→FtV A args x→W.heap.size≤A.heap.size→(∀b,Y b→W.heap.size≤b∧¬X b)→YieldAt Fence.wide 0 prog l args A fun e A' =>
  (e=.returned (.bool true)∧(∃X',J (k+1) X' A'∧∀b,X' b→X b∨A.heap.size≤b)∧Kb (fun b=>b<n₀∨Y b) A A')∨(e=.returned (.bool false)∧Jx A'∧Kb (fun b=>b<n₀∨Y b) A A')):
 CallsIn Fence.wide n prog 82 #[.func (.yield l) #[] #[],.pointer (some ⟨Bs,0,none⟩)] W fun e W'=>(∃v,e=.returned v)∧((∃X,J 1 X W')∨Jx W'):=by
 have h1:1≤n:=by omega
 obtain⟨F1,F2,F3⟩:=F
 dsimp only at hf hG
 have hBA:Below W.heap.size W (W.alloc (.cells #[.int i64 F1,.string F2,.slice ao4 n4 cap4] 70)):=(bRQ _ _).alloc (nLQ _) _;have hJ0:=hab _ _ _ _ h0 (Kb.of_below hBA (fun b hb _=>hb));have hy0:=yield_any (m':=n-1) (hY 0 _ (W.alloc (.cells #[.int i64 F1,.string F2,.slice ao4 n4 cap4] 70)) #[.agg #[.int i64 F1,.string F2,.slice ao4 n4 cap4]] (F1,F2,F3) (fun _=>False) hJ0 rfl ⟨ao4,n4,cap4,rfl,hG.later hBA⟩ hBA.size (fun _ h=>h.elim));obtain⟨fn,tmps,assign,body,hy,hR⟩:=hy0;have HR:Hid (RoundIn Fence.wide (n-1) prog l fn tmps assign body (W.alloc (.cells #[.int i64 F1,.string F2,.slice ao4 n4 cap4] 70)) _):=hR;obtain⟨f0,f1,f2⟩:=hf;have hc0:=hB.cell;refine callsIn_of_wp func82 rfl trivial ?_ rfl;simp only[ntmps82,List.size_toArray,List.length_cons,List.length_nil,Nat.reduceAdd,Nat.reduceSub,Array.replicate_succ,Array.replicate_zero,List.push_toArray,List.append_toArray,List.nil_append,List.cons_append];clear hY hBA hJ0 hB hG hR h0 hab
 gi_wp2
 gi_loopw [7] (fun i wr=>∃k:Nat,k≤1∧i=.int i64 k∧(k=0→wr=W)∧(k=1→∃X,J 1 X wr)) (fun i _=>1-(intOf i).toNat)
 case atStart=>exact⟨0,by omega,rfl,fun _=>rfl,fun h=>by omega⟩
 case round =>
  obtain⟨k,hk,rfl,hk0,hk1⟩:=hrel;by_cases hlt:k<1
  ·obtain rfl:k=0:=by omega
   have hw:=hk0 rfl;subst hw;clear hk0 hk1
   gi_wp2
   refine HR.out.mono ?_;rintro e W3 (⟨rfl,⟨X',hJ3,_⟩,hk3⟩ | ⟨rfl,hJx3,_⟩)
   ·have HJ3:Hid (∃X,J 1 X W3):=⟨X',hJ3⟩;clear hJ3 hk3
    gi_wp2
    go_roundw
    case rel=>exact⟨1,by omega,by go_num,fun h=>by omega,fun _=>HJ3.out⟩
    case measure=>simp[intOf]
   gi_wp2
   refine bodyPost_ret (results_none rfl _ _ _) rfl ?_;exact⟨⟨_,rfl⟩,.inr hJx3⟩
  obtain rfl:k=1:=by omega
  have HJ:Hid (∃X,J 1 X wr):=hk1 rfl;clear hk0 hk1
  gi_wp2
  go_end0
  exact⟨⟨_,rfl⟩,.inl HJ.out⟩
theorem values_it (F:Ft)(b Bs:Nat)(ao4:AdQ)(n4 cap4:Nat)(w:World)(hB:Boxed w Bs 129 (.slice (some ⟨b,0,none⟩) 1 1))(hf:FaBox w b F.1 F.2.1 (.slice ao4 n4 cap4))(hG:GS hopE w (.slice ao4 n4 cap4) F.2.2):
 ItF prog 82 #[.pointer (some ⟨Bs,0,none⟩)] FtV w.heap.size [F] w:=by
 intro l J Jx W hW hn h0 hlt hab hax hY;exact (callsIn_wide (n:=3)).1 (values1_in 3 (by omega) l w.heap.size F b Bs ao4 n4 cap4 J Jx W ((Kb.of_below hW (fun b hb _=>hb):Kb (fun _=>True) w W).boxed hB trivial) (hf.later hW) (hG.later hW) h0 hab hY)
theorem values_any (a:AdQ)(len cap:Nat)(w:World):
 Calls prog 49 #[.slice a len cap] w fun e w'=>e=.returned (.func (Fn.func 82) #[] #[.pointer (some ⟨w.heap.size,0,none⟩)])∧w'=w.alloc (.cells #[.slice a len cap] 129):=by
 go_enter func49,ntmps49;go_wp2;go_ret;exact⟨rfl,rfl⟩
theorem fates_any (m:ByteArray)(x y h:Int)(g:Nat)(S:Int)(ao:AdQ)(n cap:Nat)(ao2:AdQ)(n2 cap2:Nat)(ao3:AdQ)(n3 cap3:Nat)(Ls:LkQ)(Hs:HoQ)(Ts:TsQ)(w:World)
 (hI:NIn w g S (.slice ao n cap) (.slice ao2 n2 cap2) (.slice ao3 n3 cap3) Ls Hs Ts) (hN:ntN S Ls Hs Ts=0) (hx:spB S (x,y)=true):
 Calls prog 48 #[.agg #[.string m,.int i64 x,.int i64 y],.int i64 h,.pointer (some ⟨g,0,none⟩)] w fun e w'=>∃gi lb,e=.returned (.func (Fn.func gi) #[] lb)∧(∀args w,(callFunc gi args).run prog w=.ok (.enter gi args) w)∧ItF prog gi lb FtV w'.heap.size [frF Ls Hs Ts (x,y) h] w'∧Below w.heap.size w w':=by
 have hb0:Below w.heap.size w (w.alloc (.cells #[.string m,.int i64 x,.int i64 y] 67)):=(bRQ _ _).alloc (nLQ _) _;have hI0:=hI.later hb0;have hs:=hsbox_new w m x y 67;obtain⟨w0,hw0⟩:∃W,w.alloc (.cells #[.string m,.int i64 x,.int i64 y] 67)=W:=⟨_,rfl⟩;rw[hw0] at hb0 hI0 hs;have HW0:Hid (w.alloc (.cells #[.string m,.int i64 x,.int i64 y] 67)=w0):=hw0;have HB0:Hid (Below w.heap.size w w0):=hb0;have HI0:Hid (NIn w0 g S (.slice ao n cap) (.slice ao2 n2 cap2) (.slice ao3 n3 cap3) Ls Hs Ts):=hI0;have HN:Hid (ntN S Ls Hs Ts=0):=hN;have HSP:Hid (spB S (x,y)=true):=hx;obtain⟨F,hF⟩:∃F,F=frF Ls Hs Ts (x,y) h:=⟨_,rfl⟩;have HF:Hid (frF Ls Hs Ts (x,y) h=F):=hF.symm;rw[←hF];obtain⟨b0,b1,b2,b3⟩:=hI0.box;obtain⟨s0,s1,s2⟩:=hs;clear hb0 hI0 hI hN hx hw0 hF;go_enter func48,ntmps48;go_upto_region 1 with fail;rw[HW0.out];clear HW0
 go_wp2_with fail
 refine (follow_any S ao n cap ao2 n2 cap2 ao3 n3 cap3 Ls Hs Ts x y h _ HI0.out.l HI0.out.h HI0.out.t HN.out HSP.out).mono ?_;rintro e w1 ⟨ao4,n4,cap4,rfl,hown,hb1⟩;rw[HF.out] at hown;rw[HF.out];have hG:GS hopE w1 (.slice ao4 n4 cap4) F.2.2:=own_GS (E:=hopE) hown;have HB1:Hid (Below w.heap.size w w1):=HB0.out.trans (hb1.mono HB0.out.size);have HG:Hid (GS hopE w1 (.slice ao4 n4 cap4) F.2.2):=hG;obtain⟨F1,hF1⟩:∃q,q=F.1:=⟨_,rfl⟩;obtain⟨F2,hF2⟩:∃q,q=F.2.1:=⟨_,rfl⟩;rw[←hF1,←hF2];have HFV:Hid (F.1=F1∧F.2.1=F2):=⟨hF1.symm,hF2.symm⟩;clear hF1 hF2 hown hb1 hG b0 b1 b2 b3 s0 s1 s2
 go_wp2_with fail
 refine (values_any _ _ _ _).mono ?_;rintro e w2 ⟨rfl,hw2⟩;have hal:Below w1.heap.size w1 (w1.alloc (.cells #[.int i64 F1,.string F2,.slice ao4 n4 cap4] 70)):=(bRQ _ _).alloc (nLQ _) _;have hal2:Below (w1.alloc (.cells #[.int i64 F1,.string F2,.slice ao4 n4 cap4] 70)).heap.size (w1.alloc (.cells #[.int i64 F1,.string F2,.slice ao4 n4 cap4] 70)) w2:=by rw[hw2];exact (bRQ _ _).alloc (nLQ _) _
 have hbx:Boxed w2 (w1.alloc (.cells #[.int i64 F1,.string F2,.slice ao4 n4 cap4] 70)).heap.size 129 (.slice (some ⟨w1.heap.size,0,none⟩) 1 1):=by rw[hw2];exact Boxed.new _ _ _
 have hfb:FaBox w2 w1.heap.size F.1 F.2.1 (.slice ao4 n4 cap4):=by rw[HFV.out.1,HFV.out.2];exact (fabox_new w1 F1 F2 _ 70).later hal2
 have HIT:Hid (ItF prog 82 #[.pointer (some ⟨(w1.alloc (.cells #[.int i64 F1,.string F2,.slice ao4 n4 cap4] 70)).heap.size,0,none⟩)] FtV w2.heap.size [F] w2):=values_it F _ _ ao4 n4 cap4 w2 hbx hfb ((HG.out.later hal).later hal2);have HB2:Hid (Below w.heap.size w w2):=HB1.out.trans ((hal.trans (hal2.mono hal.size)).mono HB1.out.size);clear hw2 hal hal2 hbx hfb;go_wp2;go_ret;refine⟨_,_,rfl,enters_of func82 (by kernel_rfl) rfl,?_,HB2.out⟩;have h:=HIT.out;rw[World.size_alloc] at h;exact h
theorem broken_any (g:Nat)(S:Int)(ao:AdQ)(n cap:Nat)(ao2:AdQ)(n2 cap2:Nat)(ao3:AdQ)(n3 cap3:Nat)(a4:AdQ)(n4 c4:Nat)(Ls:LkQ)(Hs:HoQ)(Ts:TsQ)(l:List Wi)(w:World)
 (hI:NIn w g S (.slice ao n cap) (.slice ao2 n2 cap2) (.slice ao3 n3 cap3) Ls Hs Ts) (hN:ntN S Ls Hs Ts=0) (hl:GS wisE w (.slice a4 n4 c4) l):
 Calls prog 47 #[.slice ao2 n2 cap2,.slice a4 n4 c4,.func (Fn.func 48) #[] #[.pointer (some ⟨g,0,none⟩)]] w fun e w'=>e=.returned (.tuple #[.agg #[.int i64 (prV Hs (brW Ls Hs Ts l Hs l.length)).1,.string (prV Hs (brW Ls Hs Ts l Hs l.length)).2.1,.int i64 (prV Hs (brW Ls Hs Ts l Hs l.length)).2.2],.bool (brW Ls Hs Ts l Hs l.length).isSome])∧Below w.heap.size w w':=by
 have hHG:=(tp_0 (nt_0 hN).1).2.2.2.2.1;refine (fwbrk_any g ao2 n2 cap2 a4 n4 c4 Hs (fun z h=>[frF Ls Hs Ts (Hs.getD z zeO).2 (h:Int)]) l w hI.h hl (fun h hh=>?_) ?_).mono ?_
 ·have:=nm_small (hHG h hh).1;omega
 ·intro z hz h h16 W hW;have e:Hs.getD z zeO=Hs[z]:=getO hz
  dsimp only
  rw[e];exact fates_any Hs[z].1 Hs[z].2.1 Hs[z].2.2 h g S ao n cap ao2 n2 cap2 ao3 n3 cap3 Ls Hs Ts W (hI.later hW) hN (hHG _ (List.getElem_mem hz)).2
 rintro e w' ⟨held,p,rfl,hF,hb⟩;obtain⟨e1,e2⟩:=fb_br hF;rw[e1,e2];exact⟨rfl,hb⟩
structure HoBox (w W:World)(S:Int)(v1 v2 v3:Value):Prop where
 below:Below w.heap.size w W
 n:NeBox W w.heap.size S v1 v2 v3
 p:PrBox w W (w.heap.size+1) 0 ⟨#[]⟩ 0
theorem hobox_new (w:World)(S:Int)(v1 v2 v3:Value):HoBox w ((w.alloc (.cells #[.int i64 S,v1,v2,v3] 28)).alloc (.cells #[.int i64 0,.string ⟨#[]⟩,.int i64 0] 74)) S v1 v2 v3:=by
 have e1:(w.alloc (.cells #[.int i64 S,v1,v2,v3] 28)).heap.size=w.heap.size+1:=by simp
 have hb:∀(W:World) (o:Obj),Below W.heap.size W (W.alloc o):=fun W o=>(bRQ _ _).alloc (nLQ _) _
 have hn:=(nebox_new w S v1 v2 v3 28).later (hb _ (Obj.cells #[.int i64 0,.string ⟨#[]⟩,.int i64 0] 74));have hB:=((Below.refl w.heap.size w).alloc (nLQ _) (Obj.cells #[.int i64 S,v1,v2,v3] 28)).alloc (by rw[e1];omega) (Obj.cells #[.int i64 0,.string ⟨#[]⟩,.int i64 0] 74)
 generalize w.alloc (.cells #[.int i64 S,v1,v2,v3] 28)=X at e1 hn hB
 have hr:=prbox_new X w 0 ⟨#[]⟩ 0;rw[e1] at hr;exact⟨hB,hn,hr⟩
theorem HoBox.later {w W W':World}{S:Int}{v1 v2 v3:Value}(k:HoBox w W S v1 v2 v3)(hb:Below W.heap.size W W'):HoBox w W' S v1 v2 v3:=
 ⟨k.below.trans (hb.mono k.below.size),k.n.later hb,k.p.later hb⟩
theorem holds_any (S:Int)(ao:AdQ)(n cap:Nat)(ao2:AdQ)(n2 cap2:Nat)(ao3:AdQ)(n3 cap3:Nat)(a4:AdQ)(n4 c4:Nat)(Ls:LkQ)(Hs:HoQ)(Ts:TsQ)(l:List Wi)(w:World)
 (hL:GS lnkE w (.slice ao n cap) Ls) (hH:GS hstE w (.slice ao2 n2 cap2) Hs) (hT:TS w (.slice ao3 n3 cap3) Ts) (hl:GS wisE w (.slice a4 n4 c4) l):
 Calls prog 18 #[.agg #[.int i64 S,.slice ao n cap,.slice ao2 n2 cap2,.slice ao3 n3 cap3],.slice a4 n4 c4] w fun e w'=>e=.returned (.tuple #[.agg #[.int i64 (wiV S Ls Hs Ts l).1,.string (wiV S Ls Hs Ts l).2.1,.int i64 (wiV S Ls Hs Ts l).2.2],noV (wiN S Ls Hs Ts l)])∧Below w.heap.size w w':=by
 obtain⟨R,hR⟩:∃R,R=wiN S Ls Hs Ts l:=⟨_,rfl⟩;obtain⟨V,hV⟩:∃V,V=wiV S Ls Hs Ts l:=⟨_,rfl⟩;have HR:Hid (R=wiN S Ls Hs Ts l):=hR;have HV:Hid (V=wiV S Ls Hs Ts l):=hV;rw[←hR,←hV];have HLW:Hid (∀W,Below w.heap.size w W→GS lnkE W (.slice ao n cap) Ls):=fun W hb=>hL.later hb
 have HHW:Hid (∀W,Below w.heap.size w W→GS hstE W (.slice ao2 n2 cap2) Hs):=fun W hb=>hH.later hb
 have HTW:Hid (∀W,Below w.heap.size w W→TS W (.slice ao3 n3 cap3) Ts):=fun W hb=>hT.later hb
 have HlW:Hid (∀W,Below w.heap.size w W→GS wisE W (.slice a4 n4 c4) l):=fun W hb=>hl.later hb
 have hX:=hobox_new w S (.slice ao n cap) (.slice ao2 n2 cap2) (.slice ao3 n3 cap3);obtain⟨w0,hw0⟩:∃W,(w.alloc (.cells #[.int i64 S,.slice ao n cap,.slice ao2 n2 cap2,.slice ao3 n3 cap3] 28)).alloc (.cells #[.int i64 0,.string ⟨#[]⟩,.int i64 0] 74)=W:=⟨_,rfl⟩;rw[hw0] at hX;have HX:Hid (HoBox w w0 S (.slice ao n cap) (.slice ao2 n2 cap2) (.slice ao3 n3 cap3)):=hX;have HW0:Hid ((w.alloc (.cells #[.int i64 S,.slice ao n cap,.slice ao2 n2 cap2,.slice ao3 n3 cap3] 28)).alloc (.cells #[.int i64 0,.string ⟨#[]⟩,.int i64 0] 74)=w0):=hw0;clear hL hH hT hl hR hV hX hw0;go_enter func18,ntmps18;go_upto_region 1 with fail;rw[HW0.out];obtain⟨_,⟨b0,b1,b2,b3⟩,_⟩:=HX.out;clear HW0
 go_wp2_with fail
 refine (ncheck_any S ao n cap ao2 n2 cap2 ao3 n3 cap3 Ls Hs Ts _ (HLW.out _ HX.out.below) (HHW.out _ HX.out.below) (HTW.out _ HX.out.below)).mono ?_;rintro e w1 ⟨rfl,hb1⟩;obtain⟨T,hT⟩:∃T,T=ntN S Ls Hs Ts:=⟨_,rfl⟩;have HT:Hid (T=ntN S Ls Hs Ts):=hT;rw[←hT];have HX1:Hid (HoBox w w1 S (.slice ao n cap) (.slice ao2 n2 cap2) (.slice ao3 n3 cap3)):=HX.out.later hb1;clear hT hb1 HX b0 b1 b2 b3;by_cases h0:T=0
 ·have HN0:Hid (ntN S Ls Hs Ts=0):=HT.out.symm.trans h0;subst h0;rw[no_ok rfl];obtain⟨_,⟨b0,b1,b2,b3⟩,_⟩:=HX1.out
  go_wp2_with fail
  refine (wcheck_any S ao n cap ao2 n2 cap2 a4 n4 c4 Ls Hs l _ (HLW.out _ HX1.out.below) (HHW.out _ HX1.out.below) (HlW.out _ HX1.out.below)).mono ?_;rintro e w2 ⟨rfl,hb2⟩;obtain⟨U,hU⟩:∃U,U=wsN S Ls Hs l:=⟨_,rfl⟩;have HU:Hid (U=wsN S Ls Hs l):=hU;rw[←hU];have HX2:Hid (HoBox w w2 S (.slice ao n cap) (.slice ao2 n2 cap2) (.slice ao3 n3 cap3)):=HX1.out.later hb2;clear hU hb2 HX1 b0 b1 b2 b3;by_cases h5:U=0
  ·have HU0:Hid (wsN S Ls Hs l=0):=HU.out.symm.trans h5;subst h5;rw[no_ok rfl];obtain⟨_,⟨b0,b1,b2,b3⟩,_⟩:=HX2.out;have hlw:w.heap.size<w2.heap.size:=bLQ _ _ b0
   go_wp2_with fail
   refine (broken_any w.heap.size S ao n cap ao2 n2 cap2 ao3 n3 cap3 a4 n4 c4 Ls Hs Ts l _ ⟨HX2.out.n,HLW.out _ HX2.out.below,HHW.out _ HX2.out.below,HTW.out _ HX2.out.below⟩ HN0.out (HlW.out _ HX2.out.below)).mono ?_;rintro e w3 ⟨rfl,hb3⟩;obtain⟨O,hO⟩:∃O,O=brW Ls Hs Ts l Hs l.length:=⟨_,rfl⟩;have HRO:Hid (R=if O.isSome then 9 else 0):=by
    show _=_;rw[HR.out,wiN,if_pos HN0.out,if_pos HU0.out,hO]
   have HVO:Hid (V=prV Hs O):=by
    show _=_;rw[HV.out,wiV,if_pos ⟨HN0.out,HU0.out⟩,hO]
   rw[←hO,←HVO.out];have HX3:Hid (HoBox w w3 S (.slice ao n cap) (.slice ao2 n2 cap2) (.slice ao3 n3 cap3)):=HX2.out.later hb3;obtain⟨V1,hV1⟩:∃q,q=V.1:=⟨_,rfl⟩;obtain⟨V2,hV2⟩:∃q,q=V.2.1:=⟨_,rfl⟩;obtain⟨V3,hV3⟩:∃q,q=V.2.2:=⟨_,rfl⟩;have HVV:Hid (V.1=V1∧V.2.1=V2∧V.2.2=V3):=⟨hV1.symm,hV2.symm,hV3.symm⟩;rw[←hV1,←hV2,←hV3];have hal:Below w3.heap.size w3 (w3.alloc (.cells #[.int i64 V1,.string V2,.int i64 V3] 74)):=(bRQ _ _).alloc (nLQ _) _;have hpr:=prbox_new w3 w V1 V2 V3;have hX4:=HX3.out.later hal;obtain⟨w4,hw4⟩:∃W,w3.alloc (.cells #[.int i64 V1,.string V2,.int i64 V3] 74)=W:=⟨_,rfl⟩;obtain⟨gp,hgp⟩:∃q,q=w3.heap.size:=⟨_,rfl⟩;rw[hw4] at hal hpr hX4;rw[←hgp] at hpr;have HW4:Hid (w3.alloc (.cells #[.int i64 V1,.string V2,.int i64 V3] 74)=w4):=hw4;have HGP:Hid (w3.heap.size=gp):=hgp.symm;have HLP:Hid (w.heap.size+1<gp):=by
    show _<_;rw[hgp];have h1:=bLQ _ _ HX3.out.p.c0;simpa using h1
   have HPR:Hid (PrBox w w4 gp V1 V2 V3):=hpr;have HX4:Hid (HoBox w w4 S (.slice ao n cap) (.slice ao2 n2 cap2) (.slice ao3 n3 cap3)):=hX4;clear hb3 hO hV1 hV2 hV3 hal hpr hX4 hw4 hgp b0 b1 b2 b3 HX2;obtain⟨B,hB⟩:∃B,B=O.isSome:=⟨_,rfl⟩;have HBO:Hid (O.isSome=B):=hB.symm;rw[←hB];clear hB;go_upto_region 8 with fail;rw[HW4.out,HGP.out];clear HW4 HGP;obtain⟨hB4,_,⟨r0,r1,r2,rf⟩⟩:=HX4.out;have f0:=rf 0;have f1:=rf 1;have f2:=rf 2;have HB4:Hid (Below w.heap.size w w4):=hB4;obtain⟨p0,p1,p2,_⟩:=HPR.out;clear hB4 rf;cases B with
   | true =>
     have HR9:Hid (R=9):=by
      show _=_;rw[HRO.out,HBO.out,if_pos rfl]
     go_wp2;refine bodyPost_ret (v:=.tuple #[.agg #[.int i64 V1,.string V2,.int i64 V3],.iface 81 (.int i64 9)]) (by simp[results,results18,go_sem, *]) rfl ⟨by rw[HR9.out,HVV.out.1,HVV.out.2.1,HVV.out.2.2];rfl,below_put3 HB4.out _ (by omega) _ _ _⟩
   | false =>
     have HR9:Hid (R=0):=by
      show _=_;rw[HRO.out,HBO.out,if_neg (by decide)]
     have HVZ:Hid (V=(0,ByteArray.empty,0)):=by
      show _=_;rw[HVO.out];cases O with
      | none=>rfl
      | some p=>have:=HBO.out;simp at this
     go_wp2;refine bodyPost_ret (v:=.tuple #[.agg #[.int i64 0,.string ⟨#[]⟩,.int i64 0],.nilIface]) (by simp[results,results18,go_sem, *]) rfl ⟨by rw[HR9.out,HVZ.out];rfl,below_put3 HB4.out _ (by omega) _ _ _⟩
  rw[no_ne h5];have HNE:Hid (U≠0):=h5;have HR1:Hid (R=U):=by
   show _=_;rw[HR.out,wiN,if_pos HN0.out,if_neg (by rw[←HU.out];exact h5),HU.out]
  have HV1:Hid (V=(0,ByteArray.empty,0)):=by
   show _=_;rw[HV.out,wiV,if_neg (fun h=>h5 (HU.out.trans h.2))]
  obtain⟨hB2,_,⟨r0,r1,r2,rf⟩⟩:=HX2.out;have f0:=rf 0;have f1:=rf 1;have f2:=rf 2;have HB2:Hid (Below w.heap.size w w2):=hB2;clear h5 hB2 rf;go_wp2;refine bodyPost_ret (v:=.tuple #[.agg #[.int i64 0,.string ⟨#[]⟩,.int i64 0],.iface 81 (.int i64 U)]) (by simp[results,results18,go_sem, *]) rfl ⟨by rw[HR1.out,HV1.out,no_ne HNE.out];rfl,below_put3 HB2.out _ (by omega) _ _ _⟩
 rw[no_ne h0];have HNE:Hid (T≠0):=h0;have HR1:Hid (R=T):=by
  show _=_;rw[HR.out,wiN,if_neg (by rw[←HT.out];exact h0),HT.out]
 have HV1:Hid (V=(0,ByteArray.empty,0)):=by
  show _=_;rw[HV.out,wiV,if_neg (fun h=>h0 (HT.out.trans h.1))]
 obtain⟨hB2,_,⟨r0,r1,r2,rf⟩⟩:=HX1.out;have f0:=rf 0;have f1:=rf 1;have f2:=rf 2;have HB2:Hid (Below w.heap.size w w1):=hB2;clear h0 hB2 rf;go_wp2;refine bodyPost_ret (v:=.tuple #[.agg #[.int i64 0,.string ⟨#[]⟩,.int i64 0],.iface 81 (.int i64 T)]) (by simp[results,results18,go_sem, *]) rfl ⟨by rw[HR1.out,HV1.out,no_ne HNE.out];rfl,below_put3 HB2.out _ (by omega) _ _ _⟩
end
section
open Go.ChangeShapes Go.WideShapes Go.ChangeAt Go.RowKit
def cellsR (L:List Ru):List Value:=L.flatMap fun r=>[.int i64 r.p,.int i64 r.m,.int i64 r.b,.int i64 r.o,.int i64 r.s,.int i64 r.v]
theorem cellsR_len (L:List Ru):(cellsR L).length=L.length*6:=by
 induction L with
 | nil=>rfl
 | cons p r ih=>simp only[cellsR,List.flatMap_cons,List.length_append,List.length_cons,List.length_nil] at *;omega
theorem cellsR_app (L M:List Ru):cellsR (L++M)=cellsR L++cellsR M:=by simp[cellsR]
theorem cellsR_at (L:List Ru)(i:Nat)(h:i<L.length):(cellsR L)[i*6]?=some (.int i64 (L[i]).p)∧(cellsR L)[i*6+1]?=some (.int i64 (L[i]).m)∧(cellsR L)[i*6+2]?=some (.int i64 (L[i]).b) ∧
 (cellsR L)[i*6+3]?=some (.int i64 (L[i]).o)∧(cellsR L)[i*6+4]?=some (.int i64 (L[i]).s)∧(cellsR L)[i*6+5]?=some (.int i64 (L[i]).v):=by
 induction L generalizing i with
 | nil=>simp at h
 | cons p r ih =>
   cases i with
   | zero=>simp[cellsR]
   | succ i =>
     have:=ih i (by simpa using h);have e1:(i+1)*6=i*6+1+1+1+1+1+1:=by omega
     simpa[cellsR,e1] using this
theorem cellsR_one (L:List Ru):∀u∈cellsR L,u.oneCell'=true:=by
 intro u hu;simp only[cellsR,List.mem_flatMap] at hu;obtain⟨p,_,hp⟩:=hu;simp at hp
 rcases hp with rfl | rfl | rfl | rfl | rfl | rfl <;> rfl
theorem own_SR {w:World}{B e:Nat}{v:Value}{L:List Ru}(h:w.ownsRow B e 6 v L.length (cellsR L)):SR w v L:=by
 rcases h.2 with ⟨rfl,h0⟩ | ⟨g,cap,cur,rfl,_,_,h1,h2,_⟩
 ·exact .inl ⟨none,0,rfl,List.length_eq_zero_iff.1 h0⟩
 refine .inr ⟨g,0,cap,rfl,h1,h2,fun i hi=>?_⟩;obtain⟨a0,a1,a2,a3,a4,a5⟩:=cellsR_at L i hi;refine⟨?_,?_,?_,?_,?_,?_⟩
 ·have:=h.cellAt (i*6) (by omega);rw[a0] at this;simpa using this
 ·have:=h.cellAt (i*6+1) (by omega);rw[a1] at this;simpa using this
 ·have:=h.cellAt (i*6+2) (by omega);rw[a2] at this;simpa using this
 ·have:=h.cellAt (i*6+3) (by omega);rw[a3] at this;simpa using this
 ·have:=h.cellAt (i*6+4) (by omega);rw[a4] at this;simpa using this
 have:=h.cellAt (i*6+5) (by omega);rw[a5] at this;simpa using this
theorem infoRule:(Tryz.prog.info? 47).map (fun i=>(i.zero,i.size,i.bytes))=some (some (.agg #[.int i64 0,.int i64 0,.int i64 0,.int i64 0,.int i64 0,.int i64 0]),6,48):=by kernel_rfl
theorem sixCells:(Value.agg #[.int i64 0,.int i64 0,.int i64 0,.int i64 0,.int i64 0,.int i64 0]).cells.size=6:=by simp[Value.cells]
end
section
open Go.RowKit
theorem addr_add (g o j:Nat):(⟨g,o,none⟩:Addr).add j=⟨g,o+j,none⟩:=by
 simp only[Addr.add]
 first
  | rfl
  | (split
     ·next h0=>rw[h0];rfl
     rfl)
theorem RAt.cells {w:World}{g o:Nat}{M:List Ru}(h:RAt w g o M):∀j u,(cellsR M)[j]?=some u→w.cell? ((⟨g,o,none⟩:Addr).add j)=some u:=by
 intro j u hu;have hj:j<M.length*6:=by
  have:=(List.getElem?_eq_some_iff.1 hu).1;rw[cellsR_len] at this;exact this
 rw[addr_add];have hi:j / 6<M.length:=by omega
 obtain⟨c0,c1,c2,c3,c4,c5⟩:=h (j / 6) hi;obtain⟨a0,a1,a2,a3,a4,a5⟩:=cellsR_at M (j / 6) hi;have h6:j=j / 6*6∨j=j / 6*6+1∨j=j / 6*6+2∨j=j / 6*6+3∨j=j / 6*6+4∨j=j / 6*6+5:=by omega
 generalize j / 6=i at *
 rcases h6 with e | e | e | e | e | e
 ·subst e;rw[a0] at hu;cases hu;exact c0
 ·subst e;rw[a1] at hu;cases hu;rw[←Nat.add_assoc];exact c1
 ·subst e;rw[a2] at hu;cases hu;rw[←Nat.add_assoc];exact c2
 ·subst e;rw[a3] at hu;cases hu;rw[←Nat.add_assoc];exact c3
 ·subst e;rw[a4] at hu;cases hu;rw[←Nat.add_assoc];exact c4
 subst e;rw[a5] at hu;cases hu;rw[←Nat.add_assoc];exact c5
theorem run_append_own_none {w:World}(base:Nat)(t ty e:TypeId)(i:TypeInfo)(size cap2:Nat)(ht:Tryz.prog.underlying t=some (.slice e))(hi:Tryz.prog.info? e=some i)
 (v:Value) (n:Nat) (xs:List Value) (hown:w.ownsRow base e size v n xs):
 (Builtin.append_ #[t,t] ty #[v,.slice none 0 cap2]).run prog w=.ok v w:=by
 rcases hown.2 with ⟨rfl,rfl⟩ | ⟨g,cap,cur,rfl,_,_,hnc,_⟩
 ·simp[Builtin.append_,run_underlying ht,sizeOf,typeInfo,hi,Builtin.lenOf,Builtin.firstCells]
 simp[Builtin.append_,run_underlying ht,sizeOf,typeInfo,hi,Builtin.lenOf,Builtin.firstCells,hnc,storeCells]
theorem wpList_append_SR (w:World){ops:Array Oper}{rest:List Oper}{o:Oper}{a:Act}{Q:Exit→Act→World→Prop}(hgd:o.guard=none)(s x:Operand)(t:TypeId)
 (ho:o.op=.call { callee:=.builtin .append,args:=#[s,x],argTypes:=#[t,t] }) (ht:Tryz.prog.underlying t=some (.slice 47)) (base:Nat)
 (v:Value) (hs:a.eval s=v) (L:List Ru) (hown:w.ownsRow base 47 6 v L.length (cellsR L)) (u:Value) (hx:a.eval x=u) (M:List Ru) (hM:SR w u M)
 (h100:L.length+M.length≤1000) (hbase:base≤w.heap.size)
 (h:∀v' w',w'.ownsRow base 47 6 v' (L++M).length (cellsR (L++M))→w.grownBy w' v.ownBlock→wpList prog ops Q rest (a.put o.dst v') w'):wpList prog ops Q (o :: rest) a w:=by
 obtain⟨i0,hi,hz0,hz1,hz2⟩:=info_parts infoRule;have key:∀(ad:Addr) (m c:Nat) (news:List Value),a.eval x=.slice (some ad) m c→news.length=m*6→(∀j u,news[j]?=some u→w.cell? (ad.add j)=some u)→(∀u∈news,u.oneCell'=true)→m=M.length→news=cellsR M→wpList prog ops Q (o :: rest) a w:=by
  intro ad m c news e1 e2 e3 e4 e5 e6;refine wpList_append_own w hgd s x t ho base 47 i0 (.agg #[.int i64 0,.int i64 0,.int i64 0,.int i64 0,.int i64 0,.int i64 0]) 6 48 ht hi hz0 hz1 hz2 sixCells (by decide) v _ _ hs hown ad m c news e1 e2 e3 e4 (by unfold maxLen;omega) (by omega) hbase ?_;intro v' w' h1 h2 _;refine h v' w' ?_ h2;rw[List.length_append,cellsR_app,←e5,←e6];exact h1
 rcases hM with ⟨ao,cap,rfl,rfl⟩ | ⟨g,q,cap,rfl,h1,h2,h3⟩
 ·cases ao with
  | none =>
    refine wpList_plain hgd fun K hK=>?_
    have hrun:=run_append_own_none (w:=w) base t o.type 47 i0 6 cap ht hi v _ _ hown;unfold Oper.wp;simp[execOp,ho,resolve,invoke,builtin,hs,hx,hrun,Result.andThen];exact hK _ _ (h v w (by rw[List.append_nil];exact hown) ⟨rfl,rfl,rfl,nLQ _,fun _ _ _=>rfl⟩)
  | some ad=>exact key ad 0 cap [] hx rfl (by intro j u hu;simp at hu) (by intro u hu;cases hu) rfl rfl
 exact key ⟨g,q,none⟩ M.length cap (cellsR M) hx (cellsR_len M) h3.cells (cellsR_one M) rfl rfl
end
end Go.Proofs.YtpgjkmefomldfaaGreat
