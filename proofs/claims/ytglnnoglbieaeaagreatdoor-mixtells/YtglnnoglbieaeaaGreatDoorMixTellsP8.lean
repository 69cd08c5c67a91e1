/- Contracts and facts on the way to MixTells, joined into one text: MixWalk6, MixDuring, ItLaw2, MixFates2, MixClone, MixCmp, MixOr, MixHopOrd, MixCmpHops, MixOrder, MixCmpMath, MixFts, SlSortFate, MixSort, MixSeenI, RoundReg. -/
import Derived.Test.YtglnnoglbieaeaaGreatDoorMixTellsP7
namespace Go.Proofs.YtglnnoglbieaeaaGreatDoor
set_option linter.unusedSimpArgs false
set_option linter.unusedVariables false
set_option maxHeartbeats 16000000
set_option maxRecDepth 100000
section
open Go.RowKit Go.Shelf
section
variable {l lo n₀:Nat}{J:Nat→(Nat→Prop)→World→Prop}{Jx:World→Prop}{L:List Ft}{w:World}{vo vy:Value}{m:Nat}{Ls:List ((Int×Int)×(Int×Int))}{Hs:List (ByteArray×(Int×Int))}{As Bs:List (List Ru)}
theorem walk_all (cx:MCx l lo n₀ J Jx L w vo vy m Ls Hs As Bs):∀n,1≤n→WkOK l lo n₀ J Jx L w vo vy m Ls Hs As Bs n
 | 0,h=>by omega
 | n+1,_=>walk_ok cx n (take_ok cx n (fun h=>walk_all cx n h))
end
theorem hk_one {W:World}{bk:Nat}{p:(Int×Int)×Int}(h:W.ownsRow 0 74 hopE.n (.slice (some ⟨bk,0,none⟩) (([]:List ((Int×Int)×Int)).length+1) 24) (([]:List ((Int×Int)×Int)).length+1) (cellsG hopE ([]++[p]))):HK W bk [p]:=h
theorem fates1_it (vo vy:Value)(m:Nat)(Ls:List ((Int×Int)×(Int×Int)))(Hs:List (ByteArray×(Int×Int)))(As Bs:List (List Ru))(bx bi:Nat)(c d e:Int)(w:World)
 (hx0:w.cell? ⟨bx,0,none⟩=some vo) (hx1:w.cell? ⟨bx,1,none⟩=some vy) (hi0:w.cell? ⟨bi,0,none⟩=some (.int .i64 c)) (hi1:w.cell? ⟨bi,1,none⟩=some (.int .i64 d)) (hi2:w.cell? ⟨bi,2,none⟩=some (.int .i64 e))
 (hm:m≤6) (ht:tpN (m:Int) Ls Hs=0) (ho:LGs w 0 vo (fun (a h:Nat)=>lgT Ls Hs (taT As ((a:Int)+1)) (((a:Int)+1,0),(h:Int))) m) (hy:LGs w 0 vy (fun (a h:Nat)=>lgT Ls Hs (taT Bs ((a:Int)+1)) (((a:Int)+1,0),(h:Int))) m) (hsp:spB (m:Int) (c,d)=true) (hhd:hdrB e=true):
 ItF Tryz.prog 51 #[.pointer (some ⟨bx,0,none⟩),.pointer (some ⟨bi,0,none⟩)] FtV w.heap.size (pwS Ls Hs As Bs (c,d) e) w:=by
 intro l J Jx W hW hn h0 hlt hab hax hY;have cx:MCx l W.heap.size w.heap.size J Jx (pwS Ls Hs As Bs (c,d) e) w vo vy m Ls Hs As Bs:=⟨hn,hm,ht,fun A hA=>ho.later hA,fun A hA=>hy.later hA,hlt,hab,hax,hY⟩;have HSW:Hid (∀V,Below w.heap.size w V→V.cell? ⟨bx,0,none⟩=some vo∧V.cell? ⟨bx,1,none⟩=some vy∧V.cell? ⟨bi,0,none⟩=some (.int .i64 c)∧V.cell? ⟨bi,1,none⟩=some (.int .i64 d)∧V.cell? ⟨bi,2,none⟩=some (.int .i64 e)):=fun V hV=>⟨cell_later hV hx0,cell_later hV hx1,cell_later hV hi0,cell_later hV hi1,cell_later hV hi2⟩
 have HSK:Hid (∀V,Kb (fun _=>True) W V→V.cell? ⟨bx,0,none⟩=some vo∧V.cell? ⟨bx,1,none⟩=some vy∧V.cell? ⟨bi,0,none⟩=some (.int .i64 c)∧V.cell? ⟨bi,1,none⟩=some (.int .i64 d)∧V.cell? ⟨bi,2,none⟩=some (.int .i64 e)):=fun V hk=>HSW.out V (hW.trans (hk.below hn (fun _ _=>trivial)))
 have HMX:Hid (24≤maxLen):=by show _≤_;unfold maxLen;omega
 have HWW:Hid (Below w.heap.size w W):=hW;have HNN:Hid (w.heap.size≤W.heap.size):=hn;have HWK:Hid (∀(V:World) (bk:Nat),Kb (fun _=>True) W V→W.heap.size≤bk→HK V bk [((c,d),e)]→Calls Tryz.prog 52 #[.agg #[vo,vy],.slice (some ⟨bk,0,none⟩) 1 24,.agg #[.bool false,.bool false,.bool false,.bool false,.bool false,.bool false],.func (.yield l) #[] #[]] V fun e' A'=>∃r,e'=.returned (.bool r)∧((∃X,J (pwS Ls Hs As Bs (c,d) e).length X A')∨Jx A')∧Below w.heap.size w A'):=fun V bk hk hb hh=>by
  have hI:WkI W.heap.size w.heap.size J w (fun _=>False) (fun b=>W.heap.size≤b∧b<V.heap.size) 0 bk [((c,d),e)] V:=⟨hW.trans (hk.below (by omega) (fun _ _=>trivial)),hk.size,hab _ _ _ _ h0 (hk.mono (fun _ _ _=>trivial)),fun b hb=>⟨hb.1,hb.2,fun h=>h⟩,⟨hb,hh.lt⟩,hh⟩;have h:=walk_all cx 24 (by omega) V 0 _ _ bk [((c,d),e)] (fun _=>false) rfl (by omega) (by simp) hI hsp hhd (fun i x hx=>by rw[Nat.zero_add];exact hx);refine h.mono ?_;rintro e' A' ⟨r,rfl,hR,hK⟩;refine⟨r,rfl,?_,hI.b.trans (hK.below (by have:=hk.size;omega) (fun b hb=>.inl hb))⟩;cases r with
  | false=>exact .inr hR
  | true =>
    obtain⟨⟨X',j1,_⟩,_⟩:=hR;rw[Nat.zero_add] at j1;exact .inl ⟨X',j1⟩
 obtain⟨s0,s1,s2,s3,s4⟩:=HSW.out W hW;have hlx:bx<W.heap.size:=World.block_lt_of_cell? _ _ s0;have hli:bi<W.heap.size:=World.block_lt_of_cell? _ _ s2;obtain⟨j0,hj,hy0,hy1,hy2⟩:=info_parts hop_info;obtain⟨MC,hMC,hmk⟩:∃MC:Array Value,MC.size=24*3∧∀V:World,(Instr.makeSlice 75 (.int .i64 0) (.int .i64 24)).run Tryz.prog V=.ok (.slice (some ⟨V.heap.size,0,none⟩) 0 24) (V.alloc (.cells MC 74)):=by
  refine⟨madeCells (Value.agg #[.int .i64 0,.int .i64 0,.int .i64 0]).cells (24*3),size_madeCells _ _,fun V=>?_⟩;have h:=run_make (P:=Tryz.prog) V 75 74 j0 (.agg #[.int .i64 0,.int .i64 0,.int .i64 0]) Tryz.underlying75 hj hy0 .i64 .i64 0 24 (by decide) (by decide) (by rw[hy2];decide) (by decide);rw[hy1] at h;exact h
 have hal:∀(V:World) (o:Obj),Kb (fun _=>True) V (V.alloc o):=fun V o=>(Kb.refl _ _).alloc o
 have HOM1:Hid (∀o:Obj,((W.alloc (.cells MC 74)).alloc o).ownsRow 0 74 hopE.n (.slice (some ⟨W.heap.size,0,none⟩) 0 24) 0 (cellsG hopE [])):=fun o=>own_kb (World.ownsRow_made W MC 24 (Nat.zero_le _) HMX.out hMC) (hal _ o) (fun _ _=>trivial)
 have HOM2:Hid (∀o:Obj,((W.alloc o).alloc (.cells MC 74)).ownsRow 0 74 hopE.n (.slice (some ⟨W.heap.size+1,0,none⟩) 0 24) 0 (cellsG hopE [])):=fun o=>by
  have h:=World.ownsRow_made (base:=0) (e:=74) (size:=3) (W.alloc o) MC 24 (Nat.zero_le _) HMX.out hMC;rw[World.size_alloc] at h;exact h
 have HVM1:Hid (VAt ((W.alloc (.cells MC 74)).alloc (.cells #[.int .i64 c,.int .i64 d,.int .i64 e] 74)) (W.heap.size+1) 0 (hopE.c ((c,d),e))):=by
  have h:=hop_new (W.alloc (.cells MC 74)) c d e 74;rw[World.size_alloc] at h;exact h
 have HVM2:Hid (VAt ((W.alloc (.cells #[.int .i64 c,.int .i64 d,.int .i64 e] 74)).alloc (.cells MC 74)) W.heap.size 0 (hopE.c ((c,d),e))):=(hop_new W c d e 74).later ((Below.refl _ _).alloc (Nat.le_refl _) _);clear hMC hal;show Calls Tryz.prog 51 #[.func (.yield l) #[] #[],.pointer (some ⟨bx,0,none⟩),.pointer (some ⟨bi,0,none⟩)] W _;clear cx hx0 hx1 hi0 hi1 hi2 ho hy hW hn h0 hlt hab hax hY hsp hhd ht hm;go_enter Tryz.func51,Tryz.ntmps51;go_upto_region 0 with fail
 go_region_held3 (fun V=>V.cell? ⟨bx,0,none⟩=some vo∧V.cell? ⟨bx,1,none⟩=some vy∧V.cell? ⟨bi,0,none⟩=some (.int .i64 c)∧V.cell? ⟨bi,1,none⟩=some (.int .i64 d)∧V.cell? ⟨bi,2,none⟩=some (.int .i64 e))
  (first | (with_reducible assumption) | (with_reducible exact HSK.out _ (Kb.refl _ _).drew) | (with_reducible exact HSK.out _ ((Kb.refl _ _).drew.alloc _)) | (with_reducible exact HSK.out _ ((Kb.refl _ _).alloc _).drew) | (with_reducible exact HSK.out _ (((Kb.refl _ _).alloc _).alloc _).drew) | (with_reducible exact HSK.out _ (((Kb.refl _ _).drew.alloc _).alloc _)) | (with_reducible exact HSK.out _ (((Kb.refl _ _).alloc _).drew.alloc _)) | (with_reducible exact HSK.out _ HK5.out) | (with_reducible exact HSW.out _ HB6.out))
  (first
   | (refine step_append_fits (E:=hopE) _ (by rfl) _ _ 75 74 (by rfl) Tryz.underlying75 j0 hj hy1 0 (W.heap.size) 24 [] (by rfl) ?_ (W.heap.size+1) 0 1 (by rfl) ((c,d),e) ?_ (by decide) ?_;(focus (exact HOM1.out _));(focus (exact HVM1.out));intro w5 ho5 hg5;have HK5:Hid (Kb (fun _=>True) W w5):=(Kb.grown (by first | exact (((Kb.refl _ _).alloc _).alloc _).drew | exact (((Kb.refl _ _).drew.alloc _).alloc _) | exact ((Kb.refl _ _).alloc _).drew.alloc _) hg5 (fun r er hr _=>by cases er;omega));have HBK5:Hid (W.heap.size≤W.heap.size):=(by show _≤_;omega);have HH5:Hid (HK w5 (W.heap.size) [((c,d),e)]):=(hk_one ho5);clear ho5 hg5)
   | (refine step_append_fits (E:=hopE) _ (by rfl) _ _ 75 74 (by rfl) Tryz.underlying75 j0 hj hy1 0 (W.heap.size+1) 24 [] (by rfl) ?_ (W.heap.size) 0 1 (by rfl) ((c,d),e) ?_ (by decide) ?_;(focus (exact HOM2.out _));(focus (exact HVM2.out));intro w5 ho5 hg5;have HK5:Hid (Kb (fun _=>True) W w5):=(Kb.grown (by first | exact (((Kb.refl _ _).alloc _).alloc _).drew | exact (((Kb.refl _ _).drew.alloc _).alloc _) | exact ((Kb.refl _ _).alloc _).drew.alloc _) hg5 (fun r er hr _=>by cases er;omega));have HBK5:Hid (W.heap.size≤W.heap.size+1):=(by show _≤_;omega);have HH5:Hid (HK w5 (W.heap.size+1) [((c,d),e)]):=(hk_one ho5);clear ho5 hg5)
   | (go_at_call 52;refine (HWK.out _ _ HK5.out HBK5.out HH5.out).mono ?_;rintro e6 w6 ⟨r,rfl,hP,hB6⟩;have HP:Hid ((∃X,J (pwS Ls Hs As Bs (c,d) e).length X w6)∨Jx w6):=hP;have HB6:Hid (Below w.heap.size w w6):=hB6;clear hP hB6))
 all_goals go_wp2
 all_goals go_end0
 all_goals exact⟨⟨_,rfl⟩,HP.out⟩
def lgF (Ls:List ((Int×Int)×(Int×Int)))(Hs:List (ByteArray×(Int×Int)))(Ts:List (List Ru)):Nat→Nat→Lg:=fun (a h:Nat)=>lgT Ls Hs (taT Ts ((a:Int)+1)) (((a:Int)+1,0),(h:Int))
def DuQ (N:Int)(W:World)(B:Nat)(vo vy:Value)(Ls:List ((Int×Int)×(Int×Int)))(Hs:List (ByteArray×(Int×Int)))(Ts:List (List Ru))(l:List Op8)(m:Nat):Prop:=N=0→LGs W B vo (lgF Ls Hs Ts) m∧LGs W B vy (lgF Ls Hs (caT Ts l)) m
theorem fates_val (vo vy:Value)(c d e:Int)(w:World):
 Calls Tryz.prog 26 #[.agg #[vo,vy],.agg #[.int .i64 c,.int .i64 d,.int .i64 e]] w fun e' w'=>e'=.returned (.func (Fn.func 51) #[] #[.pointer (some ⟨w.heap.size,0,none⟩),.pointer (some ⟨w.heap.size+1,0,none⟩)])∧w'=(w.alloc (.cells #[vo,vy] 80)).alloc (.cells #[.int .i64 c,.int .i64 d,.int .i64 e] 74):=by
 go_enter Tryz.func26,Tryz.ntmps26;go_wp2;go_ret;exact⟨rfl,rfl⟩
theorem fates_it (vo vy:Value)(m:Nat)(Ls:List ((Int×Int)×(Int×Int)))(Hs:List (ByteArray×(Int×Int)))(As Bs:List (List Ru))(c d e:Int)(w:World)(hm:m≤6)(ht:tpN (m:Int) Ls Hs=0)(ho:LGs w 0 vo (lgF Ls Hs As) m)(hy:LGs w 0 vy (lgF Ls Hs Bs) m)(hsp:spB (m:Int) (c,d)=true)(hhd:hdrB e=true):
 Calls Tryz.prog 26 #[.agg #[vo,vy],.agg #[.int .i64 c,.int .i64 d,.int .i64 e]] w fun e' w'=>∃gi lb,e'=.returned (.func (Fn.func gi) #[] lb)∧(∀args w,(callFunc gi args).run Tryz.prog w=.ok (.enter gi args) w)∧ItF Tryz.prog gi lb FtV w'.heap.size (pwS Ls Hs As Bs (c,d) e) w'∧Below w.heap.size w w':=by
 refine (fates_val vo vy c d e w).mono ?_;rintro e' w' ⟨rfl,rfl⟩;have hb:∀(W:World) (o:Obj),Below W.heap.size W (W.alloc o):=fun W o=>(Below.refl _ _).alloc (Nat.le_refl _) _
 have h1:=(vat_new w [vo,vy] 80).later (hb (w.alloc (.cells #[vo,vy] 80)) (.cells #[.int .i64 c,.int .i64 d,.int .i64 e] 74));have h2:=vat_new (w.alloc (.cells #[vo,vy] 80)) [.int .i64 c,.int .i64 d,.int .i64 e] 74;rw[World.size_alloc] at h2;have hB:Below w.heap.size w ((w.alloc (.cells #[vo,vy] 80)).alloc (.cells #[.int .i64 c,.int .i64 d,.int .i64 e] 74)):=((Below.refl _ _).alloc (Nat.le_refl _) _).alloc (by simp) _;exact⟨_,_,rfl,enters_of Tryz.func51 (by kernel_rfl) rfl,fates1_it vo vy m Ls Hs As Bs w.heap.size (w.heap.size+1) c d e _ (h1 0 _ rfl) (h1 1 _ rfl) (h2 0 _ rfl) (h2 1 _ rfl) (h2 2 _ rfl) hm ht (ho.later hB) (hy.later hB) hsp hhd,hB⟩
structure DB (w W:World)(S:Int)(v1 v2 v3:Value):Prop where
 below:Below w.heap.size w W
 n:NeBox W w.heap.size S v1 v2 v3
 r0:W.cell? ⟨w.heap.size+1,0,none⟩=some (.slice none 0 0)
 r1:W.cell? ⟨w.heap.size+1,1,none⟩=some (.slice none 0 0)
 f:∀i,W.frozen? ⟨w.heap.size+1,i,none⟩=false
theorem db_new (w:World)(S:Int)(v1 v2 v3:Value):DB w ((w.alloc (Obj.cells #[.int .i64 S,v1,v2,v3] 28)).alloc (Obj.cells #[.slice none 0 0,.slice none 0 0] 80)) S v1 v2 v3:=by
 have e1:(w.alloc (Obj.cells #[.int .i64 S,v1,v2,v3] 28)).heap.size=w.heap.size+1:=by simp
 have hb:∀(W:World) (o:Obj),Below W.heap.size W (W.alloc o):=fun W o=>(Below.refl _ _).alloc (Nat.le_refl _) _
 have hn:=(nebox_new w S v1 v2 v3 28).later (hb _ (Obj.cells #[.slice none 0 0,.slice none 0 0] 80));have hB:=((Below.refl w.heap.size w).alloc (Nat.le_refl _) (Obj.cells #[.int .i64 S,v1,v2,v3] 28)).alloc (by rw[e1];omega) (Obj.cells #[.slice none 0 0,.slice none 0 0] 80)
 generalize w.alloc (Obj.cells #[.int .i64 S,v1,v2,v3] 28)=X at e1 hn hB
 have hr:=vat_new X [.slice none 0 0,.slice none 0 0] 80;have hf:=froz_new2 X #[.slice none 0 0,.slice none 0 0] 80;rw[e1] at hr hf;exact⟨hB,hn,hr 0 _ rfl,hr 1 _ rfl,hf⟩
theorem DB.lt {w W:World}{S:Int}{v1 v2 v3:Value}(k:DB w W S v1 v2 v3):w.heap.size+1<W.heap.size:=World.block_lt_of_cell? W ⟨w.heap.size+1,0,none⟩ k.r0
theorem DB.later {w W W':World}{S:Int}{v1 v2 v3:Value}(k:DB w W S v1 v2 v3)(hb:Below W.heap.size W W'):DB w W' S v1 v2 v3:=
 ⟨k.below.trans (hb.mono k.below.size),k.n.later hb,cell_later hb k.r0,cell_later hb k.r1,fun i=>(hb.frozen (p:=⟨w.heap.size+1,i,none⟩) k.lt).trans (k.f i)⟩
theorem below_2 {B:Nat}{w W:World}(h:Below B w W)(g:Nat)(hg:B≤g)(a b:Value):Below B w ((W.setCell ⟨g,0,none⟩ a).setCell ⟨g,1,none⟩ b):=(h.setCell (p:=⟨g,0,none⟩) hg a).setCell (p:=⟨g,1,none⟩) hg b
theorem LGs.put {W:World}{B B':Nat}{v:Value}{f:Nat→Nat→Lg}{k:Nat}(h:LGs W B v f k)(g:Nat)(hg:g<B)(a b:Value)(hB:B'≤B):LGs ((W.setCell ⟨g,0,none⟩ a).setCell ⟨g,1,none⟩ b) B' v f k:=by
 obtain⟨vs,h1,h2⟩:=h;refine⟨vs,own_mono (ownsRow_setCell_below (ownsRow_setCell_below h1 hg _) hg _) hB,fun i hi=>?_⟩;obtain⟨u,e,h3⟩:=h2 i hi;exact⟨u,e,own_mono (ownsRow_setCell_below (ownsRow_setCell_below h3 hg _) hg _) hB⟩
def NetQ (w2:World)(Z:Int)(q1:Option Addr)(j1 e1:Nat)(q2:Option Addr)(j2 e2:Nat)(q3:Option Addr)(j3 e3:Nat)(Ls:List ((Int×Int)×(Int×Int)))(Hs:List (ByteArray×(Int×Int)))(T':List (List Ru)):Prop:=
 (∀W,Below w2.heap.size w2 W→GS lnkE W (.slice q1 j1 e1) Ls∧GS hstE W (.slice q2 j2 e2) Hs∧TS W (.slice q3 j3 e3) T')∧ntN Z Ls Hs T'=0
theorem during_any (S:Int)(ao:Option Addr)(n cap:Nat)(ao2:Option Addr)(n2 cap2:Nat)(ao3:Option Addr)(n3 cap3:Nat)(a4:Option Addr)(n4 c4:Nat)(Ls:List ((Int×Int)×(Int×Int)))(Hs:List (ByteArray×(Int×Int)))(Ts:List (List Ru))(l:List Op8)(w:World)
 (hL:GS lnkE w (.slice ao n cap) Ls) (hH:GS hstE w (.slice ao2 n2 cap2) Hs) (hT:TS w (.slice ao3 n3 cap3) Ts) (hl:GS opE w (.slice a4 n4 c4) l):
 Calls Tryz.prog 23 #[.agg #[.int .i64 S,.slice ao n cap,.slice ao2 n2 cap2,.slice ao3 n3 cap3],.slice a4 n4 c4] w fun e w'=>∃(p7:Option Addr) (j7 e7:Nat) (p8:Option Addr) (j8 e8:Nat),e=.returned (.tuple #[.agg #[.slice p7 j7 e7,.slice p8 j8 e8],noV (cgN S Ls Hs Ts l)])∧DuQ (cgN S Ls Hs Ts l) w' 0 (.slice p7 j7 e7) (.slice p8 j8 e8) Ls Hs Ts l n3∧Below w.heap.size w w':=by
 obtain⟨N,hN⟩:∃N,N=cgN S Ls Hs Ts l:=⟨_,rfl⟩;have HN:Hid (cgN S Ls Hs Ts l=N):=hN.symm;rw[←hN];have HLW:Hid (∀W,Below w.heap.size w W→GS lnkE W (.slice ao n cap) Ls):=fun W hb=>hL.later hb
 have HHW:Hid (∀W,Below w.heap.size w W→GS hstE W (.slice ao2 n2 cap2) Hs):=fun W hb=>hH.later hb
 have HTW:Hid (∀W,Below w.heap.size w W→TS W (.slice ao3 n3 cap3) Ts):=fun W hb=>hT.later hb
 have HlW:Hid (∀W,Below w.heap.size w W→GS opE W (.slice a4 n4 c4) l):=fun W hb=>hl.later hb
 have HTN:Hid (Ts.length=n3):=hT.len;have hX:=db_new w S (.slice ao n cap) (.slice ao2 n2 cap2) (.slice ao3 n3 cap3);obtain⟨w0,hw0⟩:∃W,(w.alloc (Obj.cells #[.int .i64 S,.slice ao n cap,.slice ao2 n2 cap2,.slice ao3 n3 cap3] 28)).alloc (Obj.cells #[.slice none 0 0,.slice none 0 0] 80)=W:=⟨_,rfl⟩;rw[hw0] at hX;have HX:Hid (DB w w0 S (.slice ao n cap) (.slice ao2 n2 cap2) (.slice ao3 n3 cap3)):=hX;have HW0:Hid ((w.alloc (Obj.cells #[.int .i64 S,.slice ao n cap,.slice ao2 n2 cap2,.slice ao3 n3 cap3] 28)).alloc (Obj.cells #[.slice none 0 0,.slice none 0 0] 80)=w0):=hw0;clear hL hH hT hl hN hX hw0;go_enter Tryz.func23,Tryz.ntmps23;go_upto_region 1 with fail;rw[HW0.out];clear HW0;obtain⟨_,⟨b0,b1,b2,b3⟩,_,_,_⟩:=HX.out
 go_wp2_with fail
 refine (chApply_any S ao n cap ao2 n2 cap2 ao3 n3 cap3 a4 n4 c4 Ls Hs Ts l _ (HLW.out _ HX.out.below) (HHW.out _ HX.out.below) (HTW.out _ HX.out.below) (HlW.out _ HX.out.below)).mono ?_;rintro e w1 ⟨p1,k1,d1,p2,k2,d2,p3,k3,d3,rfl,g1,g2,g3,hb1⟩;rw[HN.out] at g1 g2 g3;rw[HN.out];have HX1:Hid (DB w w1 S (.slice ao n cap) (.slice ao2 n2 cap2) (.slice ao3 n3 cap3)):=HX.out.later hb1;obtain⟨Z,hZ⟩:∃Z,Z=nvS N S:=⟨_,rfl⟩;rw[←hZ];have hal:Below w1.heap.size w1 (w1.alloc (Obj.cells #[.int .i64 Z,.slice p1 k1 d1,.slice p2 k2 d2,.slice p3 k3 d3] 28)):=(Below.refl _ _).alloc (Nat.le_refl _) _;have hne:=nebox_new w1 Z (.slice p1 k1 d1) (.slice p2 k2 d2) (.slice p3 k3 d3) 28;have hX2:=HX1.out.later hal;have g1':=g1.later hal;have g2':=g2.later hal;have g3':=g3.later hal;obtain⟨w2,hw2⟩:∃W,w1.alloc (Obj.cells #[.int .i64 Z,.slice p1 k1 d1,.slice p2 k2 d2,.slice p3 k3 d3] 28)=W:=⟨_,rfl⟩;obtain⟨gn,hgn⟩:∃g,w1.heap.size=g:=⟨_,rfl⟩;rw[hw2] at hne hX2 g1' g2' g3';rw[hgn] at hne;have HW2:Hid (w1.alloc (Obj.cells #[.int .i64 Z,.slice p1 k1 d1,.slice p2 k2 d2,.slice p3 k3 d3] 28)=w2):=hw2;have HGN:Hid (w1.heap.size=gn):=hgn;have HX2:Hid (DB w w2 S (.slice ao n cap) (.slice ao2 n2 cap2) (.slice ao3 n3 cap3)):=hX2;have HNE:Hid (NeBox w2 gn Z (.slice p1 k1 d1) (.slice p2 k2 d2) (.slice p3 k3 d3)):=hne;have HG:Hid (GS lnkE w2 (.slice p1 k1 d1) (nvL N Ls)∧GS hstE w2 (.slice p2 k2 d2) (nvL N Hs)∧TS w2 (.slice p3 k3 d3) (nvL N (caT Ts l))):=⟨g1',g2',g3'⟩;have HZ:Hid (Z=nvS N S):=hZ;have HGL:Hid (w.heap.size+1<gn):=by
  show _<_;rw[←hgn];exact HX1.out.lt
 clear hb1 g1 g2 g3 g1' g2' g3' hal hne hX2 hw2 hgn hZ HX HX1 b0 b1 b2 b3;go_upto_region 2 with fail;rw[HW2.out,HGN.out];clear HW2 HGN;by_cases h0:N=0
 ·subst h0;rw[no_ok rfl];have HNT:Hid (ntN S Ls Hs Ts=0∧caN S Ts l=0):=by
   have h:=HN.out;unfold cgN at h;by_cases e:ntN S Ls Hs Ts=0
   ·rw[if_pos e] at h;by_cases e2:200<l.length
    ·rw[if_pos e2] at h;cases h
    rw[if_neg e2] at h;exact⟨e,h⟩
   rw[if_neg e] at h;exact absurd h e
  obtain rfl:Z=S:=HZ.out;have hg:=HG.out;simp only[nvL,if_true] at hg;have hk3:k3=n3:=by
   have h1:=hg.2.2.len;rw[ca_len,HTN.out] at h1;exact h1.symm
  subst hk3;have HLG:Hid (∀(q1:Option Addr) (j1 e1:Nat) (q2:Option Addr) (j2 e2:Nat) (q3:Option Addr) (j3 e3:Nat) (T':List (List Ru)) (W:World),Below w2.heap.size w2 W→NetQ w2 Z q1 j1 e1 q2 j2 e2 q3 j3 e3 Ls Hs T'→Calls Tryz.prog 47 #[.agg #[.int .i64 Z,.slice q1 j1 e1,.slice q2 j2 e2,.slice q3 j3 e3]] W fun e w'=>∃a' c',e=.returned (.slice a' j3 c')∧LGs w' W.heap.size (.slice a' j3 c') (lgF Ls Hs T') j3∧Below W.heap.size W w'):=fun q1 j1 e1 q2 j2 e2 q3 j3 e3 T' W hb hq=>(legs_any Z q1 j1 e1 q2 j2 e2 q3 j3 e3 Ls Hs T' W (hq.1 W hb).1 (hq.1 W hb).2.1 (hq.1 W hb).2.2 hq.2).mono (by
   rintro e w' ⟨v,rfl,hG,hb⟩;obtain⟨vs,hv,_⟩:=id hG;obtain⟨a',c',rfl⟩:=own_form hv;exact⟨a',c',rfl,hG,hb⟩)
  have HQA:Hid (NetQ w2 Z ao n cap ao2 n2 cap2 ao3 k3 cap3 Ls Hs Ts):=⟨fun W hb=>by
   have hx:=HX2.out.below.trans (hb.mono HX2.out.below.size);exact⟨HLW.out W hx,HHW.out W hx,HTW.out W hx⟩,HNT.out.1⟩
  have HQB:Hid (NetQ w2 Z p1 k1 d1 p2 k2 d2 p3 k3 d3 Ls Hs (caT Ts l)):=⟨fun W hb=>⟨hg.1.later hb,hg.2.1.later hb,hg.2.2.later hb⟩,nt_ca HNT.out.1 HNT.out.2⟩;have HSW:Hid (∀W,Below w2.heap.size w2 W→W.cell? ⟨w.heap.size,0,none⟩=some (.int .i64 Z)∧W.cell? ⟨w.heap.size,1,none⟩=some (.slice ao n cap)∧W.cell? ⟨w.heap.size,2,none⟩=some (.slice ao2 n2 cap2)∧W.cell? ⟨w.heap.size,3,none⟩=some (.slice ao3 k3 cap3)∧W.cell? ⟨gn,0,none⟩=some (.int .i64 Z)∧W.cell? ⟨gn,1,none⟩=some (.slice p1 k1 d1)∧W.cell? ⟨gn,2,none⟩=some (.slice p2 k2 d2)∧W.cell? ⟨gn,3,none⟩=some (.slice p3 k3 d3)):=fun W hb=>by
   obtain⟨a0,a1,a2,a3⟩:=HX2.out.n.later hb;obtain⟨c0,c1,c2,c3⟩:=HNE.out.later hb;exact⟨a0,a1,a2,a3,c0,c1,c2,c3⟩
  have HSV:Hid (∀W,Below w2.heap.size w2 W→∀a b,(((W.setCell ⟨w.heap.size+1,0,none⟩ a).setCell ⟨w.heap.size+1,1,none⟩ b).cell? ⟨w.heap.size,0,none⟩=some (.int .i64 Z)∧((W.setCell ⟨w.heap.size+1,0,none⟩ a).setCell ⟨w.heap.size+1,1,none⟩ b).cell? ⟨w.heap.size,1,none⟩=some (.slice ao n cap)∧((W.setCell ⟨w.heap.size+1,0,none⟩ a).setCell ⟨w.heap.size+1,1,none⟩ b).cell? ⟨w.heap.size,2,none⟩=some (.slice ao2 n2 cap2)∧((W.setCell ⟨w.heap.size+1,0,none⟩ a).setCell ⟨w.heap.size+1,1,none⟩ b).cell? ⟨w.heap.size,3,none⟩=some (.slice ao3 k3 cap3)∧((W.setCell ⟨w.heap.size+1,0,none⟩ a).setCell ⟨w.heap.size+1,1,none⟩ b).cell? ⟨gn,0,none⟩=some (.int .i64 Z)∧((W.setCell ⟨w.heap.size+1,0,none⟩ a).setCell ⟨w.heap.size+1,1,none⟩ b).cell? ⟨gn,1,none⟩=some (.slice p1 k1 d1)∧((W.setCell ⟨w.heap.size+1,0,none⟩ a).setCell ⟨w.heap.size+1,1,none⟩ b).cell? ⟨gn,2,none⟩=some (.slice p2 k2 d2)∧((W.setCell ⟨w.heap.size+1,0,none⟩ a).setCell ⟨w.heap.size+1,1,none⟩ b).cell? ⟨gn,3,none⟩=some (.slice p3 k3 d3))):=fun W hb a b=>by
   have hl:=HX2.out.lt;have hgl:gn≠w.heap.size+1:=by
    have h1:=HX2.out.lt;have h2:=HGL.out;omega
   have o:∀(g j:Nat),g≠w.heap.size+1→((W.setCell ⟨w.heap.size+1,0,none⟩ a).setCell ⟨w.heap.size+1,1,none⟩ b).cell? ⟨g,j,none⟩=W.cell? ⟨g,j,none⟩:=fun g j hne=>by
    rw[World.cell?_setCell_other _ _ _ _ (by intro e;injection e with e1;exact hne e1.symm),World.cell?_setCell_other _ _ _ _ (by intro e;injection e with e1;exact hne e1.symm)]
   obtain⟨a0,a1,a2,a3,c0,c1,c2,c3⟩:=HSW.out W hb;exact⟨by rw[o _ _ (by omega)];exact a0,by rw[o _ _ (by omega)];exact a1,by rw[o _ _ (by omega)];exact a2,by rw[o _ _ (by omega)];exact a3,by rw[o _ _ hgl];exact c0,by rw[o _ _ hgl];exact c1,by rw[o _ _ hgl];exact c2,by rw[o _ _ hgl];exact c3⟩
  obtain⟨s0,s1,s2,s3,s4,s5,s6,s7⟩:=HSW.out w2 (Below.refl _ _);have hlw:w.heap.size<w2.heap.size:=World.block_lt_of_cell? _ _ s0;have hlg:gn<w2.heap.size:=World.block_lt_of_cell? _ _ s4;have hlr:w.heap.size+1<w2.heap.size:=HX2.out.lt;have HR:Hid (∀W,Below w2.heap.size w2 W→(W.cell? ⟨w.heap.size+1,0,none⟩=some (.slice none 0 0)∧W.cell? ⟨w.heap.size+1,1,none⟩=some (.slice none 0 0))∧W.frozen? ⟨w.heap.size+1,0,none⟩=false∧W.frozen? ⟨w.heap.size+1,1,none⟩=false):=fun W hb=>⟨⟨cell_later hb HX2.out.r0,cell_later hb HX2.out.r1⟩,(HX2.out.later hb).f 0,(HX2.out.later hb).f 1⟩
  have HBW:Hid (Below w.heap.size w w2):=HX2.out.below;clear hg;go_upto_region 4 with fail
  go_region_held3 (fun W=>W.cell? ⟨w.heap.size,0,none⟩=some (.int .i64 Z)∧W.cell? ⟨w.heap.size,1,none⟩=some (.slice ao n cap)∧W.cell? ⟨w.heap.size,2,none⟩=some (.slice ao2 n2 cap2)∧W.cell? ⟨w.heap.size,3,none⟩=some (.slice ao3 k3 cap3)∧W.cell? ⟨gn,0,none⟩=some (.int .i64 Z)∧W.cell? ⟨gn,1,none⟩=some (.slice p1 k1 d1)∧W.cell? ⟨gn,2,none⟩=some (.slice p2 k2 d2)∧W.cell? ⟨gn,3,none⟩=some (.slice p3 k3 d3))
   (first | (with_reducible assumption) | (with_reducible exact HSW.out _ (Below.drew (Below.refl _ _))) | (with_reducible exact HSW.out _ HBA.out) | (with_reducible exact HSW.out _ HBB.out) | (with_reducible exact HSV.out _ HBA.out _ _) | (with_reducible exact HSV.out _ HBB.out _ _))
   (first
    | (go_at_call 47;refine (HLG.out _ _ _ _ _ _ _ _ _ (Ts) _ ?_ ?_).mono ?_;(focus (first | (with_reducible exact Below.drew (Below.refl _ _)) | (with_reducible exact HBB.out)));(focus (with_reducible exact HQA.out));rintro e5 w5A ⟨aA,cA,rfl,hG,hb⟩;have HBA:Hid (Below w2.heap.size w2 w5A):=(by first | exact bdrew hb | exact HBB.out.trans (hb.mono HBB.out.size));have HGA:Hid (LGs w5A w2.heap.size (.slice aA k3 cA) (lgF Ls Hs (Ts)) k3):=(hG.mono (by first | exact Nat.le_refl _ | exact HBB.out.size));(try (have HGB2:Hid (LGs w5A w2.heap.size (.slice aB k3 cB) _ k3):=HGB.out.later hb));have hr:=HR.out _ HBA.out;obtain⟨⟨r0,r1⟩,f0,f1⟩:=hr;clear hG hb)
    | (go_at_call 47;refine (HLG.out _ _ _ _ _ _ _ _ _ (caT Ts l) _ ?_ ?_).mono ?_;(focus (first | (with_reducible exact Below.drew (Below.refl _ _)) | (with_reducible exact HBA.out)));(focus (with_reducible exact HQB.out));rintro e5 w5B ⟨aB,cB,rfl,hG,hb⟩;have HBB:Hid (Below w2.heap.size w2 w5B):=(by first | exact bdrew hb | exact HBA.out.trans (hb.mono HBA.out.size));have HGB:Hid (LGs w5B w2.heap.size (.slice aB k3 cB) (lgF Ls Hs (caT Ts l)) k3):=(hG.mono (by first | exact Nat.le_refl _ | exact HBA.out.size));(try (have HGA2:Hid (LGs w5B w2.heap.size (.slice aA k3 cA) _ k3):=HGA.out.later hb));have hr:=HR.out _ HBB.out;obtain⟨⟨r0,r1⟩,f0,f1⟩:=hr;clear hG hb))
  all_goals go_wp2
  all_goals refine bodyPost_ret (v:=.tuple #[.agg #[.slice aA k3 cA,.slice aB k3 cB],.nilIface]) (by simp[results,Tryz.results23,go_sem, *]) rfl ⟨_,_,_,_,_,_,by rw[no_ok rfl],?_⟩
  all_goals first
   | exact⟨fun _=>⟨HGA2.out.put _ hlr _ _ (Nat.zero_le _),HGB.out.put _ hlr _ _ (Nat.zero_le _)⟩,below_2 (HBW.out.trans (HBB.out.mono HBW.out.size)) _ (by omega) _ _⟩
   | exact⟨fun _=>⟨HGA.out.put _ hlr _ _ (Nat.zero_le _),HGB2.out.put _ hlr _ _ (Nat.zero_le _)⟩,below_2 (HBW.out.trans (HBA.out.mono HBW.out.size)) _ (by omega) _ _⟩
 rw[no_ne h0];have HNZ:Hid (N≠0):=h0;obtain⟨hB2,_,r0,r1,rf⟩:=HX2.out;have HB2:Hid (Below w.heap.size w w2):=hB2;have f0:=rf 0;have f1:=rf 1;clear hB2 rf h0;go_wp2;refine bodyPost_ret (v:=.tuple #[.agg #[.slice none 0 0,.slice none 0 0],.iface 85 (.int .i64 N)]) (by simp[results,Tryz.results23,go_sem, *]) rfl ⟨_,_,_,_,_,_,by rw[no_ne HNZ.out],fun e=>absurd e HNZ.out,below_2 HB2.out _ (by omega) _ _⟩
def ItG {α:Type}(P:Program)(g:Nat)(lb:Array Value)(Vl:World→Array Value→α→Prop)(n₁ n₀:Nat)(L:List α)(w:World):Prop:=
 ∀ (l:Nat) (J:Nat→(Nat→Prop)→World→Prop) (Jx:World→Prop) (W:World),Below n₁ w W→n₁≤W.heap.size →
   J 0 (fun _=>False) W →
   (∀k X A,J k X A→∀b,X b→b<A.heap.size) →
   (∀k X A A',J k X A→Kb (fun b=>b<W.heap.size∨X b) A A'→J k X A') →
   (∀A A',Jx A→Kb (fun _=>True) A A'→Jx A') →
   (∀k X A args x (Y:Nat→Prop),J k X A→L[k]?=some x→Vl A args x→W.heap.size≤A.heap.size→(∀b,Y b→W.heap.size≤b∧¬X b)→YieldAt Fence.wide 0 P l args A fun e A' =>
    (e=.returned (.bool true)∧(∃X',J (k+1) X' A'∧∀b,X' b→X b∨A.heap.size≤b)∧Kb (fun b=>b<n₀∨Y b) A A')∨(e=.returned (.bool false)∧Jx A'∧Kb (fun b=>b<n₀∨Y b) A A')) →
   Calls P g (#[.func (.yield l) #[] #[]]++lb) W fun e W'=>(∃v,e=.returned v)∧((∃X,J L.length X W')∨Jx W')
theorem wpIn_rangeFunc_itG {P:Program}{n:Nat}{α:Type}{g:Operand}{ps:Array Tmp}{assign body:Code}{Q:Exit→Act→World→Prop}{a:Act}{w:World}
 (h1:1≤n) {gf:Nat} {lb:Array Value} (hg:a.eval g=.func (.func gf) #[] lb) (eg:∀args w,(callFunc gf args).run P w=.ok (.enter gf args) w)
 {Vl:World→Array Value→α→Prop} {n₁ n₀:Nat} {L:List α} {w0:World} (hseq:ItG P gf lb Vl n₁ n₀ L w0) (hb0:Below n₁ w0 w) (hn₁:n₁≤w.heap.size) (hn₀:n₀≤w.heap.size) (hps:∀A args x,Vl A args x→args.size=ps.size)
 (I:Nat→(Nat→Prop)→World→Prop) (Ix:Code→World→Prop)
 (hlt:∀k X A,I k X A→∀b,X b→w.heap.size+2≤b∧b<A.heap.size)
 (hI:∀k X A A',I k X A→Kb (fun b=>b<w.heap.size∨X b) A A'→I k X A')
 (hIx:∀c A A',Ix c A→Kb (fun b=>b<w.heap.size∨w.heap.size+2≤b) A A'→Ix c A')
 (h0:I 0 (fun _=>False) w)
 (hround:∀(l k:Nat) (X Y:Nat→Prop) (x:α) (args:Array Value) (W:World),l=w.heap.size+1→w.heap.size+2≤W.heap.size→I k X W→L[k]?=some x→Vl W args x→(∀b,Y b→w.heap.size+2≤b∧¬X b)→(∀q:Addr,q.block=l→W.cell? q=none) →
  assign.wpIn (Fence.wide.inRound l) (n-1-1) P (Exit.then (fun a' Wa=>Kb (fun b=>b<n₀∨b=w.heap.size∨b=l∨Y b) W Wa∧∀W2,Kb (fun b=>b≠l) Wa W2→body.wpIn (Fence.wide.inRound l) (n-1-1) P (itPost (fun b=>b<n₀∨b=w.heap.size∨b=l∨Y b) (fun W'=>∃X',I (k+1) X' W'∧∀b,X' b→X b∨W.heap.size≤b) Ix W2) a' W2) (fun _ _ _=>False)) { tmps:=(ps.zip args).foldl (fun t (p,v)=>t.setIfInBounds p v) a.tmps,defers:=[] } W)
 (hdone:∀(X:Nat→Prop) (W:World),I L.length X W→W.heap[w.heap.size]?=some (.deferred (some []))→Q .normal { a with defers:={ target:=.collected w.heap.size,args:=#[] } :: a.defers } W)
 (hstop:∀(c:Code) (W:World),Ix c W→W.heap[w.heap.size]?=some (.deferred (some []))→c.wpIn Fence.wide n P Q { a with defers:={ target:=.collected w.heap.size,args:=#[] } :: a.defers } W):
 (Code.rangeFunc g ps assign body).wpIn Fence.wide n P Q a w:=by
 refine wpIn_rangeFunc ?_;intro fn hfn;rw[show Fence.wide.round=none from rfl];obtain⟨rec,hrec⟩:∃rec:LoopState→Option Code→Loop,rec=fun st pe=>{ state:=st,pending:=pe,fn,tmps:=a.tmps,params:=ps,assign,body,defers:=w.heap.size }:=⟨_,rfl⟩
 obtain⟨W1,hW1⟩:∃W1,(w.alloc (.deferred (some []))).alloc (.loop (rec .ready none))=W1:=⟨_,rfl⟩;have hL1:W1.heap[w.heap.size+1]?=some (.loop (rec .ready none)):=by
  rw[←hW1];have:=World.alloc_heap_new (w.alloc (.deferred (some []))) (.loop (rec .ready none));rwa [World.size_alloc] at this
 have hK1:W1.heap[w.heap.size]?=some (.deferred (some [])):=by
  rw[←hW1];exact (Below.heap_alloc _ _ _ (by simp)).trans (World.alloc_heap_new w _)
 have hS1:W1.heap.size=w.heap.size+2:=by rw[←hW1];simp
 have hB1:Below w.heap.size w W1:=by
  rw[←hW1];exact ((Below.refl _ w).alloc (Nat.le_refl _) _).alloc (by simp) _
 have hb1:Below n₁ w0 W1:=hb0.trans (hB1.mono hn₁);refine⟨w.heap.size+1,[{ target:=.collected w.heap.size,args:=#[] }],W1,{ target:=.fn (.func gf) lb,args:=#[.func (.yield (w.heap.size+1)) #[] #[]] },W1,gf,
  #[.func (.yield (w.heap.size+1)) #[] #[]]++lb,W1,?_,?_,?_,?_,fun _=>h1,?_⟩
 ·rw[←hW1,hrec];exact run_enterLoop_outer _ _ _ _ _
 ·simp only[resolve,hg];simp[go_sem]
 ·intro f' hf';trivial
 ·simp[invoke,go_sem,eg]
 have hI1:∀{k:Nat} {X:Nat→Prop} {A:World} (o:Obj),I k X A→I k X (A.putObj (w.heap.size+1) o):=fun o h=>hI _ _ _ _ h ((Kb.refl _ _).putObj (fun _ hp=>hp.elim (fun h=>by omega) (fun hx=>by have:=(hlt _ _ _ h _ hx).1;omega)) o)
 refine (callsIn_wide.2 (hseq (w.heap.size+1)
  (fun k X W=>I k X W∧W.heap[w.heap.size+1]?=some (.loop (rec .ready none))∧W.heap[w.heap.size]?=some (.deferred (some [])))
  (fun W=>∃c,Ix c W∧W.heap[w.heap.size+1]?=some (.loop (rec .done (some c)))∧W.heap[w.heap.size]?=some (.deferred (some [])))
  W1 hb1 (by omega) ?_ ?_ ?_ ?_ ?_)).mono ?_
 ·exact⟨hI _ _ _ _ h0 (Kb.of_below hB1 (fun b _ h=>h.elim id False.elim)),hL1,hK1⟩
 ·exact fun k X A h b hx=>(hlt _ _ _ h.1 b hx).2
 ·rintro k X A A' ⟨hi,hl,hd⟩ hk;rw[hS1] at hk;have hlt':w.heap.size+1<A.heap.size:=(Array.getElem?_eq_some_iff.1 hl).1;exact⟨hI k X A A' hi (hk.mono (fun b _ h=>h.imp (fun h=>by omega) id)),(hk.block _ hlt' (.inl (by omega))).trans hl,(hk.block _ (by omega) (.inl (by omega))).trans hd⟩
 ·rintro A A' ⟨c,hi,hl,hd⟩ hk;have hlt':w.heap.size+1<A.heap.size:=(Array.getElem?_eq_some_iff.1 hl).1;exact⟨c,hIx c A A' hi (hk.mono (fun _ _ _=>trivial)),(hk.block _ hlt' trivial).trans hl,(hk.block _ (by omega) trivial).trans hd⟩
 ·rintro k X W args x Y ⟨hi,hl,hd⟩ hx hv hWW hY;rw[hS1] at hY hWW;have hlt':w.heap.size+1<W.heap.size:=(Array.getElem?_eq_some_iff.1 hl).1;have hy:=run_yield (P:=P) (args:=args) hl (by rw[hrec];exact hps _ _ _ hv);rw[hrec] at hy;refine yield_any (m:=n-1-1) ⟨fn,_,assign,body,hy,roundIn_of_wpIn hfn (wpIn_mono (hround _ k X Y x args W rfl hWW hi hx hv hY (fun q hq=>by simp[World.cell?,hq,hl])) ?_)⟩;clear hy;intro e1 a' Wa hp;cases e1 with
  | normal =>
    obtain⟨hka,hbody⟩:=hp;have hl2:=(hka.block _ hlt' (.inr (.inr (.inl rfl)))).trans hl;have hd2:=(hka.block w.heap.size (by omega) (.inr (.inl rfl))).trans hd;have hlta:w.heap.size+1<Wa.heap.size:=(Array.getElem?_eq_some_iff.1 hl2).1;refine⟨_,run_beginRound hl2 (by rw[hrec]),?_⟩;have hkb:Kb (fun b=>b≠w.heap.size+1) Wa (Wa.putObj (w.heap.size+1) (.loop { rec .ready none with state:=.busy })):=(Kb.refl _ _).putObj (fun _ h=>h rfl) _;have hl3:(Wa.putObj (w.heap.size+1) (.loop { rec .ready none with state:=.busy })).heap[w.heap.size+1]?=some (.loop { rec .ready none with state:=.busy }):=World.putObj_heap_same hlta;have hd3:=(hkb.block w.heap.size (by omega) (by omega)).trans hd2;refine wpIn_mono (hbody _ hkb) ?_
    generalize Wa.putObj (w.heap.size+1) (.loop { rec .ready none with state:=.busy })=W2 at hkb hl3 hd3
    have hlt2:w.heap.size+1<W2.heap.size:=(Array.getElem?_eq_some_iff.1 hl3).1;have fin:∀(jump:Option Code) (W3:World),Kb (fun b=>b<n₀∨b=w.heap.size∨b=w.heap.size+1∨Y b) W2 W3 →
     (Instr.endRound (w.heap.size+1) jump).run P W3=.ok (.bool jump.isNone) (W3.putObj (w.heap.size+1) (.loop (rec (if jump.isNone then .ready else .done) jump))) ∧
     W3.heap[w.heap.size+1]?=some (.loop { rec .ready none with state:=.busy }) ∧
     (W3.putObj (w.heap.size+1) (.loop (rec (if jump.isNone then .ready else .done) jump))).heap[w.heap.size+1]?=some (.loop (rec (if jump.isNone then .ready else .done) jump)) ∧
     (W3.putObj (w.heap.size+1) (.loop (rec (if jump.isNone then .ready else .done) jump))).heap[w.heap.size]?=some (.deferred (some [])):=fun jump W3 hk3=>by
     have hl4:=(hk3.block _ hlt2 (.inr (.inr (.inl rfl)))).trans hl3;have hd4:=(hk3.block w.heap.size (by omega) (.inr (.inl rfl))).trans hd3;have:=run_endRound (P:=P) jump hl4;rw[hrec] at this ⊢;exact⟨this,by rw[hrec] at hl4;exact hl4,World.putObj_heap_same (Array.getElem?_eq_some_iff.1 hl4).1,(World.putObj_heap_other (by omega)).trans hd4⟩
    rintro e a3 W3 hp;have hny:∀b,b<n₀∨Y b→b≠w.heap.size+1:=fun b h e=>h.elim (fun h=>by omega) (fun h=>by have:=(hY b h).1;omega)
    have hall:∀(W3:World) (o:Obj),Kb (fun b=>b<n₀∨b=w.heap.size∨b=w.heap.size+1∨Y b) W2 W3→Kb (fun b=>b<n₀∨Y b) W (W3.putObj (w.heap.size+1) o):=fun W3 o hk3=>(((hka.mono (fun b _ h=>h.imp id (fun h=>.inr (.inr h)))).trans ((hkb.mono (fun b _ h=>hny b h)).trans (hk3.mono (fun b _ h=>h.imp id (fun h=>.inr (.inr h)))))).trans ((Kb.refl _ _).putObj (fun _ h=>hny _ h rfl) _))
    cases e with
    | normal =>
      obtain⟨hk3,X',hi3,hX'⟩:=hp;obtain⟨hr,hl4,hl5,hd5⟩:=fin none W3 hk3;exact⟨_,_,hr,.inl ⟨rfl,⟨X',⟨hI1 _ hi3,hl5,hd5⟩,hX'⟩,hall _ _ hk3⟩⟩
    | ret =>
      obtain⟨hk3,hi3⟩:=hp;obtain⟨hr,hl4,hl5,hd5⟩:=fin (some .ret) W3 hk3;exact⟨_,_,hr,.inr ⟨rfl,⟨.ret,hIx _ W3 _ hi3 ((Kb.refl _ _).putObj (fun _ h=>by omega) _),hl5,hd5⟩,hall _ _ hk3⟩⟩
    | exit id =>
      obtain⟨hk3,hi3⟩:=hp;obtain⟨hr,hl4,hl5,hd5⟩:=fin (some (.exit id)) W3 hk3;exact⟨_,_,hr,.inr ⟨rfl,⟨.exit id,hIx _ W3 _ hi3 ((Kb.refl _ _).putObj (fun _ h=>by omega) _),hl5,hd5⟩,hall _ _ hk3⟩⟩
    | goto t =>
      obtain⟨hk3,hi3⟩:=hp;obtain⟨hr,hl4,hl5,hd5⟩:=fin (some (.goto t)) W3 hk3;exact⟨_,_,hr,.inr ⟨rfl,⟨.goto t,hIx _ W3 _ hi3 ((Kb.refl _ _).putObj (fun _ h=>by omega) _),hl5,hd5⟩,hall _ _ hk3⟩⟩
    | panic ch=>exact hp.elim
    | outgrown=>exact hp.elim
  | ret=>exact hp.elim
  | exit id=>exact hp.elim
  | goto t=>exact hp.elim
  | panic ch=>exact hp.elim
  | outgrown=>exact hp.elim
 rintro e W2 ⟨⟨v,rfl⟩,(⟨X,hi,hl,hd⟩ | ⟨c,hi,hl,hd⟩)⟩
 ·refine⟨none,_,by have:=run_endLoop (P:=P) hl (by rw[hrec];simp);rw[hrec] at this;exact this,?_⟩;exact hdone X _ (hI1 _ hi) ((World.putObj_heap_other (by omega)).trans hd)
 refine⟨some c,_,by have:=run_endLoop (P:=P) hl (by rw[hrec];simp);rw[hrec] at this;exact this,?_⟩;exact hstop c _ (hIx c W2 _ hi ((Kb.refl _ _).putObj (fun _ h=>by omega) _)) ((World.putObj_heap_other (by omega)).trans hd)
theorem fates2_it (vo vy:Value)(m:Nat)(Ls:List ((Int×Int)×(Int×Int)))(Hs:List (ByteArray×(Int×Int)))(As Bs:List (List Ru))(bx bi:Nat)(c d e:Int)(wq w:World)(hq:Below wq.heap.size wq w)
 (hx0:w.cell? ⟨bx,0,none⟩=some vo) (hx1:w.cell? ⟨bx,1,none⟩=some vy) (hi0:w.cell? ⟨bi,0,none⟩=some (.int .i64 c)) (hi1:w.cell? ⟨bi,1,none⟩=some (.int .i64 d)) (hi2:w.cell? ⟨bi,2,none⟩=some (.int .i64 e))
 (hm:m≤6) (ht:tpN (m:Int) Ls Hs=0) (ho:LGs wq 0 vo (fun (a h:Nat)=>lgT Ls Hs (taT As ((a:Int)+1)) (((a:Int)+1,0),(h:Int))) m) (hy:LGs wq 0 vy (fun (a h:Nat)=>lgT Ls Hs (taT Bs ((a:Int)+1)) (((a:Int)+1,0),(h:Int))) m) (hsp:spB (m:Int) (c,d)=true) (hhd:hdrB e=true):
 ItG Tryz.prog 51 #[.pointer (some ⟨bx,0,none⟩),.pointer (some ⟨bi,0,none⟩)] FtV w.heap.size wq.heap.size (pwS Ls Hs As Bs (c,d) e) w:=by
 intro l J Jx W hW hn h0 hlt hab hax hY;have hWq:Below wq.heap.size wq W:=hq.trans (hW.mono hq.size);have cx:MCx l W.heap.size wq.heap.size J Jx (pwS Ls Hs As Bs (c,d) e) wq vo vy m Ls Hs As Bs:=⟨Nat.le_trans hq.size hn,hm,ht,fun A hA=>ho.later hA,fun A hA=>hy.later hA,hlt,hab,hax,hY⟩;have HSW:Hid (∀V,Below w.heap.size w V→V.cell? ⟨bx,0,none⟩=some vo∧V.cell? ⟨bx,1,none⟩=some vy∧V.cell? ⟨bi,0,none⟩=some (.int .i64 c)∧V.cell? ⟨bi,1,none⟩=some (.int .i64 d)∧V.cell? ⟨bi,2,none⟩=some (.int .i64 e)):=fun V hV=>⟨cell_later hV hx0,cell_later hV hx1,cell_later hV hi0,cell_later hV hi1,cell_later hV hi2⟩
 have HSK:Hid (∀V,Kb (fun _=>True) W V→V.cell? ⟨bx,0,none⟩=some vo∧V.cell? ⟨bx,1,none⟩=some vy∧V.cell? ⟨bi,0,none⟩=some (.int .i64 c)∧V.cell? ⟨bi,1,none⟩=some (.int .i64 d)∧V.cell? ⟨bi,2,none⟩=some (.int .i64 e)):=fun V hk=>HSW.out V (hW.trans (hk.below hn (fun _ _=>trivial)))
 have HMX:Hid (24≤maxLen):=by show _≤_;unfold maxLen;omega
 have HWK:Hid (∀(V:World) (bk:Nat),Kb (fun _=>True) W V→W.heap.size≤bk→HK V bk [((c,d),e)]→Calls Tryz.prog 52 #[.agg #[vo,vy],.slice (some ⟨bk,0,none⟩) 1 24,.agg #[.bool false,.bool false,.bool false,.bool false,.bool false,.bool false],.func (.yield l) #[] #[]] V fun e' A'=>∃r,e'=.returned (.bool r)∧((∃X,J (pwS Ls Hs As Bs (c,d) e).length X A')∨Jx A')):=fun V bk hk hb hh=>by
  have hI:WkI W.heap.size wq.heap.size J wq (fun _=>False) (fun b=>W.heap.size≤b∧b<V.heap.size) 0 bk [((c,d),e)] V:=⟨hWq.trans (hk.below (Nat.le_trans hq.size hn) (fun _ _=>trivial)),hk.size,hab _ _ _ _ h0 (hk.mono (fun _ _ _=>trivial)),fun b hb=>⟨hb.1,hb.2,fun h=>h⟩,⟨hb,hh.lt⟩,hh⟩;have h:=walk_all cx 24 (by omega) V 0 _ _ bk [((c,d),e)] (fun _=>false) rfl (by omega) (by simp) hI hsp hhd (fun i x hx=>by rw[Nat.zero_add];exact hx);refine h.mono ?_;rintro e' A' ⟨r,rfl,hR,hK⟩;refine⟨r,rfl,?_⟩;cases r with
  | false=>exact .inr hR
  | true =>
    obtain⟨⟨X',j1,_⟩,_⟩:=hR;rw[Nat.zero_add] at j1;exact .inl ⟨X',j1⟩
 obtain⟨s0,s1,s2,s3,s4⟩:=HSW.out W hW;have hlx:bx<W.heap.size:=World.block_lt_of_cell? _ _ s0;have hli:bi<W.heap.size:=World.block_lt_of_cell? _ _ s2;obtain⟨j0,hj,hy0,hy1,hy2⟩:=info_parts hop_info;obtain⟨MC,hMC,hmk⟩:∃MC:Array Value,MC.size=24*3∧∀V:World,(Instr.makeSlice 75 (.int .i64 0) (.int .i64 24)).run Tryz.prog V=.ok (.slice (some ⟨V.heap.size,0,none⟩) 0 24) (V.alloc (.cells MC 74)):=by
  refine⟨madeCells (Value.agg #[.int .i64 0,.int .i64 0,.int .i64 0]).cells (24*3),size_madeCells _ _,fun V=>?_⟩;have h:=run_make (P:=Tryz.prog) V 75 74 j0 (.agg #[.int .i64 0,.int .i64 0,.int .i64 0]) Tryz.underlying75 hj hy0 .i64 .i64 0 24 (by decide) (by decide) (by rw[hy2];decide) (by decide);rw[hy1] at h;exact h
 have hal:∀(V:World) (o:Obj),Kb (fun _=>True) V (V.alloc o):=fun V o=>(Kb.refl _ _).alloc o
 have HOM1:Hid (∀o:Obj,((W.alloc (.cells MC 74)).alloc o).ownsRow 0 74 hopE.n (.slice (some ⟨W.heap.size,0,none⟩) 0 24) 0 (cellsG hopE [])):=fun o=>own_kb (World.ownsRow_made W MC 24 (Nat.zero_le _) HMX.out hMC) (hal _ o) (fun _ _=>trivial)
 have HOM2:Hid (∀o:Obj,((W.alloc o).alloc (.cells MC 74)).ownsRow 0 74 hopE.n (.slice (some ⟨W.heap.size+1,0,none⟩) 0 24) 0 (cellsG hopE [])):=fun o=>by
  have h:=World.ownsRow_made (base:=0) (e:=74) (size:=3) (W.alloc o) MC 24 (Nat.zero_le _) HMX.out hMC;rw[World.size_alloc] at h;exact h
 have HVM1:Hid (VAt ((W.alloc (.cells MC 74)).alloc (.cells #[.int .i64 c,.int .i64 d,.int .i64 e] 74)) (W.heap.size+1) 0 (hopE.c ((c,d),e))):=by
  have h:=hop_new (W.alloc (.cells MC 74)) c d e 74;rw[World.size_alloc] at h;exact h
 have HVM2:Hid (VAt ((W.alloc (.cells #[.int .i64 c,.int .i64 d,.int .i64 e] 74)).alloc (.cells MC 74)) W.heap.size 0 (hopE.c ((c,d),e))):=(hop_new W c d e 74).later ((Below.refl _ _).alloc (Nat.le_refl _) _);clear hMC hal;show Calls Tryz.prog 51 #[.func (.yield l) #[] #[],.pointer (some ⟨bx,0,none⟩),.pointer (some ⟨bi,0,none⟩)] W _;have nx0:bx≠W.heap.size:=by omega
 have nx1:bx≠W.heap.size+1:=by omega
 have ni0:bi≠W.heap.size:=by omega
 have ni1:bi≠W.heap.size+1:=by omega
 clear hWq hq;clear cx hx0 hx1 hi0 hi1 hi2 ho hy hW hn h0 hlt hab hax hY hsp hhd ht hm;go_enter Tryz.func51,Tryz.ntmps51;go_upto_region 0 with fail
 go_region_law
  (first
   | (refine step_append_fits (E:=hopE) _ (by rfl) _ _ 75 74 (by rfl) Tryz.underlying75 j0 hj hy1 0 (W.heap.size) 24 [] (by rfl) ?_ (W.heap.size+1) 0 1 (by rfl) ((c,d),e) ?_ (by decide) ?_;(focus (exact HOM1.out _));(focus (exact HVM1.out));intro w5 ho5 hg5;have HK5:Hid (Kb (fun _=>True) W w5):=(Kb.grown (by first | exact (((Kb.refl _ _).alloc _).alloc _).drew | exact (((Kb.refl _ _).drew.alloc _).alloc _) | exact ((Kb.refl _ _).alloc _).drew.alloc _) hg5 (fun r er hr _=>by cases er;omega));have HBK5:Hid (W.heap.size≤W.heap.size):=(by show _≤_;omega);have HH5:Hid (HK w5 (W.heap.size) [((c,d),e)]):=(hk_one ho5);obtain⟨t0,t1,t2,t3,t4⟩:=HSK.out _ HK5.out;clear ho5 hg5)
   | (refine step_append_fits (E:=hopE) _ (by rfl) _ _ 75 74 (by rfl) Tryz.underlying75 j0 hj hy1 0 (W.heap.size+1) 24 [] (by rfl) ?_ (W.heap.size) 0 1 (by rfl) ((c,d),e) ?_ (by decide) ?_;(focus (exact HOM2.out _));(focus (exact HVM2.out));intro w5 ho5 hg5;have HK5:Hid (Kb (fun _=>True) W w5):=(Kb.grown (by first | exact (((Kb.refl _ _).alloc _).alloc _).drew | exact (((Kb.refl _ _).drew.alloc _).alloc _) | exact ((Kb.refl _ _).alloc _).drew.alloc _) hg5 (fun r er hr _=>by cases er;omega));have HBK5:Hid (W.heap.size≤W.heap.size+1):=(by show _≤_;omega);have HH5:Hid (HK w5 (W.heap.size+1) [((c,d),e)]):=(hk_one ho5);obtain⟨t0,t1,t2,t3,t4⟩:=HSK.out _ HK5.out;clear ho5 hg5)
   | (go_simp;go_at_call 52;refine (HWK.out _ _ HK5.out HBK5.out HH5.out).mono ?_;rintro e6 w6 ⟨r,rfl,hP⟩;have HP:Hid ((∃X,J (pwS Ls Hs As Bs (c,d) e).length X w6)∨Jx w6):=hP;clear hP))
 all_goals go_wp2
 all_goals go_end0
 all_goals exact⟨⟨_,rfl⟩,HP.out⟩
section
variable {Ls:List ((Int×Int)×(Int×Int))}{Hs:List (ByteArray×(Int×Int))}{As Bs:List (List Ru)}
theorem pw_small {S:Int}(ht:tpN S Ls Hs=0):∀(n:Nat) (l:List ((Int×Int)×Int)) (met:Nat→Bool) (x:Int×ByteArray×List ((Int×Int)×Int)),x∈pwL Ls Hs As Bs n l met→x.2.1.size≤1000000∧x.2.2.length<l.length+n
 | 0,l,met,x,h=>by simp[pwL] at h
 | n+1,l,met,x,h=>by
   have tk:∀Ts met2,x∈tkL (pwL Ls Hs As Bs n) (lgA Ls Hs Ts l) l met2→x.2.1.size≤1000000∧x.2.2.length<l.length+(n+1):=by
    intro Ts met2 hx;unfold tkL at hx
    split at hx
    ·have:=pw_small ht n _ _ x hx;rw[List.length_append,List.length_singleton] at this;exact⟨this.1,by omega⟩
    have e:x=((lgA Ls Hs Ts l).1,(lgA Ls Hs Ts l).2.1,l):=by simpa using hx
    rw[e];exact⟨la_name ht Ts l,by show l.length<_;omega⟩
   rw[pwL] at h
   split at h
   ·exact tk _ _ h
   rcases List.mem_append.1 h with h | h
   ·exact tk _ _ h
   split at h
   ·simp at h
   exact tk _ _ h
theorem ps_small {S:Int}(ht:tpN S Ls Hs=0){s:Int×Int}{h:Int}{x:Int×ByteArray×List ((Int×Int)×Int)}(hx:x∈pwS Ls Hs As Bs s h):x.2.1.size≤1000000∧x.2.2.length<25∧0<x.2.2.length:=by
 obtain⟨h1,h2⟩:=pw_small ht 24 _ _ x hx;have h3:=(pw_pre 24 _ _ x hx).length_le;simp only[List.length_singleton] at h2 h3;exact⟨h1,by omega,by omega⟩
end
theorem hclone_any (ao:Option Addr)(n cap:Nat)(l:List ((Int×Int)×Int))(w:World)(h:GS hopE w (.slice ao n cap) l)(h1:0<n)(h2:n≤1000000):
 Calls Tryz.prog 28 #[.slice ao n cap] w fun e w'=>∃x:SlT,e=.returned (slV x)∧w'.ownsRow w.heap.size 74 hopE.n (slV x) l.length (cellsG hopE l)∧Below w.heap.size w w':=by
 obtain⟨_,_,_,e5,hn,hm,hc,ha⟩:=h.form;cases e5;obtain⟨g,o,rfl,hG,hx⟩:=ha h1;obtain⟨i0,hi,hz0,hz1,hz2⟩:=info_parts hop_info;have HMX:Hid ((1000000:Nat)≤maxLen):=by show _≤_;unfold maxLen;omega
 have HOM:Hid ((w.alloc (.cells #[] 74)).ownsRow w.heap.size 74 hopE.n (.slice (some ⟨w.heap.size,0,none⟩) 0 0) ([]:List ((Int×Int)×Int)).length (cellsG hopE [])):=World.ownsRow_made w #[] 0 (Nat.le_refl _) (Nat.zero_le _) rfl;have HG:Hid (∀ob:Obj,GS hopE (w.alloc ob) (.slice (some ⟨g,o,none⟩) n cap) l):=fun ob=>h.later ((Below.refl _ _).alloc (Nat.le_refl _) _)
 have HN:Hid (l.length=n):=hn;have q22:∀(w:World) (a:Option Addr) (n c:Nat),(binOp .eql 75 (.slice a n c) (.slice none 0 0)).run Tryz.prog w=.ok (.bool a.isNone) w:=fun w a n c=>by
  simp only[binOp];simp[Op.equal,Op.maxDepth,Lib.run_equalIn_slice_nil w 9999 75 _ a n c 0 0 Tryz.underlying75]
 clear h hG hn ha;go_enter Tryz.func28,Tryz.ntmps28
 go_wp2_with (at_builtin;refine wpList_append_GS (E:=hopE) _ rfl _ _ 75 74 rfl Tryz.underlying75 i0 (.agg #[.int .i64 0,.int .i64 0,.int .i64 0]) 24 hi hz0 hz1 hz2 rfl w.heap.size (.slice (some ⟨w.heap.size,0,none⟩) 0 0) rfl [] HOM.out _ rfl l (HG.out _) ?a1 ?a2 ?a3 ?_)
 case a1=>simp;have:=HN.out;have:=HMX.out;omega
 case a2=>simp;have:=HN.out;omega
 case a3=>simp
 intro v' w' hown hgrow;have hb:Below w.heap.size w w':=by
  have h0:Below w.heap.size w (w.alloc (.cells #[] 74)):=(Below.refl _ _).alloc (Nat.le_refl _) _;exact⟨hgrow.os,hgrow.tape,hgrow.output,Nat.le_trans h0.size hgrow.size,fun k hk=>(hgrow.block k (Nat.lt_of_lt_of_le hk h0.size) (fun e=>by simp[Value.ownBlock] at e;omega)).trans (h0.block k hk)⟩
 obtain⟨ao2,cap2,rfl⟩:=own_form hown;go_wp2;go_ret;exact⟨(ao2,_,cap2),rfl,hown,hb⟩
end
section
open Go.RowKit Go.Shelf Go.Sort
def cm3 (a b:Bool):Int:=if a then -1 else if b then 1 else 0
def cmI (x y:Int):Int:=cm3 (decide (x<y)) (decide (y<x))
def cmS (x y:ByteArray):Int:=cm3 (Op.bytesLess x.toList y.toList) (!(Op.bytesLess x.toList y.toList || x.toList==y.toList))
def or3 (a b c:Int):Int:=if a≠0 then a else if b≠0 then b else c
def Gr (w w':World):Prop:=∃q os,w'=grow (w.drewN q) os
theorem isnan_int (x:Int)(w:World):Calls Tryz.prog 94 #[.int .i64 x] w fun e w'=>e=.returned (.bool false)∧w'=w:=by
 go_enter Tryz.func94,Tryz.ntmps94;go_wp2;go_ret;exact⟨by simp,rfl⟩
theorem isnan_str (x:ByteArray)(w:World):Calls Tryz.prog 95 #[.string x] w fun e w'=>e=.returned (.bool false)∧w'=w:=by
 go_enter Tryz.func95,Tryz.ntmps95;go_wp2;go_ret;exact⟨by simp,rfl⟩
theorem compare_int (x y:Int)(w:World):Calls Tryz.prog 57 #[.int .i64 x,.int .i64 y] w fun e w'=>e=.returned (.int .i64 (cmI x y))∧w'=w:=by
 go_enter Tryz.func57,Tryz.ntmps57
 go_wp2_with (go_at_call 94;refine (isnan_int _ _).mono ?_;rintro e w' ⟨rfl,hw⟩;rw[hw])
 all_goals (go_ret;refine⟨?_,rfl⟩;unfold cmI cm3;(repeat' split) <;> first | rfl | (exfalso;simp_all;done) | (exfalso;simp_all;omega))
theorem compare_str (x y:ByteArray)(w:World):Calls Tryz.prog 58 #[.string x,.string y] w fun e w'=>e=.returned (.int .i64 (cmS x y))∧w'=w:=by
 unfold cmS;go_enter Tryz.func58,Tryz.ntmps58
 go_wp2_with (go_at_call 95;refine (isnan_str _ _).mono ?_;rintro e w' ⟨rfl,hw⟩;rw[hw])
 all_goals (go_ret;refine⟨?_,rfl⟩;unfold cm3;simp_all)
end
section
open Go.RowKit Go.Sort
def orL:List Int→Int
 | []=>0
 | x :: l=>if x=0 then orL l else x
theorem cmor_zero:∀{L:List Int},(L.any fun x=>x != 0)=false→orL L=0
 | [],_=>rfl
 | x :: l,h=>by
   simp at h;unfold orL;rw[if_pos h.1];exact cmor_zero (by simpa using h.2)
theorem cmor_hit:∀{L:List Int} {k:Nat} (hk:k<L.length),((L.take k).any fun x=>x != 0)=false→L[k]≠0→orL L=L[k]
 | x :: l,0,_,_,h=>by unfold orL;rw[if_neg (by simpa using h)];rfl
 | x :: l,k+1,hk,hn,h=>by
   simp only[List.take_succ_cons,List.any_cons,Bool.or_eq_false_iff] at hn;unfold orL;rw[if_pos (by simpa using hn.1),cmor_hit (by simpa using hk) hn.2 (by simpa using h)];rfl
theorem cmor_three (a b c:Int):orL [a,b,c]=or3 a b c:=by
 unfold orL orL orL orL or3;by_cases h1:a=0
 ·by_cases h2:b=0
  ·by_cases h3:c=0 <;> simp[h1,h2,h3]
  simp[h1,h2]
 simp[h1]
theorem cmor_any (ao:Option Addr)(n cap:Nat)(L:List Int)(w:World)(hs:GS inE w (.slice ao n cap) L):
 Calls Tryz.prog 56 #[.slice ao n cap] w fun e w'=>e=.returned (.int .i64 (orL L))∧w'=w:=by
 obtain⟨_,_,_,e1,hn,hn2,_,ha⟩:=hs.form;cases e1;have HN:Hid (L.length=n):=hn;have HA:Hid (0<n→∃g o,ao=some ⟨g,o,none⟩∧GAt inE w g o L∧cap≤maxLen):=ha;unfold maxLen at hn2;clear hn ha hs;go_enter Tryz.func56,Tryz.ntmps56;go_wp2
 go_loopw [8] (fun i wr=>∃k:Nat,k≤n∧i=.int .i64 k∧(L.take k).any (fun x=>x != 0)=false∧wr=w)
  (fun i _=>n-(intOf i).toNat)
 case atStart=>exact⟨0,by omega,rfl,by simp,rfl⟩
 case round =>
  obtain⟨k,hk,rfl,hno,hW⟩:=hrel;subst hW;have HNO:Hid ((L.take k).any (fun x=>x != 0)=false):=hno;clear hno;by_cases hlt:k<n
  ·obtain⟨g,o,hao,hc,_⟩:=HA.out (by omega);subst hao;obtain⟨x,hkl,hL,q0⟩:=in_at hc HN.out hlt;have HL:Hid (L[k]=x):=hL;clear hL hc;by_cases ho:x=0
   ·subst ho;go_wp2;go_roundw
    case rel=>exact⟨k+1,by omega,by go_num,any_nextG hkl HNO.out (by rw[HL.out];simp),trivial⟩
    case measure=>simp[intOf];omega
   have ho2:(0:Int)≠x:=Ne.symm ho;go_wp2;go_ret;exact⟨by rw[cmor_hit hkl HNO.out (by rw[HL.out];exact ho),HL.out];rfl,rfl⟩
  obtain rfl:k=n:=by omega
  go_wp2;go_ret;exact⟨by have:=HNO.out;rw[←HN.out,List.take_length] at this;rw[cmor_zero this];rfl,rfl⟩
end
section
open Go.RowKit Go.Shelf Go.Sort
theorem Gr.refl (w:World):Gr w w:=⟨0,#[],by rw[grow_empty];rfl⟩
theorem hop_box (w:World)(a b c:Int)(t:TypeId):(w.alloc (Obj.cells #[.int .i64 a,.int .i64 b,.int .i64 c] t)).cell? ⟨w.heap.size,0,none⟩=some (.int .i64 a)∧(w.alloc (Obj.cells #[.int .i64 a,.int .i64 b,.int .i64 c] t)).cell? ⟨w.heap.size,1,none⟩=some (.int .i64 b)∧(w.alloc (Obj.cells #[.int .i64 a,.int .i64 b,.int .i64 c] t)).cell? ⟨w.heap.size,2,none⟩=some (.int .i64 c):=by
 refine⟨?_,?_,?_⟩ <;> simp
theorem hop_boxes (w:World)(a b c d e f:Int)(t:TypeId)(W:World)(hW:W=(w.alloc (Obj.cells #[.int .i64 a,.int .i64 b,.int .i64 c] t)).alloc (Obj.cells #[.int .i64 d,.int .i64 e,.int .i64 f] t)):W.cell? ⟨w.heap.size,0,none⟩=some (.int .i64 a)∧W.cell? ⟨w.heap.size,1,none⟩=some (.int .i64 b)∧W.cell? ⟨w.heap.size,2,none⟩=some (.int .i64 c)∧W.cell? ⟨w.heap.size+1,0,none⟩=some (.int .i64 d)∧W.cell? ⟨w.heap.size+1,1,none⟩=some (.int .i64 e)∧W.cell? ⟨w.heap.size+1,2,none⟩=some (.int .i64 f):=by
 subst hW;obtain⟨x0,x1,x2⟩:=hop_box w a b c t;obtain⟨y0,y1,y2⟩:=hop_box (w.alloc (Obj.cells #[.int .i64 a,.int .i64 b,.int .i64 c] t)) d e f t;rw[World.size_alloc] at y0 y1 y2;have hb:Below _ (w.alloc (Obj.cells #[.int .i64 a,.int .i64 b,.int .i64 c] t)) ((w.alloc (Obj.cells #[.int .i64 a,.int .i64 b,.int .i64 c] t)).alloc (Obj.cells #[.int .i64 d,.int .i64 e,.int .i64 f] t)):=(Below.refl _ _).alloc (Nat.le_refl _) _;exact⟨cell_later hb x0,cell_later hb x1,cell_later hb x2,y0,y1,y2⟩
theorem Gr.alloc {w w':World}(h:Gr w w')(o:Obj):Gr w (w'.alloc o):=by
 obtain⟨q,os,rfl⟩:=h;exact⟨q,os++#[o],by rw[alloc_eq_grow,grow_grow]⟩
theorem Gr.drew {w w':World}(h:Gr w w'):Gr w w'.drew:=by
 obtain⟨q,os,rfl⟩:=h;exact⟨q+1,os,rfl⟩
theorem gs_three (W:World)(x y z:Int)(t:TypeId):GS inE (W.alloc (Obj.cells #[.int .i64 x,.int .i64 y,.int .i64 z] t)).drew (.slice (some ⟨W.heap.size,0,none⟩) 3 3) [x,y,z]:=by
 obtain⟨x0,x1,x2⟩:=hop_box W x y z t;have hg:GAt inE (W.alloc (Obj.cells #[.int .i64 x,.int .i64 y,.int .i64 z] t)) W.heap.size 0 [x,y,z]:=by
  intro i hi j u hu;have hj:j=0:=by
   have:j<1:=(List.getElem?_eq_some_iff.1 hu).1;omega
  subst hj
  match i,hi with
  | 0,_=>cases hu;exact x0
  | 1,_=>cases hu;exact x1
  | 2,_=>cases hu;exact x2
 exact .inr ⟨_,0,3,rfl,by simp,by unfold maxLen;omega,hg.later (Below.drew (Below.refl _ _))⟩
def cmH (x y:(Int×Int)×Int):Int:=or3 (cmI x.1.1 y.1.1) (cmI x.1.2 y.1.2) (cmI x.2 y.2)
theorem hop_order (a b c d e f:Int)(w:World):
 Calls Tryz.prog 60 #[.agg #[.int .i64 a,.int .i64 b,.int .i64 c],.agg #[.int .i64 d,.int .i64 e,.int .i64 f]] w fun e' w'=>e'=.returned (.int .i64 (cmH ((a,b),c) ((d,e),f)))∧Gr w w':=by
 have HC:Hid (∀x y W,Calls Tryz.prog 57 #[.int .i64 x,.int .i64 y] W fun e w'=>e=.returned (.int .i64 (cmI x y))∧w'=W):=compare_int;have HO:Hid (cmH ((a,b),c) ((d,e),f)=orL [cmI a d,cmI b e,cmI c f]):=by
  show _=_;rw[cmor_three];rfl
 rw[HO.out];clear HO;go_enter Tryz.func60,Tryz.ntmps60;go_upto_region 1 with fail;obtain⟨w2,hw2⟩:∃W,(w.alloc (Obj.cells #[.int .i64 a,.int .i64 b,.int .i64 c] 74)).alloc (Obj.cells #[.int .i64 d,.int .i64 e,.int .i64 f] 74)=W:=⟨_,rfl⟩;obtain⟨q0,q1,q2,q3,q4,q5⟩:=hop_boxes w a b c d e f 74 _ hw2.symm;have HW2:Hid (Gr w w2):=⟨0,_,by rw[←hw2,alloc_eq_grow,alloc_eq_grow,grow_grow];rfl⟩;rw[hw2];clear hw2;have HSW:Hid (∀W,Below w2.heap.size w2 W→W.cell? ⟨w.heap.size,0,none⟩=some (.int .i64 a)∧W.cell? ⟨w.heap.size,1,none⟩=some (.int .i64 b)∧W.cell? ⟨w.heap.size,2,none⟩=some (.int .i64 c)∧W.cell? ⟨w.heap.size+1,0,none⟩=some (.int .i64 d)∧W.cell? ⟨w.heap.size+1,1,none⟩=some (.int .i64 e)∧W.cell? ⟨w.heap.size+1,2,none⟩=some (.int .i64 f)):=fun W hb=>⟨cell_later hb q0,cell_later hb q1,cell_later hb q2,cell_later hb q3,cell_later hb q4,cell_later hb q5⟩
 go_region_held3 (fun W=>W.cell? ⟨w.heap.size,0,none⟩=some (.int .i64 a)∧W.cell? ⟨w.heap.size,1,none⟩=some (.int .i64 b)∧W.cell? ⟨w.heap.size,2,none⟩=some (.int .i64 c)∧W.cell? ⟨w.heap.size+1,0,none⟩=some (.int .i64 d)∧W.cell? ⟨w.heap.size+1,1,none⟩=some (.int .i64 e)∧W.cell? ⟨w.heap.size+1,2,none⟩=some (.int .i64 f))
  (first | (with_reducible assumption) | (with_reducible exact HSW.out _ (Below.refl _ _)) | (with_reducible exact HSW.out _ (Below.drew (Below.refl _ _))) | (with_reducible exact HSW.out _ (Below.drew ((Below.refl _ _).alloc (Nat.le_refl _) _))))
  (first
   | (go_at_call 57;refine (HC.out _ _ _).mono ?_;rintro e5 w5 ⟨rfl,rfl⟩)
   | (go_at_call 56;refine (cmor_any _ _ _ [cmI a d,cmI b e,cmI c f] _ ?_).mono ?_;(focus exact gs_three _ _ _ _ _);rintro e5 w5 ⟨rfl,rfl⟩))
 go_wp2;go_ret;exact⟨rfl,(HW2.out.alloc _).drew⟩
def cmL:List ((Int×Int)×Int)→List ((Int×Int)×Int)→Int
 | [],[]=>0
 | [],_ :: _ => -1
 | _ :: _,[]=>1
 | x :: l,y :: m=>if cmH x y=0 then cmL l m else cmH x y
theorem cml_same {L M:List ((Int×Int)×Int)}{k:Nat}(h:k<L.length)(h2:k<M.length):cmL (L.drop k) (M.drop k)=if cmH L[k] M[k]=0 then cmL (L.drop (k+1)) (M.drop (k+1)) else cmH L[k] M[k]:=by
 rw[List.drop_eq_getElem_cons h,List.drop_eq_getElem_cons h2];rfl
theorem cml_more {L M:List ((Int×Int)×Int)}{k:Nat}(h:k<L.length)(h2:M.length≤k):cmL (L.drop k) (M.drop k)=1:=by
 rw[List.drop_eq_getElem_cons h,List.drop_eq_nil_of_le h2];rfl
theorem cml_less {L M:List ((Int×Int)×Int)}{k:Nat}(h:L.length≤k)(h2:k<M.length):cmL (L.drop k) (M.drop k) = -1:=by
 rw[List.drop_eq_getElem_cons h2,List.drop_eq_nil_of_le h];rfl
theorem cml_none {L M:List ((Int×Int)×Int)}{k:Nat}(h:L.length≤k)(h2:M.length≤k):cmL (L.drop k) (M.drop k)=0:=by
 rw[List.drop_eq_nil_of_le h,List.drop_eq_nil_of_le h2];rfl
theorem Gr.below {w w':World}(h:Gr w w'):Below w.heap.size w w':=by
 obtain⟨q,os,rfl⟩:=h;exact⟨rfl,rfl,rfl,by rw[size_grow];exact Nat.le_add_right _ _,fun k hk=>heap_grow_old (w.drewN q) os hk⟩
theorem Gr.trans {a b c:World}(h:Gr a b)(h2:Gr b c):Gr a c:=by
 obtain⟨q,os,rfl⟩:=h;obtain⟨q2,os2,rfl⟩:=h2;exact⟨q+q2,os++os2,by rw[←grow_grow,←World.drewN_drewN];rfl⟩
theorem cmp_hops (ao:Option Addr)(n cap:Nat)(ao2:Option Addr)(n2 cap2:Nat)(L M:List ((Int×Int)×Int))(w:World)(hs:GS hopE w (.slice ao n cap) L)(hs2:GS hopE w (.slice ao2 n2 cap2) M):
 Calls Tryz.prog 59 #[.slice ao n cap,.slice ao2 n2 cap2,.func (Fn.func 60) #[] #[]] w fun e w'=>e=.returned (.int .i64 (cmL L M))∧Gr w w':=by
 have he:∀args w,(callFunc 60 args).run Tryz.prog w=.ok (.enter 60 args) w:=enters_of Tryz.func60 (by kernel_rfl) rfl;obtain⟨_,_,_,e1,hn,hn2,_,ha⟩:=hs.form;cases e1;obtain⟨_,_,_,e1,hm,hm2,_,hb⟩:=hs2.form;cases e1;have HN:Hid (L.length=n):=hn;have HM:Hid (M.length=n2):=hm;have HA:Hid (0<n→∃g o,ao=some ⟨g,o,none⟩∧GAt hopE w g o L∧cap≤maxLen):=ha;have HB:Hid (0<n2→∃g o,ao2=some ⟨g,o,none⟩∧GAt hopE w g o M∧cap2≤maxLen):=hb;unfold maxLen at hn2 hm2;clear hn ha hs hm hb hs2;go_enter Tryz.func59,Tryz.ntmps59;go_wp2
 go_loopw [13] (fun i wr=>∃k:Nat,k≤n∧k≤n2∧i=.int .i64 k∧cmL L M=cmL (L.drop k) (M.drop k)∧Gr w wr)
  (fun i _=>n-(intOf i).toNat)
 case atStart=>exact⟨0,by omega,by omega,rfl,rfl,Gr.refl _⟩
 case round =>
  obtain⟨k,hk,hk2,rfl,hno,hG⟩:=hrel;have HG:Hid (Gr w wr):=hG;have HNO:Hid (cmL L M=cmL (L.drop k) (M.drop k)):=hno;clear hno hG;by_cases hlt:k<n
  ·obtain⟨g,o,hao,hc,_⟩:=HA.out (by omega);subst hao;obtain⟨x0,x1,x2,hkl,hL,q0,q1,q2⟩:=hop_at (hc.later HG.out.below) HN.out hlt;have HL:Hid (L[k]=((x0,x1),x2)):=hL;clear hL hc;by_cases hlt2:k<n2
   ·obtain⟨g',o',hao',hc',_⟩:=HB.out (by omega);subst hao';obtain⟨y0,y1,y2,hkl',hL',p0,p1,p2⟩:=hop_at (hc'.later HG.out.below) HM.out hlt2;have HL':Hid (M[k]=((y0,y1),y2)):=hL';clear hL' hc';have hgl:g'<wr.heap.size:=World.block_lt_of_cell? _ _ p0;have hgn:g'≠wr.heap.size:=Nat.ne_of_lt hgl;have hgn2:wr.heap.size≠g':=Ne.symm hgn
    go_wp2_with fail
    refine (hop_order x0 x1 x2 y0 y1 y2 _).mono ?_;rintro e w1 ⟨rfl,hg1⟩;have HG1:Hid (Gr w w1):=((HG.out.alloc _).alloc _).trans hg1;clear hg1;obtain⟨r,hr⟩:∃r,cmH ((x0,x1),x2) ((y0,y1),y2)=r:=⟨_,rfl⟩;have HR:Hid (cmH ((x0,x1),x2) ((y0,y1),y2)=r):=hr;rw[hr];clear hr;have HC:Hid (cmL L M=if r=0 then cmL (L.drop (k+1)) (M.drop (k+1)) else r):=by
     show _=_;rw[HNO.out,cml_same hkl hkl',HL.out,HL'.out,HR.out]
    by_cases h0:r=0
    ·subst h0;go_wp2;go_roundw
     case rel=>exact⟨k+1,by omega,by omega,by go_num,by rw[HC.out];simp,HG1.out⟩
     case measure=>simp[intOf];omega
    have h1:(0:Int)≠r:=Ne.symm h0;have HC2:Hid (cmL L M=r):=by
     show _=_;rw[HC.out,if_neg h0]
    go_wp2;go_ret;exact⟨by rw[HC2.out];rfl,HG1.out⟩
   have hge:n2≤k:=by omega
   have HC2:Hid (cmL L M=1):=by
    show _=_;rw[HNO.out,cml_more hkl (by rw[HM.out];exact hge)]
   go_wp2;go_ret;exact⟨by rw[HC2.out];rfl,HG.out.alloc _⟩
  obtain rfl:k=n:=by omega
  by_cases hlt2:k<n2
  ·have HC2:Hid (cmL L M = -1):=by
    show _=_;rw[HNO.out,cml_less (by rw[HN.out];exact Nat.le_refl _) (by rw[HM.out];exact hlt2)]
   go_wp2;go_ret;exact⟨by rw[HC2.out];rfl,HG.out⟩
  have HC2:Hid (cmL L M=0):=by
   show _=_;rw[HNO.out,cml_none (by rw[HN.out];exact Nat.le_refl _) (by rw[HM.out];omega)]
  go_wp2;go_ret;exact⟨by rw[HC2.out];rfl,HG.out⟩
theorem val_box (w:World)(a b c:Value)(t:TypeId):(w.alloc (Obj.cells #[a,b,c] t)).cell? ⟨w.heap.size,0,none⟩=some a∧(w.alloc (Obj.cells #[a,b,c] t)).cell? ⟨w.heap.size,1,none⟩=some b∧(w.alloc (Obj.cells #[a,b,c] t)).cell? ⟨w.heap.size,2,none⟩=some c:=by
 refine⟨?_,?_,?_⟩ <;> simp
theorem val_boxes (w:World)(a b c d e f:Value)(t:TypeId)(W:World)(hW:W=(w.alloc (Obj.cells #[a,b,c] t)).alloc (Obj.cells #[d,e,f] t)):W.cell? ⟨w.heap.size,0,none⟩=some a∧W.cell? ⟨w.heap.size,1,none⟩=some b∧W.cell? ⟨w.heap.size,2,none⟩=some c∧W.cell? ⟨w.heap.size+1,0,none⟩=some d∧W.cell? ⟨w.heap.size+1,1,none⟩=some e∧W.cell? ⟨w.heap.size+1,2,none⟩=some f:=by
 subst hW;obtain⟨x0,x1,x2⟩:=val_box w a b c t;obtain⟨y0,y1,y2⟩:=val_box (w.alloc (Obj.cells #[a,b,c] t)) d e f t;rw[World.size_alloc] at y0 y1 y2;have hb:Below _ (w.alloc (Obj.cells #[a,b,c] t)) ((w.alloc (Obj.cells #[a,b,c] t)).alloc (Obj.cells #[d,e,f] t)):=(Below.refl _ _).alloc (Nat.le_refl _) _;exact⟨cell_later hb x0,cell_later hb x1,cell_later hb x2,y0,y1,y2⟩
def cmF (a d:Int)(s t:ByteArray)(L M:List ((Int×Int)×Int)):Int:=or3 (cmI a d) (cmS s t) (cmL L M)
theorem mix_order (a d:Int)(s t:ByteArray)(ao:Option Addr)(n cap:Nat)(ao2:Option Addr)(n2 cap2:Nat)(L M:List ((Int×Int)×Int))(w:World)(hs:GS hopE w (.slice ao n cap) L)(hs2:GS hopE w (.slice ao2 n2 cap2) M):
 Calls Tryz.prog 30 #[.agg #[.int .i64 a,.string s,.slice ao n cap],.agg #[.int .i64 d,.string t,.slice ao2 n2 cap2]] w fun e' w'=>e'=.returned (.int .i64 (cmF a d s t L M))∧Gr w w':=by
 have HC:Hid (∀x y W,Calls Tryz.prog 57 #[.int .i64 x,.int .i64 y] W fun e w'=>e=.returned (.int .i64 (cmI x y))∧w'=W):=compare_int;have HD:Hid (∀x y W,Calls Tryz.prog 58 #[.string x,.string y] W fun e w'=>e=.returned (.int .i64 (cmS x y))∧w'=W):=compare_str;have HO:Hid (cmF a d s t L M=orL [cmI a d,cmS s t,cmL L M]):=by
  show _=_;rw[cmor_three];rfl
 have HH:Hid (∀W,Below w.heap.size w W→Calls Tryz.prog 59 #[.slice ao n cap,.slice ao2 n2 cap2,.func (Fn.func 60) #[] #[]] W fun e w'=>e=.returned (.int .i64 (cmL L M))∧Gr W w'):=fun W hb=>cmp_hops ao n cap ao2 n2 cap2 L M W (hs.later hb) (hs2.later hb)
 rw[HO.out];clear HO hs hs2;go_enter Tryz.func30,Tryz.ntmps30;go_upto_region 1 with fail;obtain⟨w2,hw2⟩:∃W,(w.alloc (Obj.cells #[.int .i64 a,.string s,.slice ao n cap] 77)).alloc (Obj.cells #[.int .i64 d,.string t,.slice ao2 n2 cap2] 77)=W:=⟨_,rfl⟩;obtain⟨q0,q1,q2,q3,q4,q5⟩:=val_boxes w (.int .i64 a) (.string s) (.slice ao n cap) (.int .i64 d) (.string t) (.slice ao2 n2 cap2) 77 _ hw2.symm;have HW2:Hid (Gr w w2):=⟨0,_,by rw[←hw2,alloc_eq_grow,alloc_eq_grow,grow_grow];rfl⟩;rw[hw2];clear hw2;have HSW:Hid (∀W,Below w2.heap.size w2 W→W.cell? ⟨w.heap.size,0,none⟩=some (.int .i64 a)∧W.cell? ⟨w.heap.size,1,none⟩=some (.string s)∧W.cell? ⟨w.heap.size,2,none⟩=some (.slice ao n cap)∧W.cell? ⟨w.heap.size+1,0,none⟩=some (.int .i64 d)∧W.cell? ⟨w.heap.size+1,1,none⟩=some (.string t)∧W.cell? ⟨w.heap.size+1,2,none⟩=some (.slice ao2 n2 cap2)):=fun W hb=>⟨cell_later hb q0,cell_later hb q1,cell_later hb q2,cell_later hb q3,cell_later hb q4,cell_later hb q5⟩
 go_region_held3 (fun W=>W.cell? ⟨w.heap.size,0,none⟩=some (.int .i64 a)∧W.cell? ⟨w.heap.size,1,none⟩=some (.string s)∧W.cell? ⟨w.heap.size,2,none⟩=some (.slice ao n cap)∧W.cell? ⟨w.heap.size+1,0,none⟩=some (.int .i64 d)∧W.cell? ⟨w.heap.size+1,1,none⟩=some (.string t)∧W.cell? ⟨w.heap.size+1,2,none⟩=some (.slice ao2 n2 cap2))
  (first | (with_reducible assumption) | (with_reducible exact HSW.out _ (Below.refl _ _)) | (with_reducible exact HSW.out _ (Below.drew (Below.refl _ _))) | (with_reducible exact HSW.out _ HG3.out.below) | (with_reducible exact HSW.out _ (HG3.out.alloc _).below) | (with_reducible exact HSW.out _ (HG3.out.alloc _).drew.below))
  (first
   | (go_at_call 57;refine (HC.out _ _ _).mono ?_;rintro e5 w5 ⟨rfl,rfl⟩)
   | (go_at_call 58;refine (HD.out _ _ _).mono ?_;rintro e5 w5 ⟨rfl,rfl⟩)
   | (go_at_call 59;refine (HH.out _ (HW2.out.drew.below)).mono ?_;rintro e5 w5 ⟨rfl,hg5⟩;have HG3:Hid (Gr w2 w5):=((Gr.refl _).drew).trans hg5;clear hg5)
   | (go_at_call 56;refine (cmor_any _ _ _ [cmI a d,cmS s t,cmL L M] _ ?_).mono ?_;(focus first | exact gs_three _ _ _ _ _ | exact gs_three0 _ _ _ _ _);rintro e5 w5 ⟨rfl,rfl⟩))
 go_wp2;go_ret;exact⟨rfl,HW2.out.trans (HG3.out.alloc _)⟩
def CO {α:Type}(r:α→α→Bool)(c:α→α→Int):Prop:=∀a b,(c a b<0↔r a b=true)∧(c a b=0↔a=b)
theorem co_int:CO (fun (a b:Int)=>decide (a<b)) cmI:=by
 intro a b;unfold cmI cm3;constructor
 ·by_cases h:a<b
  ·simp[h]
  by_cases h2:b<a <;> simp[h,h2]
 by_cases h:a<b
 ·simp[h];omega
 by_cases h2:b<a
 ·simp[h,h2];omega
 simp[h,h2];omega
theorem co_pair {α β:Type}[DecidableEq α]{r:α→α→Bool}{s:β→β→Bool}{c:α→α→Int}{d:β→β→Int}(h1:CO r c)(h2:CO s d):CO (lexP r s) (fun a b=>if c a.1 b.1≠0 then c a.1 b.1 else d a.2 b.2):=by
 intro a b;obtain⟨x1,x2⟩:=h1 a.1 b.1;obtain⟨y1,y2⟩:=h2 a.2 b.2;unfold lexP;by_cases e:a.1=b.1
 ·have z:=x2.2 e;simp only[z,ne_eq,not_true_eq_false,if_false,if_pos e];exact⟨y1,y2.trans ⟨fun h=>Prod.ext e h,fun h=>by rw[h]⟩⟩
 have z:c a.1 b.1≠0:=fun h=>e (x2.1 h)
 simp only[ne_eq,z,not_false_eq_true,if_true,if_neg e];exact⟨x1,⟨fun h=>h.elim,fun h=>e (by rw[h])⟩⟩
theorem co_name:CO nmL cmS:=by
 intro a b;unfold cmS cm3;have hi:∀x,nmL x x=false:=lo_name.irr;have ht:=lo_name.tot a b;constructor
 ·show _↔Op.bytesLess a.toList b.toList=true;cases h:Op.bytesLess a.toList b.toList
  ·cases h2:(a.toList==b.toList) <;> simp
  simp
 constructor
 ·intro h;cases h3:Op.bytesLess a.toList b.toList
  ·rw[h3] at h;cases h2:(a.toList==b.toList)
   ·rw[h2] at h;simp at h
   have e:=eq_of_beq h2;refine ht h3 ?_;have:=hi a;unfold nmL at this ⊢;rw[←e];exact this
  rw[h3] at h;simp at h
 rintro rfl;have:=hi a;unfold nmL at this;rw[this];simp
theorem co_hop:CO (lexP (lexP (fun (a b:Int)=>decide (a<b)) (fun (a b:Int)=>decide (a<b))) (fun (a b:Int)=>decide (a<b))) cmH:=by
 intro x y;have h:=co_pair (co_pair co_int co_int) co_int x y;have e:cmH x y=(fun a b:(Int×Int)×Int=>if (fun a b:Int×Int=>if cmI a.1 b.1≠0 then cmI a.1 b.1 else cmI a.2 b.2) a.1 b.1≠0 then (fun a b:Int×Int=>if cmI a.1 b.1≠0 then cmI a.1 b.1 else cmI a.2 b.2) a.1 b.1 else cmI a.2 b.2) x y:=by
  unfold cmH or3;by_cases h1:cmI x.1.1 y.1.1=0 <;> by_cases h2:cmI x.1.2 y.1.2=0 <;> simp[h1,h2]
 rw[e];exact h
theorem co_hops:CO (lexL (lexP (lexP (fun (a b:Int)=>decide (a<b)) (fun (a b:Int)=>decide (a<b))) (fun (a b:Int)=>decide (a<b)))) cmL
 | [],[]=>by simp[cmL,lexL]
 | [],_ :: _=>by simp[cmL,lexL]
 | _ :: _,[]=>by simp[cmL,lexL]
 | x :: l,y :: m=>by
   obtain⟨x1,x2⟩:=co_hop x y;obtain⟨y1,y2⟩:=co_hops l m;unfold cmL lexL;by_cases e:x=y
   ·rw[if_pos (x2.2 e),if_pos e];exact⟨y1,y2.trans ⟨fun h=>by rw[e,h],fun h=>by injection h⟩⟩
   have z:cmH x y≠0:=fun h=>e (x2.1 h)
   rw[if_neg z,if_neg e];exact⟨x1,⟨fun h=>absurd h z,fun h=>absurd (by injection h) e⟩⟩
theorem co_fate:CO faL (fun x y=>cmF x.1 y.1 x.2.1 y.2.1 x.2.2 y.2.2):=by
 intro x y;have h:=co_pair co_int (co_pair co_name co_hops) x y;have e:cmF x.1 y.1 x.2.1 y.2.1 x.2.2 y.2.2=if cmI x.1 y.1≠0 then cmI x.1 y.1 else (if cmS x.2.1 y.2.1≠0 then cmS x.2.1 y.2.1 else cmL x.2.2 y.2.2):=by
  unfold cmF or3;rfl
 show (cmF x.1 y.1 x.2.1 y.2.1 x.2.2 y.2.2<0↔_)∧(cmF x.1 y.1 x.2.1 y.2.1 x.2.2 y.2.2=0↔_);rw[e];exact h
end
section
open Go.RowKit
def ftE:Enc (Ft×SlT) where
 c:=fun z=>[.int .i64 z.1.1,.string z.1.2.1,slV z.2]
 n:=3
 len:=fun _=>rfl
 pos:=by decide
 one:=by
  intro x u hu;simp at hu
  rcases hu with rfl | rfl | rfl <;> rfl
def FTs (w:World)(v:Value)(L:List Ft):Prop:=∃Z:List (Ft×SlT),GS ftE w v Z∧Z.map Prod.fst=L∧∀z∈Z,GS hopE w (slV z.2) z.1.2.2
theorem FTs.later {w w':World}{v:Value}{L:List Ft}(h:FTs w v L)(hb:Go.RowKit.Below w.heap.size w w'):FTs w' v L:=by
 obtain⟨Z,h1,h2,h3⟩:=h;exact⟨Z,h1.later hb,h2,fun z hz=>(h3 z hz).later hb⟩
end
section
open Go.Shelf
def sortFate_ren:Go.Shelf.Ren:=⟨fun | 6=>29 | 15=>55 | 14=>54 | 28=>92 | 29=>93 | 20=>84 | 21=>85 | 22=>86 | 23=>87 | 24=>88 | 25=>89 | 26=>90 | 27=>91 | 46=>130 | 47=>131 | 48=>132 | 49=>133 | 50=>134 | 57=>158 | n=>n,fun | 22=>34 | 24=>77 | 25=>92 | 3=>3 | 39=>126 | 0=>0 | 53=>174 | 55=>176 | 4=>4 | 46=>167 | 45=>166 | 50=>171 | 5=>5 | 9=>9 | 66=>209 | 70=>213 | 76=>246 | 77=>247 | n=>n,fun | n=>n⟩
theorem sortFate:Go.Proofs.SlLaysF0.n6 Tryz.prog sortFate_ren:={
 mixed:=by kernel_rfl
 f6:=⟨Tryz.f29.name,by decide,Tryz.func29.trans (congrArg some (by kernel_rfl))⟩
 f14:=⟨Tryz.f54.name,by decide,Tryz.func54.trans (congrArg some (by kernel_rfl))⟩
 f15:=Tryz.func55.trans (congrArg some (by kernel_rfl))
 f20:=⟨Tryz.f84.name,by decide,Tryz.func84.trans (congrArg some (by kernel_rfl))⟩
 f21:=⟨Tryz.f85.name,by decide,Tryz.func85.trans (congrArg some (by kernel_rfl))⟩
 f22:=⟨Tryz.f86.name,by decide,Tryz.func86.trans (congrArg some (by kernel_rfl))⟩
 f23:=⟨Tryz.f87.name,by decide,Tryz.func87.trans (congrArg some (by kernel_rfl))⟩
 f24:=⟨Tryz.f88.name,by decide,Tryz.func88.trans (congrArg some (by kernel_rfl))⟩
 f25:=⟨Tryz.f89.name,by decide,Tryz.func89.trans (congrArg some (by kernel_rfl))⟩
 f26:=⟨Tryz.f90.name,by decide,Tryz.func90.trans (congrArg some (by kernel_rfl))⟩
 f27:=⟨Tryz.f91.name,by decide,Tryz.func91.trans (congrArg some (by kernel_rfl))⟩
 f28:=Tryz.func92.trans (congrArg some (by kernel_rfl))
 f29:=Tryz.func93.trans (congrArg some (by kernel_rfl))
 f46:=⟨Tryz.f130.name,by decide,Tryz.func130.trans (congrArg some (by kernel_rfl))⟩
 f47:=Tryz.func131.trans (congrArg some (by kernel_rfl))
 f48:=Tryz.func132.trans (congrArg some (by kernel_rfl))
 f49:=⟨Tryz.f133.name,by decide,Tryz.func133.trans (congrArg some (by kernel_rfl))⟩
 f50:=⟨Tryz.f134.name,by decide,Tryz.func134.trans (congrArg some (by kernel_rfl))⟩
 f57:=⟨Tryz.f158.name,by decide,Tryz.func158.trans (congrArg some (by kernel_rfl))⟩
 t0:=Tryz.underlying0
 a0:=Tryz.isAgg0
 z0:=Tryz.sizeOf0
 v0:=Tryz.zeroValue0
 t3:=Tryz.underlying3
 a3:=Tryz.isAgg3
 z3:=Tryz.sizeOf3
 v3:=Tryz.zeroValue3
 t4:=Tryz.underlying4
 a4:=Tryz.isAgg4
 z4:=Tryz.sizeOf4
 v4:=Tryz.zeroValue4
 t5:=Tryz.underlying5
 a5:=Tryz.isAgg5
 z5:=Tryz.sizeOf5
 v5:=Tryz.zeroValue5
 t9:=Tryz.underlying9
 a9:=Tryz.isAgg9
 z9:=Tryz.sizeOf9
 v9:=Tryz.zeroValue9
 t22:=Tryz.underlying34
 a22:=Tryz.isAgg34
 z22:=Tryz.sizeOf34
 v22:=Tryz.zeroValue34
 t25:=Tryz.underlying92
 a25:=Tryz.isAgg92
 z25:=Tryz.sizeOf92
 v25:=Tryz.zeroValue92
 t39:=Tryz.underlying126
 a39:=Tryz.isAgg126
 z39:=Tryz.sizeOf126
 v39:=Tryz.zeroValue126
 t45:=Tryz.underlying166
 a45:=Tryz.isAgg166
 z45:=Tryz.sizeOf166
 v45:=Tryz.zeroValue166
 t46:=Tryz.underlying167
 a46:=Tryz.isAgg167
 z46:=Tryz.sizeOf167
 v46:=Tryz.zeroValue167
 t50:=Tryz.underlying171
 a50:=Tryz.isAgg171
 z50:=Tryz.sizeOf171
 v50:=Tryz.zeroValue171
 t53:=Tryz.underlying174
 a53:=Tryz.isAgg174
 z53:=Tryz.sizeOf174
 v53:=Tryz.zeroValue174
 t55:=Tryz.underlying176
 a55:=Tryz.isAgg176
 z55:=Tryz.sizeOf176
 v55:=Tryz.zeroValue176
 t66:=Tryz.underlying209
 a66:=Tryz.isAgg209
 z66:=Tryz.sizeOf209
 v66:=Tryz.zeroValue209
 t70:=Tryz.underlying213
 a70:=Tryz.isAgg213
 z70:=Tryz.sizeOf213
 v70:=Tryz.zeroValue213
 t76:=Tryz.underlying246
 a76:=Tryz.isAgg246
 z76:=Tryz.sizeOf246
 v76:=Tryz.zeroValue246
 t77:=Tryz.underlying247
 a77:=Tryz.isAgg247
 z77:=Tryz.sizeOf247
 v77:=Tryz.zeroValue247 }
end
section
open Go.RowKit Go.Shelf Go.Sort
abbrev FaS (w:World)(B:Nat):Type:={ z:Ft×SlT // ∀W,Kb (fun b=>b≠B) w W→GS hopE W (slV z.2) z.1.2.2 }
theorem some_S (w:World)(B:Nat):Nonempty (Inhabited (FaS w B)):=⟨⟨⟨((0,ByteArray.empty,[]),(none,0,0)),fun W _=>GS.nil W⟩⟩⟩
section
variable {w:World}{B:Nat}
def encS (x:FaS w B):List Value:=ftE.c x.1
def cfS (x y:FaS w B):Int:=cmF x.1.1.1 y.1.1.1 x.1.1.2.1 y.1.1.2.1 x.1.1.2.2 y.1.1.2.2
theorem lt_S (x y:FaS w B):ltOf cfS x y=faL x.1.1 y.1.1:=by
 have h:=(co_fate x.1.1 y.1.1).1;unfold ltOf cfS;cases e:faL x.1.1 y.1.1
 ·refine decide_eq_false (fun h2=>?_);have:=h.1 h2;rw[e] at this;cases this
 exact decide_eq_true (h.2 e)
theorem swo_S:SWO (ltOf (cfS (w:=w) (B:=B))) where
 irrefl x:=by rw[lt_S];exact lo_fate.irr _
 trans x y z h1 h2:=by rw[lt_S] at *;exact lo_fate.tr _ _ _ h1 h2
 ntrans x y z h1 h2:=by
  rw[lt_S] at *;cases e:faL x.1.1 z.1.1
  ·rfl
  cases e2:faL z.1.1 y.1.1
  ·have e3:=lo_fate.tot _ _ h2 e2;rw[e3,e] at h1;cases h1
  have e3:=lo_fate.tr _ _ _ e e2;rw[h1] at e3;cases e3
end
theorem kb_sort {α:Type}[Inhabited α](enc:α→List Value)(k:Nat)(w:World)(B off m:Nat)(dk:Array α)(os:Array Obj):Kb (fun b=>b≠B) w (sortWorldK enc k w B off m dk os):=by
 refine⟨rfl,rfl,rfl,size_sortWorldK_c enc k w B off m dk os,fun j hj hne=>?_⟩;unfold sortWorldK;show ((putRowK enc k (Sort.ahead w m) B off dk).heap++os)[j]?=_;have hs:(putRowK enc k (Sort.ahead w m) B off dk).heap.size=w.heap.size:=size_putRowK enc k (Sort.ahead w m) B off dk;rw[Array.getElem?_append_left (by rw[hs];exact hj)];show ((w.heap).modify B _)[j]?=_;rw[Array.getElem?_modify,if_neg (Ne.symm hne)]
theorem get_some (l:List Value)(i:Nat)(h:i<l.length):l[i]?=some l[i]! := by
 rw[List.getElem?_eq_getElem h,getElem!_pos l i h]
section
variable {w:World}{B:Nat}[Inhabited (FaS w B)]
theorem holds_S {e base cap:Nat}{Z:List (Ft×SlT)}(ho:w.ownsRow base e 3 (.slice (some ⟨B,0,none⟩) Z.length cap) Z.length (cellsG ftE Z))(d:Array (FaS w B))(hd:d.toList.map (fun x=>x.1)=Z):HoldsK encS 3 w B 0 d:=by
 intro j hj;rw[size_flatK] at hj;have hs:d.size=Z.length:=by rw[←hd];simp
 refine⟨?_,?_⟩
 ·rw[Nat.zero_add,ho.cellAt j (by rw[←hs];exact hj),get_flatK _ _ _ _ hj];have hi:j / 3<Z.length:=by omega
  have hm:j % 3<ftE.n:=Nat.mod_lt _ (by decide);have h1:=cellsG_at (E:=ftE) Z (j / 3) hi (j % 3) hm;have e1:j / 3*ftE.n+j % 3=j:=by show j / 3*3+j % 3=j;omega
  rw[e1] at h1;rw[h1];have e2:Z[j / 3]=d[j / 3]!.1:=by
   subst hd;rw[getElem!_pos d (j / 3) (by omega)];simp
  rw[e2,get_some _ _ (by rw[ftE.len];exact hm)];rfl
 rw[Nat.zero_add];exact ho.frozenAt j
theorem gs_S {W:World}{cap:Nat}(d:Array (FaS w B))(hH:HoldsK encS 3 W B 0 d)(hc:d.size≤cap)(hx:cap≤maxLen):GS ftE W (.slice (some ⟨B,0,none⟩) d.size cap) (d.toList.map (fun x=>x.1)):=by
 refine .inr ⟨B,0,cap,by simp,by simpa using hc,hx,fun i hi j u hu=>?_⟩;have hi2:i<d.size:=by simpa using hi
 have hj:j<3:=by
  have:=(List.getElem?_eq_some_iff.1 hu).1;rw[ftE.len] at this;exact this
 have h:=(hH.cell (i:=i) (c:=j) hi2 hj).1;have e2:(d.toList.map (fun x=>x.1))[i]=d[i]!.1:=by
  rw[getElem!_pos d i hi2];simp
 rw[e2] at hu;show W.cell? ⟨B,0+i*3+j,none⟩=some u;rw[h];have e3:=get_some (ftE.c d[i]!.1) j (by rw[ftE.len];exact hj);rw[hu] at e3;exact e3.symm
theorem pair_S (d:Array (FaS w B))(h:SortedIn (ltOf cfS) 0 d.size d):(d.toList.map (fun x=>x.1.1)).Pairwise fun a b=>faL b a=false:=by
 rw[List.pairwise_iff_getElem];intro i j hi hj hij;have hi2:i<d.size:=by simpa using hi
 have hj2:j<d.size:=by simpa using hj
 have h1:=h i j (Nat.zero_le _) hij hj2;rw[lt_S,getElem!_pos d i hi2,getElem!_pos d j hj2] at h1;simpa using h1
end
theorem sort_fates (B cap base e:Nat)(Z:List (Ft×SlT))(w:World)(ho:w.ownsRow base e 3 (.slice (some ⟨B,0,none⟩) Z.length cap) Z.length (cellsG ftE Z))(hz:∀z∈Z,∀W,Kb (fun b=>b≠B) w W→GS hopE W (slV z.2) z.1.2.2)(hl:Z.length≤16777216):
 Calls Tryz.prog 29 #[.slice (some ⟨B,0,none⟩) Z.length cap,.func (Fn.func 30) #[] #[]] w fun e' w'=>e'=.returned (.tuple #[])∧(∃D,D.Perm (Z.map Prod.fst)∧D.Pairwise (fun a b=>faL b a=false)∧FTs w' (.slice (some ⟨B,0,none⟩) Z.length cap) D)∧Kb (fun b=>b≠B) w w':=by
 obtain⟨inh⟩:=some_S w B;obtain⟨d,hd⟩:∃d:Array (FaS w B),d.toList.map (fun x=>x.1)=Z:=by
  have key:∀(Y:List (Ft×SlT)),(∀z∈Y,∀W,Kb (fun b=>b≠B) w W→GS hopE W (slV z.2) z.1.2.2)→∃d:List (FaS w B),d.map (fun x=>x.1)=Y:=by
   intro Y
   induction Y with
   | nil=>exact fun _=>⟨[],rfl⟩
   | cons y r ih =>
     intro hy;obtain⟨d,hd⟩:=ih (fun z hz=>hy z (List.mem_cons_of_mem _ hz));exact⟨(⟨y,hy y List.mem_cons_self⟩:FaS w B) :: d,congrArg (List.cons y) hd⟩
  obtain⟨d,hd⟩:=key Z hz;exact⟨d.toArray,hd⟩
 have hs:d.size=Z.length:=by rw[←hd];simp
 have hH:=holds_S ho d hd;obtain⟨hcap,hmx⟩:Z.length≤cap∧cap≤maxLen:=by
  rcases ho.2 with ⟨h,_⟩ | ⟨g,c2,cur,e1,_,_,h1,h2,_⟩
  ·simp at h
  simp only[Value.slice.injEq] at e1;obtain⟨_,_,rfl⟩:=e1;exact⟨h1,h2⟩
 have hB:B<w.heap.size:=(World.ownsRow.lt ho B rfl).2;have hcmp:CmpLays Tryz.prog 30 #[] (encS (w:=w) (B:=B)) 3 cfS B 0 d.size w:=fun m os dk _ x y =>
  mix_order x.1.1.1 y.1.1.1 x.1.1.2.1 y.1.1.2.1 x.1.2.1 x.1.2.2.1 x.1.2.2.2 y.1.2.1 y.1.2.2.1 y.1.2.2.2 x.1.1.2.2 y.1.1.2.2 _ (x.2 _ (kb_sort _ _ _ _ _ _ _ _)) (y.2 _ (kb_sort _ _ _ _ _ _ _ _))
 have hcon:=AnyQ.slices_SortFunc sortFate 3 Tryz.isAgg77 Tryz.sizeOf77 (encS (w:=w) (B:=B)) (fun x=>ftE.len x.1) (fun x=>ftE.one x.1) cfS swo_S 30 #[] B 0 cap d w (enters_of Tryz.func30 (by kernel_rfl) rfl) hcmp hH hB (by rw[hs];omega);rw[hs] at hcon;refine Calls.mono (show Calls Tryz.prog 29 _ _ _ from hcon) ?_;rintro e' w' ⟨rfl,d',n,os,⟨p1,p2,p3⟩,hso,rfl⟩;refine⟨rfl,⟨d'.toList.map (fun x=>x.1.1),?_,pair_S d' (by rw[p1,hs];exact hso),d'.toList.map (fun x=>x.1),?_,by simp,?_⟩,kb_sort _ _ _ _ _ _ _ _⟩
 ·have e1:d'.extract 0 Z.length=d':=by rw[←hs,←p1];simp
  have e2:d.extract 0 Z.length=d:=by rw[←hs];simp
  rw[e1,e2] at p3;rw[←hd,List.map_map];exact p3.map _
 ·have h:=gs_S (cap:=cap) d' (holdsK_sortWorldK_c encS 3 w B 0 d d' n os hH hB p1) (by rw[p1,hs];exact hcap) hmx;rw[p1,hs] at h;exact h
 intro z hz2;obtain⟨x,_,rfl⟩:=List.mem_map.1 hz2;exact x.2 _ (kb_sort _ _ _ _ _ _ _ _)
end
section
open Go.RowKit Go.Shelf
def SeI (w:World)(B q:Nat)(L:List Ft)(k:Nat)(X:Nat→Prop)(A:World):Prop:=
 Below w.heap.size w A∧(∀b,X b→B≤b∧b<A.heap.size)∧∃v Z,Boxed A q 34 v∧A.ownsRow B 77 ftE.n v Z.length (cellsG ftE Z)∧Z.map Prod.fst=L.take k∧(∀g,v.ownBlock=some g→X g)∧∀z∈Z,A.ownsRow B 74 hopE.n (slV z.2) z.1.2.2.length (cellsG hopE z.1.2.2)∧∀g,(slV z.2).ownBlock=some g→X g
theorem SeI.kb {w:World}{B q:Nat}{L:List Ft}{k:Nat}{X:Nat→Prop}{A A':World}{p:Nat→Prop}(h:SeI w B q L k X A)(hk:Kb p A A')(hq:p q)(hw:∀b,b<w.heap.size→p b)(hX:∀b,X b→p b):SeI w B q L k X A':=by
 obtain⟨h1,h2,v,Z,h3,h4,h5,h6,h7⟩:=h;exact⟨h1.trans (hk.below h1.size hw),fun b hb=>⟨(h2 b hb).1,Nat.lt_of_lt_of_le (h2 b hb).2 hk.size⟩,v,Z,hk.boxed h3 hq,own_kb h4 hk (fun g e=>hX g (h6 g e)),h5,h6,fun z hz=>⟨own_kb (h7 z hz).1 hk (fun g e=>hX g ((h7 z hz).2 g e)),(h7 z hz).2⟩⟩
theorem FTs.kb {w w':World}{v:Value}{L:List Ft}{p:Nat→Prop}(h:FTs w v L)(hk:Kb p w w')(hp:∀q u,w.cell? q=some u→p q.block):FTs w' v L:=by
 obtain⟨Z,h1,h2,h3⟩:=h;exact⟨Z,h1.kb hk hp,h2,fun z hz=>(h3 z hz).kb hk hp⟩
theorem FTs.shut {w:World}{v:Value}{L:List Ft}{b:Nat}{ds:Option (List Deferred)}(h:FTs w v L)(hb:w.heap[b]?=some (.deferred ds))(o:Obj):FTs (w.putObj b o) v L:=
 h.kb (p:=fun k=>k≠b) ((Kb.refl _ _).putObj (fun _ hn=>hn rfl) o) (fun q u hq e=>by
  simp[World.cell?,e,hb] at hq)
theorem own_blk_lt {W:World}{B e size n:Nat}{v:Value}{xs:List Value}(h:W.ownsRow B e size v n xs){g:Nat}(hg:v.ownBlock=some g):B≤g∧g<W.heap.size:=World.ownsRow.lt h g hg
theorem hf_ne:74≠77:=by decide
theorem se_push {w:World}{B q:Nat}{L:List Ft}{k:Nat}{X:Nat→Prop}{A A5 A6:World}{v v':Value}{Z:List (Ft×SlT)}(hB:Below w.heap.size w A)(hX:∀b,X b→B≤b∧b<A.heap.size)(hq:Boxed A q 34 v)(ho:A.ownsRow B 77 ftE.n v Z.length (cellsG ftE Z))(hm:Z.map Prod.fst=L.take k)(hv:∀g,v.ownBlock=some g→X g)(hz:∀z∈Z,A.ownsRow B 74 hopE.n (slV z.2) z.1.2.2.length (cellsG hopE z.1.2.2)∧∀g,(slV z.2).ownBlock=some g→X g)
 (hqB:q<B) (hwq:w.heap.size≤q) (hBA:B≤A.heap.size) (x:Ft) (hx:L[k]?=some x) (h5:Below A.heap.size A A5) (y:SlT) (hy:A5.ownsRow A.heap.size 74 hopE.n (slV y) x.2.2.length (cellsG hopE x.2.2))
 (h6:A6.ownsRow B 77 ftE.n v' (Z++[(x,y)]).length (cellsG ftE (Z++[(x,y)]))) (hg:A5.grownBy A6 v.ownBlock) (hb:v'.ownBlock=v.ownBlock∨v'.ownBlock=some A5.heap.size):
 (∃X',SeI w B q L (k+1) X' (A6.setCell ⟨q,0,none⟩ v')∧∀b,X' b→X b∨A.heap.size≤b)∧∀p:Nat→Prop,(∀b,p b→b≠q∧¬X b)→Kb p A (A6.setCell ⟨q,0,none⟩ v'):=by
 have hvA:∀g,v.ownBlock=some g→B≤g∧g<A.heap.size:=fun g e=>hX g (hv g e)
 have k6:∀p:Nat→Prop,(∀b,p b→¬X b)→Kb p A A6:=fun p hp=>(Kb.of_below h5 (fun b hb _=>hb)).grown hg (fun r er _ hpr=>hp r hpr (hv r er))
 have hsz:A.heap.size≤A6.heap.size:=Nat.le_trans h5.size hg.size;have k7:∀p:Nat→Prop,(∀b,p b→b≠q∧¬X b)→Kb p A (A6.setCell ⟨q,0,none⟩ v'):=fun p hp=>(k6 p (fun b h=>(hp b h).2)).setCell (q:=⟨q,0,none⟩) (fun _ h=>(hp q h).1 rfl) _
 have hq6:Boxed A6 q 34 v:=(k6 (fun b=>b=q) (fun b e hb=>by subst e;have:=(hX b hb).1;omega)).boxed hq rfl;have hzr:∀z∈Z,A6.ownsRow B 74 hopE.n (slV z.2) z.1.2.2.length (cellsG hopE z.1.2.2):=fun z hz2=>by
  have h1:=(hz z hz2).1;exact (own_below h1 h5).kept hg (own_rows2 h1 ho hf_ne)
 have hyn:(slV y).ownBlock=none∨(slV y).ownBlock≠v.ownBlock:=by
  by_cases e:(slV y).ownBlock=v.ownBlock
  ·cases e2:v.ownBlock with
   | none=>exact .inl (e.trans e2)
   | some g =>
     have h1:=(own_blk_lt hy (e.trans e2)).1;have h2:=(hvA g e2).2;omega
  exact .inr e
 have hyr:=hy.kept hg hyn;have hs7:A6.heap.size≤(A6.setCell ⟨q,0,none⟩ v').heap.size:=((Kb.refl (fun _=>False) A6).setCell (q:=⟨q,0,none⟩) (fun _ h=>h) v').size;refine⟨⟨fun b=>X b∨v'.ownBlock=some b∨(slV y).ownBlock=some b,⟨?_,?_,v',Z++[(x,y)],hq6.set v',ownsRow_setCell_below h6 (a:=⟨q,0,none⟩) hqB _,?_,fun g e=>.inr (.inl e),?_⟩,?_⟩,k7⟩
 ·exact hB.trans ((k7 (fun b=>b<w.heap.size) (fun b hb=>⟨by omega,fun hx2=>by have:=(hX b hx2).1;omega⟩)).below hB.size (fun b hb=>hb))
 ·rintro b (hb | hb | hb)
  ·have:=hX b hb;exact⟨this.1,by omega⟩
  ·have:=own_blk_lt h6 hb;exact⟨this.1,by omega⟩
  have:=own_blk_lt hyr hb;exact⟨by omega,by omega⟩
 ·rw[List.map_append,hm,List.take_add_one,hx];rfl
 ·intro z hz2
  rcases List.mem_append.1 hz2 with hz2 | hz2
  ·exact⟨ownsRow_setCell_below (hzr z hz2) (a:=⟨q,0,none⟩) hqB _,fun g e=>.inl ((hz z hz2).2 g e)⟩
  obtain rfl:z=(x,y):=by simpa using hz2
  exact⟨ownsRow_setCell_below (own_mono hyr hBA) (a:=⟨q,0,none⟩) hqB _,fun g e=>.inr (.inr e)⟩
 rintro b (hb2 | hb2 | hb2)
 ·exact .inl hb2
 ·rcases hb with e | e
  ·exact .inl (hv b (e.symm.trans hb2))
  have h1:=e.symm.trans hb2;have h2:=h5.size;refine .inr ?_;injection h1 with h1;omega
 exact .inr (own_blk_lt hyr hb2).1
end
section
open Go.RowKit
def Nq (K:Act→World→Prop):Exit→Act→World→Prop
 | .normal,a,w=>K a w
 | _,_,_=>False
theorem nq_lets (K:Act→World→Prop):¬LetsOut (Nq K):=fun ⟨_,_,h⟩=>h
def noDefer (ops:Array Oper):Bool:=ops.all fun o=>match o.op with | .defer _=>false | _=>true
theorem noDefer_spec {ops:Array Oper}(h:noDefer ops=true){j:Nat}{o:Oper}(ho:ops[j]?=some o)(c:Call):o.op≠.defer c:=by
 intro e;unfold noDefer at h;rw[Array.all_eq_true] at h;obtain⟨hj,hv⟩:=Array.getElem?_eq_some_iff.1 ho;have:=h j hj;rw[hv,e] at this;cases this
section
variable {P:Program}{ops:Array Oper}{Q:Exit→Act→World→Prop}{md:Region.Mode}{S:World→Prop}{l n:Nat}
theorem rowsIn_round {row:String}{args:Array Value}{w:World}{R:Value→World→Prop}(h:Rows P row args w R):RowsIn (Fence.wide.inRound l) n P row args w R:=
 fun c cs _=>let ⟨v,w',r,s⟩:=h c cs;⟨v,w',r,stepsIn_wide.2 s⟩
theorem opIn_of_op (hd:noDefer ops=true)(hL:¬LetsOut Q){K:Act→World→Prop}{i:Nat}{a:Act}{w:World}(h:wpOp P ops Q i K a w):wpOpIn (Fence.wide.inRound l) n P ops Q i K a w:=by
 unfold wpOp at h;unfold wpOpIn;cases ho:ops[i]? with
 | none =>
   simp only[ho] at h ⊢;exact h
 | some o =>
   simp only[ho] at h ⊢;by_cases hw:Region.wanted o (yielded ops a.tmps)=true
   ·simp only[hw,if_true] at h ⊢
    rcases h with h | ⟨_,h⟩
    ·refine⟨fun f _=>trivial,?_⟩;rw[Fence.inRound_round,Oper.semAt_eq _ _ _ (noDefer_spec hd ho)];unfold Oper.wp at h
     generalize (execOp a.eval o).run P w=r at *
     cases r with
     | ok x w' =>
       cases x <;> simp only[Oper.upon,Oper.uponIn] at h ⊢ <;>
        first
         | exact h
         | exact⟨fun h=>(by cases h),CallsIn.inRound _ (callsIn_wide.2 h)⟩
         | exact⟨fun h=>(by cases h),rowsIn_round h⟩
     | halt x w'=>cases x <;> simp only[Oper.upon,Oper.uponIn] at h ⊢ <;> exact h
    exact absurd h hL
   simp only[hw] at h ⊢;exact⟨fun f _=>trivial,h⟩
theorem anyIn_of_any (hd:noDefer ops=true)(hL:¬LetsOut Q):∀(fuel:Nat) (listed:Array Bool) (a:Act) (w:World),wpAny P md ops Q fuel listed a w→wpAnyIn (Fence.wide.inRound l) n P md ops Q fuel listed a w
 | 0,_,_,_,h=>h
 | fuel+1,_,_,_,h=>⟨h.1,fun i hi=>opIn_of_op hd hL (wpOp_mono (fun a' w' h'=>anyIn_of_any hd hL fuel _ a' w' h') (h.2 i hi))⟩
theorem region_round {id:Nat}{a:Act}{w:World}(hm:P.follows .mixedOrders=true)(hd:noDefer ops=true)(hS:S w.drew)(h:S w.drew→wpAnyH P .any ops (Nq (Q .normal)) S ops.size (Array.replicate ops.size false) a w.drew):
 (Code.region id ops true).wpIn (Fence.wide.inRound l) n P Q a w:=
 wpIn_mono (wpIn_region_any hm (anyIn_of_any hd (nq_lets _) _ _ _ _ (wpAny_of_held _ _ _ _ (h hS)))) (fun e a w h=>by cases e <;> first | exact h | exact h.elim)
end
end
end Go.Proofs.YtglnnoglbieaeaaGreatDoor
