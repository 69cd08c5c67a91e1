/- Contracts and facts on the way to AgentOnce, joined into one text: StOp, StMsg, ItLaw, AgentKb, AgentPgI, AgentOnceMath, CcLink, ChangeOps, ClassTwo, StrClone, OwnInts, ChangeFresh. -/
import Derived.Test.YtcbapfgohocghaaDoorAgentOnceP3
namespace Go.Proofs.YtcbapfgohocghaaDoor
set_option linter.unusedSimpArgs false
set_option linter.unusedVariables false
set_option maxHeartbeats 16000000
set_option maxRecDepth 100000
open Go.Proofs.Tryd
open IntKind (i64)
section
open Go.ChangeShapes Go.WideShapes Go.ChangeAt Go.RowKit Go.Joins
def opE:Enc (Op8) where
 c:=fun x=>[.int i64 x.w,.bool x.a,.int i64 x.r.p,.int i64 x.r.m,.int i64 x.r.b,.int i64 x.r.o,.int i64 x.r.s,.int i64 x.r.v]
 n:=8
 len:=fun _=>rfl
 pos:=by decide
 one:=by
  intro x u hu;simp at hu
  rcases hu with rfl | rfl | rfl | rfl | rfl | rfl | rfl | rfl <;> rfl
theorem op_cells {w:World}{g o:Nat}{x0:Int}{x1:Bool}{x2 x3 x4 x5 x6 x7:Int}(h:VAt w g o (opE.c ⟨x0,x1,⟨x2,x3,x4,x5,x6,x7⟩⟩)):w.cell? ⟨g,o,none⟩=some (.int i64 x0)∧w.cell? ⟨g,o+1,none⟩=some (.bool x1)∧w.cell? ⟨g,o+2,none⟩=some (.int i64 x2)∧w.cell? ⟨g,o+3,none⟩=some (.int i64 x3)∧w.cell? ⟨g,o+4,none⟩=some (.int i64 x4)∧w.cell? ⟨g,o+5,none⟩=some (.int i64 x5)∧w.cell? ⟨g,o+6,none⟩=some (.int i64 x6)∧w.cell? ⟨g,o+7,none⟩=some (.int i64 x7):=
 ⟨h 0 _ rfl,h 1 _ rfl,h 2 _ rfl,h 3 _ rfl,h 4 _ rfl,h 5 _ rfl,h 6 _ rfl,h 7 _ rfl⟩
theorem op_at {w:World}{g o:Nat}{L:List (Op8)}(h:GAt opE w g o L){n k:Nat}(hn:L.length=n)(hk:k<n):
 ∃(x0:Int) (x1:Bool) (x2:Int) (x3:Int) (x4:Int) (x5:Int) (x6:Int) (x7:Int) (hl:k<L.length),L[k]=⟨x0,x1,⟨x2,x3,x4,x5,x6,x7⟩⟩∧w.cell? ⟨g,o+k*8,none⟩=some (.int i64 x0)∧w.cell? ⟨g,o+k*8+1,none⟩=some (.bool x1)∧w.cell? ⟨g,o+k*8+2,none⟩=some (.int i64 x2)∧w.cell? ⟨g,o+k*8+3,none⟩=some (.int i64 x3)∧w.cell? ⟨g,o+k*8+4,none⟩=some (.int i64 x4)∧w.cell? ⟨g,o+k*8+5,none⟩=some (.int i64 x5)∧w.cell? ⟨g,o+k*8+6,none⟩=some (.int i64 x6)∧w.cell? ⟨g,o+k*8+7,none⟩=some (.int i64 x7):=
 have hl:k<L.length:=by omega
 ⟨_,_,_,_,_,_,_,_,hl,rfl,op_cells (h k hl)⟩
theorem op_new (w:World)(x0:Int)(x1:Bool)(x2 x3 x4 x5 x6 x7:Int)(t:TypeId):VAt (w.alloc (.cells #[.int i64 x0,.bool x1,.int i64 x2,.int i64 x3,.int i64 x4,.int i64 x5,.int i64 x6,.int i64 x7] t)) w.heap.size 0 (opE.c ⟨x0,x1,⟨x2,x3,x4,x5,x6,x7⟩⟩):=vat_new w [.int i64 x0,.bool x1,.int i64 x2,.int i64 x3,.int i64 x4,.int i64 x5,.int i64 x6,.int i64 x7] t
def opB (a b:Op8):Bool:=(a.w==b.w)&&((a.a==b.a)&&((a.r.p==b.r.p)&&((a.r.m==b.r.m)&&((a.r.b==b.r.b)&&((a.r.o==b.r.o)&&((a.r.s==b.r.s)&&((a.r.v==b.r.v))))))))
theorem op_ways (x0:Int)(x1:Bool)(x2 x3 x4 x5 x6 x7 y0:Int)(y1:Bool)(y2 y3 y4 y5 y6 y7:Int):
 ((x0==y0)=false∧opB ⟨x0,x1,⟨x2,x3,x4,x5,x6,x7⟩⟩ ⟨y0,y1,⟨y2,y3,y4,y5,y6,y7⟩⟩=false) ∨
 ((x0==y0)=true∧(x1==y1)=false∧opB ⟨x0,x1,⟨x2,x3,x4,x5,x6,x7⟩⟩ ⟨y0,y1,⟨y2,y3,y4,y5,y6,y7⟩⟩=false) ∨
 ((x0==y0)=true∧(x1==y1)=true∧(x2==y2)=false∧opB ⟨x0,x1,⟨x2,x3,x4,x5,x6,x7⟩⟩ ⟨y0,y1,⟨y2,y3,y4,y5,y6,y7⟩⟩=false) ∨
 ((x0==y0)=true∧(x1==y1)=true∧(x2==y2)=true∧(x3==y3)=false∧opB ⟨x0,x1,⟨x2,x3,x4,x5,x6,x7⟩⟩ ⟨y0,y1,⟨y2,y3,y4,y5,y6,y7⟩⟩=false) ∨
 ((x0==y0)=true∧(x1==y1)=true∧(x2==y2)=true∧(x3==y3)=true∧(x4==y4)=false∧opB ⟨x0,x1,⟨x2,x3,x4,x5,x6,x7⟩⟩ ⟨y0,y1,⟨y2,y3,y4,y5,y6,y7⟩⟩=false) ∨
 ((x0==y0)=true∧(x1==y1)=true∧(x2==y2)=true∧(x3==y3)=true∧(x4==y4)=true∧(x5==y5)=false∧opB ⟨x0,x1,⟨x2,x3,x4,x5,x6,x7⟩⟩ ⟨y0,y1,⟨y2,y3,y4,y5,y6,y7⟩⟩=false) ∨
 ((x0==y0)=true∧(x1==y1)=true∧(x2==y2)=true∧(x3==y3)=true∧(x4==y4)=true∧(x5==y5)=true∧(x6==y6)=false∧opB ⟨x0,x1,⟨x2,x3,x4,x5,x6,x7⟩⟩ ⟨y0,y1,⟨y2,y3,y4,y5,y6,y7⟩⟩=false) ∨
 ((x0==y0)=true∧(x1==y1)=true∧(x2==y2)=true∧(x3==y3)=true∧(x4==y4)=true∧(x5==y5)=true∧(x6==y6)=true∧(x7==y7)=false∧opB ⟨x0,x1,⟨x2,x3,x4,x5,x6,x7⟩⟩ ⟨y0,y1,⟨y2,y3,y4,y5,y6,y7⟩⟩=false) ∨
 ((x0==y0)=true∧(x1==y1)=true∧(x2==y2)=true∧(x3==y3)=true∧(x4==y4)=true∧(x5==y5)=true∧(x6==y6)=true∧(x7==y7)=true∧opB ⟨x0,x1,⟨x2,x3,x4,x5,x6,x7⟩⟩ ⟨y0,y1,⟨y2,y3,y4,y5,y6,y7⟩⟩=true):=by
 have e:opB ⟨x0,x1,⟨x2,x3,x4,x5,x6,x7⟩⟩ ⟨y0,y1,⟨y2,y3,y4,y5,y6,y7⟩⟩=((x0==y0)&&((x1==y1)&&((x2==y2)&&((x3==y3)&&((x4==y4)&&((x5==y5)&&((x6==y6)&&((x7==y7))))))))):=rfl;rw[e];cases h0:(x0==y0)
 ·simp
 skip;cases h1:(x1==y1)
 ·simp
 skip;cases h2:(x2==y2)
 ·simp
 skip;cases h3:(x3==y3)
 ·simp
 skip;cases h4:(x4==y4)
 ·simp
 skip;cases h5:(x5==y5)
 ·simp
 skip;cases h6:(x6==y6)
 ·simp
 skip;cases h7:(x7==y7)
 ·simp
 skip;simp
theorem op_info:(Tryd.prog.info? 43).map (fun i=>(i.zero,i.size,i.bytes))=some (some (.agg #[.int i64 0,.bool false,.int i64 0,.int i64 0,.int i64 0,.int i64 0,.int i64 0,.int i64 0]),8,64):=by kernel_rfl
theorem op_zero:(Value.agg #[.int i64 0,.bool false,.int i64 0,.int i64 0,.int i64 0,.int i64 0,.int i64 0,.int i64 0]).cells.size=8:=by simp[Value.cells]
theorem op_open {H:Type}{enc:TypeId×Value→H}{W:World}{n:Nat}{cs:List Value}{x:DataW H×List MemPlace}
 (h:DataW.trod enc prog W 0 (fun _=>true) true n 43 cs=some x):∃y,cs=opE.c y:=by
 obtain⟨xs,k,_,_,hl,hlen,hf⟩:=DataW.trod_struct underlying43 h;have hC:Tryd.prog.cellsOf 43=8:=by kernel_rfl
 have hT0:Tryd.prog.cellsOf 3=1:=by kernel_rfl
 have hT1:Tryd.prog.cellsOf 4=1:=by kernel_rfl
 have hT2:Tryd.prog.cellsOf 41=6:=by kernel_rfl
 rw[hC] at hl
 match cs,hl with
 | [c0,c1,c2,c3,c4,c5,c6,c7],_ =>
   match xs,hlen with
   | [z0,z1,z2],_ =>
     have g0:=hf 0 _ rfl;have g1:=hf 1 _ rfl;have g2:=hf 2 _ rfl;simp[hT0,hT1,hT2] at g0 g1 g2;obtain⟨v0,e0,_,_⟩:=DataW.trod_int underlying3 g0;obtain⟨v1,e1,_⟩:=DataW.trod_bool underlying4 g1;obtain⟨s2,e2⟩:=rl_open g2;simp[rlE] at e0 e1 e2;refine⟨⟨v0,v1,⟨s2.p,s2.m,s2.b,s2.o,s2.s,s2.v⟩⟩,?_⟩;simp[opE,e0,e1,e2]
theorem ops_of {H:Type}{enc:TypeId×Value→H}{W:World}{base:Nat}{v:Value}{d:DataW H}{p:List MemPlace}
 (hv:Value.okWide prog W .any base 24 v) (h:DataW.Trod enc prog W 0 (fun _=>true) true 24 v d p):∃L,GS opE W v L:=
 gs_of (E:=opE) 24 43 underlying24 (by kernel_rfl) ⟨0,false,⟨0,0,0,0,0,0⟩⟩ (fun _ _ _ h=>op_open h) hv h
def msgE:Enc (Mg) where
 c:=fun x=>[.int i64 x.k,.int i64 x.s,.int i64 x.r,.int i64 x.i,.int i64 x.o.w,.bool x.o.a,.int i64 x.o.r.p,.int i64 x.o.r.m,.int i64 x.o.r.b,.int i64 x.o.r.o,.int i64 x.o.r.s,.int i64 x.o.r.v]
 n:=12
 len:=fun _=>rfl
 pos:=by decide
 one:=by
  intro x u hu;simp at hu
  rcases hu with rfl | rfl | rfl | rfl | rfl | rfl | rfl | rfl | rfl | rfl | rfl | rfl <;> rfl
theorem msg_cells {w:World}{g o:Nat}{x0 x1 x2 x3 x4:Int}{x5:Bool}{x6 x7 x8 x9 x10 x11:Int}(h:VAt w g o (msgE.c ⟨x0,x1,x2,x3,⟨x4,x5,⟨x6,x7,x8,x9,x10,x11⟩⟩⟩)):w.cell? ⟨g,o,none⟩=some (.int i64 x0)∧w.cell? ⟨g,o+1,none⟩=some (.int i64 x1)∧w.cell? ⟨g,o+2,none⟩=some (.int i64 x2)∧w.cell? ⟨g,o+3,none⟩=some (.int i64 x3)∧w.cell? ⟨g,o+4,none⟩=some (.int i64 x4)∧w.cell? ⟨g,o+5,none⟩=some (.bool x5)∧w.cell? ⟨g,o+6,none⟩=some (.int i64 x6)∧w.cell? ⟨g,o+7,none⟩=some (.int i64 x7)∧w.cell? ⟨g,o+8,none⟩=some (.int i64 x8)∧w.cell? ⟨g,o+9,none⟩=some (.int i64 x9)∧w.cell? ⟨g,o+10,none⟩=some (.int i64 x10)∧w.cell? ⟨g,o+11,none⟩=some (.int i64 x11):=
 ⟨h 0 _ rfl,h 1 _ rfl,h 2 _ rfl,h 3 _ rfl,h 4 _ rfl,h 5 _ rfl,h 6 _ rfl,h 7 _ rfl,h 8 _ rfl,h 9 _ rfl,h 10 _ rfl,h 11 _ rfl⟩
theorem msg_new (w:World)(x0 x1 x2 x3 x4:Int)(x5:Bool)(x6 x7 x8 x9 x10 x11:Int)(t:TypeId):VAt (w.alloc (.cells #[.int i64 x0,.int i64 x1,.int i64 x2,.int i64 x3,.int i64 x4,.bool x5,.int i64 x6,.int i64 x7,.int i64 x8,.int i64 x9,.int i64 x10,.int i64 x11] t)) w.heap.size 0 (msgE.c ⟨x0,x1,x2,x3,⟨x4,x5,⟨x6,x7,x8,x9,x10,x11⟩⟩⟩):=vat_new w [.int i64 x0,.int i64 x1,.int i64 x2,.int i64 x3,.int i64 x4,.bool x5,.int i64 x6,.int i64 x7,.int i64 x8,.int i64 x9,.int i64 x10,.int i64 x11] t
theorem msg_row (w:World)(x0 x1 x2 x3 x4:Int)(x5:Bool)(x6 x7 x8 x9 x10 x11:Int)(t:TypeId):GS msgE (w.alloc (.cells #[.int i64 x0,.int i64 x1,.int i64 x2,.int i64 x3,.int i64 x4,.bool x5,.int i64 x6,.int i64 x7,.int i64 x8,.int i64 x9,.int i64 x10,.int i64 x11] t)) (.slice (some ⟨w.heap.size,0,none⟩) 1 1) [⟨x0,x1,x2,x3,⟨x4,x5,⟨x6,x7,x8,x9,x10,x11⟩⟩⟩]:=gs_one (E:=msgE) w ⟨x0,x1,x2,x3,⟨x4,x5,⟨x6,x7,x8,x9,x10,x11⟩⟩⟩ t (vs:=[.int i64 x0,.int i64 x1,.int i64 x2,.int i64 x3,.int i64 x4,.bool x5,.int i64 x6,.int i64 x7,.int i64 x8,.int i64 x9,.int i64 x10,.int i64 x11]) rfl
def msgB (a b:Mg):Bool:=(a.k==b.k)&&((a.s==b.s)&&((a.r==b.r)&&((a.i==b.i)&&((a.o.w==b.o.w)&&((a.o.a==b.o.a)&&((a.o.r.p==b.o.r.p)&&((a.o.r.m==b.o.r.m)&&((a.o.r.b==b.o.r.b)&&((a.o.r.o==b.o.r.o)&&((a.o.r.s==b.o.r.s)&&((a.o.r.v==b.o.r.v))))))))))))
theorem msg_ways (x0 x1 x2 x3 x4:Int)(x5:Bool)(x6 x7 x8 x9 x10 x11 y0 y1 y2 y3 y4:Int)(y5:Bool)(y6 y7 y8 y9 y10 y11:Int):
 ((x0==y0)=false∧msgB ⟨x0,x1,x2,x3,⟨x4,x5,⟨x6,x7,x8,x9,x10,x11⟩⟩⟩ ⟨y0,y1,y2,y3,⟨y4,y5,⟨y6,y7,y8,y9,y10,y11⟩⟩⟩=false) ∨
 ((x0==y0)=true∧(x1==y1)=false∧msgB ⟨x0,x1,x2,x3,⟨x4,x5,⟨x6,x7,x8,x9,x10,x11⟩⟩⟩ ⟨y0,y1,y2,y3,⟨y4,y5,⟨y6,y7,y8,y9,y10,y11⟩⟩⟩=false) ∨
 ((x0==y0)=true∧(x1==y1)=true∧(x2==y2)=false∧msgB ⟨x0,x1,x2,x3,⟨x4,x5,⟨x6,x7,x8,x9,x10,x11⟩⟩⟩ ⟨y0,y1,y2,y3,⟨y4,y5,⟨y6,y7,y8,y9,y10,y11⟩⟩⟩=false) ∨
 ((x0==y0)=true∧(x1==y1)=true∧(x2==y2)=true∧(x3==y3)=false∧msgB ⟨x0,x1,x2,x3,⟨x4,x5,⟨x6,x7,x8,x9,x10,x11⟩⟩⟩ ⟨y0,y1,y2,y3,⟨y4,y5,⟨y6,y7,y8,y9,y10,y11⟩⟩⟩=false) ∨
 ((x0==y0)=true∧(x1==y1)=true∧(x2==y2)=true∧(x3==y3)=true∧(x4==y4)=false∧msgB ⟨x0,x1,x2,x3,⟨x4,x5,⟨x6,x7,x8,x9,x10,x11⟩⟩⟩ ⟨y0,y1,y2,y3,⟨y4,y5,⟨y6,y7,y8,y9,y10,y11⟩⟩⟩=false) ∨
 ((x0==y0)=true∧(x1==y1)=true∧(x2==y2)=true∧(x3==y3)=true∧(x4==y4)=true∧(x5==y5)=false∧msgB ⟨x0,x1,x2,x3,⟨x4,x5,⟨x6,x7,x8,x9,x10,x11⟩⟩⟩ ⟨y0,y1,y2,y3,⟨y4,y5,⟨y6,y7,y8,y9,y10,y11⟩⟩⟩=false) ∨
 ((x0==y0)=true∧(x1==y1)=true∧(x2==y2)=true∧(x3==y3)=true∧(x4==y4)=true∧(x5==y5)=true∧(x6==y6)=false∧msgB ⟨x0,x1,x2,x3,⟨x4,x5,⟨x6,x7,x8,x9,x10,x11⟩⟩⟩ ⟨y0,y1,y2,y3,⟨y4,y5,⟨y6,y7,y8,y9,y10,y11⟩⟩⟩=false) ∨
 ((x0==y0)=true∧(x1==y1)=true∧(x2==y2)=true∧(x3==y3)=true∧(x4==y4)=true∧(x5==y5)=true∧(x6==y6)=true∧(x7==y7)=false∧msgB ⟨x0,x1,x2,x3,⟨x4,x5,⟨x6,x7,x8,x9,x10,x11⟩⟩⟩ ⟨y0,y1,y2,y3,⟨y4,y5,⟨y6,y7,y8,y9,y10,y11⟩⟩⟩=false) ∨
 ((x0==y0)=true∧(x1==y1)=true∧(x2==y2)=true∧(x3==y3)=true∧(x4==y4)=true∧(x5==y5)=true∧(x6==y6)=true∧(x7==y7)=true∧(x8==y8)=false∧msgB ⟨x0,x1,x2,x3,⟨x4,x5,⟨x6,x7,x8,x9,x10,x11⟩⟩⟩ ⟨y0,y1,y2,y3,⟨y4,y5,⟨y6,y7,y8,y9,y10,y11⟩⟩⟩=false) ∨
 ((x0==y0)=true∧(x1==y1)=true∧(x2==y2)=true∧(x3==y3)=true∧(x4==y4)=true∧(x5==y5)=true∧(x6==y6)=true∧(x7==y7)=true∧(x8==y8)=true∧(x9==y9)=false∧msgB ⟨x0,x1,x2,x3,⟨x4,x5,⟨x6,x7,x8,x9,x10,x11⟩⟩⟩ ⟨y0,y1,y2,y3,⟨y4,y5,⟨y6,y7,y8,y9,y10,y11⟩⟩⟩=false) ∨
 ((x0==y0)=true∧(x1==y1)=true∧(x2==y2)=true∧(x3==y3)=true∧(x4==y4)=true∧(x5==y5)=true∧(x6==y6)=true∧(x7==y7)=true∧(x8==y8)=true∧(x9==y9)=true∧(x10==y10)=false∧msgB ⟨x0,x1,x2,x3,⟨x4,x5,⟨x6,x7,x8,x9,x10,x11⟩⟩⟩ ⟨y0,y1,y2,y3,⟨y4,y5,⟨y6,y7,y8,y9,y10,y11⟩⟩⟩=false) ∨
 ((x0==y0)=true∧(x1==y1)=true∧(x2==y2)=true∧(x3==y3)=true∧(x4==y4)=true∧(x5==y5)=true∧(x6==y6)=true∧(x7==y7)=true∧(x8==y8)=true∧(x9==y9)=true∧(x10==y10)=true∧(x11==y11)=false∧msgB ⟨x0,x1,x2,x3,⟨x4,x5,⟨x6,x7,x8,x9,x10,x11⟩⟩⟩ ⟨y0,y1,y2,y3,⟨y4,y5,⟨y6,y7,y8,y9,y10,y11⟩⟩⟩=false) ∨
 ((x0==y0)=true∧(x1==y1)=true∧(x2==y2)=true∧(x3==y3)=true∧(x4==y4)=true∧(x5==y5)=true∧(x6==y6)=true∧(x7==y7)=true∧(x8==y8)=true∧(x9==y9)=true∧(x10==y10)=true∧(x11==y11)=true∧msgB ⟨x0,x1,x2,x3,⟨x4,x5,⟨x6,x7,x8,x9,x10,x11⟩⟩⟩ ⟨y0,y1,y2,y3,⟨y4,y5,⟨y6,y7,y8,y9,y10,y11⟩⟩⟩=true):=by
 have e:msgB ⟨x0,x1,x2,x3,⟨x4,x5,⟨x6,x7,x8,x9,x10,x11⟩⟩⟩ ⟨y0,y1,y2,y3,⟨y4,y5,⟨y6,y7,y8,y9,y10,y11⟩⟩⟩=((x0==y0)&&((x1==y1)&&((x2==y2)&&((x3==y3)&&((x4==y4)&&((x5==y5)&&((x6==y6)&&((x7==y7)&&((x8==y8)&&((x9==y9)&&((x10==y10)&&((x11==y11))))))))))))):=rfl;rw[e];cases h0:(x0==y0)
 ·simp
 skip;cases h1:(x1==y1)
 ·simp
 skip;cases h2:(x2==y2)
 ·simp
 skip;cases h3:(x3==y3)
 ·simp
 skip;cases h4:(x4==y4)
 ·simp
 skip;cases h5:(x5==y5)
 ·simp
 skip;cases h6:(x6==y6)
 ·simp
 skip;cases h7:(x7==y7)
 ·simp
 skip;cases h8:(x8==y8)
 ·simp
 skip;cases h9:(x9==y9)
 ·simp
 skip;cases h10:(x10==y10)
 ·simp
 skip;cases h11:(x11==y11)
 ·simp
 skip;simp
theorem msg_eq (x0 x1 x2 x3 x4:Int)(x5:Bool)(x6 x7 x8 x9 x10 x11 y0 y1 y2 y3 y4:Int)(y5:Bool)(y6 y7 y8 y9 y10 y11:Int)(w:World):(Op.equal 50 (.agg #[.int i64 x0,.int i64 x1,.int i64 x2,.int i64 x3,.int i64 x4,.bool x5,.int i64 x6,.int i64 x7,.int i64 x8,.int i64 x9,.int i64 x10,.int i64 x11]) (.agg #[.int i64 y0,.int i64 y1,.int i64 y2,.int i64 y3,.int i64 y4,.bool y5,.int i64 y6,.int i64 y7,.int i64 y8,.int i64 y9,.int i64 y10,.int i64 y11])).run prog w=.ok (msgB ⟨x0,x1,x2,x3,⟨x4,x5,⟨x6,x7,x8,x9,x10,x11⟩⟩⟩ ⟨y0,y1,y2,y3,⟨y4,y5,⟨y6,y7,y8,y9,y10,y11⟩⟩⟩) w:=by
 unfold Op.equal Op.maxDepth;rw[run_equalIn_struct w 9999 _ _ _ (by kernel_rfl) (by kernel_rfl)]
 rcases msg_ways x0 x1 x2 x3 x4 x5 x6 x7 x8 x9 x10 x11 y0 y1 y2 y3 y4 y5 y6 y7 y8 y9 y10 y11 with ⟨e0,e⟩ | ⟨e0,e1,e⟩ | ⟨e0,e1,e2,e⟩ | ⟨e0,e1,e2,e3,e⟩ | ⟨e0,e1,e2,e3,e4,e⟩ | ⟨e0,e1,e2,e3,e4,e5,e⟩ | ⟨e0,e1,e2,e3,e4,e5,e6,e⟩ | ⟨e0,e1,e2,e3,e4,e5,e6,e7,e⟩ | ⟨e0,e1,e2,e3,e4,e5,e6,e7,e8,e⟩ | ⟨e0,e1,e2,e3,e4,e5,e6,e7,e8,e9,e⟩ | ⟨e0,e1,e2,e3,e4,e5,e6,e7,e8,e9,e10,e⟩ | ⟨e0,e1,e2,e3,e4,e5,e6,e7,e8,e9,e10,e11,e⟩ | ⟨e0,e1,e2,e3,e4,e5,e6,e7,e8,e9,e10,e11,e⟩
 all_goals
  rw[e];go_simp
end
section
open Go.RowKit Go.Shelf
structure Kb (p:Nat→Prop)(w w':World):Prop where
 os:w'.os=w.os
 tape:w'.tape=w.tape
 output:w'.output=w.output
 size:w.heap.size≤w'.heap.size
 block:∀k,k<w.heap.size→p k→w'.heap[k]?=w.heap[k]?
theorem Kb.refl (p:Nat→Prop)(w:World):Kb p w w:=⟨rfl,rfl,rfl,nLQ _,fun _ _ _=>rfl⟩
theorem Kb.trans {p:Nat→Prop}{a b c:World}(h:Kb p a b)(k:Kb p b c):Kb p a c:=
 ⟨k.os.trans h.os,k.tape.trans h.tape,k.output.trans h.output,Nat.le_trans h.size k.size,fun i hi hx=>(k.block i (Nat.lt_of_lt_of_le hi h.size) hx).trans (h.block i hi hx)⟩
theorem Kb.mono {p q:Nat→Prop}{w w':World}(h:Kb p w w')(hq:∀b,b<w.heap.size→q b→p b):Kb q w w':=⟨h.os,h.tape,h.output,h.size,fun k hk hx=>h.block k hk (hq k hk hx)⟩
theorem Kb.of_below {p:Nat→Prop}{n₀:Nat}{w w':World}(h:Below n₀ w w')(hp:∀b,b<w.heap.size→p b→b<n₀):Kb p w w':=⟨h.os,h.tape,h.output,h.size,fun k hk hx=>h.block k (hp k hk hx)⟩
theorem Kb.below {p:Nat→Prop}{n₀:Nat}{w w':World}(h:Kb p w w')(hn:n₀≤w.heap.size)(hp:∀b,b<n₀→p b):Below n₀ w w':=⟨h.os,h.tape,h.output,h.size,fun k hk=>h.block k (by omega) (hp k hk)⟩
theorem Kb.drew {p:Nat→Prop}{a w:World}(h:Kb p a w):Kb p a w.drew:=⟨h.os,h.tape,h.output,h.size,h.block⟩
theorem Kb.alloc {p:Nat→Prop}{a w:World}(h:Kb p a w)(o:Obj):Kb p a (w.alloc o):=
 h.trans (Kb.of_below ((Below.refl w.heap.size w).alloc (nLQ _) o) (fun b hb _=>hb))
theorem Kb.setCell {p:Nat→Prop}{a w:World}(h:Kb p a w){q:Addr}(hq:q.block<a.heap.size→¬p q.block)(v:Value):Kb p a (w.setCell q v):=by
 refine⟨h.os,h.tape,h.output,?_,fun k hk hx=>(Below.heap_setCell w q v k ?_).trans (h.block k hk hx)⟩
 ·show a.heap.size≤(w.heap.modify _ _).size;rw[Array.size_modify];exact h.size
 intro e;subst e;exact hq hk hx
theorem Kb.grown {p:Nat→Prop}{a w w':World}{row:Option Nat}(h:Kb p a w)(hg:w.grownBy w' row)(hr:∀r,row=some r→r<a.heap.size→¬p r):Kb p a w':=
 ⟨hg.os.trans h.os,hg.tape.trans h.tape,hg.output.trans h.output,Nat.le_trans h.size hg.size,fun k hk hx=>(hg.block k (Nat.lt_of_lt_of_le hk h.size) (fun e=>hr k e.symm hk hx)).trans (h.block k hk hx)⟩
theorem Kb.cell {p:Nat→Prop}{w w':World}(h:Kb p w w'){q:Addr}(hl:q.block<w.heap.size)(hp:p q.block):w'.cell? q=w.cell? q:=World.cell?_of_block (w:=w) (h.block q.block hl hp)
theorem Kb.at {p:Nat→Prop}{w w':World}(h:Kb p w w'){q:Addr}{v:Value}(hc:w.cell? q=some v)(hp:p q.block):w'.cell? q=some v:=(h.cell (bLQ _ _ hc) hp).trans hc
theorem Kb.frozen {p:Nat→Prop}{w w':World}(h:Kb p w w'){q:Addr}(hl:q.block<w.heap.size)(hp:p q.block):w'.frozen? q=w.frozen? q:=by
 simp only[World.frozen?,h.block q.block hl hp]
end
section
open Go.RowKit
theorem own_kb {w w':World}{base e size n:Nat}{v:Value}{xs:List Value}{p:Nat→Prop}(h:w.ownsRow base e size v n xs)(hk:Kb p w w')(hp:∀b,v.ownBlock=some b→p b):w'.ownsRow base e size v n xs:=by
 refine⟨h.1,?_⟩;have hl:=h.lt
 rcases h.2 with hn | ⟨g,cap,cur,rfl,hb,hg,rest⟩
 ·exact .inl hn
 exact .inr ⟨g,cap,cur,rfl,hb,(hk.block g (hl g rfl).2 (hp g rfl)).trans hg,rest⟩
theorem SR.kb {w w':World}{x:SlT}{L:List Ru}{p:Nat→Prop}(h:SR w (slV x) L)(hk:Kb p w w')(hp:x.2.1=0∨∀ad,x.1=some ad→p ad.block):SR w' (slV x) L:=by
 obtain⟨ao,n,cap⟩:=x
 rcases h with ⟨ao',cap',e,rfl⟩ | ⟨g,o,cap',e,h1,h2,h3⟩
 ·exact .inl ⟨ao',cap',e,rfl⟩
 simp only[slV,Value.slice.injEq] at e;obtain⟨rfl,rfl,rfl⟩:=e;by_cases h0:L.length=0
 ·exact .inl ⟨_,_,by rw[slV,h0],List.length_eq_zero_iff.1 h0⟩
 have hq:p g:=by
  rcases hp with h4 | h4
  ·exact absurd h4 h0
  exact h4 _ rfl
 refine .inr ⟨g,o,cap,rfl,h1,h2,fun i hi=>?_⟩;obtain⟨c0,c1,c2,c3,c4,c5⟩:=h3 i hi;exact⟨hk.at c0 hq,hk.at c1 hq,hk.at c2 hq,hk.at c3 hq,hk.at c4 hq,hk.at c5 hq⟩
theorem gs_kb {α:Type}{E:Enc α}{W W':World}{ao:AdQ}{n c:Nat}{L:List α}{p:Nat→Prop}(h:GS E W (.slice ao n c) L)(hk:Kb p W W')(hp:∀ad,ao=some ad→p ad.block):GS E W' (.slice ao n c) L:=by
 rcases h with ⟨ao',cap',e,rfl⟩ | ⟨g,o,cap',e,h1,h2,h3⟩
 ·exact .inl ⟨ao',cap',e,rfl⟩
 cases e;have hq:p g:=hp ⟨g,o,none⟩ rfl;exact .inr ⟨g,o,c,rfl,h1,h2,fun i hi j u hu=>hk.at (h3 i hi j u hu) hq⟩
structure AgOK (a:AgT)(k:Nat):Prop where
 m:a.m.length=20
 y:∀y∈a.m,y≤1000
 l:a.l.length≤k
 d:a.d.length≤k
 t:tbN a.t=0
 r:∀q∈a.l,q.o.r.n=0
theorem ok_new {t:List Ru}(h:tbN t=0):AgOK (ag0 t) 0:=by
 refine⟨by simp[ag0],fun y hy=>?_,by simp[ag0],by simp[ag0],h,fun q hq=>by simp[ag0] at hq⟩;have:y = -1:=by
  have h1:y∈List.replicate 20 (-1:Int):=hy;exact (List.mem_replicate.1 h1).2
 omega
theorem AgOK.mono {a:AgT}{k k':Nat}(h:AgOK a k)(hk:k≤k'):AgOK a k':=⟨h.m,h.y,Nat.le_trans h.l hk,Nat.le_trans h.d hk,h.t,h.r⟩
theorem ok_hr {a:AgT}{k:Nat}{n:Int}{m:Mg}(h:AgOK a k):AgOK (hrS n a m) (k+1):=by
 unfold hrS
 split
 ·next hc =>
  have hz:=hr_zero.1 hc.1;have hR:=mg_rng.1 (mg_1 hz.1).1
  split
  ·split
   ·refine⟨by rw[List.length_set];exact h.m,fun y hy=>?_,Nat.le_succ_of_le h.l,Nat.le_succ_of_le h.d,h.t,h.r⟩
    rcases List.mem_or_eq_of_mem_set hy with h1 | rfl
    ·exact h.y y h1
    omega
   exact h.mono (Nat.le_succ k)
  next h2 =>
  split
  ·exact h.mono (Nat.le_succ k)
  refine⟨h.m,h.y,by have:=h.l;simp;omega,Nat.le_succ_of_le h.d,h.t,fun q hq=>?_⟩
  rcases List.mem_append.1 hq with h1 | h1
  ·exact h.r q h1
  rw[List.mem_singleton] at h1;subst h1;exact ((mg_1 hz.1).2.1 (by omega)).1
 exact h.mono (Nat.le_succ k)
theorem ok_wk {a:AgT}{k:Nat}(h:AgOK a k):AgOK (wkS a) (k+1):=by
 unfold wkS
 split
 ·exact h.mono (Nat.le_succ k)
 refine⟨h.m,h.y,Nat.le_succ_of_le h.l,by have:=h.d;simp;omega,?_,h.r⟩;show tbN (wkTab a.t _)=0;unfold wkTab
 split
 ·next h1=>exact al_right _ _ h.t h1
 exact h.t
def HrG (Pg:World→Nat→Nat→(Nat→Prop)→Int→AgT→Prop)(vE:Int→Value)(w:World)(p B0:Nat)(O:Nat→Prop)(N:Int)(a':AgT)(E:Int)(l:List Mg)(e:Ending)(w':World):Prop:=
 ∃ a1 n1 c1,e=.returned (.tuple #[.slice a1 n1 c1,vE E])∧GS msgE w' (.slice a1 n1 c1) l∧(∀ad,a1=some ad→w.heap.size≤ad.block) ∧
   ∃O',Pg w' p B0 O' N a'∧(∀b,O' b→O b∨w.heap.size≤b)∧(∀ad,a1=some ad→¬O' ad.block)∧Kb (fun b=>¬O b) w w'
def nwN (n:Int)(t:List Ru):Int:=if 1≤n∧n≤6 then tbN t else 1
structure PgI (Pg:World→Nat→Nat→(Nat→Prop)→Int→AgT→Prop):Prop where
 kb:∀{W W':World} {p B0:Nat} {O:Nat→Prop} {n:Int} {a:AgT},Pg W p B0 O n a→Kb (fun b=>b<B0∨O b) W W'→Pg W' p B0 O n a
 lt:∀{W:World} {p B0:Nat} {O:Nat→Prop} {n:Int} {a:AgT},Pg W p B0 O n a→∀b,O b→B0≤b∧b<W.heap.size
 hear:∀{p B0:Nat} {O:Nat→Prop} {N:Int} {a:AgT} {k:Nat} (x0 x1 x2 x3 x4:Int) (x5:Bool) (x6 x7 x8 x9 x10 x11:Int) (w:World),Pg w p B0 O N a→AgOK a k→k≤1000 →
  Calls prog 8 #[.pointer (some ⟨p,0,none⟩),.agg #[.int i64 x0,.int i64 x1,.int i64 x2,.int i64 x3,.int i64 x4,.bool x5,.int i64 x6,.int i64 x7,.int i64 x8,.int i64 x9,.int i64 x10,.int i64 x11]] w fun e w' =>
   HrG Pg noV w p B0 O N (hrS N a ⟨x0,x1,x2,x3,⟨x4,x5,⟨x6,x7,x8,x9,x10,x11⟩⟩⟩) (hrN N ⟨x0,x1,x2,x3,⟨x4,x5,⟨x6,x7,x8,x9,x10,x11⟩⟩⟩) (hrA N a ⟨x0,x1,x2,x3,⟨x4,x5,⟨x6,x7,x8,x9,x10,x11⟩⟩⟩) e w'
 work:∀{p B0:Nat} {O:Nat→Prop} {N:Int} {a:AgT} {k:Nat} (w:World),Pg w p B0 O N a→AgOK a k→k≤1000 →
  Calls prog 13 #[.pointer (some ⟨p,0,none⟩)] w fun e w'=>HrG Pg noV w p B0 O N (wkS a) (wkN a) (wkA N a) e w'
 new:∀(n:Int) (ao:AdQ) (k c:Nat) (t:List Ru) (B0:Nat) (w:World),SR w (.slice ao k c) t→B0≤w.heap.size→(k=0∨∀ad,ao=some ad→ad.block<B0) →
  Calls prog 6 #[.int i64 n,.slice ao k c] w fun e w'=>∃v,e=.returned (.tuple #[v,noV (nwN n t)])∧Below w.heap.size w w'∧(nwN n t=0→∃p O,v=.pointer (some ⟨p,0,none⟩)∧Pg w' p B0 O n (ag0 t)∧∀b,O b→w.heap.size≤b)
 table:∀{p B0:Nat} {O:Nat→Prop} {N:Int} {a:AgT} {k:Nat} (w:World),Pg w p B0 O N a→AgOK a k→k≤1000 →
  Calls prog 11 #[.pointer (some ⟨p,0,none⟩)] w fun e w'=>∃a1 n1 c1,e=.returned (.slice a1 n1 c1)∧SR w' (.slice a1 n1 c1) a.t∧Below w.heap.size w w'
 done:∀{p B0:Nat} {O:Nat→Prop} {N:Int} {a:AgT} {k:Nat} (w:World),Pg w p B0 O N a→AgOK a k→k≤1000 →
  Calls prog 16 #[.pointer (some ⟨p,0,none⟩)] w fun e w'=>∃a1 n1 c1,e=.returned (.slice a1 n1 c1)∧GS inE w' (.slice a1 n1 c1) a.d∧Below w.heap.size w w'
 ready:∀{p B0:Nat} {O:Nat→Prop} {N:Int} {a:AgT} {k:Nat} (w:World),Pg w p B0 O N a→AgOK a k→k≤1000 →
  Calls prog 9 #[.pointer (some ⟨p,0,none⟩)] w fun e w'=>e=.returned (.int i64 (rdyN a))∧Below w.heap.size w w'
 heard:∀{p B0:Nat} {O:Nat→Prop} {N:Int} {a:AgT} {k:Nat} (r:Int) (w:World),Pg w p B0 O N a→AgOK a k→k≤1000 →
  Calls prog 12 #[.pointer (some ⟨p,0,none⟩),.int i64 r] w fun e w'=>e=.returned (.int i64 (hdN a.l r:Nat))∧Below w.heap.size w w'
def onK (l:List Op8)(xs:List Nat):List Kp:=xs.map fun (x:Nat)=>⟨3,(x:Int),l.getD x zeP⟩
def onS (t:List Ru)(l:List Op8)(xs:List Nat):AgT:=⟨t,onK l xs,(List.replicate 20 (-1)).set 3 l.length,[]⟩
def askM (n:Int):Mg:=⟨2,1,3,n,zeP⟩
def doM (l:List Op8)(x:Nat):Mg:=⟨1,1,3,x,l.getD x zeP⟩
theorem zeP_q:oqB zeP zeP=true:=(oqB_iff _ _).2 rfl
theorem ask_fits {n:Int}(h0:0≤n)(h:n≤200):hrN 1 (askM n)=0:=by
 rw[hr_zero];refine⟨?_,rfl,by show (2:Int)≠3;decide⟩;unfold mgN;have h1:mgR (askM n)=true:=mg_rng.2 ⟨by show (1:Int)≤2∧(2:Int)≤3;decide,by show (1:Int)≤1∧(1:Int)≤6;decide,by show (0:Int)≤3∧(3:Int)≤19;decide,h0,h⟩;rw[if_pos h1];have h2:¬(askM n).k=1:=by show ¬(2:Int)=1;decide
 rw[if_neg h2];have:(askM n).o=zeP:=rfl;rw[this,zeP_q];rfl
theorem do_fits {l:List Op8}{x:Nat}(hx:x<l.length)(h:l.length≤200)(ho:∀o∈l,o.w=1∧o.r.n=0):hrN 1 (doM l x)=0:=by
 rw[hr_zero];refine⟨?_,rfl,by show (1:Int)≠3;decide⟩;have hm:l.getD x zeP∈l:=by
  rw[List.getD_eq_getElem?_getD,List.getElem?_eq_getElem hx];exact List.getElem_mem hx
 obtain⟨h1,h2⟩:=ho _ hm;unfold mgN;have h3:mgR (doM l x)=true:=mg_rng.2 ⟨by show (1:Int)≤1∧(1:Int)≤3;decide,by show (1:Int)≤1∧(1:Int)≤6;decide,by show (0:Int)≤3∧(3:Int)≤19;decide,by show (0:Int)≤(x:Int)∧(x:Int)≤200;omega⟩;rw[if_pos h3,if_pos (show (doM l x).k=1 from rfl)];unfold moN;rw[if_pos (show (doM l x).o.r.n=0 from h2),if_pos (show (doM l x).o.w=(doM l x).s from h1)]
theorem on_ask {t:List Ru}{l:List Op8}(h:l.length≤200):hrS 1 (ag0 t) (askM l.length)=onS t l []∧hrA 1 (ag0 t) (askM l.length)=[]:=by
 have h1:hrN 1 (askM l.length)=0:=ask_fits (by omega) (by omega);have h2:doneK (ag0 t) (askM l.length).r=false:=rfl;refine⟨?_,?_⟩
 ·rw[hrS,if_pos ⟨h1,h2⟩,if_pos (show (askM (l.length:Int)).k=2 from rfl),if_pos (show manyK (ag0 t) (askM (l.length:Int)).r<0 from by show (-1:Int)<0;decide)];rfl
 rw[hrA,if_neg (by rintro⟨_,_,e⟩;rw[h2] at e;cases e)]
theorem on_has {l:List Op8}{xs:List Nat}{x:Nat}:hasK (onK l xs) 3 (x:Int)=true↔x∈xs:=by
 rw[hasK_iff];constructor
 ·rintro⟨k,hk,_,h2⟩;simp only[onK,List.mem_map] at hk;obtain⟨y,hy,rfl⟩:=hk;have:y=x:=Int.ofNat.inj (by simpa using h2);exact this ▸ hy
 intro h;exact⟨⟨3,x,l.getD x zeP⟩,List.mem_map.2 ⟨x,h,rfl⟩,rfl,rfl⟩
theorem on_do {t:List Ru}{l:List Op8}{xs:List Nat}{x:Nat}(hx:x<l.length)(h:l.length≤200)(ho:∀o∈l,o.w=1∧o.r.n=0)(hn:x ∉ xs):hrS 1 (onS t l xs) (doM l x)=onS t l (xs++[x]):=by
 have h1:=do_fits hx h ho;have h2:doneK (onS t l xs) (doM l x).r=false:=rfl;rw[hrS,if_pos ⟨h1,h2⟩,if_neg (show ¬(doM l x).k=2 from by show ¬(1:Int)=2;decide)];have h3:¬hasK (onS t l xs).l (doM l x).r (doM l x).i=true:=fun e=>hn (on_has.1 e)
 rw[if_neg h3];simp only[onS,onK,List.map_append,List.map_cons,List.map_nil];rfl
theorem on_heard (l:List Op8)(xs:List Nat):hdN (onK l xs) 3=xs.length:=by
 unfold hdN onK;rw[List.countP_map,List.countP_eq_length.2];intro x _;rfl
theorem on_manyNo (t:List Ru)(l:List Op8)(xs:List Nat){r:Nat}(hr:r<20)(h3:r≠3):manyK (onS t l xs) (r:Int) = -1:=by
 unfold manyK onS;simp only[Int.toNat_natCast];rw[List.getD_eq_getElem?_getD,List.getElem?_set_ne (Ne.symm h3),List.getElem?_replicate];rw[if_pos hr];rfl
theorem on_rdNo (a:AgT){r:Nat}(h:manyK a (r:Int) = -1):rdyB a (r:Int)=false:=by
 unfold rdyB;rw[h];simp
theorem rdTo_skip {a:AgT}:∀(k:Nat) {r:Nat},(∀j,r≤j→j<r+k→rdyB a (j:Int)=false)→rdyTo a r k = -1
 | 0,r,_=>rfl
 | k+1,r,h=>by
   rw[rdyTo,h r (nLQ _) (by omega),if_neg (by simp)];exact rdTo_skip k fun j h1 h2=>h j (by omega) (by omega)
theorem rdTo_at {a:AgT}:∀(d:Nat) {r k:Nat},d<k→(∀j,r≤j→j<r+d→rdyB a (j:Int)=false)→rdyB a ((r+d:Nat):Int)=true→rdyTo a r k=((r+d:Nat):Int)
 | 0,r,k+1,_,_,h=>by
   have h':rdyB a (r:Int)=true:=h;rw[rdyTo,if_pos h'];rfl
 | d+1,r,k+1,hk,hn,h=>by
   rw[rdyTo,hn r (nLQ _) (by omega),if_neg (by simp)];have:=rdTo_at d (r:=r+1) (k:=k) (by omega) (fun j h1 h2=>hn j (by omega) (by omega)) (by rw[show r+1+d=r+(d+1) by omega];exact h);rw[this,show r+1+d=r+(d+1) by omega]
theorem on_all {t:List Ru}{l:List Op8}{xs:List Nat}:rdyB (onS t l xs) 3=true↔∀x,x<l.length→x∈xs:=by
 have e:rdyB (onS t l xs) 3=allK (onK l xs) 3 l.length:=by
  show (true&&decide (0≤(l.length:Int))&&allK (onK l xs) 3 ((l.length:Int)).toNat)=_;simp
 rw[e,allK,List.all_eq_true];constructor
 ·intro h x hx;exact on_has.1 (h x (List.mem_range.2 hx))
 intro h x hx;exact on_has.2 (h x (List.mem_range.1 hx))
theorem on_ready {t:List Ru}{l:List Op8}{xs:List Nat}:rdyN (onS t l xs)=if (∀x,x<l.length→x∈xs) then 3 else -1:=by
 by_cases h:∀x,x<l.length→x∈xs
 ·rw[if_pos h];exact rdTo_at 3 (r:=0) (by decide) (fun j _ h2=>on_rdNo _ (on_manyNo t l xs (by omega) (by omega))) (on_all.2 h)
 rw[if_neg h];refine rdTo_skip 20 fun j _ h2=>?_
 by_cases h3:j=3
 ·subst h3;cases e:rdyB (onS t l xs) ((3:Nat):Int) with
  | false=>rfl
  | true=>exact absurd (on_all.1 e) h
 exact on_rdNo _ (on_manyNo t l xs (by omega) h3)
theorem on_op {l:List Op8}{xs:List Nat}{x:Nat}(h:x∈xs):opK (onK l xs) 3 (x:Int)=l.getD x zeP:=by
 unfold opK;cases e:(onK l xs).find? (kpB 3 (x:Int)) with
 | none =>
   exfalso
   rw[List.find?_eq_none] at e;have:=e ⟨3,x,l.getD x zeP⟩ (List.mem_map.2 ⟨x,h,rfl⟩);simp[kpB] at this
 | some k =>
   have h1:=List.find?_some e;have h2:=List.mem_of_find?_eq_some e;simp only[onK,List.mem_map] at h2;obtain⟨y,_,rfl⟩:=h2;have:y=x:=Int.ofNat.inj (by simpa[kpB] using h1);rw[this];rfl
theorem on_ops {t:List Ru}{l:List Op8}{xs:List Nat}(h:∀x,x<l.length→x∈xs):opsK (onS t l xs) 3=l:=by
 refine List.ext_getElem (by show ((List.range ((l.length:Int)).toNat).map _).length=_;simp) fun i h1 h2=>?_
 have e:(opsK (onS t l xs) 3)[i]=opK (onK l xs) 3 (i:Int):=by
  simp only[opsK,List.getElem_map,List.getElem_range];rfl
 rw[e,on_op (h i h2),List.getD_eq_getElem?_getD,List.getElem?_eq_getElem h2];rfl
def onD (t:List Ru)(l:List Op8)(xs:List Nat):AgT:=⟨wkTab t l,onK l xs,(List.replicate 20 (-1)).set 3 l.length,[3]⟩
theorem on_work {t:List Ru}{l:List Op8}{xs:List Nat}(h:∀x,x<l.length→x∈xs):wkN (onS t l xs)=0∧wkS (onS t l xs)=onD t l xs∧wkA 1 (onS t l xs)=[yesM 1 3]:=by
 have e:rdyN (onS t l xs)=3:=by rw[on_ready,if_pos h]
 refine⟨by rw[wkN,e];rfl,?_,by rw[wkA,e];rfl⟩;rw[wkS,e,if_neg (by decide),on_ops h];rfl
theorem on_none (t:List Ru)(l:List Op8)(xs:List Nat):wkN (onD t l xs)=6∧wkS (onD t l xs)=onD t l xs∧wkA 1 (onD t l xs)=[]:=by
 have e:rdyN (onD t l xs) = -1:=by
  refine rdTo_skip 20 fun j _ h2=>?_
  by_cases h3:j=3
  ·subst h3;rfl
  exact on_rdNo _ (on_manyNo t l xs (by omega) h3)
 exact⟨by rw[wkN,e];rfl,by rw[wkS,e];rfl,by rw[wkA,e];rfl⟩
theorem on_yes (t:List Ru)(l:List Op8)(xs:List Nat):hrN 1 (askM 7)=0∧hrA 1 (onD t l xs) (askM 7)=[yesM 1 3]:=by
 have h1:hrN 1 (askM 7)=0:=ask_fits (by decide) (by decide);exact⟨h1,by rw[hrA,if_pos ⟨h1,rfl,rfl⟩];rfl⟩
theorem do_rule {L:List Ru}{a:Bool}{r:Ru}(h:doN L a r=0):r.n=0:=by
 unfold doN at h;by_cases h1:tbN L=0
 ·rw[if_pos h1] at h;by_cases h2:r.n=0
  ·exact h2
  rw[if_neg h2] at h;exact absurd h h2
 rw[if_neg h1] at h;exact absurd h h1
theorem ca_one:∀{l:List Op8} {t:List Ru},(∀o∈l,o.w=1)→caN 1 [t] l=0→alN t l=0∧caT [t] l=[alL t l]∧∀o∈l,o.w=1∧o.r.n=0
 | [],t,_,_=>⟨rfl,rfl,fun o h=>by cases h⟩
 | o :: l,t,hw,h=>by
   obtain⟨h1,h2,h3⟩:=ca_cons h;have e1:o.w=1:=hw o (List.mem_cons_self ..);have et:taT [t] o.w=t:=by rw[e1];rfl
   rw[et] at h2 h3;have es:[t].set (o.w-1).toNat (doL t o.a o.r)=[doL t o.a o.r]:=by rw[e1];rfl
   rw[es] at h3;obtain⟨i1,i2,i3⟩:=ca_one (fun p hp=>hw p (List.mem_cons_of_mem _ hp)) h3;refine⟨by rw[alN,if_pos h2];exact i1,?_,?_⟩
   ·rw[caT,et,es,i2,alL,if_pos h2]
   intro p hp
   rcases List.mem_cons.1 hp with rfl | hp
   ·exact⟨e1,do_rule h2⟩
   exact i3 p hp
theorem lnk_grow_nil (n:Nat)(w:World)(hn:n≤1000):
 Calls prog 66 #[.slice none 0 0,.int i64 n] w fun e w'=>∃v,e=.returned v∧w'.ownsRow w.heap.size 117 4 v 0 []∧Below w.heap.size w w':=by
 have h1:¬((n:Int)<0):=by omega
 by_cases h0:n=0
 ·subst h0;go_enter func66,ntmps66;go_wp2;go_ret;exact⟨_,rfl,World.ownsRow_nil _ _ _ _,bRQ _ _⟩
 obtain⟨i0,hi,hz0,hz1,hz2⟩:=info_parts lnk_info;have h3:wrap64 ((n:Int)-0)=(n:Int):=by unfold wrap64;omega
 have h4:(n:Int) > 0:=by omega
 have hrz:∀ty,(Builtin.append_ #[31,3] ty #[.slice none 0 0,.int i64 n]).run prog w =
  .ok (.slice (some ⟨w.heap.size,0,none⟩) n (grownCap w n 0 117)) (w.drew.alloc (.cells (Builtin.zeroCells (Value.agg #[.int i64 0,.int i64 0,.int i64 0,.int i64 0]).cells n++Builtin.zeroCells (Value.agg #[.int i64 0,.int i64 0,.int i64 0,.int i64 0]).cells (grownCap w n 0 117-n)) 117)):=fun ty =>
  Lib.run_append_nil_zeros w 31 3 ty 117 i0 _ .i64 .i64 underlying31 underlying3 hi hz0 n (by omega) (by rw[hz1];decide) (by omega) (by rw[hz2];omega)
 have hGn:n≤grownCap w n 0 117:=grownCap_ge w _ _ _;have hGm:grownCap w n 0 117≤maxLen:=grownCap_le_maxLen w n 0 117 (by unfold maxLen;omega)
 generalize grownCap w n 0 117=G at *
 have HM:Hid (G≤maxLen):=hGm;have hG63:G≤9223372036854775807:=by unfold maxLen at hGm;omega
 have HO:Hid ((w.drew.alloc (.cells (Builtin.zeroCells (Value.agg #[.int i64 0,.int i64 0,.int i64 0,.int i64 0]).cells n++Builtin.zeroCells (Value.agg #[.int i64 0,.int i64 0,.int i64 0,.int i64 0]).cells (G-n)) 117)).ownsRow w.heap.size 117 4 (.slice (some ⟨w.heap.size,0,none⟩) 0 G) 0 []):=
  World.ownsRow_made w.drew _ G (nLQ _) HM.out (by
   simp only[Array.size_append,size_zeroCells,lnk_zero,←Nat.add_mul]
   congr 1
   omega)
 clear hGm;go_enter func66,ntmps66
 go_wp2_with (at_builtin;refine Lib.wpList_append_run _ rfl _ _ _ _ rfl _ _ rfl rfl _ _ (hrz _) ?_)
 all_goals (go_ret;exact⟨_,rfl,HO.out,((bRQ _ _).drew).alloc (nLQ _) _⟩)
def lnkPt (w:World)(g o:Nat)(Ls:List (LkQ)):Prop:=∀i (h:i<Ls.length),∃ao n cap,w.cell? ⟨g,o+i,none⟩=some (.slice ao n cap)∧GS lnkE w (.slice ao n cap) Ls[i]
theorem lnkPt.later {w w':World}{g o:Nat}{Ls:List (LkQ)}(h:lnkPt w g o Ls)(hb:Below w.heap.size w w'):lnkPt w' g o Ls:=fun i hi=>by
 obtain⟨ao,n,cap,h1,h2⟩:=h i hi;exact⟨ao,n,cap,cell_later hb h1,h2.later hb⟩
theorem lnk_flat_next {Ls:List (LkQ)}{k:Nat}(hk:k<Ls.length):(Ls.take (k+1)).flatten=(Ls.take k).flatten++Ls[k]:=by
 rw[List.take_succ_eq_append_getElem hk];simp only[List.flatten_append,List.flatten_cons,List.flatten_nil,List.append_nil]
theorem lnk_flat_le {Ls:List (LkQ)}(k:Nat):(Ls.take k).flatten.length≤Ls.flatten.length:=by
 have:Ls.flatten=(Ls.take k).flatten++(Ls.drop k).flatten:=by rw[←List.flatten_append,List.take_append_drop]
 rw[this,List.length_append];omega
theorem lnk_append (w:World){ops:Array Oper}{rest:List Oper}{o:Oper}{a:Act}{Q:Exit→Act→World→Prop}(hgd:o.guard=none)(s x:Operand)(t:TypeId)
 (ho:o.op=.call { callee:=.builtin .append,args:=#[s,x],argTypes:=#[t,t] }) (ht:Tryd.prog.underlying t=some (.slice 117)) (base:Nat)
 (v:Value) (hs:a.eval s=v) (L:LkQ) (hown:w.ownsRow base 117 4 v L.length (cellsG lnkE L)) (u:Value) (hx:a.eval x=u) (M:LkQ) (hM:GS lnkE w u M)
 (h100:L.length+M.length≤1000000) (hbase:base≤w.heap.size)
 (h:∀v' w',w'.ownsRow base 117 4 v' (L++M).length (cellsG lnkE (L++M))→w.grownBy w' v.ownBlock→wpList prog ops Q rest (a.put o.dst v') w'):wpList prog ops Q (o :: rest) a w:=by
 obtain⟨i0,hi,hz0,hz1,hz2⟩:=info_parts lnk_info;exact wpList_append_GS (E:=lnkE) w hgd s x t 117 ho ht i0 _ 32 hi hz0 hz1 hz2 lnk_zero base v hs L hown u hx M hM (by unfold maxLen;omega) (by omega) hbase h
theorem lnk_concat (g o m cap:Nat)(Ls:List (LkQ))(w:World)(hm:Ls.length=m)(hm2:m≤1000)(hc:lnkPt w g o Ls)(hs:Ls.flatten.length≤1000):
 Calls prog 52 #[.slice (some ⟨g,o,none⟩) m cap] w fun e w'=>∃v,e=.returned v∧w'.ownsRow w.heap.size 117 4 v Ls.flatten.length (cellsG lnkE Ls.flatten)∧Below w.heap.size w w':=by
 have HM:Hid (Ls.length=m):=hm;have HC:Hid (lnkPt w g o Ls):=hc;have HS:Hid (Ls.flatten.length≤1000):=hs;obtain⟨N,hN⟩:∃N,N=Ls.flatten.length:=⟨_,rfl⟩;have HN:Hid (N=Ls.flatten.length):=hN;have hN2:N≤1000:=by omega
 clear hm hc hs hN;go_enter func52,ntmps52
 go_upto_block 0 with fail
 go_cut [3] from 3 (fun z w'=>z=.int i64 (N:Int)∧w'=w)
 case first =>
  go_wp2
  go_loopw [3,11] (fun z i wr=>∃k:Nat,k≤m∧i=.int i64 k∧z=.int i64 ((Ls.take k).flatten.length:Int)∧wr=w) (fun _ i _=>m-(intOf i).toNat)
  case atStart=>exact⟨0,by omega,rfl,rfl,rfl⟩
  case round =>
   obtain⟨k,hk,rfl,rfl,rfl⟩:=hrel;by_cases hlt:k<m
   ·have hkl:k<Ls.length:=by rw[HM.out];exact hlt
    obtain⟨ao,n,cap2,q0,hsr⟩:=HC.out k hkl;have HT:Hid ((Ls.take (k+1)).flatten.length=(Ls.take k).flatten.length+n):=by
     show _=_;rw[lnk_flat_next hkl,List.length_append,hsr.len]
    have hb1:(Ls.take k).flatten.length+n≤1000:=by
     have h1:=lnk_flat_le (Ls:=Ls) (k+1);have h2:=HS.out;have h3:=HT.out;omega
    generalize (Ls.take k).flatten.length=z at *
    clear hsr;go_wp2;go_roundw
    case rel=>exact⟨k+1,by omega,by go_num,by rw[HT.out];go_num,by simp⟩
    case measure=>simp[intOf];omega
   obtain rfl:k=m:=by omega
   go_wp2_with fail
   go_meet
   case rel=>exact⟨by rw[←HM.out,List.take_length,HN.out],rfl⟩
 case rest =>
  obtain⟨rfl,rfl⟩:=hcut
  go_wp2_with fail
  refine (lnk_grow_nil N _ hN2).mono ?_;rintro e w1 ⟨v,rfl,hown,hB⟩;have HO:Hid (w1.ownsRow wc.heap.size 117 4 v 0 []):=hown;have HB:Hid (Below wc.heap.size wc w1):=hB;clear hown hB;go_wp2
  go_loopw [6,27] (fun u i wr=>∃k:Nat,k≤m∧i=.int i64 k∧wr.ownsRow wc.heap.size 117 4 u (Ls.take k).flatten.length (cellsG lnkE (Ls.take k).flatten)∧Below wc.heap.size wc wr) (fun _ i _=>m-(intOf i).toNat)
  case atStart=>exact⟨0,by omega,rfl,HO.out,HB.out⟩
  case round =>
   obtain⟨k,hk,rfl,hown,hB⟩:=hrel;have HOW:Hid (wr.ownsRow wc.heap.size 117 4 u6 (Ls.take k).flatten.length (cellsG lnkE (Ls.take k).flatten)):=hown;have HBW:Hid (Below wc.heap.size wc wr):=hB;clear hown;by_cases hlt:k<m
   ·have hkl:k<Ls.length:=by rw[HM.out];exact hlt
    obtain⟨ao,n,cap2,q0,hsr⟩:=(HC.out.later hB) k hkl;have HSR:Hid (GS lnkE wr (.slice ao n cap2) Ls[k]):=hsr;have HL1:Hid ((Ls.take k).flatten.length+Ls[k].length≤1000000):=by
     have h1:=lnk_flat_le (Ls:=Ls) (k+1);rw[lnk_flat_next hkl,List.length_append] at h1;have h2:=HS.out;show _≤_;omega
    clear hsr hB
    go_wp2_with (at_builtin;refine lnk_append _ rfl _ _ 31 rfl underlying31 wc.heap.size _ rfl _ HOW.out _ rfl _ HSR.out HL1.out HBW.out.size ?_)
    intro v' w3 hown3 hgrow;have HO5:Hid (w3.ownsRow wc.heap.size 117 4 v' (Ls.take (k+1)).flatten.length (cellsG lnkE (Ls.take (k+1)).flatten)):=by
     show w3.ownsRow _ _ _ _ _ _;rw[lnk_flat_next hkl,show ((Ls.take k).flatten++Ls[k]).length=(List.take k (List.map List.length Ls)).sum+Ls[k].length by simp];exact hown3
    have HB5:Hid (Below wc.heap.size wc w3):=HBW.out.grown hgrow HBW.out.size (fun g hg=>(HOW.out.lt g hg).1);clear hown3 hgrow q0;go_wp2;go_roundw
    case rel=>exact⟨k+1,by omega,by go_num,HO5.out,HB5.out⟩
    case measure=>simp[intOf];omega
   obtain rfl:k=m:=by omega
   go_wp2;go_ret;refine⟨_,rfl,?_,HBW.out⟩;have:=HOW.out;rw[←HM.out,List.take_length] at this;exact this
theorem ta_info:(Tryd.prog.info? 23).map (fun i=>(i.zero,i.size,i.bytes))=some (some (.slice none 0 0),1,24):=by kernel_rfl
theorem NR.sl {w:World}{B:Nat}{v:Value}{L:List Ru}(h:NR w B v L):∃x:SlT,v=slV x∧∀b,b<B→offB x b:=by
 rcases h.2 with ⟨rfl,h0⟩ | ⟨g,cap,cur,rfl,hg,_⟩
 ·exact⟨(none,0,0),rfl,fun b _=>.inl rfl⟩
 refine⟨(some ⟨g,0,none⟩,L.length,cap),rfl,fun b hb=>.inr fun a ha=>?_⟩;cases ha;show g≠b;omega
theorem below_grown {B:Nat}{w W:World}{row:Option Nat}(h:w.grownBy W row)(hB:B≤w.heap.size)(hr:∀k,row=some k→B≤k):Below B w W:=
 ⟨h.os,h.tape,h.output,h.size,fun k hk=>h.block k (by omega) (fun e=>by have:=hr k e.symm;omega)⟩
theorem step_append_blk {P:Program}{α:Type}{E:Enc α}(w:World){ops:Array Oper}{o:Oper}{a:Act}{K:Act→World→Prop}{Q:Exit→Act→World→Prop}{X:Prop}(hgd:o.guard=none)(s x:Operand)(t e:TypeId)
 (ho:o.op=.call { callee:=.builtin .append,args:=#[s,x],argTypes:=#[t,t] }) (ht:P.underlying t=some (.slice e)) (i:TypeInfo) (z:Value) (bytes:Nat) (hi:P.info? e=some i) (hz:i.zero=some z)
 (hsize:i.size=E.n) (hby:i.bytes=bytes) (hzs:z.cells.size=E.n) (base:Nat)
 (v:Value) (hs:a.eval s=v) (L:List α) (hown:w.ownsRow base e E.n v L.length (cellsG E L)) (g q c:Nat) (hx:a.eval x=.slice (some ⟨g,q,none⟩) 1 c) (y:α) (hM:VAt w g q (E.c y))
 (h63:L.length+1≤maxLen) (hbytes:(L.length+1)*bytes≤140737488355328) (hbase:base≤w.heap.size)
 (h:∀v' w',w'.ownsRow base e E.n v' (L++[y]).length (cellsG E (L++[y]))→w.grownBy w' v.ownBlock→v'.ownBlock=v.ownBlock∨v'.ownBlock=some w.heap.size→K (a.put o.dst v') w'):
 if Region.wanted o (yielded ops a.tmps)=true then Oper.wp P o a w K Q else X:=by
 have hw:Region.wanted o (yielded ops a.tmps)=true:=by simp[Region.wanted,hgd]
 rw[if_pos hw];have hG:GAt E w g q [y]:=by
  intro k hk;obtain rfl:k=0:=by simp at hk;omega
  simpa using hM
 have hc:=hG.cells;rw[cellsG_one] at hc;have hl:(E.c y).length=1*E.n:=by rw[E.len];omega
 obtain⟨v',w',hr,h2,h3,_⟩:=run_append_own (P:=P) w base t o.type e i z E.n bytes ht hi hz hsize hby hzs E.pos v _ _ hown ⟨g,q,none⟩ 1 c (E.c y) hl hc (E.one y) h63 hbytes hbase;have hb:=run_append_blk (P:=P) t o.type e i z ht hi hz v _ _ (by rw[hsize];exact hown) ⟨g,q,none⟩ c (E.c y) (by rw[hsize];exact hl) hc (E.one y) h63 (by rw[hby];exact hbytes) hr;unfold Oper.wp execOp;simp only[ho,resolve,invoke,builtin,Sem.run_bind,Sem.run_pure,Result.andThen_ok,List.map_toArray,List.map_cons,List.map_nil,hs,hx,hr];exact h v' w' (by rw[List.length_append,cellsG_app,cellsG_one];exact h2) h3 hb
section
variable {e1 e2:TypeId}{w W1 W1' W2 W2' Wf:World}{B:Nat}{v u v' u':Value}{vs us:List SlT}{Cs Ps:List (List Int)}
end
theorem infoByte:(Tryd.prog.info? 5).map (fun i=>(i.zero,i.size,i.bytes))=some (some (.int .u8 0),1,1):=by kernel_rfl
theorem liteClone (s:ByteArray)(w:World)(hlim:s.size≤1000000):
 Calls prog 67 #[.string s] w fun e w'=>e=.returned (.string s)∧Below w.heap.size w w':=by
 by_cases h0:s.size=0
 ·have hs:s=⟨#[]⟩:=by
   apply ByteArray.ext
   exact Array.eq_empty_of_size_eq_zero h0
  subst hs;go_enter func67,ntmps67;go_wp2;go_ret;exact⟨rfl,bRQ _ _⟩
 obtain⟨i0,hi,hz0,hz1,hz2⟩:=info_parts infoByte;have hinfo:(Tryd.prog.info? 5).map (·.size)=some 1:=by rw[hi];simp[hz1]
 have hco:Tryd.prog.cellsOf 5=1:=by simp[Program.cellsOf,hi,hz1]
 obtain⟨M,hM⟩:∃M,M=madeCells (Value.int .u8 0).cells (((s.size:Nat):Int).toNat*i0.size):=⟨_,rfl⟩;have hMs:M.size=s.size:=by rw[hM,size_madeCells,hz1];simp
 have hmk:(Instr.makeSlice 141 (.int i64 (s.size:Int)) (.int i64 (s.size:Int))).run prog w=.ok (.slice (some ⟨w.heap.size,0,none⟩) s.size s.size) (w.alloc (.cells M 5)):=by
  have h:=run_make (P:=prog) w 141 5 i0 (.int .u8 0) underlying141 hi hz0 .i64 .i64 (s.size:Int) (s.size:Int) (by omega) (by omega) (by rw[hz2];omega) (by omega);rw[←hM] at h;simpa using h
 clear hM;have hcp:=Lib.run_copy_row_string (P:=prog) (w.alloc (.cells M 5)) 141 9 3 5 w.heap.size 0 s.size s.size s M 5 underlying141 hinfo (heap_alloc_new w _) (nLQ _) (by omega);obtain⟨Y,hY⟩:∃Y,Y=(M.toList.take 0++Lib.byteCells s.data.toList++M.toList.drop (0+s.size)).toArray:=⟨_,rfl⟩;rw[←hY] at hcp;have hYl:Y.toList=Lib.byteCells s.data.toList:=by
  rw[hY,List.toList_toArray,List.take_zero,List.nil_append,List.drop_of_length_le (by rw[Array.length_toList];omega),List.append_nil]
 have hYs:Y.size=s.size:=by rw[←Array.length_toList,hYl,Lib.byteCells_length,←Lib.size_eq]
 have hgY:((w.alloc (.cells M 5)).setRow w.heap.size Y).heap[w.heap.size]?=some (.cells Y 5 (0,0)):=setRow_heap _ _ M _ 5 (0,0) (heap_alloc_new w _);have hne:s.data.toList≠[]:=fun e=>h0 (by rw[Lib.size_eq,e];rfl)
 have hUS:=Lib.run_unsafeString_row (P:=prog) ((w.alloc (.cells M 5)).setRow w.heap.size Y) 156 3 9 5 underlying156 hco w.heap.size Y.size (by unfold World.shape?;rw[hgY]) s.data.toList hne (by rw[←Lib.size_eq];omega) (by rw[←Lib.size_eq];omega)
  (fun j x hx=>Lib.cells_of_row hgY Y.size j _ (by rw[List.take_of_length_le (by rw[Array.length_toList];exact nLQ _),hYl];simp[Lib.byteCells,hx]))
 rw[←Lib.size_eq] at hUS;clear hY;go_enter func67,ntmps67;go_wp2;go_ret;have hb1:Below w.heap.size w (w.alloc (.cells M 5)):=(Below.refl _ w).alloc (nLQ _) _;have hb2:Below w.heap.size (w.alloc (.cells M 5)) ((w.alloc (.cells M 5)).setRow w.heap.size Y):=⟨rfl,rfl,rfl,by simp,fun k hk=>setRow_other _ _ _ _ (by omega)⟩;exact⟨rfl,Lib.below_freeze (hb1.trans hb2) (p:=⟨w.heap.size,0,none⟩) (nLQ _) _⟩
theorem clone_any (s:ByteArray)(w:World)(hlim:s.size≤1000000):
 Calls prog 53 #[.string s] w fun e w'=>e=.returned (.string s)∧Below w.heap.size w w':=by
 go_enter func53,ntmps53
 go_wp2_with fail
 refine (liteClone s _ hlim).mono ?_;rintro e w1 ⟨rfl,hb1⟩;go_wp2;go_ret;exact⟨rfl,hb1⟩
theorem own_form {w:World}{B e size n:Nat}{v:Value}{xs:List Value}(h:w.ownsRow B e size v n xs):∃ao cap,v=.slice ao n cap:=by
 rcases h.2 with ⟨rfl,rfl⟩ | ⟨g,cap,cur,rfl,_⟩
 ·exact⟨none,0,rfl⟩
 exact⟨_,cap,rfl⟩
structure WB (W:World)(g:Nat)(S:Int)(v1 v2 v3:Value):Prop where
 c:NeBox W g S v1 v2 v3
 f:∀c,W.frozen? ⟨g,c,none⟩=false
section
variable {W W':World}{g:Nat}{S:Int}{v1 v2 v3:Value}
theorem WB.lt (h:WB W g S v1 v2 v3):g<W.heap.size:=bLQ W ⟨g,0,none⟩ h.c.1
theorem WB.grown {row:Option Nat}(h:WB W g S v1 v2 v3)(hg:W.grownBy W' row)(hne:some g≠row):WB W' g S v1 v2 v3:=
 ⟨h.c.grown hg hne,fun c=>(World.frozen?_of_block (hg.block g h.lt hne)).trans (h.f c)⟩
theorem WB.later (h:WB W g S v1 v2 v3)(hb:Below W.heap.size W W'):WB W' g S v1 v2 v3:=h.grown (grown_below hb) (by simp)
theorem wb_new (w:World)(S:Int)(v1 v2 v3:Value)(t:TypeId):WB (w.alloc (.cells #[.int i64 S,v1,v2,v3] t)) w.heap.size S v1 v2 v3:=by
 refine⟨nebox_new w S v1 v2 v3 t,fun c=>?_⟩;have h:=heap_alloc_new w (Obj.cells #[.int i64 S,v1,v2,v3] t);simp only[World.frozen?,h];simp
theorem WB.set1 (h:WB W g S v1 v2 v3)(x:Value):WB (W.setCell ⟨g,1,none⟩ x) g S x v2 v3:=
 ⟨⟨(World.cell?_setCell_other _ _ _ _ (by simp)).trans h.c.1,World.cell?_setCell_same _ _ _ h.c.2.1,(World.cell?_setCell_other _ _ _ _ (by simp)).trans h.c.2.2.1,(World.cell?_setCell_other _ _ _ _ (by simp)).trans h.c.2.2.2⟩,fun c=>by rw[World.frozen?_setCell];exact h.f c⟩
theorem WB.set2 (h:WB W g S v1 v2 v3)(x:Value):WB (W.setCell ⟨g,2,none⟩ x) g S v1 x v3:=
 ⟨⟨(World.cell?_setCell_other _ _ _ _ (by simp)).trans h.c.1,(World.cell?_setCell_other _ _ _ _ (by simp)).trans h.c.2.1,World.cell?_setCell_same _ _ _ h.c.2.2.1,(World.cell?_setCell_other _ _ _ _ (by simp)).trans h.c.2.2.2⟩,fun c=>by rw[World.frozen?_setCell];exact h.f c⟩
theorem WB.set3 (h:WB W g S v1 v2 v3)(x:Value):WB (W.setCell ⟨g,3,none⟩ x) g S v1 v2 x:=
 ⟨⟨(World.cell?_setCell_other _ _ _ _ (by simp)).trans h.c.1,(World.cell?_setCell_other _ _ _ _ (by simp)).trans h.c.2.1,(World.cell?_setCell_other _ _ _ _ (by simp)).trans h.c.2.2.1,World.cell?_setCell_same _ _ _ h.c.2.2.2⟩,fun c=>by rw[World.frozen?_setCell];exact h.f c⟩
theorem NeBox.off {b i:Nat}{x:Value}(h:NeBox W g S v1 v2 v3)(hne:b≠g):NeBox (W.setCell ⟨b,i,none⟩ x) g S v1 v2 v3:=h.grown (grown_set W b i x) (by simp;omega)
theorem WB.off {b i:Nat}{x:Value}(h:WB W g S v1 v2 v3)(hne:b≠g):WB (W.setCell ⟨b,i,none⟩ x) g S v1 v2 v3:=h.grown (grown_set W b i x) (by simp;omega)
end
structure FB (W:World)(B:Nat)(S:Int)(v1 v2 v3:Value)(s:Int)(u1 u2 u3:Value):Prop where
 n:NeBox W B S v1 v2 v3
 r:WB W (B+1) 0 (.slice none 0 0) (.slice none 0 0) (.slice none 0 0)
 o:WB W (B+1+1) s u1 u2 u3
section
variable {W W':World}{B:Nat}{S:Int}{v1 v2 v3:Value}{s:Int}{u1 u2 u3:Value}
theorem FB.lt (h:FB W B S v1 v2 v3 s u1 u2 u3):B+1+1<W.heap.size:=h.o.lt
theorem FB.grown {row:Option Nat}(h:FB W B S v1 v2 v3 s u1 u2 u3)(hg:W.grownBy W' row)(hr:∀g,row=some g→B+1+1+1≤g):FB W' B S v1 v2 v3 s u1 u2 u3:=
 ⟨h.n.grown hg (fun e=>by have:=hr _ e.symm;omega),h.r.grown hg (fun e=>by have:=hr _ e.symm;omega),h.o.grown hg (fun e=>by have:=hr _ e.symm;omega)⟩
theorem FB.later (h:FB W B S v1 v2 v3 s u1 u2 u3)(hb:Below W.heap.size W W'):FB W' B S v1 v2 v3 s u1 u2 u3:=h.grown (grown_below hb) (fun g hg=>by cases hg)
theorem FB.set1 (h:FB W B S v1 v2 v3 s u1 u2 u3)(x:Value):FB (W.setCell ⟨B+1+1,1,none⟩ x) B S v1 v2 v3 s x u2 u3:=⟨h.n.off (by omega),h.r.off (by omega),h.o.set1 x⟩
theorem FB.set2 (h:FB W B S v1 v2 v3 s u1 u2 u3)(x:Value):FB (W.setCell ⟨B+1+1,2,none⟩ x) B S v1 v2 v3 s u1 x u3:=⟨h.n.off (by omega),h.r.off (by omega),h.o.set2 x⟩
theorem FB.set3 (h:FB W B S v1 v2 v3 s u1 u2 u3)(x:Value):FB (W.setCell ⟨B+1+1,3,none⟩ x) B S v1 v2 v3 s u1 u2 x:=⟨h.n.off (by omega),h.r.off (by omega),h.o.set3 x⟩
theorem fb_new (w:World)(S:Int)(v1 v2 v3:Value)(t:TypeId):FB (((w.alloc (.cells #[.int i64 S,v1,v2,v3] t)).alloc (.cells #[.int i64 0,.slice none 0 0,.slice none 0 0,.slice none 0 0] t)).alloc (.cells #[.int i64 S,.slice none 0 0,.slice none 0 0,.slice none 0 0] t)) w.heap.size S v1 v2 v3 S (.slice none 0 0) (.slice none 0 0) (.slice none 0 0):=by
 obtain⟨h1,h2⟩:=nn_new w S v1 v2 v3 0 (.slice none 0 0) (.slice none 0 0) (.slice none 0 0) t;have r0:=wb_new (w.alloc (.cells #[.int i64 S,v1,v2,v3] t)) 0 (.slice none 0 0) (.slice none 0 0) (.slice none 0 0) t;rw[World.size_alloc] at r0;have o0:=wb_new ((w.alloc (.cells #[.int i64 S,v1,v2,v3] t)).alloc (.cells #[.int i64 0,.slice none 0 0,.slice none 0 0,.slice none 0 0] t)) S (.slice none 0 0) (.slice none 0 0) (.slice none 0 0) t;rw[World.size_alloc,World.size_alloc] at o0;exact⟨h1.later ((bRQ _ _).alloc (nLQ _) _),r0.later ((bRQ _ _).alloc (nLQ _) _),o0⟩
end
theorem lnkPt1 {W:World}{a1:AdQ}{n1 c1:Nat}{L1:LkQ}(t:TypeId)(h1:GS lnkE W (.slice a1 n1 c1) L1):lnkPt (W.alloc (.cells #[.slice a1 n1 c1] t)) W.heap.size 0 [L1]:=by
 have hb:Below W.heap.size W (W.alloc (.cells #[.slice a1 n1 c1] t)):=(bRQ _ _).alloc (nLQ _) _;intro i hi
 match i,hi with
 | 0,_=>exact⟨a1,n1,c1,by simp,h1.later hb⟩
theorem fdrew {w w':World}(hb:Below w.drew.heap.size w.drew w'):Below w.heap.size w w':=(Below.drew (bRQ _ _)).trans hb
theorem falloc {w w':World}{o:Obj}(hb:Below (w.drew.alloc o).heap.size (w.drew.alloc o) w'):Below w.heap.size w w':=((Below.drew (bRQ _ _)).alloc (nLQ _) o).trans (hb.mono (by simp))
theorem row_kept {w w1 w2:World}{B e s n:Nat}{v:Value}{xs:List Value}(h:w.ownsRow B e s v n xs)(hb:Below w.heap.size w w1){row:Option Nat}(hg:w1.grownBy w2 row)(hr:v.ownBlock=none∨v.ownBlock≠row){b i:Nat}{x:Value}(hB:b<B):(w2.setCell ⟨b,i,none⟩ x).ownsRow B e s v n xs:=
 ((h.kept (grown_below hb) (none_or _)).kept hg hr).kept (grown_set w2 b i x) (.inr fun e=>by have:=(h.lt b e).1;omega)
theorem vat_sl {W:World}{g q:Nat}{y:SlT}(h:W.cell? ⟨g,q,none⟩=some (slV y)):VAt W g q (slE.c y):=by
 intro j u hu;obtain rfl:j=0:=by
  have:=(List.getElem?_eq_some_iff.1 hu).1;have e:(slE.c y).length=1:=rfl;omega
 have e4:slV y=u:=Option.some.inj hu;rw[Nat.add_zero,←e4];exact h
theorem fresh_any (S:Int)(ao:AdQ)(n cap:Nat)(ao2:AdQ)(n2 cap2:Nat)(ao3:AdQ)(n3 cap3:Nat)(Ls:LkQ)(Hs:HoQ)(Ts:TsQ)(w:World)
 (hL:GS lnkE w (.slice ao n cap) Ls) (hH:GS hstE w (.slice ao2 n2 cap2) Hs) (hT:TS w (.slice ao3 n3 cap3) Ts) (hN:ntN S Ls Hs Ts=0):
 Calls prog 28 #[.agg #[.int i64 S,.slice ao n cap,.slice ao2 n2 cap2,.slice ao3 n3 cap3]] w fun e w'=>∃b1 k1 d1 b2 k2 d2 b3 k3 d3 vs,e=.returned (.agg #[.int i64 S,.slice b1 k1 d1,.slice b2 k2 d2,.slice b3 k3 d3])∧w'.ownsRow w.heap.size 117 4 (.slice b1 k1 d1) Ls.length (cellsG lnkE Ls)∧w'.ownsRow w.heap.size 119 3 (.slice b2 k2 d2) Hs.length (cellsG hstE Hs)∧TR 23 w' 0 w.heap.size (.slice b3 k3 d3) vs Ts∧Below w.heap.size w w':=by
 obtain⟨t1,t2,t3⟩:=nt_0 hN;have HTP:Hid (tpN S Ls Hs=0):=t1;obtain⟨htp1,⟨htp2,htp3⟩,_⟩:=tp_0 t1;have HLL:Hid ([Ls].flatten.length≤1000):=by
  show _≤_;simp only[List.flatten_cons,List.flatten_nil,List.append_nil];omega
 have HOK:Hid (∀k,k<Ts.length→(Ts.getD k []).length≤12):=fun k hk=>(tb_iff.1 (t3 k hk)).1
 have HFB:=fb_new w S (.slice ao n cap) (.slice ao2 n2 cap2) (.slice ao3 n3 cap3) 37;have hb3:Below w.heap.size w (((w.alloc (.cells #[.int i64 S,.slice ao n cap,.slice ao2 n2 cap2,.slice ao3 n3 cap3] 37)).alloc (.cells #[.int i64 0,.slice none 0 0,.slice none 0 0,.slice none 0 0] 37)).alloc (.cells #[.int i64 S,.slice none 0 0,.slice none 0 0,.slice none 0 0] 37)):=(((bRQ _ _).alloc (nLQ _) _).alloc (by simp) _).alloc (by simp;omega) _;obtain⟨_,_,_,e,gn,gn2,gn3,ga⟩:=hH.form;cases e;obtain⟨_,_,_,e,hn,hn2,hn3,ha⟩:=hT.form;cases e;have HN2:Hid (Hs.length=n2):=gn;have HA2:Hid (0<n2→∃g o,ao2=some ⟨g,o,none⟩∧GAt hstE w g o Hs∧cap2≤maxLen):=ga;have HN3:Hid (Ts.length=n3):=hn;have HA3:Hid (0<n3→∃g o,ao3=some ⟨g,o,none⟩∧TAt w g o Ts∧cap3≤maxLen):=ha;have h28:n2≤8:=by omega
 have h36:n3≤6:=by omega
 have HPT:Hid (lnkPt ((((w.alloc (.cells #[.int i64 S,.slice ao n cap,.slice ao2 n2 cap2,.slice ao3 n3 cap3] 37)).alloc (.cells #[.int i64 0,.slice none 0 0,.slice none 0 0,.slice none 0 0] 37)).alloc (.cells #[.int i64 S,.slice none 0 0,.slice none 0 0,.slice none 0 0] 37)).alloc (.cells #[.slice ao n cap] 31)) (w.heap.size+1+1+1) 0 [Ls]):=by
  have h:=lnkPt1 31 (hL.later hb3);simp only[World.size_alloc] at h;exact h
 have HB3:Hid (Below w.heap.size w (((w.alloc (.cells #[.int i64 S,.slice ao n cap,.slice ao2 n2 cap2,.slice ao3 n3 cap3] 37)).alloc (.cells #[.int i64 0,.slice none 0 0,.slice none 0 0,.slice none 0 0] 37)).alloc (.cells #[.int i64 S,.slice none 0 0,.slice none 0 0,.slice none 0 0] 37))):=hb3;have HFB0:Hid (FB _ w.heap.size S (.slice ao n cap) (.slice ao2 n2 cap2) (.slice ao3 n3 cap3) S (.slice none 0 0) (.slice none 0 0) (.slice none 0 0)):=HFB;clear hL hH hT hN t1 t2 t3 htp1 htp2 htp3 HFB hb3 gn gn2 gn3 ga hn hn2 hn3 ha;go_enter func28,ntmps28
 go_wp2_with fail
 refine (lnk_concat _ 0 1 1 [Ls] _ rfl (by omega) HPT.out HLL.out).mono ?_;rintro e w5 ⟨v,rfl,hown,hb⟩;have hbB:Below (w.heap.size+1+1+1) (((w.alloc (.cells #[.int i64 S,.slice ao n cap,.slice ao2 n2 cap2,.slice ao3 n3 cap3] 37)).alloc (.cells #[.int i64 0,.slice none 0 0,.slice none 0 0,.slice none 0 0] 37)).alloc (.cells #[.int i64 S,.slice none 0 0,.slice none 0 0,.slice none 0 0] 37)) w5:=((bRQ _ _).alloc (by simp) _).trans (hb.mono (by simp));have hown2:w5.ownsRow (w.heap.size+1+1+1) 117 4 v Ls.length (cellsG lnkE Ls):=by
  have h:=own_mono hown (B':=w.heap.size+1+1+1) (by simp);simp only[List.flatten_cons,List.flatten_nil,List.append_nil] at h;exact h
 obtain⟨b1,m1,d1,rfl⟩:∃b1 m1 d1,v=.slice b1 m1 d1:=by
  obtain⟨a,c,h⟩:=own_form hown2;exact⟨a,_,c,h⟩
 have HF5:FB w5 w.heap.size S (.slice ao n cap) (.slice ao2 n2 cap2) (.slice ao3 n3 cap3) S (.slice none 0 0) (.slice none 0 0) (.slice none 0 0):=HFB0.out.later (by have h:=hbB;simpa only[World.size_alloc] using h);have HB6:Hid (Below w.heap.size w (w5.setCell ⟨w.heap.size+1+1,1,none⟩ (.slice b1 m1 d1))):=(HB3.out.trans (hbB.mono (by omega))).setCell (p:=⟨w.heap.size+1+1,1,none⟩) (show w.heap.size≤w.heap.size+1+1 by omega) _;have HF6:Hid (FB (w5.setCell ⟨w.heap.size+1+1,1,none⟩ (.slice b1 m1 d1)) w.heap.size S (.slice ao n cap) (.slice ao2 n2 cap2) (.slice ao3 n3 cap3) S (.slice b1 m1 d1) (.slice none 0 0) (.slice none 0 0)):=HF5.set1 _;have HL6:Hid ((w5.setCell ⟨w.heap.size+1+1,1,none⟩ (.slice b1 m1 d1)).ownsRow (w.heap.size+1+1+1) 117 4 (.slice b1 m1 d1) Ls.length (cellsG lnkE Ls)):=hown2.kept (grown_set w5 _ _ _) (.inr fun e=>by have:=(hown2.lt _ e).1;omega);obtain⟨p0,p1,p2,p3⟩:=HF5.n;obtain⟨q0,q1,q2,q3⟩:=HF5.o.c;have hlt5:=HF5.lt;have hlt50:w.heap.size<w5.heap.size:=by omega
 have f1:=HF5.o.f 1;clear HPT HB3 HFB0 hown hb hbB hown2 HF5;go_wp2
 go_loopw [24] (fun i wr=>∃(k:Nat) (u2:Value),k≤n2∧i=.int i64 k∧FB wr w.heap.size S (.slice ao n cap) (.slice ao2 n2 cap2) (.slice ao3 n3 cap3) S (.slice b1 m1 d1) u2 (.slice none 0 0)∧wr.ownsRow (w.heap.size+1+1+1) 119 3 u2 (Hs.take k).length (cellsG hstE (Hs.take k))∧wr.ownsRow (w.heap.size+1+1+1) 117 4 (.slice b1 m1 d1) Ls.length (cellsG lnkE Ls)∧Below w.heap.size w wr) (fun i _=>n2-(intOf i).toNat)
 case atStart=>exact⟨0,_,by omega,rfl,HF6.out,World.ownsRow_nil _ _ _ _,HL6.out,HB6.out⟩
 case round =>
  obtain⟨k,u2,hk,rfl,hF,hO,hLk,hB⟩:=hrel;clear HF6 HL6 HB6 p0 p1 p2 p3 q0 q1 q2 q3 hlt5 hlt50 f1;obtain⟨a5,m5,c5,rfl⟩:∃b1 m1 d1,u2=.slice b1 m1 d1:=by
   obtain⟨a,c,h⟩:=own_form hO;exact⟨a,_,c,h⟩
  have HB:Hid (Below w.heap.size w wr):=hB;have HF:Hid (FB wr w.heap.size S (.slice ao n cap) (.slice ao2 n2 cap2) (.slice ao3 n3 cap3) S (.slice b1 m1 d1) (.slice a5 m5 c5) (.slice none 0 0)):=hF;have HO:Hid (wr.ownsRow (w.heap.size+1+1+1) 119 3 (.slice a5 m5 c5) (Hs.take k).length (cellsG hstE (Hs.take k))):=hO;have HLK:Hid (wr.ownsRow (w.heap.size+1+1+1) 117 4 (.slice b1 m1 d1) Ls.length (cellsG lnkE Ls)):=hLk;have hltB:=hF.lt;have HLT:Hid (w.heap.size+1+1<wr.heap.size):=hltB;clear hO hLk;by_cases hlt:k<n2
  ·obtain⟨g,og,hao,hc,_⟩:=HA2.out (by omega);subst hao;obtain⟨y0,y1,y2,hkl,hHk,r0,r1,r2⟩:=hst_at (hc.later hB) HN2.out hlt;have HSZ:Hid (y0.size≤1000000):=by
    show _≤_;have h:=(tp_0 HTP.out).2.2.2.2.1 Hs[k] (List.getElem_mem hkl);rw[hHk] at h;have h2:=h.1;simp only[nmB,Bool.and_eq_true,decide_eq_true_eq] at h2;omega
   have kb0:(0:Int)≤(k:Int):=by omega
   have kb1:(k:Int)<(n2:Int):=by omega
   have HTK:Hid (Hs.take (k+1)=Hs.take k++[(y0,(y1,y2))]):=by
    show _=_;rw[List.take_succ_eq_append_getElem hkl,hHk]
   obtain⟨q0,q1,q2,q3⟩:=hF.o.c;have f2:=hF.o.f 2;obtain⟨j1,hj,hy0,hy1,hy2⟩:=info_parts hst_info;have HI1:Hid (Tryd.prog.info? 119=some j1):=hj;have HI2:Hid (j1.zero=some (.agg #[.string ByteArray.empty,.int i64 0,.int i64 0])):=hy0;have HI3:Hid (j1.size=3):=hy1;have HI4:Hid (j1.bytes=32):=hy2;obtain⟨wi,hwi⟩:∃W,W=wr.alloc (.cells #[.string y0,.int i64 y1,.int i64 y2] 119):=⟨_,rfl⟩;have hbi:Below wr.heap.size wr wi:=by rw[hwi];exact (bRQ _ _).alloc (nLQ _) _
   have HWI:Hid (wi.heap.size=wr.heap.size+1):=by
    show _=_;rw[hwi,World.size_alloc]
   have HKH:Hid (∀W,Below wi.heap.size wi W→W.cell? ⟨wr.heap.size,0,none⟩=some (.string y0)∧W.cell? ⟨wr.heap.size,1,none⟩=some (.int i64 y1)∧W.cell? ⟨wr.heap.size,2,none⟩=some (.int i64 y2)):=fun W hW=>by
    have h:=hst_new wr y0 y1 y2 119;rw[←hwi] at h;have h2:=hst_cells (h.later hW);simpa only[Nat.zero_add] using h2
   have HKF:Hid (∀W,Below wi.heap.size wi W→FB W w.heap.size S (.slice ao n cap) (.slice (some ⟨g,og,none⟩) n2 cap2) (.slice ao3 n3 cap3) S (.slice b1 m1 d1) (.slice a5 m5 c5) (.slice none 0 0)):=fun W hW=>(HF.out.later hbi).later hW
   have HKO:Hid (∀W,Below wi.heap.size wi W→W.ownsRow (w.heap.size+1+1+1) 119 3 (.slice a5 m5 c5) (Hs.take k).length (cellsG hstE (Hs.take k))):=fun W hW=>own_below (own_below HO.out hbi) hW
   have HOB:Hid (∀b,(Value.slice a5 m5 c5).ownBlock=some b→w.heap.size+1+1+1≤b∧b<wr.heap.size):=fun b hb=>HO.out.lt b hb
   have HLV1:Hid ((Hs.take k).length+1≤maxLen):=by
    show _≤_;rw[List.length_take];unfold maxLen;omega
   have HLV2:Hid (((Hs.take k).length+1)*32≤140737488355328):=by
    show _≤_;rw[List.length_take];omega
   have HFIN:Hid (∀w' w2 v5,Below wi.heap.size wi w'→w'.grownBy w2 (Value.slice a5 m5 c5).ownBlock→w2.ownsRow (w.heap.size+1+1+1) 119 3 v5 (Hs.take (k+1)).length (cellsG hstE (Hs.take (k+1))) →
    FB (w2.setCell ⟨w.heap.size+1+1,2,none⟩ v5) w.heap.size S (.slice ao n cap) (.slice (some ⟨g,og,none⟩) n2 cap2) (.slice ao3 n3 cap3) S (.slice b1 m1 d1) v5 (.slice none 0 0)∧(w2.setCell ⟨w.heap.size+1+1,2,none⟩ v5).ownsRow (w.heap.size+1+1+1) 119 3 v5 (Hs.take (k+1)).length (cellsG hstE (Hs.take (k+1)))∧(w2.setCell ⟨w.heap.size+1+1,2,none⟩ v5).ownsRow (w.heap.size+1+1+1) 117 4 (.slice b1 m1 d1) Ls.length (cellsG lnkE Ls)∧Below w.heap.size w (w2.setCell ⟨w.heap.size+1+1,2,none⟩ v5)):=by
    intro w' w2 v5 h1 h2 h3;have hb1:Below wr.heap.size wr w':=hbi.trans (h1.mono hbi.size);refine⟨((HKF.out w' h1).grown h2 (fun b hb=>(HOB.out b hb).1)).set2 v5,h3.kept (grown_set _ _ _ _) (.inr fun e=>by have:=(h3.lt _ e).1;omega),row_kept HLK.out hb1 h2 (own_apart HLK.out HO.out (by decide)) (by omega),?_⟩;have hb2:Below w.heap.size w w':=HB.out.trans (hb1.mono HB.out.size);exact (hb2.grown h2 hb2.size (fun b hb=>by have:=(HOB.out b hb).1;omega)).setCell (p:=⟨w.heap.size+1+1,2,none⟩) (show w.heap.size≤w.heap.size+1+1 by omega) _
   clear hc hB hHk hF hj hy0 hy1 hy2;go_upto_region 7 with fail;rw[←hwi];have HDR:Hid (Below wi.heap.size wi wi.drew):=Below.drew (bRQ _ _);have k2:=(HKF.out wi (bRQ _ _)).o.c.2.2.1;have kf2:=(HKF.out wi (bRQ _ _)).o.f 2;clear hwi r0 r1 r2 q0 q1 q2 q3 f2;obtain⟨i0,i1,i2⟩:=HKH.out wi (bRQ _ _)
   go_region_law (first
    | ((refine step_append_blk (E:=hstE) _ (by rfl) _ _ 32 119 (by rfl) underlying32 j1 _ 32 HI1.out HI2.out HI3.out HI4.out hst_zero (w.heap.size+1+1+1) (.slice a5 m5 c5) (by rfl) (Hs.take k) (HKO.out _ HBY.out) w'.heap.size 0 1 (by rfl) (y0,(y1,y2)) (hst_new w' y0 y1 y2 119) HLV1.out HLV2.out ?_ ?_;(focus (have:=HBY.out.size;have:=HWI.out;have:=HLT.out;omega));intro v5 w5 ho5 hg5 hb5;rw[←HTK.out] at ho5;obtain⟨a6,m6,c6,rfl⟩:∃b1 m1 d1,v5=Value.slice b1 m1 d1:=(by obtain⟨a,c,h⟩:=own_form ho5;exact⟨a,_,c,h⟩);have HG:Hid _:=HFIN.out _ _ _ HBY.out hg5 ho5;have z2:=((HKF.out _ HBY.out).grown hg5 (fun b hb=>(HOB.out b hb).1)).o.c.2.2.1;have zf2:=((HKF.out _ HBY.out).grown hg5 (fun b hb=>(HOB.out b hb).1)).o.f 2;clear ho5 hg5 hb5))
    | (go_simp;go_at_call 53;refine (clone_any y0 _ HSZ.out).mono ?_;rintro e w' ⟨rfl,hb⟩;have HBX:Hid (Below wi.heap.size wi w'):=fdrew hb;have HBY:Hid (Below wi.heap.size wi (w'.alloc (.cells #[.string y0,.int i64 y1,.int i64 y2] 119))):=HBX.out.alloc HBX.out.size _;have x2:=(HKF.out w' HBX.out).o.c.2.2.1;have xlt:=(HKF.out w' HBX.out).o.lt;obtain⟨x4,x5,x6⟩:=HKH.out w' HBX.out;clear hb;dsimp only))
   all_goals (clear k2 kf2 i0 i1 i2;go_wp2)
   all_goals go_roundw
   all_goals first
    | (simp[intOf];omega)
    | exact⟨k+1,_,by omega,by go_num,HG.out⟩
  obtain rfl:k=n2:=by omega
  have HO2:Hid (wr.ownsRow (w.heap.size+1+1+1) 119 3 (.slice a5 m5 c5) Hs.length (cellsG hstE Hs)):=by
   have h:=HO.out;rw[←HN2.out,List.take_length] at h;exact h
  obtain⟨p0,p1,p2,p3⟩:=hF.n;have hlt0:w.heap.size<wr.heap.size:=by omega
  clear hF hB HO HA2 HN2 HTP h28;go_wp2
  go_loopw [45] (fun i wr=>∃(j:Nat) (u3:Value) (vs:List SlT),j≤n3∧i=.int i64 j∧FB wr w.heap.size S (.slice ao n cap) (.slice ao2 k cap2) (.slice ao3 n3 cap3) S (.slice b1 m1 d1) (.slice a5 m5 c5) u3∧TR 23 wr 0 (w.heap.size+1+1+1) u3 vs (Ts.take j)∧wr.ownsRow (w.heap.size+1+1+1) 119 3 (.slice a5 m5 c5) Hs.length (cellsG hstE Hs)∧wr.ownsRow (w.heap.size+1+1+1) 117 4 (.slice b1 m1 d1) Ls.length (cellsG lnkE Ls)∧Below w.heap.size w wr) (fun i _=>n3-(intOf i).toNat)
  case atStart=>exact⟨0,_,[],by omega,rfl,HF.out,tr_nil _ _ _ _,HO2.out,HLK.out,HB.out⟩
  case round =>
   obtain⟨j,u3,vs,hk,rfl,hF,hTR,hO,hLk,hB⟩:=hrel;clear HF HO2 HLK HB HLT p0 p1 p2 p3 hlt0 hltB;obtain⟨a7,m7,c7,rfl⟩:∃b1 m1 d1,u3=.slice b1 m1 d1:=by
    obtain⟨a,c,h⟩:=own_form hTR.ov;exact⟨a,_,c,h⟩
   have HB:Hid (Below w.heap.size w wr):=hB;have HF:Hid (FB wr w.heap.size S (.slice ao n cap) (.slice ao2 k cap2) (.slice ao3 n3 cap3) S (.slice b1 m1 d1) (.slice a5 m5 c5) (.slice a7 m7 c7)):=hF;have HO:Hid (wr.ownsRow (w.heap.size+1+1+1) 119 3 (.slice a5 m5 c5) Hs.length (cellsG hstE Hs)):=hO;have HLK:Hid (wr.ownsRow (w.heap.size+1+1+1) 117 4 (.slice b1 m1 d1) Ls.length (cellsG lnkE Ls)):=hLk;have HTR:Hid (TR 23 wr 0 (w.heap.size+1+1+1) (.slice a7 m7 c7) vs (Ts.take j)):=hTR;have hltB:=hF.lt;have HLT:Hid (w.heap.size+1+1<wr.heap.size):=hltB;clear hO hLk;by_cases hlt:j<n3
   ·obtain⟨g,og,hao,hc,_⟩:=HA3.out (by omega);subst hao;have hjl:j<Ts.length:=by rw[HN3.out];exact hlt
    obtain⟨a4,n4,c4,r0,hs⟩:=(hc.later hB) j hjl;have HSR:Hid (SR wr (.slice a4 n4 c4) Ts[j]):=hs;have HL12:Hid ([Ts[j]].flatten.length≤1000):=by
     have h:=HOK.out j hjl;rw[getT hjl] at h;show _≤_;simp only[List.flatten_cons,List.flatten_nil,List.append_nil];omega
    have HTK:Hid (Ts.take (j+1)=Ts.take j++[Ts[j]]):=List.take_succ_eq_append_getElem hjl;have kb0:(0:Int)≤(j:Int):=by omega
    have kb1:(j:Int)<(n3:Int):=by omega
    have q3:=hF.o.c.2.2.2;have f3:=hF.o.f 3;obtain⟨j1,hj,hy0,hy1,hy2⟩:=info_parts ta_info;have HI1:Hid (Tryd.prog.info? 23=some j1):=hj;have HI2:Hid (j1.zero=some (.slice none 0 0)):=hy0;have HI3:Hid (j1.size=1):=hy1;have HI4:Hid (j1.bytes=24):=hy2;have HVL:Hid (vs.length≤6):=by
     show _≤_;rw[hTR.lv,List.length_take];omega
    have HLV1:Hid (vs.length+1≤maxLen):=by
     have:=HVL.out;show _≤_;unfold maxLen;omega
    have HLV2:Hid ((vs.length+1)*24≤140737488355328):=by
     have:=HVL.out;show _≤_;omega
    have HKF:Hid (∀W,Below wr.heap.size wr W→FB W w.heap.size S (.slice ao n cap) (.slice ao2 k cap2) (.slice (some ⟨g,og,none⟩) n3 cap3) S (.slice b1 m1 d1) (.slice a5 m5 c5) (.slice a7 m7 c7)):=fun W hW=>HF.out.later hW
    have HKO:Hid (∀W,Below wr.heap.size wr W→W.ownsRow (w.heap.size+1+1+1) 23 1 (.slice a7 m7 c7) vs.length (cellsG slE vs)):=fun W hW=>own_below HTR.out.ov hW
    have HOB:Hid (∀b,(Value.slice a7 m7 c7).ownBlock=some b→w.heap.size+1+1+1≤b∧b<wr.heap.size):=fun b hb=>HTR.out.ov.lt b hb
    have HFIN:Hid (∀w' w2 v5 x,Below wr.heap.size wr w'→SR w' (slV x) Ts[j]→(∀b,b<wr.heap.size→offB x b)→w'.grownBy w2 (Value.slice a7 m7 c7).ownBlock→w2.ownsRow (w.heap.size+1+1+1) 23 1 v5 (vs++[x]).length (cellsG slE (vs++[x]))→(v5.ownBlock=(Value.slice a7 m7 c7).ownBlock∨v5.ownBlock=some w'.heap.size) →
     ∃(u3:Value) (vs:List SlT),FB (w2.setCell ⟨w.heap.size+1+1,3,none⟩ v5) w.heap.size S (.slice ao n cap) (.slice ao2 k cap2) (.slice (some ⟨g,og,none⟩) n3 cap3) S (.slice b1 m1 d1) (.slice a5 m5 c5) u3∧TR 23 (w2.setCell ⟨w.heap.size+1+1,3,none⟩ v5) 0 (w.heap.size+1+1+1) u3 vs (Ts.take (j+1))∧(w2.setCell ⟨w.heap.size+1+1,3,none⟩ v5).ownsRow (w.heap.size+1+1+1) 119 3 (.slice a5 m5 c5) Hs.length (cellsG hstE Hs)∧(w2.setCell ⟨w.heap.size+1+1,3,none⟩ v5).ownsRow (w.heap.size+1+1+1) 117 4 (.slice b1 m1 d1) Ls.length (cellsG lnkE Ls)∧Below w.heap.size w (w2.setCell ⟨w.heap.size+1+1,3,none⟩ v5)):=by
     intro w' w2 v5 x h1 hx hox h2 h3 h4;refine⟨v5,vs++[x],((HKF.out w' h1).grown h2 (fun b hb=>(HOB.out b hb).1)).set3 v5,?_,row_kept HO.out h1 h2 (own_apart HO.out HTR.out.ov (by decide)) (by omega),row_kept HLK.out h1 h2 (own_apart HLK.out HTR.out.ov (by decide)) (by omega),?_⟩
     ·have ht:=(HTR.out.later h1).push hx (fun b hb=>hox b (HOB.out b hb).2) (fun b _ hb=>hox b (by have:=HLT.out;omega)) h2 h3 h4;rw[HTK.out];exact ht.grown (grown_set w2 _ _ _) (Nat.zero_le _) (by omega)
     have hb2:Below w.heap.size w w':=HB.out.trans (h1.mono HB.out.size);exact (hb2.grown h2 hb2.size (fun b hb=>by have:=(HOB.out b hb).1;omega)).setCell (p:=⟨w.heap.size+1+1,3,none⟩) (show w.heap.size≤w.heap.size+1+1 by omega) _
    clear hc hB hF hj hy0 hy1 hy2 hs hTR;go_upto_region 12 with fail;clear r0
    go_region_law (first
     | ((refine step_append_blk (E:=slE) _ (by rfl) _ _ 35 23 (by rfl) underlying35 j1 _ 24 HI1.out HI2.out HI3.out HI4.out (by rfl) (w.heap.size+1+1+1) (.slice a7 m7 c7) (by rfl) vs (HKO.out _ HBY.out) w'.heap.size 0 1 (by rfl) (a6,n6,c6) HVA.out HLV1.out HLV2.out ?_ ?_;(focus (have:=HBY.out.size;have:=HLT.out;omega));intro v5 w5 ho5 hg5 hb5;have HG:Hid _:=HFIN.out _ _ _ _ HBY.out HSX.out HOFF.out hg5 ho5 hb5;have z2:=((HKF.out _ HBY.out).grown hg5 (fun b hb=>(HOB.out b hb).1)).o.c.2.2.2;have zf2:=((HKF.out _ HBY.out).grown hg5 (fun b hb=>(HOB.out b hb).1)).o.f 3;obtain⟨a8,m8,c8,rfl⟩:∃b1 m1 d1,v5=Value.slice b1 m1 d1:=(by obtain⟨a,c,h⟩:=own_form ho5;exact⟨a,_,c,h⟩);clear ho5 hg5 hb5))
     | (go_simp;go_at_call 26;refine (concat_any _ 0 1 1 [Ts[j]] _ rfl (by omega) (pat1 23 (HSR.out.later (Below.drew (bRQ _ _)))) HL12.out).mono ?_;rintro e w' ⟨u,rfl,hown,hb⟩;have HBX:Hid (Below wr.heap.size wr w'):=falloc hb;have hNR:NR w' wr.heap.size u Ts[j]:=(NR.of hown (by simp)).mono (by simp);obtain⟨⟨a6,n6,c6⟩,hx,hoff⟩:=hNR.sl;replace hx:u=Value.slice a6 n6 c6:=hx;subst hx;have HOFF:Hid (∀b,b<wr.heap.size→offB (a6,n6,c6) b):=hoff;have HBY:Hid (Below wr.heap.size wr (w'.alloc (.cells #[.slice a6 n6 c6] 23))):=HBX.out.alloc HBX.out.size _;have HSX:Hid (SR (w'.alloc (.cells #[.slice a6 n6 c6] 23)) (slV (a6,n6,c6)) Ts[j]):=hNR.sr.later ((bRQ _ _).alloc (nLQ _) _);have HVA:Hid (VAt (w'.alloc (.cells #[.slice a6 n6 c6] 23)) w'.heap.size 0 (slE.c (a6,n6,c6))):=vat_sl (by simp[slV]);have x2:=(HKF.out w' HBX.out).o.c.2.2.2;have xlt:=(HKF.out w' HBX.out).o.lt;clear hb hown hoff hNR;dsimp only))
    all_goals (clear q3 f3;go_wp2)
    all_goals go_roundw
    all_goals first
     | (simp[intOf];omega)
     | (obtain⟨u3,vs2,hG⟩:=HG.out;exact⟨j+1,u3,vs2,by omega,by go_num,hG⟩)
   obtain rfl:j=n3:=by omega
   have HTE:Hid (TR 23 wr 0 (w.heap.size+1+1+1) (.slice a7 m7 c7) vs Ts):=by
    have h:=HTR.out;rw[←HN3.out,List.take_length] at h;exact h
   obtain⟨q0,q1,q2,q3⟩:=hF.o.c;obtain⟨s0,s1,s2,s3⟩:=hF.r.c;have hlt1:=hF.r.lt;have f0:=hF.r.f 0;have f1:=hF.r.f 1;have f2:=hF.r.f 2;have f3:=hF.r.f 3;clear hF hTR hB;go_wp2;refine bodyPost_ret (v:=.agg #[.int i64 S,.slice b1 m1 d1,.slice a5 m5 c5,.slice a7 m7 c7]) (by simp[results,results28,go_sem, *]) rfl ?_;have hgp:=grown_put4 wr (w.heap.size+1) (.int i64 S) (.slice b1 m1 d1) (.slice a5 m5 c5) (.slice a7 m7 c7);exact⟨_,_,_,_,_,_,_,_,_,vs,rfl,own_mono (HLK.out.kept hgp (.inr fun e=>by have:=(HLK.out.lt _ e).1;omega)) (by omega),own_mono (HO.out.kept hgp (.inr fun e=>by have:=(HO.out.lt _ e).1;omega)) (by omega),(HTE.out.grown hgp (Nat.zero_le _) (by omega)).mono (by omega),below_pn4 HB.out (w.heap.size+1) (by omega) _ _ _ _⟩
end
end Go.Proofs.YtcbapfgohocghaaDoor
