/- Contracts and facts on the way to RuleTells, joined into one text: RuleLaid, RuleTellsRow. -/
import Derived.Test.YtpbfgfphcjmcbaaGreatDoorRuleTellsP5
namespace Go.Proofs.YtpbfgfphcjmcbaaGreatDoor
set_option linter.unusedSimpArgs false
set_option linter.unusedVariables false
set_option maxHeartbeats 16000000
set_option maxRecDepth 100000
open Go.Proofs.Tryz
open IntKind (i64)
section
def cellsOfNums (k:IntKind)(l:List Nat):Array Value:=(l.map fun (n:Nat)=>Value.int k (n:Int)).toArray
def db32:List Nat:=[0,1,28,2,29,14,24,3,30,22,20,15,25,17,4,8,31,27,13,23,21,19,16,7,26,12,18,6,11,5,10,9]
def db64:List Nat:=[0,1,56,2,57,49,28,3,61,58,42,50,38,29,17,4,62,47,59,36,45,43,51,22,53,39,33,30,24,18,12,5,63,55,48,27,60,41,37,16,46,35,44,21,52,32,23,11,54,26,40,15,34,20,31,10,25,14,19,9,13,8,7,6]
def pow10:List Nat:=(List.range 20).map fun (n:Nat)=>10 ^ n
def accepts:List Nat:=[128,191,160,191,128,159,144,191,128,143]++List.replicate 22 0
def lay (cs:Array Value):Obj→Obj
 | .cells _ t frozen=>.cells cs t frozen
 | o=>o
def layTables (h:Array Obj):Array Obj:=
 ((((h.modify 5 (lay (cellsOfNums .u8 db32))).modify 6 (lay (cellsOfNums .u8 db64))).modify 1 (lay (cellsOfNums .u64 pow10))).modify 4 (lay (cellsOfNums .u8 accepts))).modify 3 (lay (cellsOfNums .u8 Go.Pinned.utf8FirstZ))
end
namespace ruleTells
open Go.ChangeShapes Go.WideShapes Go.ChangeAt Go.RowKit
open Go.ChangeMaps (open_string shut_string)
set_option linter.unusedVariables false
set_option linter.unusedSimpArgs false
theorem own:ownKnob Tryz.prog.godebug=none:=by kernel_rfl
theorem laidOut:laidOutB prog=true:=by kernel_rfl
theorem et : Tryz.prog.globalNamed "errors.errorType" = some 0 := by kernel_rfl
theorem oneRow:((List.range 173).filter fun t=>Tryz.prog.rowNamed t [101,114,114,111,114])=[31]:=by kernel_rfl
theorem tsize:Tryz.prog.types.size=173:=by kernel_rfl
theorem handle_of_laid {W:World}(h:laidMetH prog Rows.ruleTellsUptoRow.laid W):HasErr W:=by
 have h' : laidMet prog (Rows.ruleTellsUptoRow.laid.filter fun x => x.2.handleName?.isNone) W ∧ handlesMet prog [("errors.errorType", Rows.laid_errors_errorType)] W := h
 obtain⟨name,u,ty,e1,e2,e3,e4,e5⟩:=h'.2 _ (List.mem_singleton.2 rfl);have en:name=[101,114,114,111,114]:=(Option.some.inj e1).symm;subst en;have hu:some u=some 106:=e2.symm.trans (by kernel_rfl);obtain rfl:=Option.some.inj hu;have hm:ty∈(List.range 173).filter fun t=>Tryz.prog.rowNamed t [101,114,114,111,114]:=List.mem_filter.2 ⟨List.mem_range.2 (by rw[←tsize];exact e3),e4⟩
 rw[oneRow] at hm;obtain rfl:=List.mem_singleton.1 hm;have hh:typeHandle prog 31=.pointer (some ⟨7,31,none⟩):=by kernel_rfl
 rw[hh] at e5;unfold HasErr;simpa using World.var?_cell et e5 0
theorem short {H:Type}{d0 d2 d3:DataW H}{t:ByteArray}(h:Rows.uptoSmall H [d0,.lit (.string t.data.toList),d2,d3]=true):t.size≤1048576:=by
 have h1:Rows.uptoBulkAll [d0,.lit (.string t.data.toList),d2,d3]≤1048576:=of_decide_eq_true h;simp only[Rows.uptoBulkAll,Rows.uptoBulk] at h1;have h2:t.data.toList.length=t.size:=by simp
 omega
theorem contract (H:Type)(enc:TypeId×Value→H)(W:World)(base:Nat)(args:Array Value)(ds gs:List (DataW H))(before:List MemPlace)
 (hval0:∀(j:Nat) t v,Tryz.f3.params[j]?=some t→args[j]?=some v→Value.okWide prog W .any base t v)
 (hW:DataW.Whole enc prog Tryz.f3.params.toList Rows.ruleTellsSpec.vars false W args.toList ds gs before) (hL:laidMetH prog Rows.ruleTellsUptoRow.laid W)
 (hsmall:Rows.uptoSmall H (ds++gs)=true):
 Calls prog 3 args W fun e W'=>∃v,e=.returned v∧Rows.ruleTellsSpec.post enc prog Tryz.f3 false true false false W args v W':=by
 have hval:∀(j:Nat) t v,Tryz.f3.params[j]?=some t→args[j]?=some v→Value.okWide prog W .any base t v:=hval0;have hW':=hW;obtain⟨p,q,hA0,hV0,rfl,hfz,hnd⟩:=hW;have hA:DataW.TrodAll enc prog W 0 (fun _=>true) true Tryz.f3.params.toList args.toList ds p:=hA0;have hV:DataW.TrodVars enc prog W (fun _=>true) [] gs q:=hV0;rw[params3] at hA hval;obtain⟨v0,vs0,d0,ds0,p0,q0,hargs,rfl,rfl,h0,r0⟩:=trodAll_cons hA;obtain⟨v1,vs1,d1,ds1,p1,q1,rfl,rfl,rfl,h1,r1⟩:=trodAll_cons r0;obtain⟨v2,vs2,d2,ds2,p2,q2,rfl,rfl,rfl,h2,r2⟩:=trodAll_cons r1;obtain⟨v3,vs3,d3,ds3,p3,q3,rfl,rfl,rfl,h3,r3⟩:=trodAll_cons r2;obtain⟨rfl,rfl,rfl⟩:=trodAll_nil r3;obtain rfl:args=#[v0,v1,v2,v3]:=by cases args;simp_all
 have hg:=handle_of_laid hL;obtain⟨rfl,rfl⟩:gs=[]∧q=[]:=by
  cases gs with
  | nil=>exact⟨rfl,hV⟩
  | cons g r=>exact absurd hV (by intro h;cases h)
 have k0:=h0;have lt0:∀x∈p0,x.block<W.heap.size:=by obtain⟨m,hm⟩:=k0;exact DataW.trod_lt m _ _ _ hm
 have k3:=h3;have lt3:∀x∈p3,x.block<W.heap.size:=by obtain⟨m,hm⟩:=k3;exact DataW.trod_lt m _ _ _ hm
 obtain⟨a0,a1,a2,a3,a4,a5,rfl⟩:=rule_of (hval 0 25 v0 rfl rfl) h0;obtain⟨s,rfl,rfl,rfl,ws⟩:=open_string underlying9 (hval 1 9 v1 rfl rfl) h1;obtain⟨t,rfl,rfl,rfl,wt⟩:=open_int underlying3 (hval 2 3 v2 rfl rfl) h2;obtain⟨L,hs⟩:=rules_of (hval 3 27 v3 rfl rfl) h3;obtain⟨ao,n,cap,rfl⟩:=okWide_slice underlying27 (hval 3 27 v3 rfl rfl);have hsz:s.size≤1048576:=short (by simpa using hsmall);clear hA0 hval0;refine (walk a0 a1 a2 a3 a4 a5 t s ao n cap L W hs hsz hg).mono fun e W' ⟨he,bel⟩=>?_
 subst he;exact⟨_,rfl,_,_,_,[],_,[],hW',trodAll_mk1 (shut_bool underlying4 _),(trodAll_cons_mk (Below.trod laidOut (by kernel_rfl) (of_decide_eq_true (by kernel_rfl)) k0 bel lt0) (trodAll_cons_mk (shut_string underlying9 ws) (trodAll_cons_mk (shut_int underlying3 wt) (trodAll_cons_mk (Below.trod laidOut (by kernel_rfl) (of_decide_eq_true (by kernel_rfl)) k3 bel lt3) trodAll_mk0)))),rfl,bel.frame _,fun h=>by cases h⟩
def layAll (h:Array Obj):Array Obj:=(layTables h).modify 0 (lay #[.iface 106 (.agg #[.pointer (some ⟨7,31,none⟩)])])
theorem laid_met (os:Os)(args:Array Value):laidMetH prog Rows.ruleTellsUptoRow.laid (({ World.holding prog os ⟨#[],#[],[]⟩ with heap:=layAll (World.holding prog os ⟨#[],#[],[]⟩).heap }:World).forCall (fun _ _=>0) ⟨#[],args,[]⟩).memory:=
 laidMetH_of_parts (laidMet_of_run' 8 (by kernel_rfl) (by kernel_rfl)) (by kernel_rfl)
theorem reads (os:Os){H:Type}(enc:TypeId×Value→H):∃x,DataW.whole enc prog (({ World.holding prog os ⟨#[],#[],[]⟩ with heap:=layAll (World.holding prog os ⟨#[],#[],[]⟩).heap }:World).forCall (fun _ _=>0) ⟨#[],#[.agg #[.int i64 0,.int i64 0,.int i64 0,.int i64 0,.int i64 0,.int i64 0],.string ByteArray.empty,.int i64 0,.slice none 0 0],[]⟩).memory Tryz.f3.params.toList Rows.ruleTellsSpec.vars false #[Value.agg #[.int i64 0,.int i64 0,.int i64 0,.int i64 0,.int i64 0,.int i64 0],.string ByteArray.empty,.int i64 0,.slice none 0 0].toList 8=some ([.agg [.lit (.int i64 0),.agg [.lit (.int i64 0),.lit (.int i64 0)],.lit (.int i64 0),.lit (.int i64 0),.lit (.int i64 0)],.lit (.string []),.lit (.int i64 0),.nil],[],x):=
 ⟨[],by kernel_rfl⟩
theorem lifted (os:Os)(started:os.Started)(H:Type)(enc:TypeId×Value→H)(F:Stop.Interp):
 ReturnsInHanded {} Tryz.checked os 3 .any ((Rows.OpenSpec.upto Rows.ruleTellsSpec).preRow enc prog Tryz.f3 Rows.ruleTellsUptoRow.domain false Rows.ruleTellsUptoRow.laid) (((Rows.OpenSpec.upto Rows.ruleTellsSpec).at F).post enc prog Tryz.f3 false true false false):=by
 obtain⟨x,hx⟩:=reads os enc;refine returnsInHanded_of_row (C:=Tryz.checked) (s:=Rows.OpenSpec.upto Rows.ruleTellsSpec) own started (by kernel_rfl) func3
  (witness_row_atRef (enc:=enc) (C:=Tryz.checked) false { World.holding prog os ⟨#[],#[],[]⟩ with heap:=layAll (World.holding prog os ⟨#[],#[],[]⟩).heap } #[.agg #[.int i64 0,.int i64 0,.int i64 0,.int i64 0,.int i64 0,.int i64 0],.string ByteArray.empty,.int i64 0,.slice none 0 0] rfl (by kernel_rfl) (by kernel_rfl) (by kernel_rfl)
   (OpenSpec.preRow_of_cond 8 hx (by kernel_rfl) (fun k hk=>by cases hk;kernel_rfl) (by kernel_rfl) (laid_met os _))) ?_
 intro W base args ds gs before hval hW _ hcond _ hL _ _;exact contract H enc W base args ds gs before hval hW hL (hcond _ rfl)
theorem over:Rows.RuleTellsUptoSaid:=
 OpenClaim.holds_of_cond 3 Tryz.f3 rfl rfl rfl rfl rfl rfl rfl ⟨rfl,rfl,rfl,rfl,rfl⟩ rfl rfl rfl rfl rfl (by kernel_rfl) func3 (by kernel_rfl)
  (of_decide_eq_true (by kernel_rfl)) (by unfold Func.isWrapper;first | (rw[if_pos (by decide +kernel)];kernel_rfl) | (rw[if_neg (by decide +kernel)];exact⟨rfl,rfl⟩))
  (fun os started H enc _ F=>by rw[OpenClaim.pre_eq_preRow];exact lifted os started H enc F)
end ruleTells
end Go.Proofs.YtpbfgfphcjmcbaaGreatDoor
