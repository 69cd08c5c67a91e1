/- Contracts and facts on the way to TextLines, joined into one text: Err, CubeMath, CubeCon, RuleMath, RuleCon, RuleText, RuleItoa, CubeBit, CubePrint, RulePrint, CutMath, CubeParse, RuleParse, CubeFacts, RuleTabMath, MapGen, TopoMath, But, Gen, TopoMath2, NetMath, WishMath. -/
import Derived.Test.YtpbgocfinpbpgaaDoorRows
import Derived.Test.YtpbgocfinpbpgaaDoorProg
import Derived.WalkKit
import Derived.Laws.BytesArg
import Derived.WalkSpells
import Derived.Below
import Derived.Lib.Bytealg
import Derived.Lib.IndexLaws
import Derived.Lib.Strings
import Derived.Deep.RegionHeld3
import Derived.Lib.IndexBytes
import Derived.Deep.LoopGhost
import Derived.Deep.OwnRows
import Derived.Laws.Strings3
import Derived.Lib.Split
import Derived.Deep.CutRange
import Derived.Deep.CutBlock
import Derived.MapKept
import Derived.Maps.OwnOps
import Derived.Laws.StructEq
import Derived.ProofKit
import Derived.OpenShut
import Derived.ChangeOld
import Derived.Laws.AppendOwnNone
import Derived.Deep.Slices
import Derived.Laws.OwnMore
import Derived.Shelf.Strings.OnBuilder
import Derived.Deep.RegionLaw
import Derived.BigQuiet
import Derived.Deep.QuietTactic
import Derived.DeepKeys3
import Derived.Lib.SmallJoins
import Derived.BigRegion
import Derived.Shelf.Abstract
import Derived.Laws.IdiomStrings
import Derived.Carry
import Derived.Lib.SliceRun
import Derived.Lib.AppendZeros
import Derived.RangeFuncNested
import Derived.RangeFuncBox
import Derived.RangeFuncBound
import Derived.RangeFuncCalls
import Derived.RangeFuncLeaves
import Derived.Shelf.RegionOpen
import Derived.OwnWalkIn
import Derived.TacticsInMore
import Derived.LoopNIn
import Derived.LoopIn
import GoSem.PinnedTables
import Derived.ShutString
import Derived.ChangeSame
import Derived.ChangeVars
import Derived.JoinedOf
import Derived.RowKit
import Derived.RowKitTokens
import Derived.LaidLaws
import Derived.LaidHandle
import Derived.Stop.Joined
import Derived.Deep.DeepHandedRow
import Derived.Deep.DeepWitnessRowRef
namespace Go.Proofs.YtpbgocfinpbpgaaDoor
set_option linter.unusedSimpArgs false
set_option linter.unusedVariables false
set_option maxHeartbeats 16000000
set_option maxRecDepth 100000
open Go.Proofs.Tryd
open IntKind (i64)
abbrev AdQ:=Option Addr
abbrev LkQ:=List ((Int×Int)×(Int×Int))
abbrev HoQ:=List (ByteArray×(Int×Int))
abbrev HpQ:=List ((Int×Int)×Int)
theorem bRQ (n:Nat) (w:World):Go.RowKit.Below n w w:=Go.RowKit.Below.refl n w
theorem nLQ (n:Nat):n≤n:=Nat.le_refl n
theorem bLQ (w:World) (p:Addr) {v:Value} (h:w.cell? p=some v):p.block<w.heap.size:=World.block_lt_of_cell? w p h
theorem AP:(∀(l:List Value) (i:Nat) (v:Value),l.toArray.setIfInBounds i v=(l.set i v).toArray)∧(∀(a v:Value) (l:List Value),(a::l).set 0 v=v::l)∧(∀(a v:Value) (l:List Value) (i:Nat),(a::l).set (i+1) v=a::l.set i v):=⟨fun _ _ _=>List.setIfInBounds_toArray _ _ _,fun _ _ _=>List.set_cons_zero,fun _ _ _ _=>List.set_cons_succ⟩
section
def noV (n:Int):Value:=if n=0 then .nilIface else .iface 71 (.int i64 n)
theorem no_ok {n:Int}(h:n=0):noV n=.nilIface:=by simp[noV,h]
theorem no_ne {n:Int}(h:n≠0):noV n=.iface 71 (.int i64 n):=by simp[noV,h]
end
section
open Go.RowKit
def hdrB (n:Int):Bool:=decide (0≤n)&&decide (n<16)
def rngB (m b:Int):Bool:=hdrB m&&hdrB b
def okB (m b:Int):Bool:=rngB m b&&(bits .andNot .i64 b m==0)
theorem hdr_of {n:Int}(h:hdrB n=true):0≤n∧n<16:=by simpa[hdrB] using h
theorem hdr_no {n:Int}(h:hdrB n=false):n<0∨16≤n:=by simp[hdrB] at h;omega
theorem hdr_mk {n:Int}(h:0≤n∧n<16):hdrB n=true:=by simpa[hdrB] using h
theorem rng_of {m b:Int}(h:rngB m b=true):(0≤m∧m<16)∧(0≤b∧b<16):=by
 simp only[rngB,Bool.and_eq_true] at h;exact⟨hdr_of h.1,hdr_of h.2⟩
theorem ok_rng {m b:Int}(h:okB m b=true):rngB m b=true:=by
 simp only[okB,Bool.and_eq_true] at h;exact h.1
theorem ok_of {m b:Int}(h:okB m b=true):(0≤m∧m<16)∧(0≤b∧b<16):=rng_of (ok_rng h)
theorem small {n:Int}(h:0≤n∧n<16):∃k:Fin 16,n=((k:Nat):Int):=⟨⟨n.toNat,by omega⟩,by simp;omega⟩
def ltr (m b x:Int):Int:=if bits .and .i64 m x==0 then 42 else if bits .and .i64 b x==0 then 48 else 49
def bitN (i:Nat):Int:=2 ^ (3-i)
def ltrAt (m b:Int)(i:Nat):Int:=ltr m b (bitN i)
theorem ltr_bd (m b x:Int):42≤ltr m b x∧ltr m b x≤49:=by unfold ltr;split <;> (try split) <;> omega
def prS (m b:Int):ByteArray:=strOfNums [ltrAt m b 0,ltrAt m b 1,ltrAt m b 2,ltrAt m b 3]
def ltrTo (m b:Int)(k j:Nat):Int:=if j<k then ltrAt m b j else 0
def rdM (c i:Nat)(m:Int):Int:=if c=49∨c=48 then bits .or .i64 m (bitN i) else m
def rdB (c i:Nat)(b:Int):Int:=if c=49 then bits .or .i64 b (bitN i) else b
def mayB (c:Nat):Bool:=c==49 || c==48 || c==42
def byteN (s:ByteArray)(i:Nat):Nat:=(s.data.toList.getD i 0).toNat
def psMTo (s:ByteArray):Nat→Int
 | 0=>0
 | k+1=>rdM (byteN s k) k (psMTo s k)
def psBTo (s:ByteArray):Nat→Int
 | 0=>0
 | k+1=>rdB (byteN s k) k (psBTo s k)
def mayTo (s:ByteArray):Nat→Bool
 | 0=>true
 | k+1=>mayTo s k&&mayB (byteN s k)
def psOk (s:ByteArray):Bool:=s.size==4&&mayTo s 4
def psM (s:ByteArray):Int:=if psOk s then psMTo s 4 else 0
def psB (s:ByteArray):Int:=if psOk s then psBTo s 4 else 0
def hasB (m b h:Int):Bool:=hdrB h&&(okB m b&&(bits .and .i64 h m==b))
def refN (m b:Int):Int:=if okB m b then 0 else if rngB m b then 3 else 1
theorem refN_ok {m b:Int}(h:okB m b=true):refN m b=0:=by simp[refN,h]
theorem refN_shape {m b:Int}(h:okB m b=false)(h2:rngB m b=true):refN m b=3:=by simp[refN,h,h2]
theorem refN_range {m b:Int}(h2:rngB m b=false):refN m b=1:=by simp[refN,okB,h2]
theorem ok_refN (m b:Int):(refN m b==0)=okB m b:=by
 cases h:okB m b
 ·cases h2:rngB m b
  ·simp[refN_range h2]
  simp[refN_shape h h2]
 simp[refN_ok h]
theorem bcell {W w1:World}(hb:Below W.heap.size W w1):(∀b o,b<W.heap.size→w1.cell? ⟨b,o,none⟩=W.cell? ⟨b,o,none⟩)∧(∀b o,b<W.heap.size→w1.frozen? ⟨b,o,none⟩=W.frozen? ⟨b,o,none⟩):=
 ⟨fun b o h=>hb.cell (p:=⟨b,o,none⟩) h,fun b o h=>hb.frozen (p:=⟨b,o,none⟩) h⟩
theorem isHeader_yes (n:Int)(w:World)(h:hdrB n=true):
 Calls prog 24 #[.int i64 n] w fun e w'=>e=.returned (.bool true)∧w'=w:=by
 obtain⟨h1,h2⟩:=hdr_of h;clear h;go_enter func24,ntmps24;go_wp2;go_ret;exact⟨rfl,rfl⟩
theorem isHeader_no (n:Int)(w:World)(h:hdrB n=false):
 Calls prog 24 #[.int i64 n] w fun e w'=>e=.returned (.bool false)∧w'=w:=by
 rcases hdr_no h with h1 | h1
 ·clear h;go_enter func24,ntmps24;go_wp2;go_ret;exact⟨rfl,rfl⟩
 have h2:0≤n:=by omega
 have h3:decide (n<16)=false:=by simp;omega
 clear h;go_enter func24,ntmps24;go_wp2;go_ret;exact⟨rfl,rfl⟩
theorem check_range (m b:Int)(w:World)(h:rngB m b=false):
 Calls prog 25 #[.agg #[.int i64 m,.int i64 b]] w fun e w'=>e=.returned (.iface 71 (.int i64 1))∧Below w.heap.size w w':=by
 by_cases hm:hdrB m=true
 ·have hb:hdrB b=false:=by simpa[rngB,hm] using h
  clear h;go_enter func25,ntmps25
  go_wp2_with fail
  refine (isHeader_yes _ _ hm).mono ?_;rintro e w' ⟨rfl,rfl⟩
  go_wp2_with fail
  refine (isHeader_no _ _ hb).mono ?_;rintro e w' ⟨rfl,rfl⟩;go_wp2;go_ret;exact⟨rfl,(bRQ _ _).alloc (nLQ _) _⟩
 have hm':hdrB m=false:=by simpa using hm
 clear h hm;go_enter func25,ntmps25
 go_wp2_with fail
 refine (isHeader_no _ _ hm').mono ?_;rintro e w' ⟨rfl,rfl⟩;go_wp2;go_ret;exact⟨rfl,(bRQ _ _).alloc (nLQ _) _⟩
theorem check_shape (m b:Int)(w:World)(h:rngB m b=true)(h2:okB m b=false):
 Calls prog 25 #[.agg #[.int i64 m,.int i64 b]] w fun e w'=>e=.returned (.iface 71 (.int i64 3))∧Below w.heap.size w w':=by
 have hm:hdrB m=true:=by simp only[rngB,Bool.and_eq_true] at h;exact h.1
 have hb:hdrB b=true:=by simp only[rngB,Bool.and_eq_true] at h;exact h.2
 have hz:(bits .andNot .i64 b m==0)=false:=by simpa[okB,h] using h2
 clear h h2;go_enter func25,ntmps25
 go_wp2_with fail
 refine (isHeader_yes _ _ hm).mono ?_;rintro e w' ⟨rfl,rfl⟩
 go_wp2_with fail
 refine (isHeader_yes _ _ hb).mono ?_;rintro e w' ⟨rfl,rfl⟩;go_wp2;go_ret;exact⟨rfl,(bRQ _ _).alloc (nLQ _) _⟩
theorem check_ok (m b:Int)(w:World)(h:okB m b=true):
 Calls prog 25 #[.agg #[.int i64 m,.int i64 b]] w fun e w'=>e=.returned .nilIface∧Below w.heap.size w w':=by
 have hm:hdrB m=true:=hdr_mk (ok_of h).1;have hb:hdrB b=true:=hdr_mk (ok_of h).2;have hz:(bits .andNot .i64 b m==0)=true:=by simp only[okB,Bool.and_eq_true] at h;exact h.2
 clear h;go_enter func25,ntmps25
 go_wp2_with fail
 refine (isHeader_yes _ _ hm).mono ?_;rintro e w' ⟨rfl,rfl⟩
 go_wp2_with fail
 refine (isHeader_yes _ _ hb).mono ?_;rintro e w' ⟨rfl,rfl⟩;go_wp2;go_ret;exact⟨rfl,(bRQ _ _).alloc (nLQ _) _⟩
def ruP (p o:Int):Bool:=decide (0≤p)&&(decide (p≤99)&&(decide (0≤o)&&decide (o≤4)))
def ruIn (p o s v:Int):Bool:=ruP p o&&rngB s v
def ruSet (o s v:Int):Bool:=(bits .andNot .i64 v s==0)&&(!(o==0) || s==0)
def ruN (p m b o s v:Int):Int:=if ruIn p o s v then (if okB m b then (if ruSet o s v then 0 else 3) else refN m b) else 1
def ruOk (p m b o s v:Int):Bool:=ruIn p o s v&&(okB m b&&ruSet o s v)
theorem ru_ok {p m b o s v:Int}(h:ruOk p m b o s v=true):ruIn p o s v=true∧okB m b=true∧ruSet o s v=true:=by
 simpa[ruOk] using h
theorem ruN_ok {p m b o s v:Int}(h:ruOk p m b o s v=true):ruN p m b o s v=0:=by
 obtain⟨h1,h2,h3⟩:=ru_ok h;simp[ruN,h1,h2,h3]
theorem ruN_ne {p m b o s v:Int}(h:ruOk p m b o s v=false):ruN p m b o s v≠0:=by
 unfold ruN;cases h1:ruIn p o s v
 ·simp
 cases h2:okB m b
 ·simp only[if_true];have:=ok_refN m b;rw[h2] at this;simpa using this
 cases h3:ruSet o s v
 ·simp
 simp[ruOk,h1,h2,h3] at h
theorem ru_in {p o s v:Int}(h:ruIn p o s v=true):((0≤p∧p≤99)∧(0≤o∧o≤4))∧(0≤s∧s<16)∧(0≤v∧v<16):=by
 simp only[ruIn,Bool.and_eq_true] at h;obtain⟨h1,h2⟩:=h;have h3:=rng_of h2;simp only[ruP,Bool.and_eq_true,decide_eq_true_eq] at h1;exact⟨⟨⟨h1.1,h1.2.1⟩,⟨h1.2.2.1,h1.2.2.2⟩⟩,h3⟩
theorem check_no (m b:Int)(w:World):
 Calls prog 25 #[.agg #[.int i64 m,.int i64 b]] w fun e w'=>e=.returned (noV (refN m b))∧Below w.heap.size w w':=by
 cases hr:rngB m b
 ·have e:noV (refN m b)=.iface 71 (.int i64 1):=by rw[refN_range hr];rfl
  rw[e];exact check_range m b w hr
 cases ho:okB m b
 ·have e:noV (refN m b)=.iface 71 (.int i64 3):=by rw[refN_shape ho hr];rfl
  rw[e];exact check_shape m b w hr ho
 have e:noV (refN m b)=.nilIface:=by rw[refN_ok ho];rfl
 rw[e];exact check_ok m b w ho
theorem ruCheck_prio (p m b o s v:Int)(w:World)(h:ruP p o=false):
 Calls prog 14 #[.agg #[.int i64 p,.int i64 m,.int i64 b,.int i64 o,.int i64 s,.int i64 v]] w fun e w'=>e=.returned (.iface 71 (.int i64 1))∧Below w.heap.size w w':=by
 have hc:p<0∨(0≤p∧99<p)∨((0≤p∧p≤99)∧o<0)∨((0≤p∧p≤99)∧(0≤o∧4<o)):=by
  simp[ruP] at h;omega
 clear h
 rcases hc with h1 | ⟨h1,h2⟩ | ⟨⟨h1,h2⟩,h3⟩ | ⟨⟨h1,h2⟩,h3,h4⟩
 ·have e1:decide (p<0)=true:=by simp;omega
  go_enter func14,ntmps14;go_wp2;go_ret;exact⟨rfl,(bRQ _ _).alloc (nLQ _) _⟩
 ·have e1:decide (p<0)=false:=by simp;omega
  have e2:decide (99<p)=true:=by simp;omega
  go_enter func14,ntmps14;go_wp2;go_ret;exact⟨rfl,(bRQ _ _).alloc (nLQ _) _⟩
 ·have e1:decide (p<0)=false:=by simp;omega
  have e2:decide (99<p)=false:=by simp;omega
  have e3:decide (o<0)=true:=by simp;omega
  go_enter func14,ntmps14;go_wp2;go_ret;exact⟨rfl,(bRQ _ _).alloc (nLQ _) _⟩
 have e1:decide (p<0)=false:=by simp;omega
 have e2:decide (99<p)=false:=by simp;omega
 have e3:decide (o<0)=false:=by simp;omega
 have e4:decide (4<o)=true:=by simp;omega
 go_enter func14,ntmps14;go_wp2;go_ret;exact⟨rfl,(bRQ _ _).alloc (nLQ _) _⟩
theorem ruP_of {p o:Int}(h:ruP p o=true):decide (p<0)=false∧decide (99<p)=false∧decide (o<0)=false∧decide (4<o)=false:=by
 simp only[ruP,Bool.and_eq_true,decide_eq_true_eq] at h;refine⟨?_,?_,?_,?_⟩ <;> simp <;> omega
theorem ruCheck_set (p m b o s v:Int)(w:World)(h:ruP p o=true)(h2:rngB s v=false):
 Calls prog 14 #[.agg #[.int i64 p,.int i64 m,.int i64 b,.int i64 o,.int i64 s,.int i64 v]] w fun e w'=>e=.returned (.iface 71 (.int i64 1))∧Below w.heap.size w w':=by
 obtain⟨e1,e2,e3,e4⟩:=ruP_of h;clear h;cases hs:hdrB s
 ·clear h2;go_enter func14,ntmps14
  go_wp2_with fail
  refine (isHeader_no _ _ hs).mono ?_;rintro e w' ⟨rfl,rfl⟩;go_wp2;go_ret;exact⟨rfl,(bRQ _ _).alloc (nLQ _) _⟩
 have hv:hdrB v=false:=by simpa[rngB,hs] using h2
 clear h2;go_enter func14,ntmps14
 go_wp2_with fail
 refine (isHeader_yes _ _ hs).mono ?_;rintro e w' ⟨rfl,rfl⟩
 go_wp2_with fail
 refine (isHeader_no _ _ hv).mono ?_;rintro e w' ⟨rfl,rfl⟩;go_wp2;go_ret;exact⟨rfl,(bRQ _ _).alloc (nLQ _) _⟩
theorem ruCheck_cube (p m b o s v:Int)(w:World)(h:ruP p o=true)(h2:rngB s v=true)(h3:okB m b=false):
 Calls prog 14 #[.agg #[.int i64 p,.int i64 m,.int i64 b,.int i64 o,.int i64 s,.int i64 v]] w fun e w'=>e=.returned (.iface 71 (.int i64 (refN m b)))∧Below w.heap.size w w':=by
 obtain⟨e1,e2,e3,e4⟩:=ruP_of h;have hs:hdrB s=true:=by simp only[rngB,Bool.and_eq_true] at h2;exact h2.1
 have hv:hdrB v=true:=by simp only[rngB,Bool.and_eq_true] at h2;exact h2.2
 have hn:refN m b≠0:=by have:=ok_refN m b;rw[h3] at this;simpa using this
 clear h h2 h3;go_enter func14,ntmps14
 go_wp2_with fail
 refine (isHeader_yes _ _ hs).mono ?_;rintro e w' ⟨rfl,rfl⟩
 go_wp2_with fail
 refine (isHeader_yes _ _ hv).mono ?_;rintro e w' ⟨rfl,rfl⟩
 go_wp2_with fail
 refine (check_no _ _ _).mono ?_;rintro e w1 ⟨rfl,hb1⟩;rw[no_ne hn];go_wp2;go_ret;exact⟨rfl,((bRQ _ _).alloc (nLQ _) _).trans (hb1.mono (by simp))⟩
theorem ruCheck_end (p m b o s v:Int)(w:World)(h:ruP p o=true)(h2:rngB s v=true)(h3:okB m b=true):
 Calls prog 14 #[.agg #[.int i64 p,.int i64 m,.int i64 b,.int i64 o,.int i64 s,.int i64 v]] w fun e w'=>e=.returned (if ruSet o s v then .nilIface else .iface 71 (.int i64 3))∧Below w.heap.size w w':=by
 obtain⟨e1,e2,e3,e4⟩:=ruP_of h;have hs:hdrB s=true:=by simp only[rngB,Bool.and_eq_true] at h2;exact h2.1
 have hv:hdrB v=true:=by simp only[rngB,Bool.and_eq_true] at h2;exact h2.2
 have hn:refN m b=0:=refN_ok h3;have hlt:w.heap.size<(w.alloc (.cells #[.int i64 p,.int i64 m,.int i64 b,.int i64 o,.int i64 s,.int i64 v] 50)).heap.size:=by simp
 clear h h2 h3;cases ha:(bits .andNot .i64 v s==0)
 ·have e:ruSet o s v=false:=by simp[ruSet,ha]
  rw[e];clear e;simp only[Bool.false_eq_true,if_false];have ha2:(bits .andNot .i64 v s != 0)=true:=by simpa using ha
  go_enter func14,ntmps14
  go_wp2_with fail
  refine (isHeader_yes _ _ hs).mono ?_;rintro e w' ⟨rfl,rfl⟩
  go_wp2_with fail
  refine (isHeader_yes _ _ hv).mono ?_;rintro e w' ⟨rfl,rfl⟩
  go_wp2_with fail
  refine (check_no _ _ _).mono ?_;rintro e w1 ⟨rfl,hb1⟩;rw[no_ok hn];obtain⟨hc1,hf1⟩:=bcell hb1;have hB:=((Below.refl w.heap.size w).alloc (nLQ _) (Obj.cells #[.int i64 p,.int i64 m,.int i64 b,.int i64 o,.int i64 s,.int i64 v] 50)).trans (hb1.mono (by simp));clear hb1;go_wp2;go_ret;exact⟨rfl,hB⟩
 cases ho:(o==0)
 ·have e:ruSet o s v=true:=by simp[ruSet,ha,ho]
  rw[e];clear e;simp only[if_true];have ha2:(bits .andNot .i64 v s != 0)=false:=by simpa using ha
  go_enter func14,ntmps14
  go_wp2_with fail
  refine (isHeader_yes _ _ hs).mono ?_;rintro e w' ⟨rfl,rfl⟩
  go_wp2_with fail
  refine (isHeader_yes _ _ hv).mono ?_;rintro e w' ⟨rfl,rfl⟩
  go_wp2_with fail
  refine (check_no _ _ _).mono ?_;rintro e w1 ⟨rfl,hb1⟩;rw[no_ok hn];obtain⟨hc1,hf1⟩:=bcell hb1;have hB:=((Below.refl w.heap.size w).alloc (nLQ _) (Obj.cells #[.int i64 p,.int i64 m,.int i64 b,.int i64 o,.int i64 s,.int i64 v] 50)).trans (hb1.mono (by simp));clear hb1;go_wp2;go_ret;exact⟨rfl,hB⟩
 cases hz:(s==0)
 ·have e:ruSet o s v=false:=by simp[ruSet,ha,ho,hz]
  rw[e];clear e;simp only[Bool.false_eq_true,if_false];have ha2:(bits .andNot .i64 v s != 0)=false:=by simpa using ha
  go_enter func14,ntmps14
  go_wp2_with fail
  refine (isHeader_yes _ _ hs).mono ?_;rintro e w' ⟨rfl,rfl⟩
  go_wp2_with fail
  refine (isHeader_yes _ _ hv).mono ?_;rintro e w' ⟨rfl,rfl⟩
  go_wp2_with fail
  refine (check_no _ _ _).mono ?_;rintro e w1 ⟨rfl,hb1⟩;rw[no_ok hn];obtain⟨hc1,hf1⟩:=bcell hb1;have hB:=((Below.refl w.heap.size w).alloc (nLQ _) (Obj.cells #[.int i64 p,.int i64 m,.int i64 b,.int i64 o,.int i64 s,.int i64 v] 50)).trans (hb1.mono (by simp));clear hb1;go_wp2;go_ret;exact⟨rfl,hB⟩
 have e:ruSet o s v=true:=by simp[ruSet,ha,ho,hz]
 rw[e];clear e;simp only[if_true];have ha2:(bits .andNot .i64 v s != 0)=false:=by simpa using ha
 go_enter func14,ntmps14
 go_wp2_with fail
 refine (isHeader_yes _ _ hs).mono ?_;rintro e w' ⟨rfl,rfl⟩
 go_wp2_with fail
 refine (isHeader_yes _ _ hv).mono ?_;rintro e w' ⟨rfl,rfl⟩
 go_wp2_with fail
 refine (check_no _ _ _).mono ?_;rintro e w1 ⟨rfl,hb1⟩;rw[no_ok hn];obtain⟨hc1,hf1⟩:=bcell hb1;have hB:=((Below.refl w.heap.size w).alloc (nLQ _) (Obj.cells #[.int i64 p,.int i64 m,.int i64 b,.int i64 o,.int i64 s,.int i64 v] 50)).trans (hb1.mono (by simp));clear hb1;go_wp2;go_ret;exact⟨rfl,hB⟩
theorem ruCheck_any (p m b o s v:Int)(w:World):
 Calls prog 14 #[.agg #[.int i64 p,.int i64 m,.int i64 b,.int i64 o,.int i64 s,.int i64 v]] w fun e w'=>e=.returned (noV (ruN p m b o s v))∧Below w.heap.size w w':=by
 cases h1:ruP p o
 ·have e:noV (ruN p m b o s v)=.iface 71 (.int i64 1):=by simp[ruN,ruIn,h1,noV]
  rw[e];exact ruCheck_prio p m b o s v w h1
 cases h2:rngB s v
 ·have e:noV (ruN p m b o s v)=.iface 71 (.int i64 1):=by simp[ruN,ruIn,h2,noV]
  rw[e];exact ruCheck_set p m b o s v w h1 h2
 cases h3:okB m b
 ·have hn:refN m b≠0:=by have:=ok_refN m b;rw[h3] at this;simpa using this
  have e:noV (ruN p m b o s v)=.iface 71 (.int i64 (refN m b)):=by simp[ruN,ruIn,h1,h2,h3,noV,hn]
  rw[e];exact ruCheck_cube p m b o s v w h1 h2 h3
 have e:noV (ruN p m b o s v)=(if ruSet o s v then .nilIface else .iface 71 (.int i64 3)):=by
  cases h4:ruSet o s v <;> simp[ruN,ruIn,h1,h2,h3,noV,h4]
 rw[e];exact ruCheck_end p m b o s v w h1 h2 h3
def dgS (p:Int):ByteArray:=if p<10 then strOfNums [48+p] else strOfNums [48+p / 10,48+p % 10]
theorem ret_str {a b:ByteArray}(h:a=b):Ending.returned (.string a)=.returned (.string b):=by rw[h]
theorem small1:∀k:Fin 10,(⟨#[48,49,50,51,52,53,54,55,56,57,97,98,99,100,101,102,103,104,105,106,107,108,109,110,111,112,113,114,115,116,117,118,119,120,121,122]⟩:ByteArray).extract ((k:Nat):Int).toNat (((k:Nat):Int)+1).toNat=dgS ((k:Nat):Int):=by
 decide +kernel
theorem small2:∀k:Fin 100,10≤k.val→(⟨#[48,48,48,49,48,50,48,51,48,52,48,53,48,54,48,55,48,56,48,57,49,48,49,49,49,50,49,51,49,52,49,53,49,54,49,55,49,56,49,57,50,48,50,49,50,50,50,51,50,52,50,53,50,54,50,55,50,56,50,57,51,48,51,49,51,50,51,51,51,52,51,53,51,54,51,55,51,56,51,57,52,48,52,49,52,50,52,51,52,52,52,53,52,54,52,55,52,56,52,57,53,48,53,49,53,50,53,51,53,52,53,53,53,54,53,55,53,56,53,57,54,48,54,49,54,50,54,51,54,52,54,53,54,54,54,55,54,56,54,57,55,48,55,49,55,50,55,51,55,52,55,53,55,54,55,55,55,56,55,57,56,48,56,49,56,50,56,51,56,52,56,53,56,54,56,55,56,56,56,57,57,48,57,49,57,50,57,51,57,52,57,53,57,54,57,55,57,56,57,57]⟩:ByteArray).extract (((k:Nat):Int)*2).toNat (((k:Nat):Int)*2+2).toNat=dgS ((k:Nat):Int):=by
 decide +kernel
theorem small_any (p:Int)(w:World)(h0:0≤p)(h1:p<100):
 Calls prog 40 #[.int i64 p] w fun e w'=>e=.returned (.string (dgS p))∧w'=w:=by
 by_cases h:p<10
 ·have e1:decide (p<10)=true:=by simpa using h
  go_enter func40,ntmps40;go_wp2;go_ret;refine⟨ret_str ?_,rfl⟩;obtain⟨k,rfl⟩:∃k:Fin 10,p=((k:Nat):Int):=⟨⟨p.toNat,by omega⟩,by simp;omega⟩;exact small1 k
 have e1:decide (p<10)=false:=by simpa using h
 go_enter func40,ntmps40;go_wp2;go_ret;refine⟨ret_str ?_,rfl⟩;obtain⟨k,rfl⟩:∃k:Fin 100,p=((k:Nat):Int):=⟨⟨p.toNat,by omega⟩,by simp;omega⟩;exact small2 k (by omega)
theorem format_any (p:Int)(w:World)(h0:0≤p)(h1:p<100):
 Calls prog 23 #[.int i64 p,.int i64 10] w fun e w'=>e=.returned (.string (dgS p))∧w'=w:=by
 have e0:decide (0≤p)=true:=by simpa using h0
 have e1:decide (p<100)=true:=by simpa using h1
 go_enter func23,ntmps23
 go_wp2_with fail
 refine (small_any _ _ h0 h1).mono ?_;rintro e w' ⟨rfl,rfl⟩;go_wp2;go_ret;exact⟨rfl,rfl⟩
theorem itoa1_any (p:Int)(w:World)(h0:0≤p)(h1:p<100):
 Calls prog 13 #[.int i64 p] w fun e w'=>e=.returned (.string (dgS p))∧w'=w:=by
 go_enter func13,ntmps13
 go_wp2_with fail
 refine (format_any _ _ h0 h1).mono ?_;rintro e w' ⟨rfl,rfl⟩;go_wp2;go_ret;exact⟨rfl,rfl⟩
theorem itoa_any (p:Int)(w:World)(h0:0≤p)(h1:p<100):
 Calls prog 6 #[.int i64 p] w fun e w'=>e=.returned (.string (dgS p))∧w'=w:=by
 go_enter func6,ntmps6
 go_wp2_with fail
 refine (itoa1_any _ _ h0 h1).mono ?_;rintro e w' ⟨rfl,rfl⟩;go_wp2;go_ret;exact⟨rfl,rfl⟩
theorem ret_int {k:IntKind}{a b:Int}(h:a=b):Ending.returned (.int k a)=.returned (.int k b):=by rw[h]
theorem bitAt_any (i:Int)(w:World)(h0:0≤i)(h1:i<4):
 Calls prog 27 #[.int i64 i] w fun e w'=>e=.returned (.int i64 (2 ^ (3-i).toNat))∧w'=w:=by
 go_enter func27,ntmps27;go_wp2;go_ret;refine⟨ret_int ?_,rfl⟩
 rcases (by omega:i=0∨i=1∨i=2∨i=3) with rfl | rfl | rfl | rfl <;> decide +kernel
theorem letter_any (m b x:Int)(w:World):
 Calls prog 26 #[.agg #[.int i64 m,.int i64 b],.int i64 x] w fun e w'=>e=.returned (.int .u8 (ltr m b x))∧Below w.heap.size w w':=by
 cases h1:(bits .and .i64 m x==0)
 ·cases h2:(bits .and .i64 b x==0)
  ·have e:ltr m b x=49:=by simp only[ltr,h1,h2];rfl
   rw[e];clear e;go_enter func26,ntmps26;go_wp2;go_ret;exact⟨rfl,(bRQ _ _).alloc (nLQ _) _⟩
  have e:ltr m b x=48:=by simp only[ltr,h1,h2];rfl
  rw[e];clear e;go_enter func26,ntmps26;go_wp2;go_ret;exact⟨rfl,(bRQ _ _).alloc (nLQ _) _⟩
 have e:ltr m b x=42:=by simp only[ltr,h1];rfl
 rw[e];clear e;go_enter func26,ntmps26;go_wp2;go_ret;exact⟨rfl,(bRQ _ _).alloc (nLQ _) _⟩
def PrInv (m b:Int)(w:World)(B k:Nat)(w':World):Prop:=
 Below w.heap.size w w'∧w.heap.size<B∧B<w'.heap.size ∧
  w'.cell? ⟨w.heap.size,0,none⟩=some (.int i64 m)∧w'.cell? ⟨w.heap.size,1,none⟩=some (.int i64 b) ∧
  (w'.cell? ⟨B,0,none⟩=some (.int .u8 (ltrTo m b k 0))∧w'.cell? ⟨B,1,none⟩=some (.int .u8 (ltrTo m b k 1)) ∧
  w'.cell? ⟨B,2,none⟩=some (.int .u8 (ltrTo m b k 2))∧w'.cell? ⟨B,3,none⟩=some (.int .u8 (ltrTo m b k 3))) ∧
  (w'.frozen? ⟨B,0,none⟩=false∧w'.frozen? ⟨B,1,none⟩=false∧w'.frozen? ⟨B,2,none⟩=false∧w'.frozen? ⟨B,3,none⟩=false)
theorem PrInv.later {m b:Int}{w W w':World}{B k:Nat}(h:PrInv m b w B k W)(hb:Below W.heap.size W w'):PrInv m b w B k w':=by
 obtain⟨hB,h0,hsz,hm,hb',⟨c0,c1,c2,c3⟩,⟨f0,f1,f2,f3⟩⟩:=h;have fz:∀o,w'.frozen? ⟨B,o,none⟩=W.frozen? ⟨B,o,none⟩:=fun o=>hb.frozen (p:=⟨B,o,none⟩) hsz
 exact⟨hB.trans (hb.mono hB.size),h0,Nat.lt_of_lt_of_le hsz hb.size,cell_later hb hm,cell_later hb hb',⟨cell_later hb c0,cell_later hb c1,cell_later hb c2,cell_later hb c3⟩,
  ⟨(fz 0).trans f0,(fz 1).trans f1,(fz 2).trans f2,(fz 3).trans f3⟩⟩
theorem ltrTo_lt {m b:Int}{k j:Nat}(h:j<k):ltrTo m b k j=ltrAt m b j:=by simp[ltrTo,h]
theorem ltrTo_ne {m b:Int}{k j:Nat}(h:j≠k):ltrTo m b (k+1) j=ltrTo m b k j:=by
 unfold ltrTo;by_cases hj:j<k
 ·rw[if_pos hj,if_pos (by omega)]
 rw[if_neg hj,if_neg (by omega)]
theorem PrInv.step {m b:Int}{w w':World}{B k:Nat}(h:PrInv m b w B k w')(x:Int)(hx:x=bitN k):PrInv m b w B (k+1) (w'.setCell ⟨B,k,none⟩ (.int .u8 (ltr m b x))):=by
 obtain⟨hB,h0,hsz,hm,hb',⟨c0,c1,c2,c3⟩,⟨f0,f1,f2,f3⟩⟩:=h;subst hx;have hc:∀j,w'.cell? ⟨B,j,none⟩=some (.int .u8 (ltrTo m b k j))→(w'.setCell ⟨B,k,none⟩ (.int .u8 (ltr m b (bitN k)))).cell? ⟨B,j,none⟩=some (.int .u8 (ltrTo m b (k+1) j)):=by
  intro j hcj;by_cases e:j=k
  ·subst e;rw[World.cell?_setCell_same _ _ _ hcj,ltrTo_lt (by omega)];rfl
  rw[World.cell?_setCell_other _ _ _ _ (by simp <;> omega),hcj,ltrTo_ne e]
 refine⟨hB.setCell (by simp;omega) _,h0,by simpa using hsz,?_,?_,⟨hc 0 c0,hc 1 c1,hc 2 c2,hc 3 c3⟩,⟨?_,?_,?_,?_⟩⟩
 ·rw[World.cell?_setCell_other _ _ _ _ (by simp <;> omega),hm]
 ·rw[World.cell?_setCell_other _ _ _ _ (by simp <;> omega),hb']
 all_goals simp[*]
theorem print_ok (m b:Int)(w:World)(h:okB m b=true):
 Calls prog 15 #[.agg #[.int i64 m,.int i64 b]] w fun e w'=>e=.returned (.tuple #[.string (prS m b),.nilIface])∧Below w.heap.size w w':=by
 go_enter func15,ntmps15
 go_wp2_with fail
 refine (check_ok _ _ _ h).mono ?_;rintro e w1 ⟨rfl,hb1⟩;obtain⟨hc1,hf1⟩:=bcell hb1;have hz1:w.heap.size<w1.heap.size:=by have:=hb1.size;simp at this;omega
 go_wp2;have hI:PrInv m b w w1.heap.size 0 (w1.alloc (.cells #[Value.int IntKind.u8 0,Value.int IntKind.u8 0,Value.int IntKind.u8 0,Value.int IntKind.u8 0] 77)):=by
  refine⟨((((bRQ _ _).alloc (nLQ _) _).trans (hb1.mono (by simp))).alloc (by omega) _),hz1,by simp,?_,?_,⟨?_,?_,?_,?_⟩,⟨?_,?_,?_,?_⟩⟩
  ·rw[World.cell?_alloc_past _ _ _ hz1,hc1 _ _ (by simp)];simp
  ·rw[World.cell?_alloc_past _ _ _ hz1,hc1 _ _ (by simp)];simp
  all_goals simp[ltrTo]
 clear hb1 hc1 hf1 hz1
 generalize w1.alloc (.cells #[Value.int IntKind.u8 0,Value.int IntKind.u8 0,Value.int IntKind.u8 0,Value.int IntKind.u8 0] 77)=W1 at *
 generalize w1.heap.size=B at *
 clear w1
 go_loopw [12] (fun i w'=>∃k:Nat,k≤4∧i=.int i64 k∧PrInv m b w B k w') (fun i _=>4-(intOf i).toNat)
 case atStart=>exact⟨0,by omega,rfl,hI⟩
 case round =>
  obtain⟨k,hk,rfl,hI'⟩:=hrel;clear hI;obtain⟨hB,h0,hsz,hm,hb,⟨c0,c1,c2,c3⟩,⟨f0,f1,f2,f3⟩⟩:=id hI';have HI:Hid (PrInv m b w B k wr):=hI';clear hI'
  rcases (by omega:k=0∨k=1∨k=2∨k=3∨k=4) with rfl | rfl | rfl | rfl | rfl
  ·go_wp2
   go_region_with (first | (go_at_call 27;refine (bitAt_any _ _ (by decide) (by decide)).mono ?_;rintro e w' ⟨rfl,rfl⟩) | (go_at_call 26;refine (letter_any _ _ _ _).mono ?_;rintro e w' ⟨rfl,hb⟩;have HI2:=HI.out.later (((Below.refl _ wr).drew).trans hb);obtain⟨hB',h0',hsz',hm',hb',⟨c0',c1',c2',c3'⟩,⟨f0',f1',f2',f3'⟩⟩:=id HI2;replace HI2:Hid (PrInv m b w B 0 w'):=HI2))
   all_goals
    go_wp2;go_roundw
    case rel=>exact⟨1,by omega,rfl,HI2.out.step _ (by decide)⟩
    case measure=>simp[intOf]
  ·go_wp2
   go_region_with (first | (go_at_call 27;refine (bitAt_any _ _ (by decide) (by decide)).mono ?_;rintro e w' ⟨rfl,rfl⟩) | (go_at_call 26;refine (letter_any _ _ _ _).mono ?_;rintro e w' ⟨rfl,hb⟩;have HI2:=HI.out.later (((Below.refl _ wr).drew).trans hb);obtain⟨hB',h0',hsz',hm',hb',⟨c0',c1',c2',c3'⟩,⟨f0',f1',f2',f3'⟩⟩:=id HI2;replace HI2:Hid (PrInv m b w B 1 w'):=HI2))
   all_goals
    go_wp2;go_roundw
    case rel=>exact⟨2,by omega,rfl,HI2.out.step _ (by decide)⟩
    case measure=>simp[intOf]
  ·go_wp2
   go_region_with (first | (go_at_call 27;refine (bitAt_any _ _ (by decide) (by decide)).mono ?_;rintro e w' ⟨rfl,rfl⟩) | (go_at_call 26;refine (letter_any _ _ _ _).mono ?_;rintro e w' ⟨rfl,hb⟩;have HI2:=HI.out.later (((Below.refl _ wr).drew).trans hb);obtain⟨hB',h0',hsz',hm',hb',⟨c0',c1',c2',c3'⟩,⟨f0',f1',f2',f3'⟩⟩:=id HI2;replace HI2:Hid (PrInv m b w B 2 w'):=HI2))
   all_goals
    go_wp2;go_roundw
    case rel=>exact⟨3,by omega,rfl,HI2.out.step _ (by decide)⟩
    case measure=>simp[intOf]
  ·go_wp2
   go_region_with (first | (go_at_call 27;refine (bitAt_any _ _ (by decide) (by decide)).mono ?_;rintro e w' ⟨rfl,rfl⟩) | (go_at_call 26;refine (letter_any _ _ _ _).mono ?_;rintro e w' ⟨rfl,hb⟩;have HI2:=HI.out.later (((Below.refl _ wr).drew).trans hb);obtain⟨hB',h0',hsz',hm',hb',⟨c0',c1',c2',c3'⟩,⟨f0',f1',f2',f3'⟩⟩:=id HI2;replace HI2:Hid (PrInv m b w B 3 w'):=HI2))
   all_goals
    go_wp2;go_roundw
    case rel=>exact⟨4,by omega,rfl,HI2.out.step _ (by decide)⟩
    case measure=>simp[intOf]
  have hconv:=run_convert_bytes_arg (P:=prog) wr 63 5 underlying63 underlying5 B 0 4 4 [ltrAt m b 0,ltrAt m b 1,ltrAt m b 2,ltrAt m b 3] rfl (by
   intro i hi
   rcases (by omega:i=0∨i=1∨i=2∨i=3) with rfl | rfl | rfl | rfl <;> simp[*,ltrTo]) 9 underlying9
  clear c0 c1 c2 c3 f0 f1 f2 f3 hm hb;go_wp2
  go_ret2
  exact⟨rfl,hB⟩
def rsH (p m b:Int):ByteArray:=dgS p++⟨#[32]⟩++prS m b
def rsO (p m b o:Int):ByteArray:=rsH p m b++(⟨#[32,111,117,116,32]⟩++dgS o)
def rsS (p m b o s v:Int):ByteArray:=
 if o=0 then rsH p m b++⟨#[32,100,114,111,112]⟩ else if s=0 then rsO p m b o else rsO p m b o++(⟨#[32,115,101,116,32]⟩++prS s v)
theorem dg_size (p:Int):(dgS p).size≤2:=by
 unfold dgS
 split
 ·exact Nat.le_succ 1
 exact Nat.le_refl 2
theorem pr_size (m b:Int):(prS m b).size=4:=rfl
theorem set_ok {p o s v:Int}(h1:ruIn p o s v=true)(h2:ruSet o s v=true):okB s v=true:=by
 simp only[ruIn,Bool.and_eq_true] at h1;simp only[ruSet,Bool.and_eq_true] at h2;simp[okB,h1.2,h2.1]
theorem cells6 {w w1:World}{p m b o s v:Int}(hb:Below (w.alloc (.cells #[.int i64 p,.int i64 m,.int i64 b,.int i64 o,.int i64 s,.int i64 v] 50)).heap.size (w.alloc (.cells #[.int i64 p,.int i64 m,.int i64 b,.int i64 o,.int i64 s,.int i64 v] 50)) w1):
 (w1.cell? ⟨w.heap.size,0,none⟩=some (.int i64 p)∧w1.cell? ⟨w.heap.size,1,none⟩=some (.int i64 m)∧w1.cell? ⟨w.heap.size,2,none⟩=some (.int i64 b)∧w1.cell? ⟨w.heap.size,3,none⟩=some (.int i64 o)∧w1.cell? ⟨w.heap.size,4,none⟩=some (.int i64 s)∧w1.cell? ⟨w.heap.size,5,none⟩=some (.int i64 v))∧w.heap.size<w1.heap.size:=by
 have hs:=hb.size;simp at hs;refine⟨⟨?_,?_,?_,?_,?_,?_⟩,by omega⟩ <;> (rw[hb.cell (p:=⟨w.heap.size,_,none⟩) (by simp)];simp)
theorem below_one {w w1:World}{o:Obj}(hb:Below (w.alloc o).heap.size (w.alloc o) w1):Below w.heap.size w w1:=
 ((bRQ _ _).alloc (nLQ _) _).trans (hb.mono (by simp))
theorem ruPrint_ok (p m b o s v:Int)(w:World)(h:ruOk p m b o s v=true):
 Calls prog 8 #[.agg #[.int i64 p,.int i64 m,.int i64 b,.int i64 o,.int i64 s,.int i64 v]] w fun e w'=>e=.returned (.tuple #[.string (rsS p m b o s v),.nilIface])∧Below w.heap.size w w':=by
 have hn:=ruN_ok h;obtain⟨g1,g2,g3⟩:=ru_ok h;have g4:=set_ok g1 g3;obtain⟨⟨⟨p0,p1⟩,⟨o0,o1⟩⟩,_⟩:=ru_in g1;have d1:=dg_size p;have d2:=dg_size o;have d3:=pr_size m b;have d4:=pr_size s v;by_cases ho:o=0
 ·have e:rsS p m b o s v=rsH p m b++⟨#[32,100,114,111,112]⟩:=by simp[rsS,ho]
  rw[e];clear e h g1 g3;have ho2:(o==0)=true:=by simpa using ho
  clear ho;go_enter func8,ntmps8
  go_wp2_with fail
  refine (ruCheck_any _ _ _ _ _ _ _).mono ?_;rintro e w1 ⟨rfl,hb1⟩;rw[no_ok hn];obtain⟨⟨q0,q1,q2,q3,q4,q5⟩,lt1⟩:=cells6 hb1;have hB:=below_one hb1;clear hb1
  go_wp2_with fail
  refine (print_ok _ _ _ g2).mono ?_;rintro e w2 ⟨rfl,hb2⟩;have r0:=cell_later hb2 q0;have r3:=cell_later hb2 q3;have hB2:=hB.trans (hb2.mono hB.size);have lt2:=Nat.lt_of_lt_of_le lt1 hb2.size;clear hb2 q0 q1 q2 q3 q4 q5 hB
  go_wp2_with fail
  refine (itoa_any _ _ p0 (by omega)).mono ?_;rintro e w' ⟨rfl,rfl⟩;go_wp2;refine bodyPost_ret (v:=.tuple #[.string (rsH p m b++⟨#[32,100,114,111,112]⟩),.nilIface]) (by simp[results,results8,go_sem,rsH]) rfl ⟨rfl,?_⟩;exact hB2
 have ho2:(o==0)=false:=by simpa using ho
 by_cases hz:s=0
 ·have e:rsS p m b o s v=rsO p m b o:=by simp[rsS,ho,hz]
  rw[e];have hz2:(s==0)=true:=by simpa using hz
  have hz3:(s != 0)=false:=by simpa using hz
  clear e h g1 g3 ho hz;go_enter func8,ntmps8
  go_wp2_with fail
  refine (ruCheck_any _ _ _ _ _ _ _).mono ?_;rintro e w1 ⟨rfl,hb1⟩;rw[no_ok hn];obtain⟨⟨q0,q1,q2,q3,q4,q5⟩,lt1⟩:=cells6 hb1;have hB:=below_one hb1;clear hb1
  go_wp2_with fail
  refine (print_ok _ _ _ g2).mono ?_;rintro e w2 ⟨rfl,hb2⟩;have r0:=cell_later hb2 q0;have r3:=cell_later hb2 q3;have r4:=cell_later hb2 q4;have hB2:=hB.trans (hb2.mono hB.size);have lt2:=Nat.lt_of_lt_of_le lt1 hb2.size;clear hb2 q0 q1 q2 q3 q4 q5 hB
  go_wp2_with fail
  refine (itoa_any _ _ p0 (by omega)).mono ?_;rintro e w' ⟨rfl,rfl⟩
  go_wp2_with fail
  refine (itoa_any _ _ o0 (by omega)).mono ?_;rintro e w' ⟨rfl,rfl⟩;go_wp2;refine bodyPost_ret (v:=.tuple #[.string (rsO p m b o),.nilIface]) (by simp[results,results8,go_sem,rsH,rsO]) rfl ⟨rfl,?_⟩;exact hB2
 have e:rsS p m b o s v=rsO p m b o++(⟨#[32,115,101,116,32]⟩++prS s v):=by simp[rsS,ho,hz]
 rw[e];have hz2:(s==0)=false:=by simpa using hz
 have hz3:(s != 0)=true:=by simpa using hz
 clear e h g1 g3 ho hz;go_enter func8,ntmps8
 go_wp2_with fail
 refine (ruCheck_any _ _ _ _ _ _ _).mono ?_;rintro e w1 ⟨rfl,hb1⟩;rw[no_ok hn];obtain⟨⟨q0,q1,q2,q3,q4,q5⟩,lt1⟩:=cells6 hb1;have hB:=below_one hb1;clear hb1
 go_wp2_with fail
 refine (print_ok _ _ _ g2).mono ?_;rintro e w2 ⟨rfl,hb2⟩;have r0:=cell_later hb2 q0;have r3:=cell_later hb2 q3;have r4:=cell_later hb2 q4;have r5:=cell_later hb2 q5;have hB2:=hB.trans (hb2.mono hB.size);have lt2:=Nat.lt_of_lt_of_le lt1 hb2.size;clear hb2 q0 q1 q2 q3 q4 q5 hB
 go_wp2_with fail
 refine (itoa_any _ _ p0 (by omega)).mono ?_;rintro e w' ⟨rfl,rfl⟩
 go_wp2_with fail
 refine (itoa_any _ _ o0 (by omega)).mono ?_;rintro e w' ⟨rfl,rfl⟩
 go_wp2_with fail
 refine (print_ok _ _ _ g4).mono ?_;rintro e w3 ⟨rfl,hb3⟩;have hB3:=hB2.trans (hb3.mono hB2.size);clear hb3 hB2;go_wp2;refine bodyPost_ret (v:=.tuple #[.string (rsO p m b o++(⟨#[32,115,101,116,32]⟩++prS s v)),.nilIface]) (by simp[results,results8,go_sem,rsH,rsO]) rfl ⟨rfl,?_⟩;exact hB3
section
variable {c:UInt8}
def ixQ (c:UInt8)(s:ByteArray):Int:=Lib.indexByte s.data.toList c
def cutK (c:UInt8):Nat→ByteArray→List ByteArray
 | 0,s=>[s]
 | k+1,s=>if ixQ c s = -1 then [s] else s.extract 0 (ixQ c s).toNat :: cutK c k (s.extract ((ixQ c s).toNat+1) s.size)
theorem ck_miss {s:ByteArray}(k:Nat)(h:ixQ c s = -1):cutK c k s=[s]:=by
 cases k with
 | zero=>rfl
 | succ k=>rw[cutK,if_pos h]
theorem ck_hit {s:ByteArray}(k:Nat){i:Nat}(h:ixQ c s=i):cutK c (k+1) s=s.extract 0 i :: cutK c k (s.extract (i+1) s.size):=by
 have hm:¬ixQ c s = -1:=by omega
 have e:(ixQ c s).toNat=i:=by omega
 rw[cutK,if_neg hm,e]
theorem ixq_cases (c:UInt8)(s:ByteArray):ixQ c s = -1∨∃i:Nat,ixQ c s=i∧i<s.size:=by
 have h:=Lib.indexByte_ge s.data.toList c;by_cases e:ixQ c s = -1
 ·exact .inl e
 right;have e':0≤ixQ c s:=by unfold ixQ at *;omega
 obtain⟨i,hi⟩:=Int.eq_ofNat_of_zero_le e';refine⟨i,hi,?_⟩;have:=(Lib.indexByte_some hi).1;have hlt:=(List.getElem?_eq_some_iff.1 this).1;simpa using hlt
theorem ixq_len {c:UInt8}(s:ByteArray){i:Nat}(h:ixQ c s=i):i<s.size:=by
 rcases ixq_cases c s with h' | ⟨j,h',hj⟩
 ·omega
 rw[h'] at h;have:j=i:=by omega
 omega
theorem ck_fuel (c:UInt8):∀(k:Nat) (s:ByteArray),s.size≤k→cutK c (k+1) s=cutK c k s
 | 0,s,h=>by
   rcases ixq_cases c s with h' | ⟨i,_,hi⟩
   ·rw[ck_miss _ h',ck_miss _ h']
   omega
 | k+1,s,h=>by
   rcases ixq_cases c s with h' | ⟨i,h',hi⟩
   ·rw[ck_miss _ h',ck_miss _ h']
   rw[ck_hit _ h',ck_hit _ h',ck_fuel c k _ (by rw[ByteArray.size_extract];omega)]
theorem ck_more {s:ByteArray}{k:Nat}(h:s.size≤k):∀d,cutK c (k+d) s=cutK c k s
 | 0=>rfl
 | d+1=>by rw[←Nat.add_assoc,ck_fuel c (k+d) s (by omega),ck_more h d]
def cutC (c:UInt8)(s:ByteArray):List ByteArray:=cutK c s.size s
theorem cc_of {s:ByteArray}{k:Nat}(h:s.size≤k):cutK c k s=cutC c s:=by
 obtain⟨d,rfl⟩:∃d,k=s.size+d:=⟨k-s.size,by omega⟩;exact ck_more (nLQ _) d
theorem cc_hit {s:ByteArray}{i:Nat}(h:ixQ c s=i):cutC c s=s.extract 0 i :: cutC c (s.extract (i+1) s.size):=by
 have hi:=ixq_len s h;rw[←cc_of (show s.size≤(s.size-1)+1 by omega),ck_hit _ h];rw[cc_of (by rw[ByteArray.size_extract];omega)]
theorem cc_miss {s:ByteArray}(h:ixQ c s = -1):cutC c s=[s]:=ck_miss _ h
theorem byC_of {s:ByteArray}{j:Nat}(h:s.data.toList[j]?=some c):byteN s j=c.toNat:=by
 rw[byteN,List.getD_eq_getElem?_getD,h];rfl
end
theorem byteN_at (s:ByteArray)(k:Nat)(h:k<s.size):byteN s k=s[k].toNat:=by
 unfold byteN;have h':k<s.data.toList.length:=by simpa using h
 rw[List.getD_eq_getElem?_getD,List.getElem?_eq_getElem h'];rfl
theorem six {B b:Nat}{w w1:World}(h:Below B w w1)(hb:B≤b)(v0 v1 v2 v3 v4 v5:Value):
 Below B w ((((((w1.setCell ⟨b,0,none⟩ v0).setCell ⟨b,1,none⟩ v1).setCell ⟨b,2,none⟩ v2).setCell ⟨b,3,none⟩ v3).setCell ⟨b,4,none⟩ v4).setCell ⟨b,5,none⟩ v5):=
 (((((h.setCell (by simpa using hb) _).setCell (by simpa using hb) _).setCell (by simpa using hb) _).setCell (by simpa using hb) _).setCell (by simpa using hb) _).setCell (by simpa using hb) _
def chr3 (k:Fin 3):UInt8:=if k=0 then 49 else if k=1 then 48 else 42
def txt (a b c d:Fin 3):ByteArray:=⟨#[chr3 a,chr3 b,chr3 c,chr3 d]⟩
theorem chr3_of {x:UInt8}(h:mayB x.toNat=true):∃k,x=chr3 k:=by
 simp only[mayB,Bool.or_eq_true,beq_iff_eq] at h
 rcases h with (h | h) | h
 ·exact⟨0,UInt8.toNat_inj.1 h⟩
 ·exact⟨1,UInt8.toNat_inj.1 h⟩
 exact⟨2,UInt8.toNat_inj.1 h⟩
theorem txt_of {s:ByteArray}(h:psOk s=true):∃a b c d,s=txt a b c d:=by
 obtain⟨⟨l⟩⟩:=s;simp only[psOk,Bool.and_eq_true,beq_iff_eq] at h;obtain⟨h4,hm⟩:=h;have hl:l.length=4:=by simpa[ByteArray.size] using h4
 match l,hl with
 | [x0,x1,x2,x3],_ =>
   simp only[mayTo,Bool.and_eq_true,Bool.true_and] at hm;obtain⟨⟨⟨m0,m1⟩,m2⟩,m3⟩:=hm;obtain⟨a,rfl⟩:=chr3_of (x:=x0) m0;obtain⟨b,rfl⟩:=chr3_of (x:=x1) m1;obtain⟨c,rfl⟩:=chr3_of (x:=x2) m2;obtain⟨d,rfl⟩:=chr3_of (x:=x3) m3;exact⟨a,b,c,d,rfl⟩
theorem read_all:∀a b c d:Fin 3,(okB (psM (txt a b c d)) (psB (txt a b c d))&&(prS (psM (txt a b c d)) (psB (txt a b c d))).data.toList==(txt a b c d).data.toList)=true:=by decide +kernel
theorem read {s:ByteArray}(h:psOk s=true):okB (psM s) (psB s)=true∧prS (psM s) (psB s)=s:=by
 obtain⟨a,b,c,d,rfl⟩:=txt_of h;have:=read_all a b c d;simp only[Bool.and_eq_true,beq_iff_eq] at this;exact⟨this.1,by
  have e:=this.2
  generalize prS _ _=x at *
  generalize txt a b c d=y at *
  obtain⟨⟨x⟩⟩:=x;obtain⟨⟨y⟩⟩:=y;simp at e;rw[e]⟩
def cmpN (a b:Int):Int:=if a<b then -1 else if b<a then 1 else 0
def orN (x y z:Int):Int:=if x=0 then (if y=0 then z else y) else x
def ordN (p m b p' m' b':Int):Int:=orN (cmpN p p') (cmpN m m') (cmpN b b')
structure Ru where
 p:Int
 m:Int
 b:Int
 o:Int
 s:Int
 v:Int
abbrev TsQ:=List (List Ru)
def Ru.n (r:Ru):Int:=ruN r.p r.m r.b r.o r.s r.v
def Ru.ok (r:Ru):Bool:=ruOk r.p r.m r.b r.o r.s r.v
def Ru.has (r:Ru)(h:Int):Bool:=hasB r.m r.b h
def ordR (a b:Ru):Int:=ordN a.p a.m a.b b.p b.m b.b
def keyB (a b:Ru):Bool:=ordR a b==0
def zeR:Ru:=⟨0,0,0,0,0,0⟩
theorem cmp_0 {a b:Int}:cmpN a b=0↔a=b:=by unfold cmpN;split <;> (try split) <;> omega
theorem ord_0 {a b:Ru}:ordR a b=0↔a.p=b.p∧a.m=b.m∧a.b=b.b:=by
 unfold ordR ordN orN;by_cases h1:a.p=b.p
 ·rw[if_pos (cmp_0.2 h1)];by_cases h2:a.m=b.m
  ·rw[if_pos (cmp_0.2 h2),cmp_0];exact⟨fun h=>⟨h1,h2,h⟩,fun h=>h.2.2⟩
  rw[if_neg (fun h=>h2 (cmp_0.1 h)),cmp_0];exact⟨fun h=>absurd h h2,fun h=>h.2.1⟩
 rw[if_neg (fun h=>h1 (cmp_0.1 h)),cmp_0];exact⟨fun h=>absurd h h1,fun h=>h.1⟩
theorem key_eq (a b:Ru):keyB a b=(decide (a.p=b.p)&&(decide (a.m=b.m)&&decide (a.b=b.b))):=by
 rw[Bool.eq_iff_iff,keyB,beq_iff_eq,ord_0];simp
def clTo (L:List Ru):Nat→Bool
 | 0=>false
 | k+1=>clTo L k || (L.take k).any (fun a=>keyB a (L.getD k zeR))
def okR (L:List Ru):Bool:=L.all Ru.ok
def tbTo (L:List Ru):Nat→Int
 | 0=>0
 | k+1=>if tbTo L k=0 then (if (L.getD k zeR).n=0 then (if (L.take k).any (fun a=>keyB a (L.getD k zeR)) then 7 else 0) else (L.getD k zeR).n) else tbTo L k
def tbN (L:List Ru):Int:=if 12<L.length then 4 else tbTo L L.length
theorem n_ne {r:Ru}(h:r.ok=false):r.n≠0:=ruN_ne h
theorem n_ok {r:Ru}(h:r.ok=true):r.n=0:=ruN_ok h
theorem ok_n {r:Ru}(h:r.n=0):r.ok=true:=by
 cases e:r.ok
 ·exact absurd h (n_ne e)
 rfl
theorem okR_next {L:List Ru}{k:Nat}(hk:k<L.length)(h:okR (L.take k)=true)(h2:(L[k]).ok=true):okR (L.take (k+1))=true:=by
 rw[List.take_succ_eq_append_getElem hk];simp only[okR,List.all_append,List.all_cons,List.all_nil,Bool.and_true,Bool.and_eq_true];exact⟨h,h2⟩
theorem to_le {L:List Ru}{k:Nat}(h:tbTo L k≠0):∀{n:Nat},k≤n→tbTo L n=tbTo L k
 | 0,hn=>by
   obtain rfl:k=0:=by omega
   rfl
 | n+1,hn=>by
   by_cases e:k=n+1
   ·subst e;rfl
   have:=to_le h (show k≤n by omega);rw[tbTo,if_neg (by rw[this];exact h),this]
theorem getD_at {L:List Ru}{k:Nat}(hk:k<L.length):L.getD k zeR=L[k]:=by simp[List.getD,hk]
theorem cl_le {L:List Ru}:∀{k n:Nat},k≤n→clTo L n=false→clTo L k=false
 | k,0,h,hc=>by
   obtain rfl:k=0:=by omega
   exact hc
 | k,n+1,h,hc=>by
   by_cases e:k=n+1
   ·subst e;exact hc
   simp only[clTo,Bool.or_eq_false_iff] at hc;exact cl_le (by omega) hc.1
theorem cl_no {L:List Ru}:clTo L L.length=false↔∀i j,i<j→j<L.length→keyB (L.getD i zeR) (L.getD j zeR)=false:=by
 constructor
 ·intro h i j hij hj;have:=cl_le (show j+1≤L.length by omega) h;simp only[clTo,Bool.or_eq_false_iff] at this;have h2:=this.2;rw[List.any_eq_false] at h2;have hm:L.getD i zeR∈L.take j:=by
   rw[getD_at (by omega)];rw[List.mem_take_iff_getElem];exact⟨i,by omega,rfl⟩
  simpa using h2 _ hm
 intro h;have:∀n,n≤L.length→clTo L n=false:=by
  intro n
  induction n with
  | zero=>intro _;rfl
  | succ n ih =>
    intro hn;simp only[clTo,Bool.or_eq_false_iff];refine⟨ih (by omega),?_⟩;rw[List.any_eq_false];intro a ha;rw[List.mem_take_iff_getElem] at ha;obtain⟨i,hi,rfl⟩:=ha;have:=h i n (by omega) (by omega);rw[getD_at (by omega)] at this;simpa using this
 exact this _ (nLQ _)
theorem to_0 {L:List Ru}:∀{k:Nat},k≤L.length→(tbTo L k=0↔okR (L.take k)=true∧clTo L k=false)
 | 0,_=>by simp[tbTo,okR,clTo]
 | k+1,hk=>by
   have ih:=to_0 (show k≤L.length by omega);have hl:k<L.length:=by omega
   rw[tbTo,clTo];by_cases h1:tbTo L k=0
   ·obtain⟨i1,i2⟩:=ih.1 h1;rw[if_pos h1,i2,Bool.false_or];by_cases h2:(L.getD k zeR).n=0
    ·rw[if_pos h2];have h3:=okR_next hl i1 (by rw[←getD_at hl];exact ok_n h2);cases h4:(L.take k).any (fun a=>keyB a (L.getD k zeR))
     ·simp[h3]
     simp
    rw[if_neg h2];refine⟨fun h=>absurd h h2,fun h=>?_⟩
    exfalso
    have h5:=h.1;rw[okR,List.all_eq_true] at h5;exact h2 (n_ok (by rw[getD_at hl];exact h5 _ (by rw[List.mem_take_iff_getElem];exact⟨k,by omega,rfl⟩)))
   rw[if_neg h1];refine⟨fun h=>absurd h h1,fun h=>?_⟩
   exfalso
   obtain⟨h5,h6⟩:=h;simp only[Bool.or_eq_false_iff] at h6;refine h1 (ih.2 ⟨?_,h6.1⟩);rw[okR,List.all_eq_true] at h5 ⊢;intro x hx;refine h5 x ?_;rw[List.mem_take_iff_getElem] at hx ⊢;obtain⟨i,hi,e⟩:=hx;exact⟨i,by omega,e⟩
theorem tb_0 {L:List Ru}:tbN L=0↔L.length≤12∧okR L=true∧clTo L L.length=false:=by
 unfold tbN;by_cases h1:12<L.length
 ·rw[if_pos h1];constructor
  ·intro h;cases h
  intro h;omega
 rw[if_neg h1,to_0 (nLQ _),List.take_length];exact⟨fun h=>⟨by omega,h⟩,fun h=>h.2⟩
section
variable {κ β:Type}
def fndM (q:κ→κ→Bool)(k:κ):List κ→List MapEntry→Nat→Option (Nat×Value)
 | k' :: ks,e :: es,i=>if q k k' then some (i,e.val) else fndM q k ks es (i+1)
 | _,_,_=>none
def mget (q:κ→κ→Bool)(k:κ):List (κ×β)→Option β
 | []=>none
 | p :: M=>if q k p.1 then some p.2 else mget q k M
def mput (q:κ→κ→Bool)(k:κ)(b:β):List (κ×β)→List (κ×β)
 | []=>[(k,b)]
 | p :: M=>if q k p.1 then (k,b) :: M else p :: mput q k b M
theorem mget_put {q:κ→κ→Bool}(hq:∀a b,q a b=true↔a=b)(k k':κ)(b:β):∀M:List (κ×β),mget q k' (mput q k b M)=if q k' k then some b else mget q k' M
 | []=>by simp[mput,mget]
 | p :: M=>by
   have ih:=mget_put hq k k' b M;rw[mput];by_cases h:q k p.1=true
   ·rw[if_pos h,mget,mget];have e:=(hq _ _).1 h;subst e;simp only
    split <;> simp_all
   rw[if_neg h,mget,mget,ih];by_cases h2:q k' p.1=true
   ·rw[if_pos h2,if_pos h2];have e:=(hq _ _).1 h2;have:¬q k' k=true:=fun h3=>h (by rw[hq] at h3;subst h3;exact h2)
    rw[if_neg this]
   rw[if_neg h2,if_neg h2]
end
structure KeyE (P:Program)(K:TypeId)(κ:Type) where
 c:κ→Value
 q:κ→κ→Bool
 qeq:∀a b,q a b=true↔a=b
 check:∀(e:Bool) (k:κ) (w:World),(Instr.checkKey e 10000 K (c k)).run P w=.ok () w
 find:∀(k:κ) (ks:List κ) (l:List MapEntry) (w:World),l.map (·.key)=ks.map c→(Instr.findKey K (c k) l).run P w=.ok (fndM q k ks l 0) w
 bits:∀k,Instr.sameBits 10000 (c k) (c k)=true
section
variable {P:Program}{K:TypeId}{κ β:Type}
theorem find_ask {c:κ→Value}{q:κ→κ→Bool}(heq:∀a b w,(Op.equal K (c a) (c b)).run P w=.ok (q a b) w)(k:κ):∀(ks:List κ) (l:List MapEntry) (i:Nat) (w:World),l.map (·.key)=ks.map c→(Instr.findAsking K (c k) l i).run P w=.ok (fndM q k ks l i) w
 | [],[],i,w,_=>rfl
 | [],_ :: _,_,_,h=>by simp at h
 | _ :: _,[],_,_,h=>by simp at h
 | k' :: ks,e :: l,i,w,h=>by
   simp only[List.map_cons,List.cons.injEq] at h;simp only[Instr.findAsking,Sem.run_bind,h.1,heq,Result.andThen_ok];rw[fndM];cases hq:q k k'
   ·simp only[Bool.false_eq_true,if_false];exact find_ask heq k ks l (i+1) w h.2
   simp
theorem find_now {c:κ→Value}{q:κ→κ→Bool}{d:TypeDesc}(hs:∀a b,Instr.sameNow d (c a) (c b)=some (q a b))(k:κ):∀(ks:List κ) (l:List MapEntry) (i:Nat),l.map (·.key)=ks.map c→Instr.findNow d (c k) l i=some (fndM q k ks l i)
 | [],[],i,_=>rfl
 | [],_ :: _,_,h=>by simp at h
 | _ :: _,[],_,h=>by simp at h
 | k' :: ks,e :: l,i,h=>by
   simp only[List.map_cons,List.cons.injEq] at h;rw[Instr.findNow,h.1,hs,fndM];cases hq:q k k'
   ·simp only[Bool.false_eq_true,if_false];exact find_now hs k ks l (i+1) h.2
   simp
def KeyE.now (c:κ→Value)(q:κ→κ→Bool)(qeq:∀a b,q a b=true↔a=b)(check:∀(e:Bool) (k:κ) (w:World),(Instr.checkKey e 10000 K (c k)).run P w=.ok () w)(d:TypeDesc)(hd:P.underlying K=some d)
    (hs:∀a b,Instr.sameNow d (c a) (c b)=some (q a b)) (bits:∀k,Instr.sameBits 10000 (c k) (c k)=true):KeyE P K κ:=
 ⟨c,q,qeq,check,fun k ks l w h=>Go.MapKept.run_findKey hd (find_now hs k ks l 0 h),bits⟩
def KeyE.ask (c:κ→Value)(q:κ→κ→Bool)(qeq:∀a b,q a b=true↔a=b)(check:∀(e:Bool) (k:κ) (w:World),(Instr.checkKey e 10000 K (c k)).run P w=.ok () w)(d:TypeDesc)(hd:P.underlying K=some d)
    (hs:∀a b,Instr.sameNow d (c a) (c b)=none) (heq:∀a b w,(Op.equal K (c a) (c b)).run P w=.ok (q a b) w) (bits:∀k,Instr.sameBits 10000 (c k) (c k)=true):KeyE P K κ:=
 ⟨c,q,qeq,check,fun k ks l w h=>by
  cases ks with
  | nil =>
    cases l with
    | nil=>exact Go.MapKept.run_findKey hd rfl
    | cons e l=>simp at h
  | cons k' ks =>
    cases l with
    | nil=>simp at h
    | cons e l =>
      have h1:Instr.findNow d (c k) (e :: l) 0=none:=by
       simp only[List.map_cons,List.cons.injEq] at h;rw[Instr.findNow,h.1,hs]
      simp only[Instr.findKey,Sem.run_bind,run_underlying hd,Result.andThen_ok,h1];exact find_ask heq k (k' :: ks) (e :: l) 0 w h,bits⟩
def Sta (bs:List Nat)(clock:Nat):Prop:=(∀b∈bs,b<clock)∧bs.Nodup
theorem sta_push {bs:List Nat}{clock:Nat}(h:Sta bs clock):Sta (bs++[clock]) (clock+1):=by
 refine⟨fun b hb=>?_,?_⟩
 ·simp only[List.mem_append,List.mem_singleton] at hb
  rcases hb with hb | rfl
  ·have:=h.1 b hb;omega
  omega
 rw[List.nodup_append];refine⟨h.2,by simp,fun a ha b hb e=>?_⟩;simp only[List.mem_singleton] at hb;have:=h.1 a ha;omega
theorem born_modify (f:MapEntry→MapEntry)(hf:∀e,(f e).born=e.born):∀(l:List MapEntry) (i:Nat),(l.modify i f).map (·.born)=l.map (·.born)
 | [],i=>by simp
 | a :: l,0=>by simp[hf]
 | a :: l,i+1=>by
   have ih:=born_modify f hf l i;simp[List.modify_succ_cons,ih]
def MAt (E:KeyE P K κ)(ve:β→Value)(w:World)(B:Nat)(M:List (κ×β)):Prop:=
 ∃es clock,w.heap[B]?=some (.map es clock)∧es.toList.map (·.key)=(M.map (·.1)).map E.c∧es.toList.map (·.val)=(M.map (·.2)).map ve∧Sta (es.toList.map (·.born)) clock
variable {E:KeyE P K κ}{ve:β→Value}
theorem MAt.lt {w:World}{B:Nat}{M:List (κ×β)}(h:MAt E ve w B M):B<w.heap.size:=by
 obtain⟨es,clock,h1,_⟩:=h;exact (Array.getElem?_eq_some_iff.1 h1).1
theorem MAt.later {w w':World}{B:Nat}{M:List (κ×β)}(h:MAt E ve w B M)(hb:Below w.heap.size w w'):MAt E ve w' B M:=by
 have hlt:=h.lt;obtain⟨es,clock,h1,h2⟩:=h;exact⟨es,clock,(hb.block B hlt).trans h1,h2⟩
theorem MAt.kept {w w':World}{B:Nat}{M:List (κ×β)}{row:Option Nat}(h:MAt E ve w B M)(hg:w.grownBy w' row)(hne:some B≠row):MAt E ve w' B M:=by
 have hlt:=h.lt;obtain⟨es,clock,h1,h2⟩:=h;exact⟨es,clock,(hg.block B hlt hne).trans h1,h2⟩
theorem mat_new (E:KeyE P K κ)(ve:β→Value)(w:World):MAt E ve (w.alloc (.map #[] 0)) w.heap.size []:=⟨#[],0,heap_alloc_new w _,rfl,rfl,by simp[Sta]⟩
theorem fnd_get {q:κ→κ→Bool}{k:κ}:∀(M:List (κ×β)) (l:List MapEntry) (i:Nat),l.map (·.val)=(M.map (·.2)).map ve→((fndM q k (M.map (·.1)) l i).map (·.2))=(mget q k M).map ve
 | [],[],_,_=>rfl
 | [],_ :: _,_,h=>by simp at h
 | _ :: _,[],_,h=>by simp at h
 | p :: M,e :: l,i,h=>by
   simp only[List.map_cons,List.cons.injEq] at h;rw[List.map_cons,fndM,mget];cases hq:q k p.1
   ·simp only[Bool.false_eq_true,if_false];exact fnd_get M l (i+1) h.2
   simp[h.1]
def getV (ve:β→Value)(z:Value)(o:Option β):Value:=match o with | some b=>ve b | none=>z
theorem run_lookup_M {w:World}{B:Nat}{M:List (κ×β)}(h:MAt E ve w B M)(t e:TypeId)(ht:P.underlying t=some (.map K e))(z:Value)(hz:∀w,(zeroValue e).run P w=.ok z w)(k:κ)(ok:Bool):
 (Instr.lookup t (.map (some B)) (E.c k) ok).run P w=.ok (if ok then .tuple #[getV ve z (mget E.q k M),.bool (mget E.q k M).isSome] else getV ve z (mget E.q k M)) w:=by
 obtain⟨es,clock,h1,h2,h3,_⟩:=h;have hf:=E.find k (M.map (·.1)) es.toList w h2;have hg:=fnd_get (ve:=ve) (q:=E.q) (k:=k) M es.toList 0 h3;simp only[Instr.lookup,Sem.run_bind,run_underlying ht,Result.andThen_ok,Go.MapKept.run_getObj_map h1,Sem.run_pure,E.check,hf]
 generalize fndM E.q k (M.map (·.1)) es.toList 0=r at *
 cases r with
 | none =>
   cases hm:mget E.q k M with
   | none=>cases ok <;> simp[getV,hz]
   | some b=>rw[hm] at hg;simp at hg
 | some p =>
   cases hm:mget E.q k M with
   | none=>rw[hm] at hg;simp at hg
   | some b =>
     rw[hm] at hg;simp at hg;cases ok <;> simp[getV,hg]
theorem fnd_put {q:κ→κ→Bool}(qeq:∀a b,q a b=true↔a=b){c:κ→Value}{k:κ}{b:β}:∀(M:List (κ×β)) (l:List MapEntry) (s:Nat),l.map (·.key)=(M.map (·.1)).map c→l.map (·.val)=(M.map (·.2)).map ve →
 (fndM q k (M.map (·.1)) l s=none∧(mput q k b M)=M++[(k,b)])∨∃i v,fndM q k (M.map (·.1)) l s=some (s+i,v)∧∃hi:i<l.length,l[i].key=c k ∧
  (l.modify i (fun e=>{ e with key:=c k,val:=ve b })).map (·.key)=((mput q k b M).map (·.1)).map c∧(l.modify i (fun e=>{ e with key:=c k,val:=ve b })).map (·.val)=((mput q k b M).map (·.2)).map ve
 | [],[],_,_,_=>.inl ⟨rfl,rfl⟩
 | [],_ :: _,_,h,_=>by simp at h
 | _ :: _,[],_,h,_=>by simp at h
 | p :: M,e :: l,s,h,h'=>by
   simp only[List.map_cons,List.cons.injEq] at h h';rw[List.map_cons,fndM,mput];cases hq:q k p.1
   ·simp only[Bool.false_eq_true,if_false]
    rcases fnd_put qeq (c:=c) (k:=k) (b:=b) M l (s+1) h.2 h'.2 with ⟨h1,h2⟩ | ⟨i,v,h1,hi,h2,h3,h4⟩
    ·exact .inl ⟨h1,by rw[h2];rfl⟩
    refine .inr ⟨i+1,v,by rw[h1];congr 2;omega,by simp;omega,by simpa using h2,?_,?_⟩
    ·simp only[List.modify_succ_cons,List.map_cons,h.1,h3]
    simp only[List.modify_succ_cons,List.map_cons,h'.1,h4]
   simp only[if_true];have e1:=(qeq _ _).1 hq;refine .inr ⟨0,e.val,rfl,by simp,by simp[h.1,e1],?_,?_⟩
   ·simp[h.2]
   simp[h'.2]
theorem run_update_M {w:World}{B:Nat}{M:List (κ×β)}(h:MAt E ve w B M)(t e:TypeId)(ht:P.underlying t=some (.map K e))(k:κ)(b:β):
 ∃w',(Instr.mapUpdate t (.map (some B)) (E.c k) (ve b)).run P w=.ok () w'∧MAt E ve w' B (mput E.q k b M)∧w.grownBy w' (some B):=by
 have hlt:=h.lt;obtain⟨es,clock,h1,h2,h3,hst⟩:=h;have hf:=E.find k (M.map (·.1)) es.toList w h2;have hgr:∀o:Obj,w.grownBy { w with heap:=w.heap.setIfInBounds B o } (some B):=fun o=>⟨rfl,rfl,rfl,by simp,fun j _ hj=>by
  have:B≠j:=fun e=>hj (by rw[e])
  simp[Array.getElem?_setIfInBounds_ne this]⟩
 have hat:∀o:Obj,({ w with heap:=w.heap.setIfInBounds B o }:World).heap[B]?=some o:=fun o=>by simp[hlt]
 rcases fnd_put E.qeq (ve:=ve) (c:=E.c) (k:=k) (b:=b) M es.toList 0 h2 h3 with ⟨r1,r2⟩ | ⟨i,v,r1,hi,r2,r3,r4⟩
 ·rw[r1] at hf;refine⟨_,?_,⟨es.push { key:=E.c k,val:=ve b,born:=clock },clock+1,hat _,?_,?_,by simpa using sta_push hst⟩,hgr _⟩
  ·simp only[Instr.mapUpdate,Sem.run_bind,run_underlying ht,Result.andThen_ok,Go.MapKept.run_getObj_map h1,E.check,hf,Go.MapKept.run_setObj_map _ h1]
  ·rw[r2];simp[h2]
  rw[r2];simp[h3]
 rw[r1] at hf;have hk:((es[i]?).map (·.key)).getD (E.c k)=E.c k:=by
  have hi2:i<es.size:=by simpa using hi
  rw[Array.getElem?_eq_getElem hi2];simpa using r2
 refine⟨_,?_,⟨es.modify i fun e=>{ e with key:=E.c k,val:=ve b },clock,hat _,?_,?_,by have hbm:=born_modify (fun e:MapEntry=>{ e with key:=E.c k,val:=ve b }) (fun _=>rfl) es.toList i;rw[Array.toList_modify,hbm];exact hst⟩,hgr _⟩
 ·simp only[Instr.mapUpdate,Sem.run_bind,run_underlying ht,Result.andThen_ok,Go.MapKept.run_getObj_map h1,E.check,hf,Nat.zero_add,hk,Instr.keyThatStays,E.bits,if_true,Sem.run_pure,Go.MapKept.run_setObj_map _ h1]
 ·rw[Array.toList_modify];exact r3
 rw[Array.toList_modify];exact r4
theorem find_born {l:List MapEntry}:∀{j:Nat} {e0:MapEntry},(l.map (·.born)).Nodup→l[j]?=some e0→l.findIdx? (fun e=>((e.born:Nat):Int)==((e0.born:Nat):Int))=some j:=by
 induction l with
 | nil=>intro j e0 _ h;simp at h
 | cons a r ih =>
   intro j e0 hn h;simp only[List.map_cons,List.nodup_cons] at hn;cases j with
   | zero =>
     simp only[List.getElem?_cons_zero,Option.some.injEq] at h;subst h;simp[List.findIdx?_cons]
   | succ j =>
     simp only[List.getElem?_cons_succ] at h;have hne:¬a.born=e0.born:=fun e1=>hn.1 (List.mem_map.2 ⟨e0,List.mem_of_getElem? h,e1.symm⟩)
     have hb:(((a.born:Nat):Int)==((e0.born:Nat):Int))=false:=by
      simp only[beq_eq_false_iff_ne,ne_eq,Int.natCast_inj];exact hne
     rw[List.findIdx?_cons,hb];simp[ih hn.2 h]
theorem idx_toList (xs:Array MapEntry)(p:MapEntry→Bool):xs.findIdx? p=xs.toList.findIdx? p:=by
 cases xs;simp
theorem modify_end {α:Type}(f:α→α)(a:α):∀l:List α,(l++[a]).modify l.length f=l++[f a]
 | []=>rfl
 | b :: r=>by simp[List.modify_succ_cons,modify_end f a r]
theorem modify_at {α:Type}(f g:α→α):∀(l:List α) (i:Nat) (hi:i<l.length),f l[i]=g l[i]→l.modify i f=l.modify i g
 | a :: l,0,_,h=>by simpa using h
 | a :: l,i+1,hi,h=>by
   have:=modify_at f g l i (by simpa using hi) (by simpa using h);simp[List.modify_succ_cons,this]
theorem modify_id {α:Type}(f:α→α):∀(l:List α) (i:Nat) (hi:i<l.length),f l[i]=l[i]→l.modify i f=l
 | a :: l,0,_,h=>by simpa using h
 | a :: l,i+1,hi,h=>by
   have:=modify_id f l i (by simpa using hi) (by simpa using h);simp[List.modify_succ_cons,this]
theorem run_entry_M {w:World}{B:Nat}{M:List (κ×β)}(h:MAt E ve w B M)(t e:TypeId)(ht:P.underlying t=some (.map K e))(z:β)(hz:∀w,(zeroValue e).run P w=.ok (ve z) w)(k:κ):
 ∃ (v0:Value) (st:Nat) (w1:World),(Instr.mapEntry t (.map (some B)) (E.c k)).run P w=.ok (.tuple #[v0,.int i64 (st:Int)]) w1∧w.grownBy w1 (some B)∧MAt E ve w1 B (mput E.q k ((mget E.q k M).getD z) M) ∧
   ∀(w2:World) (b:β),w2.heap[B]?=w1.heap[B]?→∃w3,(Instr.entryStore t (.map (some B)) (.int i64 (st:Int)) (ve b)).run P w2=.ok () w3∧MAt E ve w3 B (mput E.q k b M)∧w2.grownBy w3 (some B):=by
 have hlt:=h.lt;obtain⟨es,clock,h1,h2,h3,hst⟩:=h;have hf:=E.find k (M.map (·.1)) es.toList w h2;have hgr:∀(w:World) (o:Obj),w.grownBy { w with heap:=w.heap.setIfInBounds B o } (some B):=fun w o=>⟨rfl,rfl,rfl,by simp,fun j _ hj=>by
  have:B≠j:=fun e=>hj (by rw[e])
  simp[Array.getElem?_setIfInBounds_ne this]⟩
 have hat:∀(w:World) (o o':Obj),w.heap[B]?=some o'→({ w with heap:=w.heap.setIfInBounds B o }:World).heap[B]?=some o:=fun w o o' hw=>by
  have hl:B<w.heap.size:=(Array.getElem?_eq_some_iff.1 hw).1;simp[hl]
 rcases fnd_put E.qeq (ve:=ve) (c:=E.c) (k:=k) (b:=z) M es.toList 0 h2 h3 with ⟨r1,r2⟩ | ⟨i,v,r1,hi,r2,r3,r4⟩
 ·rw[r1] at hf;have hno:mget E.q k M=none:=by
   have:=fnd_get (ve:=ve) (q:=E.q) (k:=k) M es.toList 0 h3;rw[r1] at this;cases hm:mget E.q k M with
   | none=>rfl
   | some b=>rw[hm] at this;simp at this
  have hput:∀b,mput E.q k b M=M++[(k,b)]:=fun b=>by
   rcases fnd_put E.qeq (ve:=ve) (c:=E.c) (k:=k) (b:=b) M es.toList 0 h2 h3 with ⟨_,r⟩ | ⟨i,v,q1,_⟩
   ·exact r
   rw[r1] at q1;cases q1
  refine⟨ve z,clock,{ w with heap:=w.heap.setIfInBounds B (.map (es.push { key:=E.c k,val:=ve z,born:=clock }) (clock+1)) },?_,hgr _ _,⟨_,_,hat _ _ _ h1,?_,?_,by simpa using sta_push hst⟩,fun w2 b hw2=>?_⟩
  ·simp only[Instr.mapEntry,Sem.run_bind,run_underlying ht,Result.andThen_ok,Go.MapKept.run_getObj_map h1,E.check,hf,hz,Go.MapKept.run_setObj_map _ h1,Sem.run_pure];rfl
  ·rw[hno,hput];simp[h2]
  ·rw[hno,hput];simp[h3]
  rw[hat _ _ _ h1] at hw2;have hidx:(es.push { key:=E.c k,val:=ve z,born:=clock }).findIdx? (fun e=>((e.born:Nat):Int)==((clock:Nat):Int))=some es.size:=by
   rw[idx_toList];exact find_born (l:=(es.push { key:=E.c k,val:=ve z,born:=clock }).toList) (j:=es.size) (e0:={ key:=E.c k,val:=ve z,born:=clock }) (by simpa using (sta_push hst).2) (by simp)
  have hmod:(es.push { key:=E.c k,val:=ve z,born:=clock }).modify es.size (fun e=>{ e with val:=ve b })=es.push { key:=E.c k,val:=ve b,born:=clock }:=by
   apply Array.ext'
   rw[Array.toList_modify,Array.toList_push,Array.toList_push,←Array.length_toList,modify_end]
  refine⟨{ w2 with heap:=w2.heap.setIfInBounds B (.map (es.push { key:=E.c k,val:=ve b,born:=clock }) (clock+1)) },?_,⟨_,_,hat _ _ _ hw2,?_,?_,by simpa using sta_push hst⟩,hgr _ _⟩
  ·simp[Instr.entryStore,Go.MapKept.run_getObj_map hw2,asInt,asIntOf,hidx,hmod,Go.MapKept.run_setObj_map _ hw2,Result.andThen]
  ·rw[hput];simp[h2]
  rw[hput];simp[h3]
 rw[r1] at hf;simp only[Nat.zero_add] at hf r1;have hi2:i<es.size:=by simpa using hi
 have hie:es[i]?=some es[i]:=Array.getElem?_eq_getElem hi2;have hil:es.toList[i]?=some es[i]:=by simp[hi2]
 have hkey:es[i].key=E.c k:=by simpa using r2
 have hget:∃b0,mget E.q k M=some b0∧ve b0=v:=by
  have:=fnd_get (ve:=ve) (q:=E.q) (k:=k) M es.toList 0 h3;rw[r1] at this;cases hm:mget E.q k M with
  | none=>rw[hm] at this;simp at this
  | some b=>rw[hm] at this;simp at this;exact⟨b,rfl,this.symm⟩
 obtain⟨b0,hb0,hv⟩:=hget;have hsame:es.modify i (fun e=>{ e with key:=E.c k })=es:=by
  apply Array.ext'
  rw[Array.toList_modify];refine modify_id _ _ i hi ?_;have:es.toList[i].key=E.c k:=r2;rw[←this]
 have hall:∀b,(es.toList.modify i (fun e=>{ e with key:=E.c k,val:=ve b })).map (·.key)=((mput E.q k b M).map (·.1)).map E.c∧(es.toList.modify i (fun e=>{ e with key:=E.c k,val:=ve b })).map (·.val)=((mput E.q k b M).map (·.2)).map ve:=fun b=>by
  rcases fnd_put E.qeq (ve:=ve) (c:=E.c) (k:=k) (b:=b) M es.toList 0 h2 h3 with ⟨q1,_⟩ | ⟨j,v',q1,_,_,q3,q4⟩
  ·rw[r1] at q1;cases q1
  rw[r1] at q1;simp only[Option.some.injEq,Prod.mk.injEq,Nat.zero_add] at q1;obtain⟨rfl,_⟩:=q1;exact⟨q3,q4⟩
 have hold:mput E.q k b0 M=M:=by
  have hput:∀(M:List (κ×β)),mget E.q k M=some b0→mput E.q k b0 M=M:=by
   intro M
   induction M with
   | nil=>intro h;cases h
   | cons p M ih =>
     intro h;rw[mget] at h;rw[mput];by_cases e:E.q k p.1=true
     ·rw[if_pos e] at h ⊢;have e1:=(E.qeq _ _).1 e;simp at h;subst h;subst e1;rfl
     rw[if_neg e] at h ⊢;rw[ih h]
  exact hput M hb0
 refine⟨v,es[i].born,w,?_,⟨rfl,rfl,rfl,nLQ _,fun _ _ _=>rfl⟩,⟨es,clock,h1,?_,?_,hst⟩,fun w2 b hw2=>?_⟩
 ·have hrefl:({ w with heap:=w.heap.setIfInBounds B (.map es clock) }:World)=w:=by
   have:w.heap.setIfInBounds B (.map es clock)=w.heap:=by
    apply Array.ext_getElem?
    intro j;by_cases e:B=j
    ·subst e;exact (hat w (.map es clock) _ h1).trans h1.symm
    simp[Array.getElem?_setIfInBounds_ne e]
   rw[this]
  simp only[Instr.mapEntry,Sem.run_bind,run_underlying ht,Result.andThen_ok,Go.MapKept.run_getObj_map h1,E.check,hf,hie,Option.map_some,Option.getD_some,hkey,Instr.keyThatStays,E.bits,if_true,Sem.run_pure,hsame,Go.MapKept.run_setObj_map _ h1];rw[hrefl];rfl
 ·rw[hb0,Option.getD_some,hold];exact h2
 ·rw[hb0,Option.getD_some,hold];exact h3
 rw[h1] at hw2;have hidx:es.findIdx? (fun e=>((e.born:Nat):Int)==((es[i].born:Nat):Int))=some i:=by
  rw[idx_toList];exact find_born hst.2 hil
 have hmod:es.modify i (fun e=>{ e with val:=ve b })=es.modify i (fun e=>{ e with key:=E.c k,val:=ve b }):=by
  apply Array.ext'
  rw[Array.toList_modify,Array.toList_modify];refine modify_at _ _ _ i hi ?_;have:es.toList[i].key=E.c k:=r2;rw[←this]
 refine⟨{ w2 with heap:=w2.heap.setIfInBounds B (.map (es.modify i (fun e=>{ e with key:=E.c k,val:=ve b })) clock) },?_,⟨_,_,hat _ _ _ hw2,?_,?_,by have hbm:=born_modify (fun e:MapEntry=>{ e with key:=E.c k,val:=ve b }) (fun _=>rfl) es.toList i;rw[Array.toList_modify,hbm];exact hst⟩,hgr _ _⟩
 ·simp[Instr.entryStore,Go.MapKept.run_getObj_map hw2,asInt,asIntOf,hidx,hmod,Go.MapKept.run_setObj_map _ hw2,Result.andThen]
 ·rw[Array.toList_modify];exact (hall b).1
 rw[Array.toList_modify];exact (hall b).2
variable {w:World}{ops:Array Oper}{rest:List Oper}{o:Oper}{a:Act}{Q:Exit→Act→World→Prop}
end
theorem ba_eq {a b:ByteArray}:(a==b)=true↔a=b:=by
 obtain⟨x⟩:=a;obtain⟨y⟩:=b;show (x==y)=true↔_;simp
def spB (S:Int)(x:Int×Int):Bool:=decide (1≤x.1)&&(decide (x.1≤S)&&(decide (1≤x.2)&&decide (x.2≤4)))
def nmB (s:ByteArray):Bool:=decide (1≤s.size)&&(decide (s.size≤6)&&s.data.toList.all fun c=>decide (97≤c.toNat)&&decide (c.toNat≤122))
def spsL (Ls:LkQ):List (Int×Int):=Ls.flatMap fun l=>[l.1,l.2]
def lkN (S:Int):LkQ→List (Int×Int)→Int
 | [],_=>0
 | l :: Ls,U=>if spB S l.1&&spB S l.2 then (if l.1==l.2 || (U.any fun u=>u==l.1 || u==l.2) then 7 else lkN S Ls (U++[l.1,l.2])) else 1
def hoN (S:Int):HoQ→List ByteArray→List (Int×Int)→Int
 | [],_,_=>0
 | h :: Hs,N,U=>if nmB h.1 then (if spB S h.2 then (if (N.any fun n=>n==h.1) || (U.any fun u=>u==h.2) then 7 else hoN S Hs (N++[h.1]) (U++[h.2])) else 1) else 2
def tpN (S:Int)(Ls:LkQ)(Hs:HoQ):Int:=
 if decide (1≤S)&&decide (S≤6) then (if decide (Ls.length≤200)&&decide (Hs.length≤8) then (if lkN S Ls []=0 then hoN S Hs [] (spsL Ls) else lkN S Ls []) else 4) else 1
theorem sp_of {S:Int}{x:Int×Int}(h:spB S x=true):1≤x.1∧x.1≤S∧1≤x.2∧x.2≤4:=by
 simpa[spB] using h
theorem lk_0 {S:Int}:∀{Ls:LkQ} {U:List (Int×Int)},U.Nodup→(lkN S Ls U=0↔(∀x∈spsL Ls,spB S x=true)∧(U++spsL Ls).Nodup)
 | [],U,hU=>by simp[lkN,spsL,hU]
 | l :: Ls,U,hU=>by
   obtain⟨x,y⟩:=l;have e:spsL ((x,y) :: Ls)=x :: y :: spsL Ls:=rfl;rw[lkN,e];simp only;by_cases h1:spB S x&&spB S y
   ·rw[if_pos h1];simp only[Bool.and_eq_true] at h1;by_cases h2:(x==y || (U.any fun u=>u==x || u==y))=true
    ·rw[if_pos h2];refine⟨fun h=>absurd h (by decide),fun h=>?_⟩
     exfalso
     have hn:=h.2;rw[List.nodup_append] at hn;obtain⟨_,h3,h4⟩:=hn;simp only[Bool.or_eq_true,beq_iff_eq,List.any_eq_true] at h2
     rcases h2 with h2 | ⟨u,hu,h2 | h2⟩
     ·subst h2;rw[List.nodup_cons] at h3;exact h3.1 (by simp)
     ·exact h4 u hu x (by simp) h2
     exact h4 u hu y (by simp) h2
    rw[if_neg h2];simp only[Bool.or_eq_true,beq_iff_eq,List.any_eq_true,not_or,not_exists,not_and] at h2;have hU2:(U++[x,y]).Nodup:=by
     rw[List.nodup_append];refine⟨hU,by simp[h2.1],?_⟩;intro a ha b hb e;subst e;simp only[List.mem_cons,List.not_mem_nil,or_false] at hb;have:=h2.2 a ha
     rcases hb with rfl | rfl
     ·exact this.1 rfl
     exact this.2 rfl
    rw[lk_0 hU2];have e2:U++[x,y]++spsL Ls=U++x :: y :: spsL Ls:=by simp
    rw[e2];refine and_congr ⟨fun h=>?_,fun h z hz=>h z (by simp[hz])⟩ Iff.rfl;intro z hz;simp only[List.mem_cons] at hz
    rcases hz with rfl | rfl | hz
    ·exact h1.1
    ·exact h1.2
    exact h z hz
   rw[if_neg h1];refine⟨fun h=>absurd h (by decide),fun h=>?_⟩;exact absurd (by simp[h.1 x (by simp),h.1 y (by simp)]) h1
theorem ho_0 {S:Int}:∀{Hs:HoQ} {N:List ByteArray} {U:List (Int×Int)},N.Nodup→U.Nodup→(hoN S Hs N U=0↔(∀h∈Hs,nmB h.1=true∧spB S h.2=true)∧(N++Hs.map (·.1)).Nodup∧(U++Hs.map (·.2)).Nodup)
 | [],N,U,hN,hU=>by simp[hoN,hN,hU]
 | h :: Hs,N,U,hN,hU=>by
   obtain⟨n,x⟩:=h;rw[hoN];simp only[List.map_cons];by_cases h1:nmB n=true
   ·rw[if_pos h1];by_cases h2:spB S x=true
    ·rw[if_pos h2];by_cases h3:((N.any fun m=>m==n) || (U.any fun u=>u==x))=true
     ·rw[if_pos h3];refine⟨fun h=>absurd h (by decide),fun h=>?_⟩
      exfalso
      simp only[Bool.or_eq_true,ba_eq,beq_iff_eq,List.any_eq_true] at h3
      rcases h3 with ⟨m,hm,e⟩ | ⟨u,hu,e⟩
      ·have:=(List.nodup_append.1 h.2.1).2.2;exact this m hm n (by simp) e
      have:=(List.nodup_append.1 h.2.2).2.2;exact this u hu x (by simp) e
     rw[if_neg h3];simp only[Bool.or_eq_true,ba_eq,beq_iff_eq,List.any_eq_true,not_or,not_exists,not_and] at h3;have hN2:(N++[n]).Nodup:=by
      rw[List.nodup_append];refine⟨hN,by simp,fun a ha b hb e=>?_⟩;simp only[List.mem_singleton] at hb;subst hb;exact h3.1 a ha e
     have hU2:(U++[x]).Nodup:=by
      rw[List.nodup_append];refine⟨hU,by simp,fun a ha b hb e=>?_⟩;simp only[List.mem_singleton] at hb;subst hb;exact h3.2 a ha e
     rw[ho_0 hN2 hU2];have e1:N++[n]++Hs.map (·.1)=N++n :: Hs.map (·.1):=by simp
     have e2:U++[x]++Hs.map (·.2)=U++x :: Hs.map (·.2):=by simp
     rw[e1,e2];refine and_congr ⟨fun h z hz=>?_,fun h z hz=>h z (by simp[hz])⟩ Iff.rfl
     rcases List.mem_cons.1 hz with rfl | hz
     ·exact⟨h1,h2⟩
     exact h z hz
    rw[if_neg h2];refine⟨fun h=>absurd h (by decide),fun h=>?_⟩;exact absurd (h.1 (n,x) (by simp)).2 h2
   rw[if_neg h1];refine⟨fun h=>absurd h (by decide),fun h=>?_⟩;exact absurd (h.1 (n,x) (by simp)).1 h1
theorem tp_0 {S:Int}{Ls:LkQ}{Hs:HoQ}(h:tpN S Ls Hs=0):
 (1≤S∧S≤6)∧(Ls.length≤200∧Hs.length≤8)∧(∀x∈spsL Ls,spB S x=true)∧(spsL Ls).Nodup∧(∀h∈Hs,nmB h.1=true∧spB S h.2=true)∧(Hs.map (·.1)).Nodup∧(spsL Ls++Hs.map (·.2)).Nodup:=by
 unfold tpN at h;by_cases h1:(decide (1≤S)&&decide (S≤6))=true
 ·rw[if_pos h1] at h;by_cases h2:(decide (Ls.length≤200)&&decide (Hs.length≤8))=true
  ·rw[if_pos h2] at h;by_cases h3:lkN S Ls []=0
   ·rw[if_pos h3] at h;have h4:=(lk_0 (S:=S) (Ls:=Ls) (U:=[]) List.nodup_nil).1 h3;simp only[List.nil_append] at h4;have h5:=(ho_0 (S:=S) (Hs:=Hs) (N:=[]) (U:=spsL Ls) List.nodup_nil h4.2).1 h;simp only[List.nil_append] at h5;simp only[Bool.and_eq_true,decide_eq_true_eq] at h1 h2;exact⟨h1,h2,h4.1,h4.2,h5.1,h5.2.1,h5.2.2⟩
   rw[if_neg h3] at h;exact absurd h h3
  rw[if_neg h2] at h;exact absurd h (by decide)
 rw[if_neg h1] at h;exact absurd h (by decide)
structure But (X:List Nat)(w w':World):Prop where
 os:w'.os=w.os
 tape:w'.tape=w.tape
 output:w'.output=w.output
 size:w.heap.size≤w'.heap.size
 block:∀k,k<w.heap.size→k ∉ X→w'.heap[k]?=w.heap[k]?
theorem But.refl (X:List Nat)(w:World):But X w w:=⟨rfl,rfl,rfl,nLQ _,fun _ _ _=>rfl⟩
theorem But.trans {X:List Nat}{a b c:World}(h:But X a b)(k:But X b c):But X a c:=
 ⟨k.os.trans h.os,k.tape.trans h.tape,k.output.trans h.output,Nat.le_trans h.size k.size,fun i hi hx=>(k.block i (Nat.lt_of_lt_of_le hi h.size) hx).trans (h.block i hi hx)⟩
theorem But.drew {X:List Nat}{a w:World}(h:But X a w):But X a w.drew:=⟨h.os,h.tape,h.output,h.size,h.block⟩
theorem wrap_small {x:Int}(h1 : -1000000≤x)(h2:x≤1000000):IntKind.i64.wrap x=x:=by
 rw[IntKind.wrap_i64];omega
theorem But.of_below {X:List Nat}{w w':World}(h:Below w.heap.size w w'):But X w w':=⟨h.os,h.tape,h.output,h.size,fun k hk _=>h.block k hk⟩
theorem But.of_grown {X:List Nat}{w w':World}{B:Nat}(h:w.grownBy w' (some B))(hB:B∈X):But X w w':=
 ⟨h.os,h.tape,h.output,h.size,fun k hk hx=>h.block k hk (fun e=>hx (by cases e;exact hB))⟩
theorem But.mono {X Y:List Nat}{w w':World}(h:But X w w')(hX:∀x∈X,x∈Y):But Y w w':=⟨h.os,h.tape,h.output,h.size,fun k hk hx=>h.block k hk (fun e=>hx (hX k e))⟩
theorem But.below {X:List Nat}{w w':World}{B:Nat}(h:But X w w')(hB:B≤w.heap.size)(hX:∀x∈X,B≤x):Below B w w':=
 ⟨h.os,h.tape,h.output,h.size,fun k hk=>h.block k (by omega) (fun e=>by have:=hX k e;omega)⟩
theorem But.cell {X:List Nat}{w w':World}(h:But X w w'){p:Addr}(hl:p.block<w.heap.size)(hX:p.block ∉ X):w'.cell? p=w.cell? p:=World.cell?_of_block (w:=w) (h.block p.block hl hX)
section
variable {P:Program}{K:TypeId}{κ β:Type}{E:KeyE P K κ}{ve:β→Value}
theorem MAt.but {X:List Nat}{w w':World}{B:Nat}{M:List (κ×β)}(h:MAt E ve w B M)(hb:But X w w')(hX:B ∉ X):MAt E ve w' B M:=by
 have hlt:=h.lt;obtain⟨es,clock,h1,h2⟩:=h;exact⟨es,clock,(hb.block B hlt hX).trans h1,h2⟩
end
section
variable {κ:Type}
def ctM (q:κ→κ→Bool)(x:κ)(U:List κ):Nat:=(U.filter fun y=>q x y).length
theorem ct_app {q:κ→κ→Bool}(x:κ)(U V:List κ):ctM q x (U++V)=ctM q x U+ctM q x V:=by simp[ctM]
theorem ct_le {q:κ→κ→Bool}(x:κ)(U:List κ):ctM q x U≤U.length:=List.length_filter_le _ _
theorem ct_pos {q:κ→κ→Bool}(hq:∀a b,q a b=true↔a=b)(x:κ)(U:List κ):0<ctM q x U↔x∈U:=by
 unfold ctM;rw[List.length_pos_iff_exists_mem];simp only[List.mem_filter,hq];exact⟨fun ⟨y,h1,h2⟩=>h2 ▸ h1,fun h=>⟨x,h,rfl⟩⟩
def TK (q:κ→κ→Bool)(M:List (κ×Int))(U:List κ):Prop:=∀s,(mget q s M).getD 0=(ctM q s U:Int)
theorem tk_nil (q:κ→κ→Bool):TK q [] []:=fun s=>rfl
theorem tk_put {q:κ→κ→Bool}(hq:∀a b,q a b=true↔a=b){M:List (κ×Int)}{U:List κ}(h:TK q M U)(x:κ):TK q (mput q x ((ctM q x U:Int)+1) M) (U++[x]):=by
 intro s;rw[mget_put hq,ct_app];by_cases e:q s x=true
 ·rw[if_pos e];have e2:=(hq _ _).1 e;subst e2;have:ctM q s [s]=1:=by simp[ctM,e]
  rw[this];simp
 rw[if_neg e,h s];have:ctM q s [x]=0:=by simp[ctM,e]
 rw[this];simp
theorem ct_one {q:κ→κ→Bool}(hq:∀a b,q a b=true↔a=b)(x y:κ):ctM q x [y]=if q x y then 1 else 0:=by
 cases h:q x y <;> simp[ctM,h]
end
def sq (a b:Int×Int):Bool:=a.1==b.1&&a.2==b.2
theorem sq_iff (a b:Int×Int):sq a b=true↔a=b:=by
 obtain⟨x,y⟩:=a;obtain⟨z,v⟩:=b;simp[sq]
def lk1 (S:Int)(U:List (Int×Int))(l:(Int×Int)×(Int×Int)):Int:=if spB S l.1&&spB S l.2 then (if l.1==l.2 || (U.any fun u=>u==l.1 || u==l.2) then 7 else 0) else 1
theorem lk_step (S:Int)(l:(Int×Int)×(Int×Int))(Ls:LkQ)(U:List (Int×Int)):lkN S (l :: Ls) U=if lk1 S U l=0 then lkN S Ls (U++[l.1,l.2]) else lk1 S U l:=by
 rw[lkN,lk1];by_cases h1:(spB S l.1&&spB S l.2)=true
 ·rw[if_pos h1,if_pos h1];by_cases h2:(l.1==l.2 || (U.any fun u=>u==l.1 || u==l.2))=true
  ·rw[if_pos h2,if_pos h2];rfl
  rw[if_neg h2,if_neg h2];rfl
 rw[if_neg h1,if_neg h1];rfl
def ho1 (S:Int)(N:List ByteArray)(U:List (Int×Int))(h:ByteArray×(Int×Int)):Int:=if nmB h.1 then (if spB S h.2 then (if (N.any fun n=>n==h.1) || (U.any fun u=>u==h.2) then 7 else 0) else 1) else 2
theorem ho_step (S:Int)(h:ByteArray×(Int×Int))(Hs:HoQ)(N:List ByteArray)(U:List (Int×Int)):hoN S (h :: Hs) N U=if ho1 S N U h=0 then hoN S Hs (N++[h.1]) (U++[h.2]) else ho1 S N U h:=by
 rw[hoN,ho1];by_cases h1:nmB h.1=true
 ·rw[if_pos h1,if_pos h1];by_cases h2:spB S h.2=true
  ·rw[if_pos h2,if_pos h2];by_cases h3:((N.any fun n=>n==h.1) || (U.any fun u=>u==h.2))=true
   ·rw[if_pos h3,if_pos h3];rfl
   rw[if_neg h3,if_neg h3];rfl
  rw[if_neg h2,if_neg h2];rfl
 rw[if_neg h1,if_neg h1];rfl
theorem ct_link (U:List (Int×Int))(x y:Int×Int):(decide ((1:Int)<(ctM sq x (U++[x]++[y]):Int)) || decide ((1:Int)<(ctM sq y (U++[x]++[y]):Int)))=(x==y || (U.any fun u=>u==x || u==y)):=by
 rw[Bool.eq_iff_iff];simp only[ct_app,ct_one sq_iff,Bool.or_eq_true,decide_eq_true_eq,beq_iff_eq,List.any_eq_true];have hx:=ct_pos sq_iff x U;have hy:=ct_pos sq_iff y U;have sx:sq x x=true:=(sq_iff _ _).2 rfl;have sy:sq y y=true:=(sq_iff _ _).2 rfl;rw[sx,sy];simp only[if_true];by_cases e:x=y
 ·subst e;simp[sx];omega
 have n1:sq x y=false:=by
  cases h:sq x y
  ·rfl
  exact absurd ((sq_iff _ _).1 h) e
 have n2:sq y x=false:=by
  cases h:sq y x
  ·rfl
  exact absurd ((sq_iff _ _).1 h).symm e
 rw[n1,n2];simp only[Bool.false_eq_true,if_false,e,false_or];constructor
 ·rintro (h | h)
  ·exact⟨x,hx.1 (by omega),.inl rfl⟩
  exact⟨y,hy.1 (by omega),.inr rfl⟩
 rintro⟨u,hu,rfl | rfl⟩
 ·have:=hx.2 hu;left;omega
 have:=hy.2 hu;right;omega
theorem ba_iff (a b:ByteArray):(a==b)=true↔a=b:=ba_eq
theorem ct_host {κ:Type}{q:κ→κ→Bool}(hq:∀a b,q a b=true↔a=b)(U:List κ)(x:κ):decide ((1:Int)<(ctM q x (U++[x]):Int))=(U.any fun u=>q u x):=by
 rw[Bool.eq_iff_iff];simp only[ct_app,ct_one hq,decide_eq_true_eq,List.any_eq_true];have hx:=ct_pos hq x U;have sx:q x x=true:=(hq _ _).2 rfl;rw[sx];simp only[if_true];constructor
 ·intro h;exact⟨x,hx.1 (by omega),sx⟩
 rintro⟨u,hu,e⟩;have e2:=(hq _ _).1 e;subst e2;have:=hx.2 hu;omega
theorem sps_take {Ls:LkQ}{k:Nat}(hk:k<Ls.length):spsL (Ls.take (k+1))=spsL (Ls.take k)++[Ls[k].1,Ls[k].2]:=by
 rw[List.take_succ_eq_append_getElem hk];unfold spsL;rw[List.flatMap_append];rfl
theorem sps_len (Ls:LkQ):(spsL Ls).length=2*Ls.length:=by
 induction Ls with
 | nil=>rfl
 | cons l Ls ih =>
   have e:spsL (l :: Ls)=l.1 :: l.2 :: spsL Ls:=rfl;rw[e];simp[ih];omega
end
section
open Go.ChangeShapes Go.WideShapes Go.ChangeAt Go.RowKit
structure Enc (α:Type) where
 c:α→List Value
 n:Nat
 len:∀x,(c x).length=n
 pos:0<n
 one:∀x u,u∈c x→u.oneCell'=true
def VAt (w:World)(g o:Nat)(vs:List Value):Prop:=∀j u,vs[j]?=some u→w.cell? ⟨g,o+j,none⟩=some u
theorem VAt.later {w w':World}{g o:Nat}{vs:List Value}(h:VAt w g o vs)(hb:Below w.heap.size w w'):VAt w' g o vs:=fun j u hu=>cell_later hb (h j u hu)
theorem vat_new (w:World)(vs:List Value)(t:TypeId):VAt (w.alloc (.cells vs.toArray t)) w.heap.size 0 vs:=by
 intro j u hu;rw[Nat.zero_add];have hj:j<vs.length:=(List.getElem?_eq_some_iff.1 hu).1;simp only[World.cell?,World.alloc];simp[hu]
section
variable {α:Type}{E:Enc α}
def GAt (E:Enc α)(w:World)(g o:Nat)(L:List α):Prop:=∀i (h:i<L.length),VAt w g (o+i*E.n) (E.c L[i])
theorem GAt.later {w w':World}{g o:Nat}{L:List α}(h:GAt E w g o L)(hb:Below w.heap.size w w'):GAt E w' g o L:=fun i hi=>(h i hi).later hb
theorem GAt.take {w:World}{g o:Nat}{L:List α}(h:GAt E w g o L)(k:Nat):GAt E w g o (L.take k):=by
 intro i hi;rw[List.getElem_take];exact h i (by simp at hi;omega)
theorem GAt.drop {w:World}{g o:Nat}{L:List α}(h:GAt E w g o L)(k:Nat):GAt E w g (o+k*E.n) (L.drop k):=by
 intro i hi;have hi2:k+i<L.length:=by simp at hi;omega
 have:=h (k+i) hi2;rw[List.getElem_drop];have e:o+(k+i)*E.n=o+k*E.n+i*E.n:=by rw[Nat.add_mul];omega
 rw[←e];exact this
def GS (E:Enc α)(w:World)(v:Value)(L:List α):Prop:=
 (∃ao cap,v=.slice ao 0 cap∧L=[])∨∃g o cap,v=.slice (some ⟨g,o,none⟩) L.length cap∧L.length≤cap∧cap≤maxLen∧GAt E w g o L
theorem GS.later {w w':World}{v:Value}{L:List α}(h:GS E w v L)(hb:Below w.heap.size w w'):GS E w' v L:=by
 rcases h with h | ⟨g,o,cap,h1,h2,h3,h4⟩
 ·exact .inl h
 exact .inr ⟨g,o,cap,h1,h2,h3,h4.later hb⟩
theorem GS.form {w:World}{v:Value}{L:List α}(h:GS E w v L):∃ao n cap,v=.slice ao n cap∧L.length=n∧n≤maxLen∧n≤cap∧(0<n→∃g o,ao=some ⟨g,o,none⟩∧GAt E w g o L∧cap≤maxLen):=by
 rcases h with ⟨ao,cap,rfl,rfl⟩ | ⟨g,o,cap,rfl,h1,h2,h3⟩
 ·exact⟨ao,0,cap,rfl,rfl,Nat.zero_le _,Nat.zero_le _,fun h=>absurd h (by omega)⟩
 exact⟨_,_,cap,rfl,rfl,Nat.le_trans h1 h2,h1,fun _=>⟨g,o,rfl,h3,h2⟩⟩
theorem GS.len {w:World}{ao:AdQ}{n cap:Nat}{L:List α}(h:GS E w (.slice ao n cap) L):L.length=n:=by
 rcases h with ⟨_,_,e,rfl⟩ | ⟨_,_,_,e,_⟩
 ·simp at e;simp[e]
 simp at e;exact e.2.1.symm
theorem GS.nil (w:World):GS E w (.slice none 0 0) []:=.inl ⟨none,0,rfl,rfl⟩
def cellsG (E:Enc α)(L:List α):List Value:=L.flatMap E.c
theorem cellsG_len (L:List α):(cellsG E L).length=L.length*E.n:=by
 induction L with
 | nil=>simp[cellsG]
 | cons x r ih =>
   simp only[cellsG,List.flatMap_cons,List.length_append,List.length_cons,E.len] at *;rw[ih,Nat.add_mul];omega
theorem cellsG_app (L M:List α):cellsG E (L++M)=cellsG E L++cellsG E M:=by simp[cellsG]
theorem cellsG_one (x:α):cellsG E [x]=E.c x:=by simp[cellsG]
theorem cellsG_at (L:List α):∀(i:Nat) (h:i<L.length) (j:Nat),j<E.n→(cellsG E L)[i*E.n+j]?=(E.c L[i])[j]?:=by
 induction L with
 | nil=>intro i h;simp at h
 | cons x r ih =>
   intro i h j hj;cases i with
   | zero =>
     simp only[cellsG,List.flatMap_cons,Nat.zero_mul,Nat.zero_add,List.getElem_cons_zero];rw[List.getElem?_append_left (by rw[E.len];exact hj)]
   | succ i =>
     have:=ih i (by simpa using h) j hj;simp only[cellsG,List.flatMap_cons,List.getElem_cons_succ] at this ⊢;rw[List.getElem?_append_right (by rw[E.len,Nat.add_mul];omega),E.len];have e:(i+1)*E.n+j-E.n=i*E.n+j:=by rw[Nat.add_mul];omega
     rw[e];exact this
theorem GAt.cells {w:World}{g o:Nat}{M:List α}(h:GAt E w g o M):∀j u,(cellsG E M)[j]?=some u→w.cell? ((⟨g,o,none⟩:Addr).add j)=some u:=by
 intro j u hu;have hj:j<M.length*E.n:=by
  have:=(List.getElem?_eq_some_iff.1 hu).1;rw[cellsG_len] at this;exact this
 have hadd:(⟨g,o,none⟩:Addr).add j=⟨g,o+j,none⟩:=by
  simp only[Addr.add]
  first
   | rfl
   | (split
      ·next h0=>rw[h0];rfl
      rfl)
 have hi:j / E.n<M.length:=Nat.div_lt_of_lt_mul (by rw[Nat.mul_comm];exact hj);have hm:j % E.n<E.n:=Nat.mod_lt _ E.pos;have e:j / E.n*E.n+j % E.n=j:=by rw[Nat.mul_comm];exact Nat.div_add_mod _ _
 have h1:=cellsG_at (E:=E) M (j / E.n) hi (j % E.n) hm;rw[e,hu] at h1;have h2:=h (j / E.n) hi (j % E.n) u h1.symm;rw[Nat.add_assoc,e] at h2;rw[hadd];exact h2
end
section
variable {α:Type}
theorem any_nextG {L:List α}{f:α→Bool}{k:Nat}(hk:k<L.length)(h:(L.take k).any f=false)(h2:f L[k]=false):(L.take (k+1)).any f=false:=by
 rw[List.take_succ_eq_append_getElem hk];simp only[List.any_append,h,List.any_cons,List.any_nil,h2,Bool.or_false]
theorem any_hitG {L:List α}{f:α→Bool}{k:Nat}(hk:k<L.length)(h2:f L[k]=true):L.any f=true:=List.any_eq_true.2 ⟨_,List.getElem_mem hk,h2⟩
def ixG (f:α→Bool)(L:List α):Int:=if L.any f then (L.findIdx f:Int) else -1
theorem ixG_hit {L:List α}{f:α→Bool}{k:Nat}(hk:k<L.length)(h:(L.take k).any f=false)(h2:f L[k]=true):ixG f L=k:=by
 rw[ixG,any_hitG hk h2,if_pos rfl]
 congr 1
 rw[List.findIdx_eq hk];refine⟨h2,fun j hj=>?_⟩;rw[List.any_eq_false] at h;have:=h L[j] (by rw[List.mem_take_iff_getElem];exact⟨j,by omega,rfl⟩);simpa using this
theorem ixG_no {L:List α}{f:α→Bool}(h:L.any f=false):ixG f L = -1:=by simp[ixG,h]
theorem ixG_any (L:List α)(f:α→Bool):decide (0≤ixG f L)=L.any f:=by
 unfold ixG;cases L.any f
 ·simp
 simp
end
section
variable {α:Type}
end
section
variable {P:Program}{α:Type}{E:Enc α}
theorem gs_of {H:Type}{enc:TypeId×Value→H}{W:World}{base:Nat}{v:Value}{d:DataW H}{p:List MemPlace}(ts te:TypeId)(hu:P.underlying ts=some (.slice te))(hC:P.cellsOf te=E.n)(x0:α)
 (hel:∀(n:Nat) (cs:List Value) (x:DataW H×List MemPlace),DataW.trod enc P W 0 (fun _=>true) true n te cs=some x→∃y,cs=E.c y)
 (hv:Value.okWide P W .any base ts v) (h:DataW.Trod enc P W 0 (fun _=>true) true ts v d p):∃L,GS E W v L:=by
 obtain⟨a0,len0,cap0,rfl⟩:=okWide_slice hu hv;obtain⟨fuel,hf⟩:=h;have hf2:DataW.trod enc P W 0 (fun _=>true) true fuel ts [.slice a0 len0 cap0]=some (d,p):=hf
 rcases Go.Deep.open_slice hu hf2 with ⟨hc,hx⟩ | ⟨a,len,cap,m,k,D,Pl,hc,_,hl,hm,hmm,hx,hall⟩
 ·simp only[List.cons.injEq,and_true,Value.slice.injEq] at hc;obtain⟨rfl,rfl,rfl⟩:=hc;exact⟨[],.inl ⟨none,0,rfl,rfl⟩⟩
 simp only[List.cons.injEq,and_true,Value.slice.injEq] at hc;obtain⟨rfl,rfl,rfl⟩:=hc;simp only[if_true] at hmm;subst hmm
 rcases Nat.eq_zero_or_pos len0 with h0 | h0
 ·subst h0;exact⟨[],.inl ⟨_,_,rfl,rfl⟩⟩
 have each:∀i,i<m→∃y:α,∀j,j<E.n→W.cell? (a.add (i*E.n+j))=(E.c y)[j]?:=by
  intro i hi;obtain⟨cs,h1,h2⟩:=hall i hi;rw[hC] at h1;obtain⟨_,hlen,hcell⟩:=World.cells?_some h1;obtain⟨y,rfl⟩:=hel _ _ _ h2;refine⟨y,fun j hj=>?_⟩;have:=hcell j (by omega);rw[Go.Deep.add_add] at this;exact this
 have iR:Inhabited α:=⟨x0⟩;obtain⟨R,hR⟩:=Go.Deep.choose_lt each;obtain⟨sb,so,spot⟩:=a;have hspot:spot=none:=by
  have h1:=hR 0 (by omega) 0 E.pos;have h2:(E.c (R 0))[0]?.isSome=true:=by
   rw[List.getElem?_eq_getElem (by rw[E.len];exact E.pos)];rfl
  obtain⟨u,hu2⟩:=Option.isSome_iff_exists.1 h2;rw[hu2] at h1;simpa[Addr.add] using World.cell?_spot h1
 subst hspot;have hadd:∀j,(⟨sb,so,none⟩:Addr).add j=⟨sb,so+j,none⟩:=by
  intro j;simp only[Addr.add]
  first
   | rfl
   | (split
      ·next h0=>rw[h0];rfl
      rfl)
 refine⟨(List.range len0).map R,.inr ⟨sb,so,_,by simp,by simpa using hl,hm,fun i hi j u hu2=>?_⟩⟩;have hi2:i<len0:=by simpa using hi
 have e:((List.range len0).map R)[i]=R i:=by simp
 rw[e] at hu2;have hj:j<E.n:=by
  have:=(List.getElem?_eq_some_iff.1 hu2).1;rw[E.len] at this;exact this
 have hc:=hR i (by omega) j hj;rw[hadd,hu2,←Nat.add_assoc] at hc;exact hc
end
end
section
open Go.RowKit
def swB (S a:Int):Bool:=decide (1≤a)&&decide (a≤S)
theorem sw_of {S a:Int}:swB S a=true↔1≤a∧a≤S:=by simp[swB]
def tsTo (Ts:TsQ):Nat→Int
 | 0=>0
 | k+1=>if tsTo Ts k=0 then tbN (Ts.getD k []) else tsTo Ts k
theorem ts_le {Ts:TsQ}{k:Nat}(h:tsTo Ts k≠0):∀{n:Nat},k≤n→tsTo Ts n=tsTo Ts k
 | 0,hn=>by
   obtain rfl:k=0:=by omega
   rfl
 | n+1,hn=>by
   by_cases e:k=n+1
   ·subst e;rfl
   have:=ts_le h (show k≤n by omega);rw[tsTo,if_neg (by rw[this];exact h),this]
def ntN (S:Int)(Ls:LkQ)(Hs:HoQ)(Ts:TsQ):Int:=
 if tpN S Ls Hs=0 then (if (Ts.length:Int)=S then tsTo Ts Ts.length else 3) else tpN S Ls Hs
theorem ts_0 {Ts:TsQ}:∀{n:Nat},tsTo Ts n=0→∀k,k<n→tbN (Ts.getD k [])=0
 | 0,_,k,hk=>by omega
 | n+1,h,k,hk=>by
   unfold tsTo at h;by_cases e:tsTo Ts n=0
   ·rw[if_pos e] at h;by_cases ek:k=n
    ·subst ek;exact h
    exact ts_0 e k (by omega)
   rw[if_neg e] at h;exact absurd h e
theorem nt_0 {S:Int}{Ls:LkQ}{Hs:HoQ}{Ts:TsQ}(h:ntN S Ls Hs Ts=0):tpN S Ls Hs=0∧(Ts.length:Int)=S∧∀k,k<Ts.length→tbN (Ts.getD k [])=0:=by
 unfold ntN at h;by_cases e:tpN S Ls Hs=0
 ·rw[if_pos e] at h;by_cases e2:(Ts.length:Int)=S
  ·rw[if_pos e2] at h;exact⟨e,e2,ts_0 h⟩
  rw[if_neg e2] at h;omega
 rw[if_neg e] at h;exact absurd h e
structure Wi where
 k:Int
 f:ByteArray
 t:ByteArray
 v:Int
def zeW:Wi:=⟨0,ByteArray.empty,ByteArray.empty,0⟩
def wkB (k:Int):Bool:=decide (1≤k)&&decide (k≤4)
def viB (w:Wi)(S:Int):Bool:=(w.k != 3) || swB S w.v
def nlB (w:Wi):Bool:=(w.f==ByteArray.empty)&&(w.t==ByteArray.empty)
def hoB (Hs:HoQ)(n:ByteArray):Bool:=Hs.any fun h=>h.1==n
def veB (w:Wi):Bool:=(w.k != 3)&&(w.v != 0)
def woN (S:Int)(Hs:HoQ)(w:Wi):Int:=
 if !wkB w.k || (!viB w S || veB w) then 1 else if w.k=4 then (if nlB w then 0 else 3) else if hoB Hs w.f&&hoB Hs w.t then 0 else 5
def wsTo (S:Int)(Hs:HoQ)(l:List Wi):Nat→Int
 | 0=>0
 | k+1=>if wsTo S Hs l k=0 then woN S Hs (l.getD k zeW) else wsTo S Hs l k
def wsN (S:Int)(Ls:LkQ)(Hs:HoQ)(l:List Wi):Int:=
 if tpN S Ls Hs=0 then (if 8<l.length then 4 else wsTo S Hs l l.length) else tpN S Ls Hs
theorem ws_le {S:Int}{Hs:HoQ}{l:List Wi}{k:Nat}(h:wsTo S Hs l k≠0):∀{n:Nat},k≤n→wsTo S Hs l n=wsTo S Hs l k
 | 0,hn=>by
   obtain rfl:k=0:=by omega
   rfl
 | n+1,hn=>by
   by_cases e:k=n+1
   ·subst e;rfl
   have:=ws_le h (show k≤n by omega);rw[wsTo,if_neg (by rw[this];exact h),this]
theorem ws_0 {S:Int}{Hs:HoQ}{l:List Wi}:∀{n:Nat},wsTo S Hs l n=0→∀k,k<n→woN S Hs (l.getD k zeW)=0
 | 0,_,k,hk=>by omega
 | n+1,h,k,hk=>by
   unfold wsTo at h;by_cases e:wsTo S Hs l n=0
   ·rw[if_pos e] at h;by_cases ek:k=n
    ·subst ek;exact h
    exact ws_0 e k (by omega)
   rw[if_neg e] at h;exact absurd h e
theorem getW {l:List Wi}{k:Nat}(hk:k<l.length):l.getD k zeW=l[k]:=by simp[List.getD,hk]
section
variable (Ls:LkQ)(Hs:HoQ)(Ts:TsQ)
end
section
variable {Ls:LkQ}{Hs:HoQ}{Ts:TsQ}
variable {Xs:HoQ}
variable {l:List Wi}
end
end
end Go.Proofs.YtpbgocfinpbpgaaDoor
