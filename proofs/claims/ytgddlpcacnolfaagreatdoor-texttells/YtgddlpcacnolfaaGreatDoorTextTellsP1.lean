/- Contracts and facts on the way to TextTells, joined into one text: Err, CubeMath, CubeCon, RuleMath, RuleCon, RuleText, RuleItoa, CubeBit, CubePrint, RulePrint, RuleCut, CutMath, RuleSplit, CubeParse, RuleDec, RuleDeed, RuleDeed2. -/
import Derived.Test.YtgddlpcacnolfaaGreatDoorRows
import Derived.Test.YtgddlpcacnolfaaGreatDoorProg
import Derived.WalkKit
import Derived.Laws.BytesArg
import Derived.WalkSpells
import Derived.Below
import Derived.Lib.Bytealg
import Derived.Lib.IndexLaws
import Derived.Lib.Strings
import Derived.Deep.RegionHeld3
import Derived.Lib.IndexBytes
import Derived.Deep.LoopGhost
import Derived.Deep.OwnRows
import Derived.Laws.Strings3
import Derived.Lib.Split
import Derived.Deep.CutRange
import Derived.Deep.CutBlock
import Derived.MapKept
import Derived.Maps.OwnOps
import Derived.Laws.StructEq
import Derived.ProofKit
import Derived.OpenShut
import Derived.ChangeOld
import Derived.Laws.AppendOwnNone
import Derived.Deep.Slices
import Derived.Laws.OwnMore
import Derived.Shelf.Strings.OnBuilder
import Derived.Deep.RegionLaw
import Derived.BigQuiet
import Derived.Deep.QuietTactic
import Derived.DeepKeys3
import Derived.Lib.SmallJoins
import Derived.BigRegion
import Derived.Shelf.Abstract
import Derived.Laws.IdiomStrings
import Derived.Carry
import Derived.Lib.SliceRun
import Derived.Lib.AppendZeros
import Derived.RangeFuncNested
import Derived.RangeFuncBox
import Derived.RangeFuncBound
import Derived.RangeFuncCalls
import Derived.RangeFuncLeaves
import Derived.Shelf.RegionOpen
import Derived.OwnWalkIn
import Derived.TacticsInMore
import Derived.LoopNIn
import Derived.LoopIn
import Derived.Laws.MakeOwn
import Derived.Lib.Walk
import Derived.Lib.BufferWrite
import Derived.Lib.UnsafeStr
import Derived.Shelf.LaysC
import Derived.Shelf.Strconv.AtoiAll
import Derived.Deep.RegionWith
import Derived.Maps.OwnIn
import Derived.LaidEql
import Derived.Stop.Asserts
import Derived.RowKitTokens
import GoSem.PinnedTables
import Derived.ShutString
import Derived.ChangeSame
import Derived.ChangeVars
import Derived.JoinedOf
import Derived.RowKit
import Derived.LaidLaws
import Derived.LaidHandle
import Derived.Stop.Joined
import Derived.Deep.DeepHandedRow
import Derived.Deep.DeepWitnessRowRef
namespace Go.Proofs.YtgddlpcacnolfaaGreatDoor
set_option linter.unusedSimpArgs false
set_option linter.unusedVariables false
set_option maxHeartbeats 16000000
set_option maxRecDepth 100000
open Go.Proofs.Tryz
open IntKind (i64)
abbrev AdQ:=Option Addr
abbrev LkQ:=List ((Int×Int)×(Int×Int))
abbrev HoQ:=List (ByteArray×(Int×Int))
abbrev HpQ:=List ((Int×Int)×Int)
theorem bRQ (n:Nat) (w:World):Go.RowKit.Below n w w:=Go.RowKit.Below.refl n w
theorem nLQ (n:Nat):n≤n:=Nat.le_refl n
theorem bLQ (w:World) (p:Addr) {v:Value} (h:w.cell? p=some v):p.block<w.heap.size:=World.block_lt_of_cell? w p h
theorem AP:(∀(l:List Value) (i:Nat) (v:Value),l.toArray.setIfInBounds i v=(l.set i v).toArray)∧(∀(a v:Value) (l:List Value),(a::l).set 0 v=v::l)∧(∀(a v:Value) (l:List Value) (i:Nat),(a::l).set (i+1) v=a::l.set i v):=⟨fun _ _ _=>List.setIfInBounds_toArray _ _ _,fun _ _ _=>List.set_cons_zero,fun _ _ _ _=>List.set_cons_succ⟩
section
def noV (n:Int):Value:=if n=0 then .nilIface else .iface 72 (.int i64 n)
theorem no_ok {n:Int}(h:n=0):noV n=.nilIface:=by simp[noV,h]
theorem no_ne {n:Int}(h:n≠0):noV n=.iface 72 (.int i64 n):=by simp[noV,h]
end
section
open Go.RowKit
def hdrB (n:Int):Bool:=decide (0≤n)&&decide (n<16)
def rngB (m b:Int):Bool:=hdrB m&&hdrB b
def okB (m b:Int):Bool:=rngB m b&&(bits .andNot .i64 b m==0)
theorem hdr_of {n:Int}(h:hdrB n=true):0≤n∧n<16:=by simpa[hdrB] using h
theorem hdr_no {n:Int}(h:hdrB n=false):n<0∨16≤n:=by simp[hdrB] at h;omega
theorem hdr_mk {n:Int}(h:0≤n∧n<16):hdrB n=true:=by simpa[hdrB] using h
theorem rng_of {m b:Int}(h:rngB m b=true):(0≤m∧m<16)∧(0≤b∧b<16):=by
 simp only[rngB,Bool.and_eq_true] at h;exact⟨hdr_of h.1,hdr_of h.2⟩
theorem ok_rng {m b:Int}(h:okB m b=true):rngB m b=true:=by
 simp only[okB,Bool.and_eq_true] at h;exact h.1
theorem ok_of {m b:Int}(h:okB m b=true):(0≤m∧m<16)∧(0≤b∧b<16):=rng_of (ok_rng h)
theorem small {n:Int}(h:0≤n∧n<16):∃k:Fin 16,n=((k:Nat):Int):=⟨⟨n.toNat,by omega⟩,by simp;omega⟩
def ltr (m b x:Int):Int:=if bits .and .i64 m x==0 then 42 else if bits .and .i64 b x==0 then 48 else 49
def bitN (i:Nat):Int:=2 ^ (3-i)
def ltrAt (m b:Int)(i:Nat):Int:=ltr m b (bitN i)
def prS (m b:Int):ByteArray:=strOfNums [ltrAt m b 0,ltrAt m b 1,ltrAt m b 2,ltrAt m b 3]
def ltrTo (m b:Int)(k j:Nat):Int:=if j<k then ltrAt m b j else 0
def rdM (c i:Nat)(m:Int):Int:=if c=49∨c=48 then bits .or .i64 m (bitN i) else m
def rdB (c i:Nat)(b:Int):Int:=if c=49 then bits .or .i64 b (bitN i) else b
def mayB (c:Nat):Bool:=c==49 || c==48 || c==42
def byteN (s:ByteArray)(i:Nat):Nat:=(s.data.toList.getD i 0).toNat
def psMTo (s:ByteArray):Nat→Int
 | 0=>0
 | k+1=>rdM (byteN s k) k (psMTo s k)
def psBTo (s:ByteArray):Nat→Int
 | 0=>0
 | k+1=>rdB (byteN s k) k (psBTo s k)
def mayTo (s:ByteArray):Nat→Bool
 | 0=>true
 | k+1=>mayTo s k&&mayB (byteN s k)
def psOk (s:ByteArray):Bool:=s.size==4&&mayTo s 4
def psM (s:ByteArray):Int:=if psOk s then psMTo s 4 else 0
def psB (s:ByteArray):Int:=if psOk s then psBTo s 4 else 0
def hasB (m b h:Int):Bool:=hdrB h&&(okB m b&&(bits .and .i64 h m==b))
def refN (m b:Int):Int:=if okB m b then 0 else if rngB m b then 3 else 1
theorem refN_ok {m b:Int}(h:okB m b=true):refN m b=0:=by simp[refN,h]
theorem refN_shape {m b:Int}(h:okB m b=false)(h2:rngB m b=true):refN m b=3:=by simp[refN,h,h2]
theorem refN_range {m b:Int}(h2:rngB m b=false):refN m b=1:=by simp[refN,okB,h2]
theorem ok_refN (m b:Int):(refN m b==0)=okB m b:=by
 cases h:okB m b
 ·cases h2:rngB m b
  ·simp[refN_range h2]
  simp[refN_shape h h2]
 simp[refN_ok h]
theorem andEq_fin:∀m b:Fin 16,(bits .and .i64 ((b:Nat):Int) ((m:Nat):Int)==((b:Nat):Int))=(bits .andNot .i64 ((b:Nat):Int) ((m:Nat):Int)==0):=by decide +kernel
theorem andEq {m b:Int}(h:rngB m b=true):(bits .and .i64 b m==b)=okB m b:=by
 obtain⟨h1,h2⟩:=rng_of h;have e:okB m b=(bits .andNot .i64 b m==0):=by simp[okB,h]
 rw[e];obtain⟨x,rfl⟩:=small h1;obtain⟨y,rfl⟩:=small h2;exact andEq_fin x y
def bitB (x:Int)(i:Nat):Bool:=x / 2 ^ i % 2==1
theorem bcell {W w1:World}(hb:Below W.heap.size W w1):(∀b o,b<W.heap.size→w1.cell? ⟨b,o,none⟩=W.cell? ⟨b,o,none⟩)∧(∀b o,b<W.heap.size→w1.frozen? ⟨b,o,none⟩=W.frozen? ⟨b,o,none⟩):=
 ⟨fun b o h=>hb.cell (p:=⟨b,o,none⟩) h,fun b o h=>hb.frozen (p:=⟨b,o,none⟩) h⟩
theorem isHeader_yes (n:Int)(w:World)(h:hdrB n=true):
 Calls prog 69 #[.int i64 n] w fun e w'=>e=.returned (.bool true)∧w'=w:=by
 obtain⟨h1,h2⟩:=hdr_of h;clear h;go_enter func69,ntmps69;go_wp2;go_ret;exact⟨rfl,rfl⟩
theorem isHeader_no (n:Int)(w:World)(h:hdrB n=false):
 Calls prog 69 #[.int i64 n] w fun e w'=>e=.returned (.bool false)∧w'=w:=by
 rcases hdr_no h with h1 | h1
 ·clear h;go_enter func69,ntmps69;go_wp2;go_ret;exact⟨rfl,rfl⟩
 have h2:0≤n:=by omega
 have h3:decide (n<16)=false:=by simp;omega
 clear h;go_enter func69,ntmps69;go_wp2;go_ret;exact⟨rfl,rfl⟩
theorem check_range (m b:Int)(w:World)(h:rngB m b=false):
 Calls prog 70 #[.agg #[.int i64 m,.int i64 b]] w fun e w'=>e=.returned (.iface 72 (.int i64 1))∧Below w.heap.size w w':=by
 by_cases hm:hdrB m=true
 ·have hb:hdrB b=false:=by simpa[rngB,hm] using h
  clear h;go_enter func70,ntmps70
  go_wp2_with fail
  refine (isHeader_yes _ _ hm).mono ?_;rintro e w' ⟨rfl,rfl⟩
  go_wp2_with fail
  refine (isHeader_no _ _ hb).mono ?_;rintro e w' ⟨rfl,rfl⟩;go_wp2;go_ret;exact⟨rfl,(bRQ _ _).alloc (nLQ _) _⟩
 have hm':hdrB m=false:=by simpa using hm
 clear h hm;go_enter func70,ntmps70
 go_wp2_with fail
 refine (isHeader_no _ _ hm').mono ?_;rintro e w' ⟨rfl,rfl⟩;go_wp2;go_ret;exact⟨rfl,(bRQ _ _).alloc (nLQ _) _⟩
theorem check_shape (m b:Int)(w:World)(h:rngB m b=true)(h2:okB m b=false):
 Calls prog 70 #[.agg #[.int i64 m,.int i64 b]] w fun e w'=>e=.returned (.iface 72 (.int i64 3))∧Below w.heap.size w w':=by
 have hm:hdrB m=true:=by simp only[rngB,Bool.and_eq_true] at h;exact h.1
 have hb:hdrB b=true:=by simp only[rngB,Bool.and_eq_true] at h;exact h.2
 have hz:(bits .andNot .i64 b m==0)=false:=by simpa[okB,h] using h2
 clear h h2;go_enter func70,ntmps70
 go_wp2_with fail
 refine (isHeader_yes _ _ hm).mono ?_;rintro e w' ⟨rfl,rfl⟩
 go_wp2_with fail
 refine (isHeader_yes _ _ hb).mono ?_;rintro e w' ⟨rfl,rfl⟩;go_wp2;go_ret;exact⟨rfl,(bRQ _ _).alloc (nLQ _) _⟩
theorem check_ok (m b:Int)(w:World)(h:okB m b=true):
 Calls prog 70 #[.agg #[.int i64 m,.int i64 b]] w fun e w'=>e=.returned .nilIface∧Below w.heap.size w w':=by
 have hm:hdrB m=true:=hdr_mk (ok_of h).1;have hb:hdrB b=true:=hdr_mk (ok_of h).2;have hz:(bits .andNot .i64 b m==0)=true:=by simp only[okB,Bool.and_eq_true] at h;exact h.2
 clear h;go_enter func70,ntmps70
 go_wp2_with fail
 refine (isHeader_yes _ _ hm).mono ?_;rintro e w' ⟨rfl,rfl⟩
 go_wp2_with fail
 refine (isHeader_yes _ _ hb).mono ?_;rintro e w' ⟨rfl,rfl⟩;go_wp2;go_ret;exact⟨rfl,(bRQ _ _).alloc (nLQ _) _⟩
def ruP (p o:Int):Bool:=decide (0≤p)&&(decide (p≤99)&&(decide (0≤o)&&decide (o≤4)))
def ruIn (p o s v:Int):Bool:=ruP p o&&rngB s v
def ruSet (o s v:Int):Bool:=(bits .andNot .i64 v s==0)&&(!(o==0) || s==0)
def ruN (p m b o s v:Int):Int:=if ruIn p o s v then (if okB m b then (if ruSet o s v then 0 else 3) else refN m b) else 1
def ruOk (p m b o s v:Int):Bool:=ruIn p o s v&&(okB m b&&ruSet o s v)
theorem ru_ok {p m b o s v:Int}(h:ruOk p m b o s v=true):ruIn p o s v=true∧okB m b=true∧ruSet o s v=true:=by
 simpa[ruOk] using h
theorem ruN_ok {p m b o s v:Int}(h:ruOk p m b o s v=true):ruN p m b o s v=0:=by
 obtain⟨h1,h2,h3⟩:=ru_ok h;simp[ruN,h1,h2,h3]
theorem ruN_ne {p m b o s v:Int}(h:ruOk p m b o s v=false):ruN p m b o s v≠0:=by
 unfold ruN;cases h1:ruIn p o s v
 ·simp
 cases h2:okB m b
 ·simp only[if_true];have:=ok_refN m b;rw[h2] at this;simpa using this
 cases h3:ruSet o s v
 ·simp
 simp[ruOk,h1,h2,h3] at h
theorem ru_in {p o s v:Int}(h:ruIn p o s v=true):((0≤p∧p≤99)∧(0≤o∧o≤4))∧(0≤s∧s<16)∧(0≤v∧v<16):=by
 simp only[ruIn,Bool.and_eq_true] at h;obtain⟨h1,h2⟩:=h;have h3:=rng_of h2;simp only[ruP,Bool.and_eq_true,decide_eq_true_eq] at h1;exact⟨⟨⟨h1.1,h1.2.1⟩,⟨h1.2.2.1,h1.2.2.2⟩⟩,h3⟩
theorem check_no (m b:Int)(w:World):
 Calls prog 70 #[.agg #[.int i64 m,.int i64 b]] w fun e w'=>e=.returned (noV (refN m b))∧Below w.heap.size w w':=by
 cases hr:rngB m b
 ·have e:noV (refN m b)=.iface 72 (.int i64 1):=by rw[refN_range hr];rfl
  rw[e];exact check_range m b w hr
 cases ho:okB m b
 ·have e:noV (refN m b)=.iface 72 (.int i64 3):=by rw[refN_shape ho hr];rfl
  rw[e];exact check_shape m b w hr ho
 have e:noV (refN m b)=.nilIface:=by rw[refN_ok ho];rfl
 rw[e];exact check_ok m b w ho
theorem ruCheck_prio (p m b o s v:Int)(w:World)(h:ruP p o=false):
 Calls prog 43 #[.agg #[.int i64 p,.int i64 m,.int i64 b,.int i64 o,.int i64 s,.int i64 v]] w fun e w'=>e=.returned (.iface 72 (.int i64 1))∧Below w.heap.size w w':=by
 have hc:p<0∨(0≤p∧99<p)∨((0≤p∧p≤99)∧o<0)∨((0≤p∧p≤99)∧(0≤o∧4<o)):=by
  simp[ruP] at h;omega
 clear h
 rcases hc with h1 | ⟨h1,h2⟩ | ⟨⟨h1,h2⟩,h3⟩ | ⟨⟨h1,h2⟩,h3,h4⟩
 ·have e1:decide (p<0)=true:=by simp;omega
  go_enter func43,ntmps43;go_wp2;go_ret;exact⟨rfl,(bRQ _ _).alloc (nLQ _) _⟩
 ·have e1:decide (p<0)=false:=by simp;omega
  have e2:decide (99<p)=true:=by simp;omega
  go_enter func43,ntmps43;go_wp2;go_ret;exact⟨rfl,(bRQ _ _).alloc (nLQ _) _⟩
 ·have e1:decide (p<0)=false:=by simp;omega
  have e2:decide (99<p)=false:=by simp;omega
  have e3:decide (o<0)=true:=by simp;omega
  go_enter func43,ntmps43;go_wp2;go_ret;exact⟨rfl,(bRQ _ _).alloc (nLQ _) _⟩
 have e1:decide (p<0)=false:=by simp;omega
 have e2:decide (99<p)=false:=by simp;omega
 have e3:decide (o<0)=false:=by simp;omega
 have e4:decide (4<o)=true:=by simp;omega
 go_enter func43,ntmps43;go_wp2;go_ret;exact⟨rfl,(bRQ _ _).alloc (nLQ _) _⟩
theorem ruP_of {p o:Int}(h:ruP p o=true):decide (p<0)=false∧decide (99<p)=false∧decide (o<0)=false∧decide (4<o)=false:=by
 simp only[ruP,Bool.and_eq_true,decide_eq_true_eq] at h;refine⟨?_,?_,?_,?_⟩ <;> simp <;> omega
theorem ruCheck_set (p m b o s v:Int)(w:World)(h:ruP p o=true)(h2:rngB s v=false):
 Calls prog 43 #[.agg #[.int i64 p,.int i64 m,.int i64 b,.int i64 o,.int i64 s,.int i64 v]] w fun e w'=>e=.returned (.iface 72 (.int i64 1))∧Below w.heap.size w w':=by
 obtain⟨e1,e2,e3,e4⟩:=ruP_of h;clear h;cases hs:hdrB s
 ·clear h2;go_enter func43,ntmps43
  go_wp2_with fail
  refine (isHeader_no _ _ hs).mono ?_;rintro e w' ⟨rfl,rfl⟩;go_wp2;go_ret;exact⟨rfl,(bRQ _ _).alloc (nLQ _) _⟩
 have hv:hdrB v=false:=by simpa[rngB,hs] using h2
 clear h2;go_enter func43,ntmps43
 go_wp2_with fail
 refine (isHeader_yes _ _ hs).mono ?_;rintro e w' ⟨rfl,rfl⟩
 go_wp2_with fail
 refine (isHeader_no _ _ hv).mono ?_;rintro e w' ⟨rfl,rfl⟩;go_wp2;go_ret;exact⟨rfl,(bRQ _ _).alloc (nLQ _) _⟩
theorem ruCheck_cube (p m b o s v:Int)(w:World)(h:ruP p o=true)(h2:rngB s v=true)(h3:okB m b=false):
 Calls prog 43 #[.agg #[.int i64 p,.int i64 m,.int i64 b,.int i64 o,.int i64 s,.int i64 v]] w fun e w'=>e=.returned (.iface 72 (.int i64 (refN m b)))∧Below w.heap.size w w':=by
 obtain⟨e1,e2,e3,e4⟩:=ruP_of h;have hs:hdrB s=true:=by simp only[rngB,Bool.and_eq_true] at h2;exact h2.1
 have hv:hdrB v=true:=by simp only[rngB,Bool.and_eq_true] at h2;exact h2.2
 have hn:refN m b≠0:=by have:=ok_refN m b;rw[h3] at this;simpa using this
 clear h h2 h3;go_enter func43,ntmps43
 go_wp2_with fail
 refine (isHeader_yes _ _ hs).mono ?_;rintro e w' ⟨rfl,rfl⟩
 go_wp2_with fail
 refine (isHeader_yes _ _ hv).mono ?_;rintro e w' ⟨rfl,rfl⟩
 go_wp2_with fail
 refine (check_no _ _ _).mono ?_;rintro e w1 ⟨rfl,hb1⟩;rw[no_ne hn];go_wp2;go_ret;exact⟨rfl,((bRQ _ _).alloc (nLQ _) _).trans (hb1.mono (by simp))⟩
theorem ruCheck_end (p m b o s v:Int)(w:World)(h:ruP p o=true)(h2:rngB s v=true)(h3:okB m b=true):
 Calls prog 43 #[.agg #[.int i64 p,.int i64 m,.int i64 b,.int i64 o,.int i64 s,.int i64 v]] w fun e w'=>e=.returned (if ruSet o s v then .nilIface else .iface 72 (.int i64 3))∧Below w.heap.size w w':=by
 obtain⟨e1,e2,e3,e4⟩:=ruP_of h;have hs:hdrB s=true:=by simp only[rngB,Bool.and_eq_true] at h2;exact h2.1
 have hv:hdrB v=true:=by simp only[rngB,Bool.and_eq_true] at h2;exact h2.2
 have hn:refN m b=0:=refN_ok h3;have hlt:w.heap.size<(w.alloc (.cells #[.int i64 p,.int i64 m,.int i64 b,.int i64 o,.int i64 s,.int i64 v] 64)).heap.size:=by simp
 clear h h2 h3;cases ha:(bits .andNot .i64 v s==0)
 ·have e:ruSet o s v=false:=by simp[ruSet,ha]
  rw[e];clear e;simp only[Bool.false_eq_true,if_false];have ha2:(bits .andNot .i64 v s != 0)=true:=by simpa using ha
  go_enter func43,ntmps43
  go_wp2_with fail
  refine (isHeader_yes _ _ hs).mono ?_;rintro e w' ⟨rfl,rfl⟩
  go_wp2_with fail
  refine (isHeader_yes _ _ hv).mono ?_;rintro e w' ⟨rfl,rfl⟩
  go_wp2_with fail
  refine (check_no _ _ _).mono ?_;rintro e w1 ⟨rfl,hb1⟩;rw[no_ok hn];obtain⟨hc1,hf1⟩:=bcell hb1;have hB:=((Below.refl w.heap.size w).alloc (nLQ _) (Obj.cells #[.int i64 p,.int i64 m,.int i64 b,.int i64 o,.int i64 s,.int i64 v] 64)).trans (hb1.mono (by simp));clear hb1;go_wp2;go_ret;exact⟨rfl,hB⟩
 cases ho:(o==0)
 ·have e:ruSet o s v=true:=by simp[ruSet,ha,ho]
  rw[e];clear e;simp only[if_true];have ha2:(bits .andNot .i64 v s != 0)=false:=by simpa using ha
  go_enter func43,ntmps43
  go_wp2_with fail
  refine (isHeader_yes _ _ hs).mono ?_;rintro e w' ⟨rfl,rfl⟩
  go_wp2_with fail
  refine (isHeader_yes _ _ hv).mono ?_;rintro e w' ⟨rfl,rfl⟩
  go_wp2_with fail
  refine (check_no _ _ _).mono ?_;rintro e w1 ⟨rfl,hb1⟩;rw[no_ok hn];obtain⟨hc1,hf1⟩:=bcell hb1;have hB:=((Below.refl w.heap.size w).alloc (nLQ _) (Obj.cells #[.int i64 p,.int i64 m,.int i64 b,.int i64 o,.int i64 s,.int i64 v] 64)).trans (hb1.mono (by simp));clear hb1;go_wp2;go_ret;exact⟨rfl,hB⟩
 cases hz:(s==0)
 ·have e:ruSet o s v=false:=by simp[ruSet,ha,ho,hz]
  rw[e];clear e;simp only[Bool.false_eq_true,if_false];have ha2:(bits .andNot .i64 v s != 0)=false:=by simpa using ha
  go_enter func43,ntmps43
  go_wp2_with fail
  refine (isHeader_yes _ _ hs).mono ?_;rintro e w' ⟨rfl,rfl⟩
  go_wp2_with fail
  refine (isHeader_yes _ _ hv).mono ?_;rintro e w' ⟨rfl,rfl⟩
  go_wp2_with fail
  refine (check_no _ _ _).mono ?_;rintro e w1 ⟨rfl,hb1⟩;rw[no_ok hn];obtain⟨hc1,hf1⟩:=bcell hb1;have hB:=((Below.refl w.heap.size w).alloc (nLQ _) (Obj.cells #[.int i64 p,.int i64 m,.int i64 b,.int i64 o,.int i64 s,.int i64 v] 64)).trans (hb1.mono (by simp));clear hb1;go_wp2;go_ret;exact⟨rfl,hB⟩
 have e:ruSet o s v=true:=by simp[ruSet,ha,ho,hz]
 rw[e];clear e;simp only[if_true];have ha2:(bits .andNot .i64 v s != 0)=false:=by simpa using ha
 go_enter func43,ntmps43
 go_wp2_with fail
 refine (isHeader_yes _ _ hs).mono ?_;rintro e w' ⟨rfl,rfl⟩
 go_wp2_with fail
 refine (isHeader_yes _ _ hv).mono ?_;rintro e w' ⟨rfl,rfl⟩
 go_wp2_with fail
 refine (check_no _ _ _).mono ?_;rintro e w1 ⟨rfl,hb1⟩;rw[no_ok hn];obtain⟨hc1,hf1⟩:=bcell hb1;have hB:=((Below.refl w.heap.size w).alloc (nLQ _) (Obj.cells #[.int i64 p,.int i64 m,.int i64 b,.int i64 o,.int i64 s,.int i64 v] 64)).trans (hb1.mono (by simp));clear hb1;go_wp2;go_ret;exact⟨rfl,hB⟩
theorem ruCheck_any (p m b o s v:Int)(w:World):
 Calls prog 43 #[.agg #[.int i64 p,.int i64 m,.int i64 b,.int i64 o,.int i64 s,.int i64 v]] w fun e w'=>e=.returned (noV (ruN p m b o s v))∧Below w.heap.size w w':=by
 cases h1:ruP p o
 ·have e:noV (ruN p m b o s v)=.iface 72 (.int i64 1):=by simp[ruN,ruIn,h1,noV]
  rw[e];exact ruCheck_prio p m b o s v w h1
 cases h2:rngB s v
 ·have e:noV (ruN p m b o s v)=.iface 72 (.int i64 1):=by simp[ruN,ruIn,h2,noV]
  rw[e];exact ruCheck_set p m b o s v w h1 h2
 cases h3:okB m b
 ·have hn:refN m b≠0:=by have:=ok_refN m b;rw[h3] at this;simpa using this
  have e:noV (ruN p m b o s v)=.iface 72 (.int i64 (refN m b)):=by simp[ruN,ruIn,h1,h2,h3,noV,hn]
  rw[e];exact ruCheck_cube p m b o s v w h1 h2 h3
 have e:noV (ruN p m b o s v)=(if ruSet o s v then .nilIface else .iface 72 (.int i64 3)):=by
  cases h4:ruSet o s v <;> simp[ruN,ruIn,h1,h2,h3,noV,h4]
 rw[e];exact ruCheck_end p m b o s v w h1 h2 h3
def dgS (p:Int):ByteArray:=if p<10 then strOfNums [48+p] else strOfNums [48+p / 10,48+p % 10]
def dcTo (s:ByteArray):Nat→Int
 | 0=>0
 | k+1=>10*dcTo s k+((byteN s k:Nat)-48)
def digB (c:Nat):Bool:=decide (48≤c)&&decide (c≤57)
def dgTo (s:ByteArray):Nat→Bool
 | 0=>true
 | k+1=>dgTo s k&&digB (byteN s k)
def dcHd (s:ByteArray):Bool:=decide (1≤s.size)&&(decide (s.size≤9)&&(!(byteN s 0==48) || s.size==1))
def dcOk (s:ByteArray):Bool:=dcHd s&&dgTo s s.size
def dcN (s:ByteArray):Int:=if dcOk s then dcTo s s.size else 0
theorem dg_le {s:ByteArray}:∀{n k:Nat},k<n→dgTo s n=true→digB (byteN s k)=true
 | 0,_,h,_=>absurd h (Nat.not_lt_zero _)
 | n+1,k,h,hm=>by
   simp only[dgTo,Bool.and_eq_true] at hm;by_cases e:k=n
   ·subst e;exact hm.2
   exact dg_le (by omega) hm.1
theorem dig_of {c:Nat}(h:digB c=true):48≤c∧c≤57:=by simpa[digB] using h
theorem dc_bd {s:ByteArray}:∀{k:Nat},dgTo s k=true→0≤dcTo s k∧dcTo s k<10 ^ k
 | 0,_=>by simp[dcTo]
 | k+1,h=>by
   simp only[dgTo,Bool.and_eq_true] at h;have h1:=dc_bd h.1;have h2:=dig_of h.2;simp only[dcTo,Int.pow_succ];omega
def blAt (s:ByteArray):Int:=Lib.indexByte s.data.toList 32
def cutB:Nat→ByteArray→List ByteArray
 | 0,s=>[s]
 | k+1,s=>if blAt s = -1 then [s] else s.extract 0 (blAt s).toNat :: cutB k (s.extract ((blAt s).toNat+1) s.size)
theorem cut_miss {s:ByteArray}(k:Nat)(h:blAt s = -1):cutB k s=[s]:=by
 cases k with
 | zero=>rfl
 | succ k=>rw[cutB,if_pos h]
theorem cut_hit {s:ByteArray}(k:Nat){i:Nat}(h:blAt s=i):cutB (k+1) s=s.extract 0 i :: cutB k (s.extract (i+1) s.size):=by
 have hm:¬blAt s = -1:=by omega
 have e:(blAt s).toNat=i:=by omega
 rw[cutB,if_neg hm,e]
theorem bl_cases (s:ByteArray):blAt s = -1∨∃i:Nat,blAt s=i∧i<s.size:=by
 have h:=Lib.indexByte_ge s.data.toList 32;by_cases e:blAt s = -1
 ·exact .inl e
 right;have e':0≤blAt s:=by unfold blAt at *;omega
 obtain⟨i,hi⟩:=Int.eq_ofNat_of_zero_le e';refine⟨i,hi,?_⟩;have:=(Lib.indexByte_some hi).1;have hlt:=(List.getElem?_eq_some_iff.1 this).1;simpa using hlt
theorem cut_len:∀(k:Nat) (s:ByteArray),(cutB k s).length≤k+1∧1≤(cutB k s).length
 | 0,_=>by simp[cutB]
 | k+1,s=>by
   rcases bl_cases s with h | ⟨i,h,_⟩
   ·rw[cut_miss _ h];simp
   rw[cut_hit _ h];have:=cut_len k (s.extract (i+1) s.size);simp;omega
theorem ret_str {a b:ByteArray}(h:a=b):Ending.returned (.string a)=.returned (.string b):=by rw[h]
theorem small1:∀k:Fin 10,(⟨#[48,49,50,51,52,53,54,55,56,57,97,98,99,100,101,102,103,104,105,106,107,108,109,110,111,112,113,114,115,116,117,118,119,120,121,122]⟩:ByteArray).extract ((k:Nat):Int).toNat (((k:Nat):Int)+1).toNat=dgS ((k:Nat):Int):=by
 decide +kernel
theorem small2:∀k:Fin 100,10≤k.val→(⟨#[48,48,48,49,48,50,48,51,48,52,48,53,48,54,48,55,48,56,48,57,49,48,49,49,49,50,49,51,49,52,49,53,49,54,49,55,49,56,49,57,50,48,50,49,50,50,50,51,50,52,50,53,50,54,50,55,50,56,50,57,51,48,51,49,51,50,51,51,51,52,51,53,51,54,51,55,51,56,51,57,52,48,52,49,52,50,52,51,52,52,52,53,52,54,52,55,52,56,52,57,53,48,53,49,53,50,53,51,53,52,53,53,53,54,53,55,53,56,53,57,54,48,54,49,54,50,54,51,54,52,54,53,54,54,54,55,54,56,54,57,55,48,55,49,55,50,55,51,55,52,55,53,55,54,55,55,55,56,55,57,56,48,56,49,56,50,56,51,56,52,56,53,56,54,56,55,56,56,56,57,57,48,57,49,57,50,57,51,57,52,57,53,57,54,57,55,57,56,57,57]⟩:ByteArray).extract (((k:Nat):Int)*2).toNat (((k:Nat):Int)*2+2).toNat=dgS ((k:Nat):Int):=by
 decide +kernel
theorem small_any (p:Int)(w:World)(h0:0≤p)(h1:p<100):
 Calls prog 98 #[.int i64 p] w fun e w'=>e=.returned (.string (dgS p))∧w'=w:=by
 by_cases h:p<10
 ·have e1:decide (p<10)=true:=by simpa using h
  go_enter func98,ntmps98;go_wp2;go_ret;refine⟨ret_str ?_,rfl⟩;obtain⟨k,rfl⟩:∃k:Fin 10,p=((k:Nat):Int):=⟨⟨p.toNat,by omega⟩,by simp;omega⟩;exact small1 k
 have e1:decide (p<10)=false:=by simpa using h
 go_enter func98,ntmps98;go_wp2;go_ret;refine⟨ret_str ?_,rfl⟩;obtain⟨k,rfl⟩:∃k:Fin 100,p=((k:Nat):Int):=⟨⟨p.toNat,by omega⟩,by simp;omega⟩;exact small2 k (by omega)
theorem format_any (p:Int)(w:World)(h0:0≤p)(h1:p<100):
 Calls prog 68 #[.int i64 p,.int i64 10] w fun e w'=>e=.returned (.string (dgS p))∧w'=w:=by
 have e0:decide (0≤p)=true:=by simpa using h0
 have e1:decide (p<100)=true:=by simpa using h1
 go_enter func68,ntmps68
 go_wp2_with fail
 refine (small_any _ _ h0 h1).mono ?_;rintro e w' ⟨rfl,rfl⟩;go_wp2;go_ret;exact⟨rfl,rfl⟩
theorem itoa1_any (p:Int)(w:World)(h0:0≤p)(h1:p<100):
 Calls prog 42 #[.int i64 p] w fun e w'=>e=.returned (.string (dgS p))∧w'=w:=by
 go_enter func42,ntmps42
 go_wp2_with fail
 refine (format_any _ _ h0 h1).mono ?_;rintro e w' ⟨rfl,rfl⟩;go_wp2;go_ret;exact⟨rfl,rfl⟩
theorem itoa_any (p:Int)(w:World)(h0:0≤p)(h1:p<100):
 Calls prog 21 #[.int i64 p] w fun e w'=>e=.returned (.string (dgS p))∧w'=w:=by
 go_enter func21,ntmps21
 go_wp2_with fail
 refine (itoa1_any _ _ h0 h1).mono ?_;rintro e w' ⟨rfl,rfl⟩;go_wp2;go_ret;exact⟨rfl,rfl⟩
theorem indexByte_any (s:ByteArray)(w:World):
 Calls prog 83 #[.string s,.int .u8 32] w fun e w'=>e=.returned (.int i64 (blAt s))∧w'=w:=by
 go_enter func83,ntmps83;go_wp2;rw[run_callFunc_extern func109 (by kernel_rfl) (by kernel_rfl) (by kernel_rfl) (e:=Extern.BytealgIndexByte.indexByte) (by kernel_rfl),Lib.run_indexByteString];simp only[Result.andThen];rw[Oper.upon_value];go_wp2;go_ret;exact⟨rfl,rfl⟩
theorem index1_any (s:ByteArray)(w:World):
 Calls prog 111 #[.string s,.string ⟨#[32]⟩] w fun e w'=>e=.returned (.int i64 (blAt s))∧w'=w:=by
 cases hs:([32]==s.toList)
 ·go_enter func111,ntmps111
  go_wp2_with fail
  refine (indexByte_any _ _).mono ?_;rintro e w' ⟨rfl,rfl⟩;go_wp2;go_ret;exact⟨rfl,rfl⟩
 have hb:blAt s=0:=by
  have e:s.data.toList=[32]:=by
   rw[←Lib.toList_data];exact (beq_iff_eq.1 hs).symm
  rw[blAt,e];decide
 rw[hb];clear hb;go_enter func111,ntmps111;go_wp2;go_ret;exact⟨rfl,rfl⟩
theorem sindex_any (s:ByteArray)(w:World):
 Calls prog 140 #[.string s,.string ⟨#[32]⟩] w fun e w'=>e=.returned (.int i64 (blAt s))∧w'=w:=by
 go_enter func140,ntmps140
 go_wp2_with fail
 refine (index1_any _ _).mono ?_;rintro e w' ⟨rfl,rfl⟩;go_wp2;go_ret;exact⟨rfl,rfl⟩
theorem ret_int {k:IntKind}{a b:Int}(h:a=b):Ending.returned (.int k a)=.returned (.int k b):=by rw[h]
theorem bitAt_any (i:Int)(w:World)(h0:0≤i)(h1:i<4):
 Calls prog 72 #[.int i64 i] w fun e w'=>e=.returned (.int i64 (2 ^ (3-i).toNat))∧w'=w:=by
 go_enter func72,ntmps72;go_wp2;go_ret;refine⟨ret_int ?_,rfl⟩
 rcases (by omega:i=0∨i=1∨i=2∨i=3) with rfl | rfl | rfl | rfl <;> decide +kernel
theorem letter_any (m b x:Int)(w:World):
 Calls prog 71 #[.agg #[.int i64 m,.int i64 b],.int i64 x] w fun e w'=>e=.returned (.int .u8 (ltr m b x))∧Below w.heap.size w w':=by
 cases h1:(bits .and .i64 m x==0)
 ·cases h2:(bits .and .i64 b x==0)
  ·have e:ltr m b x=49:=by simp only[ltr,h1,h2];rfl
   rw[e];clear e;go_enter func71,ntmps71;go_wp2;go_ret;exact⟨rfl,(bRQ _ _).alloc (nLQ _) _⟩
  have e:ltr m b x=48:=by simp only[ltr,h1,h2];rfl
  rw[e];clear e;go_enter func71,ntmps71;go_wp2;go_ret;exact⟨rfl,(bRQ _ _).alloc (nLQ _) _⟩
 have e:ltr m b x=42:=by simp only[ltr,h1];rfl
 rw[e];clear e;go_enter func71,ntmps71;go_wp2;go_ret;exact⟨rfl,(bRQ _ _).alloc (nLQ _) _⟩
def PrInv (m b:Int)(w:World)(B k:Nat)(w':World):Prop:=
 Below w.heap.size w w'∧w.heap.size<B∧B<w'.heap.size ∧
  w'.cell? ⟨w.heap.size,0,none⟩=some (.int i64 m)∧w'.cell? ⟨w.heap.size,1,none⟩=some (.int i64 b) ∧
  (w'.cell? ⟨B,0,none⟩=some (.int .u8 (ltrTo m b k 0))∧w'.cell? ⟨B,1,none⟩=some (.int .u8 (ltrTo m b k 1)) ∧
  w'.cell? ⟨B,2,none⟩=some (.int .u8 (ltrTo m b k 2))∧w'.cell? ⟨B,3,none⟩=some (.int .u8 (ltrTo m b k 3))) ∧
  (w'.frozen? ⟨B,0,none⟩=false∧w'.frozen? ⟨B,1,none⟩=false∧w'.frozen? ⟨B,2,none⟩=false∧w'.frozen? ⟨B,3,none⟩=false)
theorem PrInv.later {m b:Int}{w W w':World}{B k:Nat}(h:PrInv m b w B k W)(hb:Below W.heap.size W w'):PrInv m b w B k w':=by
 obtain⟨hB,h0,hsz,hm,hb',⟨c0,c1,c2,c3⟩,⟨f0,f1,f2,f3⟩⟩:=h;have fz:∀o,w'.frozen? ⟨B,o,none⟩=W.frozen? ⟨B,o,none⟩:=fun o=>hb.frozen (p:=⟨B,o,none⟩) hsz
 exact⟨hB.trans (hb.mono hB.size),h0,Nat.lt_of_lt_of_le hsz hb.size,cell_later hb hm,cell_later hb hb',⟨cell_later hb c0,cell_later hb c1,cell_later hb c2,cell_later hb c3⟩,
  ⟨(fz 0).trans f0,(fz 1).trans f1,(fz 2).trans f2,(fz 3).trans f3⟩⟩
theorem ltrTo_lt {m b:Int}{k j:Nat}(h:j<k):ltrTo m b k j=ltrAt m b j:=by simp[ltrTo,h]
theorem ltrTo_ne {m b:Int}{k j:Nat}(h:j≠k):ltrTo m b (k+1) j=ltrTo m b k j:=by
 unfold ltrTo;by_cases hj:j<k
 ·rw[if_pos hj,if_pos (by omega)]
 rw[if_neg hj,if_neg (by omega)]
theorem PrInv.step {m b:Int}{w w':World}{B k:Nat}(h:PrInv m b w B k w')(x:Int)(hx:x=bitN k):PrInv m b w B (k+1) (w'.setCell ⟨B,k,none⟩ (.int .u8 (ltr m b x))):=by
 obtain⟨hB,h0,hsz,hm,hb',⟨c0,c1,c2,c3⟩,⟨f0,f1,f2,f3⟩⟩:=h;subst hx;have hc:∀j,w'.cell? ⟨B,j,none⟩=some (.int .u8 (ltrTo m b k j))→(w'.setCell ⟨B,k,none⟩ (.int .u8 (ltr m b (bitN k)))).cell? ⟨B,j,none⟩=some (.int .u8 (ltrTo m b (k+1) j)):=by
  intro j hcj;by_cases e:j=k
  ·subst e;rw[World.cell?_setCell_same _ _ _ hcj,ltrTo_lt (by omega)];rfl
  rw[World.cell?_setCell_other _ _ _ _ (by simp <;> omega),hcj,ltrTo_ne e]
 refine⟨hB.setCell (by simp;omega) _,h0,by simpa using hsz,?_,?_,⟨hc 0 c0,hc 1 c1,hc 2 c2,hc 3 c3⟩,⟨?_,?_,?_,?_⟩⟩
 ·rw[World.cell?_setCell_other _ _ _ _ (by simp <;> omega),hm]
 ·rw[World.cell?_setCell_other _ _ _ _ (by simp <;> omega),hb']
 all_goals simp[*]
theorem print_ok (m b:Int)(w:World)(h:okB m b=true):
 Calls prog 44 #[.agg #[.int i64 m,.int i64 b]] w fun e w'=>e=.returned (.tuple #[.string (prS m b),.nilIface])∧Below w.heap.size w w':=by
 go_enter func44,ntmps44
 go_wp2_with fail
 refine (check_ok _ _ _ h).mono ?_;rintro e w1 ⟨rfl,hb1⟩;obtain⟨hc1,hf1⟩:=bcell hb1;have hz1:w.heap.size<w1.heap.size:=by have:=hb1.size;simp at this;omega
 go_wp2;have hI:PrInv m b w w1.heap.size 0 (w1.alloc (.cells #[Value.int IntKind.u8 0,Value.int IntKind.u8 0,Value.int IntKind.u8 0,Value.int IntKind.u8 0] 129)):=by
  refine⟨((((bRQ _ _).alloc (nLQ _) _).trans (hb1.mono (by simp))).alloc (by omega) _),hz1,by simp,?_,?_,⟨?_,?_,?_,?_⟩,⟨?_,?_,?_,?_⟩⟩
  ·rw[World.cell?_alloc_past _ _ _ hz1,hc1 _ _ (by simp)];simp
  ·rw[World.cell?_alloc_past _ _ _ hz1,hc1 _ _ (by simp)];simp
  all_goals simp[ltrTo]
 clear hb1 hc1 hf1 hz1
 generalize w1.alloc (.cells #[Value.int IntKind.u8 0,Value.int IntKind.u8 0,Value.int IntKind.u8 0,Value.int IntKind.u8 0] 129)=W1 at *
 generalize w1.heap.size=B at *
 clear w1
 go_loopw [12] (fun i w'=>∃k:Nat,k≤4∧i=.int i64 k∧PrInv m b w B k w') (fun i _=>4-(intOf i).toNat)
 case atStart=>exact⟨0,by omega,rfl,hI⟩
 case round =>
  obtain⟨k,hk,rfl,hI'⟩:=hrel;clear hI;obtain⟨hB,h0,hsz,hm,hb,⟨c0,c1,c2,c3⟩,⟨f0,f1,f2,f3⟩⟩:=id hI';have HI:Hid (PrInv m b w B k wr):=hI';clear hI'
  rcases (by omega:k=0∨k=1∨k=2∨k=3∨k=4) with rfl | rfl | rfl | rfl | rfl
  ·go_wp2
   go_region_with (first | (go_at_call 72;refine (bitAt_any _ _ (by decide) (by decide)).mono ?_;rintro e w' ⟨rfl,rfl⟩) | (go_at_call 71;refine (letter_any _ _ _ _).mono ?_;rintro e w' ⟨rfl,hb⟩;have HI2:=HI.out.later (((Below.refl _ wr).drew).trans hb);obtain⟨hB',h0',hsz',hm',hb',⟨c0',c1',c2',c3'⟩,⟨f0',f1',f2',f3'⟩⟩:=id HI2;replace HI2:Hid (PrInv m b w B 0 w'):=HI2))
   all_goals
    go_wp2;go_roundw
    case rel=>exact⟨1,by omega,rfl,HI2.out.step _ (by decide)⟩
    case measure=>simp[intOf]
  ·go_wp2
   go_region_with (first | (go_at_call 72;refine (bitAt_any _ _ (by decide) (by decide)).mono ?_;rintro e w' ⟨rfl,rfl⟩) | (go_at_call 71;refine (letter_any _ _ _ _).mono ?_;rintro e w' ⟨rfl,hb⟩;have HI2:=HI.out.later (((Below.refl _ wr).drew).trans hb);obtain⟨hB',h0',hsz',hm',hb',⟨c0',c1',c2',c3'⟩,⟨f0',f1',f2',f3'⟩⟩:=id HI2;replace HI2:Hid (PrInv m b w B 1 w'):=HI2))
   all_goals
    go_wp2;go_roundw
    case rel=>exact⟨2,by omega,rfl,HI2.out.step _ (by decide)⟩
    case measure=>simp[intOf]
  ·go_wp2
   go_region_with (first | (go_at_call 72;refine (bitAt_any _ _ (by decide) (by decide)).mono ?_;rintro e w' ⟨rfl,rfl⟩) | (go_at_call 71;refine (letter_any _ _ _ _).mono ?_;rintro e w' ⟨rfl,hb⟩;have HI2:=HI.out.later (((Below.refl _ wr).drew).trans hb);obtain⟨hB',h0',hsz',hm',hb',⟨c0',c1',c2',c3'⟩,⟨f0',f1',f2',f3'⟩⟩:=id HI2;replace HI2:Hid (PrInv m b w B 2 w'):=HI2))
   all_goals
    go_wp2;go_roundw
    case rel=>exact⟨3,by omega,rfl,HI2.out.step _ (by decide)⟩
    case measure=>simp[intOf]
  ·go_wp2
   go_region_with (first | (go_at_call 72;refine (bitAt_any _ _ (by decide) (by decide)).mono ?_;rintro e w' ⟨rfl,rfl⟩) | (go_at_call 71;refine (letter_any _ _ _ _).mono ?_;rintro e w' ⟨rfl,hb⟩;have HI2:=HI.out.later (((Below.refl _ wr).drew).trans hb);obtain⟨hB',h0',hsz',hm',hb',⟨c0',c1',c2',c3'⟩,⟨f0',f1',f2',f3'⟩⟩:=id HI2;replace HI2:Hid (PrInv m b w B 3 w'):=HI2))
   all_goals
    go_wp2;go_roundw
    case rel=>exact⟨4,by omega,rfl,HI2.out.step _ (by decide)⟩
    case measure=>simp[intOf]
  have hconv:=run_convert_bytes_arg (P:=prog) wr 102 5 underlying102 underlying5 B 0 4 4 [ltrAt m b 0,ltrAt m b 1,ltrAt m b 2,ltrAt m b 3] rfl (by
   intro i hi
   rcases (by omega:i=0∨i=1∨i=2∨i=3) with rfl | rfl | rfl | rfl <;> simp[*,ltrTo]) 9 underlying9
  clear c0 c1 c2 c3 f0 f1 f2 f3 hm hb;go_wp2
  go_ret2
  exact⟨rfl,hB⟩
def rsH (p m b:Int):ByteArray:=dgS p++⟨#[32]⟩++prS m b
def rsO (p m b o:Int):ByteArray:=rsH p m b++(⟨#[32,111,117,116,32]⟩++dgS o)
def rsS (p m b o s v:Int):ByteArray:=
 if o=0 then rsH p m b++⟨#[32,100,114,111,112]⟩ else if s=0 then rsO p m b o else rsO p m b o++(⟨#[32,115,101,116,32]⟩++prS s v)
theorem dg_size (p:Int):(dgS p).size≤2:=by
 unfold dgS
 split
 ·exact Nat.le_succ 1
 exact Nat.le_refl 2
theorem pr_size (m b:Int):(prS m b).size=4:=rfl
theorem set_ok {p o s v:Int}(h1:ruIn p o s v=true)(h2:ruSet o s v=true):okB s v=true:=by
 simp only[ruIn,Bool.and_eq_true] at h1;simp only[ruSet,Bool.and_eq_true] at h2;simp[okB,h1.2,h2.1]
theorem cells6 {w w1:World}{p m b o s v:Int}(hb:Below (w.alloc (.cells #[.int i64 p,.int i64 m,.int i64 b,.int i64 o,.int i64 s,.int i64 v] 64)).heap.size (w.alloc (.cells #[.int i64 p,.int i64 m,.int i64 b,.int i64 o,.int i64 s,.int i64 v] 64)) w1):
 (w1.cell? ⟨w.heap.size,0,none⟩=some (.int i64 p)∧w1.cell? ⟨w.heap.size,1,none⟩=some (.int i64 m)∧w1.cell? ⟨w.heap.size,2,none⟩=some (.int i64 b)∧w1.cell? ⟨w.heap.size,3,none⟩=some (.int i64 o)∧w1.cell? ⟨w.heap.size,4,none⟩=some (.int i64 s)∧w1.cell? ⟨w.heap.size,5,none⟩=some (.int i64 v))∧w.heap.size<w1.heap.size:=by
 have hs:=hb.size;simp at hs;refine⟨⟨?_,?_,?_,?_,?_,?_⟩,by omega⟩ <;> (rw[hb.cell (p:=⟨w.heap.size,_,none⟩) (by simp)];simp)
theorem below_one {w w1:World}{o:Obj}(hb:Below (w.alloc o).heap.size (w.alloc o) w1):Below w.heap.size w w1:=
 ((bRQ _ _).alloc (nLQ _) _).trans (hb.mono (by simp))
theorem ruPrint_ok (p m b o s v:Int)(w:World)(h:ruOk p m b o s v=true):
 Calls prog 23 #[.agg #[.int i64 p,.int i64 m,.int i64 b,.int i64 o,.int i64 s,.int i64 v]] w fun e w'=>e=.returned (.tuple #[.string (rsS p m b o s v),.nilIface])∧Below w.heap.size w w':=by
 have hn:=ruN_ok h;obtain⟨g1,g2,g3⟩:=ru_ok h;have g4:=set_ok g1 g3;obtain⟨⟨⟨p0,p1⟩,⟨o0,o1⟩⟩,_⟩:=ru_in g1;have d1:=dg_size p;have d2:=dg_size o;have d3:=pr_size m b;have d4:=pr_size s v;by_cases ho:o=0
 ·have e:rsS p m b o s v=rsH p m b++⟨#[32,100,114,111,112]⟩:=by simp[rsS,ho]
  rw[e];clear e h g1 g3;have ho2:(o==0)=true:=by simpa using ho
  clear ho;go_enter func23,ntmps23
  go_wp2_with fail
  refine (ruCheck_any _ _ _ _ _ _ _).mono ?_;rintro e w1 ⟨rfl,hb1⟩;rw[no_ok hn];obtain⟨⟨q0,q1,q2,q3,q4,q5⟩,lt1⟩:=cells6 hb1;have hB:=below_one hb1;clear hb1
  go_wp2_with fail
  refine (print_ok _ _ _ g2).mono ?_;rintro e w2 ⟨rfl,hb2⟩;have r0:=cell_later hb2 q0;have r3:=cell_later hb2 q3;have hB2:=hB.trans (hb2.mono hB.size);have lt2:=Nat.lt_of_lt_of_le lt1 hb2.size;clear hb2 q0 q1 q2 q3 q4 q5 hB
  go_wp2_with fail
  refine (itoa_any _ _ p0 (by omega)).mono ?_;rintro e w' ⟨rfl,rfl⟩;go_wp2;refine bodyPost_ret (v:=.tuple #[.string (rsH p m b++⟨#[32,100,114,111,112]⟩),.nilIface]) (by simp[results,results23,go_sem,rsH]) rfl ⟨rfl,?_⟩;exact hB2
 have ho2:(o==0)=false:=by simpa using ho
 by_cases hz:s=0
 ·have e:rsS p m b o s v=rsO p m b o:=by simp[rsS,ho,hz]
  rw[e];have hz2:(s==0)=true:=by simpa using hz
  have hz3:(s != 0)=false:=by simpa using hz
  clear e h g1 g3 ho hz;go_enter func23,ntmps23
  go_wp2_with fail
  refine (ruCheck_any _ _ _ _ _ _ _).mono ?_;rintro e w1 ⟨rfl,hb1⟩;rw[no_ok hn];obtain⟨⟨q0,q1,q2,q3,q4,q5⟩,lt1⟩:=cells6 hb1;have hB:=below_one hb1;clear hb1
  go_wp2_with fail
  refine (print_ok _ _ _ g2).mono ?_;rintro e w2 ⟨rfl,hb2⟩;have r0:=cell_later hb2 q0;have r3:=cell_later hb2 q3;have r4:=cell_later hb2 q4;have hB2:=hB.trans (hb2.mono hB.size);have lt2:=Nat.lt_of_lt_of_le lt1 hb2.size;clear hb2 q0 q1 q2 q3 q4 q5 hB
  go_wp2_with fail
  refine (itoa_any _ _ p0 (by omega)).mono ?_;rintro e w' ⟨rfl,rfl⟩
  go_wp2_with fail
  refine (itoa_any _ _ o0 (by omega)).mono ?_;rintro e w' ⟨rfl,rfl⟩;go_wp2;refine bodyPost_ret (v:=.tuple #[.string (rsO p m b o),.nilIface]) (by simp[results,results23,go_sem,rsH,rsO]) rfl ⟨rfl,?_⟩;exact hB2
 have e:rsS p m b o s v=rsO p m b o++(⟨#[32,115,101,116,32]⟩++prS s v):=by simp[rsS,ho,hz]
 rw[e];have hz2:(s==0)=false:=by simpa using hz
 have hz3:(s != 0)=true:=by simpa using hz
 clear e h g1 g3 ho hz;go_enter func23,ntmps23
 go_wp2_with fail
 refine (ruCheck_any _ _ _ _ _ _ _).mono ?_;rintro e w1 ⟨rfl,hb1⟩;rw[no_ok hn];obtain⟨⟨q0,q1,q2,q3,q4,q5⟩,lt1⟩:=cells6 hb1;have hB:=below_one hb1;clear hb1
 go_wp2_with fail
 refine (print_ok _ _ _ g2).mono ?_;rintro e w2 ⟨rfl,hb2⟩;have r0:=cell_later hb2 q0;have r3:=cell_later hb2 q3;have r4:=cell_later hb2 q4;have r5:=cell_later hb2 q5;have hB2:=hB.trans (hb2.mono hB.size);have lt2:=Nat.lt_of_lt_of_le lt1 hb2.size;clear hb2 q0 q1 q2 q3 q4 q5 hB
 go_wp2_with fail
 refine (itoa_any _ _ p0 (by omega)).mono ?_;rintro e w' ⟨rfl,rfl⟩
 go_wp2_with fail
 refine (itoa_any _ _ o0 (by omega)).mono ?_;rintro e w' ⟨rfl,rfl⟩
 go_wp2_with fail
 refine (print_ok _ _ _ g4).mono ?_;rintro e w3 ⟨rfl,hb3⟩;have hB3:=hB2.trans (hb3.mono hB2.size);clear hb3 hB2;go_wp2;refine bodyPost_ret (v:=.tuple #[.string (rsO p m b o++(⟨#[32,115,101,116,32]⟩++prS s v)),.nilIface]) (by simp[results,results23,go_sem,rsH,rsO]) rfl ⟨rfl,?_⟩;exact hB3
theorem bl_len (s:ByteArray){i:Nat}(h:blAt s=i):i<s.size:=by
 rcases bl_cases s with h' | ⟨j,h',hj⟩
 ·omega
 rw[h'] at h;have:j=i:=by omega
 omega
theorem cut_fuel:∀(k:Nat) (s:ByteArray),s.size≤k→cutB (k+1) s=cutB k s
 | 0,s,h=>by
   rcases bl_cases s with h' | ⟨i,_,hi⟩
   ·rw[cut_miss _ h',cut_miss _ h']
   omega
 | k+1,s,h=>by
   rcases bl_cases s with h' | ⟨i,h',hi⟩
   ·rw[cut_miss _ h',cut_miss _ h']
   rw[cut_hit _ h',cut_hit _ h',cut_fuel k _ (by rw[ByteArray.size_extract];omega)]
theorem cut_more {s:ByteArray}{k:Nat}(h:s.size≤k):∀d,cutB (k+d) s=cutB k s
 | 0=>rfl
 | d+1=>by rw[←Nat.add_assoc,cut_fuel (k+d) s (by omega),cut_more h d]
def cutA (s:ByteArray):List ByteArray:=cutB s.size s
theorem cutA_of {s:ByteArray}{k:Nat}(h:s.size≤k):cutB k s=cutA s:=by
 obtain⟨d,rfl⟩:∃d,k=s.size+d:=⟨k-s.size,by omega⟩;exact cut_more (nLQ _) d
theorem cut_few:∀(k:Nat) (s:ByteArray),((cutA s).length≤k+1→cutB k s=cutA s)∧(k+1<(cutA s).length→(cutB k s).length=k+1)
 | 0,s=>by
   constructor
   ·intro h
    rcases bl_cases s with h' | ⟨i,h',hi⟩
    ·rw[cutA,cut_miss _ h',cut_miss _ h']
    exfalso
    rw[←cutA_of (show s.size≤(s.size-1)+1 by omega),cut_hit _ h'] at h;have:=(cut_len (s.size-1) (s.extract (i+1) s.size)).2;simp at h;rw[h] at this;simp at this
   intro _;rfl
 | k+1,s=>by
   rcases bl_cases s with h' | ⟨i,h',hi⟩
   ·rw[cutA,cut_miss _ h',cut_miss _ h'];simp
   have e:cutA s=s.extract 0 i :: cutA (s.extract (i+1) s.size):=by
    rw[←cutA_of (show s.size≤(s.size-1)+1 by omega),cut_hit _ h'];rw[cutA_of (by rw[ByteArray.size_extract];omega)]
   rw[e,cut_hit _ h'];obtain⟨i1,i2⟩:=cut_few k (s.extract (i+1) s.size);constructor
   ·intro h;rw[i1 (by simpa using h)]
   intro h;simp only[List.length_cons] at h ⊢;rw[i2 (by omega)]
theorem cutA_hit {s:ByteArray}{i:Nat}(h:blAt s=i):cutA s=s.extract 0 i :: cutA (s.extract (i+1) s.size):=by
 have hi:=bl_len s h;rw[←cutA_of (show s.size≤(s.size-1)+1 by omega),cut_hit _ h];rw[cutA_of (by rw[ByteArray.size_extract];omega)]
theorem cutA_miss {s:ByteArray}(h:blAt s = -1):cutA s=[s]:=cut_miss _ h
theorem cutA_len (s:ByteArray):1≤(cutA s).length∧(cutA s).length≤s.size+1:=⟨(cut_len _ s).2,(cut_len _ s).1⟩
def noBl (s:ByteArray)(f i:Nat):Prop:=∀j,f≤j→j<i→byteN s j≠32
theorem noBl_next {s:ByteArray}{f i:Nat}(h:noBl s f i)(h2:byteN s i≠32):noBl s f (i+1):=by
 intro j h1 hj;by_cases e:j=i
 ·subst e;exact h2
 exact h j h1 (by omega)
theorem byteN_of {s:ByteArray}{j:Nat}(h:s.data.toList[j]?=some 32):byteN s j=32:=by
 rw[byteN,List.getD_eq_getElem?_getD,h];rfl
theorem byteN_is {s:ByteArray}{j:Nat}(hj:j<s.size)(h:byteN s j=32):s.data.toList[j]?=some 32:=by
 rw[byteN,List.getD_eq_getElem?_getD] at h;rw[Lib.data_getElem? s j hj] at h ⊢;simp only[Option.getD_some] at h;rw[show s[j]=32 from UInt8.toNat_inj.1 h]
theorem bl_from {s:ByteArray}{f i:Nat}(hfi:f≤i)(hi:i<s.size)(h:noBl s f i)(h2:byteN s i=32):blAt (s.extract f s.size)=((i-f:Nat):Int):=by
 have e:=Lib.extract_to_end s f;have hit:(s.extract f s.size).data.toList[i-f]?=some 32:=by
  rw[e,List.getElem?_drop,show f+(i-f)=i by omega];exact byteN_is hi h2
 rcases bl_cases (s.extract f s.size) with h' | ⟨j,h',hj⟩
 ·exact absurd hit (Lib.indexByte_none h' _)
 rw[h'];obtain⟨a1,a2⟩:=Lib.indexByte_some h';have b1:¬i-f<j:=fun hlt=>a2 _ hlt hit
 have b2:¬j<i-f:=fun hlt=>by
  rw[e,List.getElem?_drop] at a1;exact h (f+j) (by omega) (by omega) (byteN_of a1)
 have:j=i-f:=by omega
 rw[this]
theorem bl_none {s:ByteArray}{f:Nat}(h:noBl s f s.size):blAt (s.extract f s.size) = -1:=by
 rcases bl_cases (s.extract f s.size) with h' | ⟨j,h',hj⟩
 ·exact h'
 exfalso
 obtain⟨a1,_⟩:=Lib.indexByte_some h';rw[ByteArray.size_extract] at hj;rw[Lib.extract_to_end,List.getElem?_drop] at a1;exact h (f+j) (by omega) (by omega) (byteN_of a1)
theorem cutA_step {s:ByteArray}{f i:Nat}(hfi:f≤i)(hi:i<s.size)(h:noBl s f i)(h2:byteN s i=32):cutA (s.extract f s.size)=s.extract f i :: cutA (s.extract (i+1) s.size):=by
 rw[cutA_hit (bl_from hfi hi h h2)]
 congr 1
 ·rw[ByteArray.extract_extract]
  congr 1 <;> omega
 rw[ByteArray.extract_extract,ByteArray.size_extract]
 congr 2 <;> omega
theorem cutA_end {s:ByteArray}{f:Nat}(h:noBl s f s.size):cutA (s.extract f s.size)=[s.extract f s.size]:=cutA_miss (bl_none h)
section
variable {c:UInt8}
def ixQ (c:UInt8)(s:ByteArray):Int:=Lib.indexByte s.data.toList c
def cutK (c:UInt8):Nat→ByteArray→List ByteArray
 | 0,s=>[s]
 | k+1,s=>if ixQ c s = -1 then [s] else s.extract 0 (ixQ c s).toNat :: cutK c k (s.extract ((ixQ c s).toNat+1) s.size)
theorem ck_miss {s:ByteArray}(k:Nat)(h:ixQ c s = -1):cutK c k s=[s]:=by
 cases k with
 | zero=>rfl
 | succ k=>rw[cutK,if_pos h]
theorem ck_hit {s:ByteArray}(k:Nat){i:Nat}(h:ixQ c s=i):cutK c (k+1) s=s.extract 0 i :: cutK c k (s.extract (i+1) s.size):=by
 have hm:¬ixQ c s = -1:=by omega
 have e:(ixQ c s).toNat=i:=by omega
 rw[cutK,if_neg hm,e]
theorem ixq_cases (c:UInt8)(s:ByteArray):ixQ c s = -1∨∃i:Nat,ixQ c s=i∧i<s.size:=by
 have h:=Lib.indexByte_ge s.data.toList c;by_cases e:ixQ c s = -1
 ·exact .inl e
 right;have e':0≤ixQ c s:=by unfold ixQ at *;omega
 obtain⟨i,hi⟩:=Int.eq_ofNat_of_zero_le e';refine⟨i,hi,?_⟩;have:=(Lib.indexByte_some hi).1;have hlt:=(List.getElem?_eq_some_iff.1 this).1;simpa using hlt
theorem ck_len (c:UInt8):∀(k:Nat) (s:ByteArray),(cutK c k s).length≤k+1∧1≤(cutK c k s).length
 | 0,_=>by simp[cutK]
 | k+1,s=>by
   rcases ixq_cases c s with h | ⟨i,h,_⟩
   ·rw[ck_miss _ h];simp
   rw[ck_hit _ h];have:=ck_len c k (s.extract (i+1) s.size);simp;omega
theorem ixq_len {c:UInt8}(s:ByteArray){i:Nat}(h:ixQ c s=i):i<s.size:=by
 rcases ixq_cases c s with h' | ⟨j,h',hj⟩
 ·omega
 rw[h'] at h;have:j=i:=by omega
 omega
theorem ck_fuel (c:UInt8):∀(k:Nat) (s:ByteArray),s.size≤k→cutK c (k+1) s=cutK c k s
 | 0,s,h=>by
   rcases ixq_cases c s with h' | ⟨i,_,hi⟩
   ·rw[ck_miss _ h',ck_miss _ h']
   omega
 | k+1,s,h=>by
   rcases ixq_cases c s with h' | ⟨i,h',hi⟩
   ·rw[ck_miss _ h',ck_miss _ h']
   rw[ck_hit _ h',ck_hit _ h',ck_fuel c k _ (by rw[ByteArray.size_extract];omega)]
theorem ck_more {s:ByteArray}{k:Nat}(h:s.size≤k):∀d,cutK c (k+d) s=cutK c k s
 | 0=>rfl
 | d+1=>by rw[←Nat.add_assoc,ck_fuel c (k+d) s (by omega),ck_more h d]
def cutC (c:UInt8)(s:ByteArray):List ByteArray:=cutK c s.size s
theorem cc_of {s:ByteArray}{k:Nat}(h:s.size≤k):cutK c k s=cutC c s:=by
 obtain⟨d,rfl⟩:∃d,k=s.size+d:=⟨k-s.size,by omega⟩;exact ck_more (nLQ _) d
theorem cc_hit {s:ByteArray}{i:Nat}(h:ixQ c s=i):cutC c s=s.extract 0 i :: cutC c (s.extract (i+1) s.size):=by
 have hi:=ixq_len s h;rw[←cc_of (show s.size≤(s.size-1)+1 by omega),ck_hit _ h];rw[cc_of (by rw[ByteArray.size_extract];omega)]
theorem cc_miss {s:ByteArray}(h:ixQ c s = -1):cutC c s=[s]:=ck_miss _ h
theorem cc_len (c:UInt8)(s:ByteArray):1≤(cutC c s).length∧(cutC c s).length≤s.size+1:=⟨(ck_len c _ s).2,(ck_len c _ s).1⟩
def noC (c:UInt8)(s:ByteArray)(f i:Nat):Prop:=∀j,f≤j→j<i→byteN s j≠c.toNat
theorem no_next {s:ByteArray}{f i:Nat}(h:noC c s f i)(h2:byteN s i≠c.toNat):noC c s f (i+1):=by
 intro j h1 hj;by_cases e:j=i
 ·subst e;exact h2
 exact h j h1 (by omega)
theorem byC_of {s:ByteArray}{j:Nat}(h:s.data.toList[j]?=some c):byteN s j=c.toNat:=by
 rw[byteN,List.getD_eq_getElem?_getD,h];rfl
theorem byC_is {s:ByteArray}{j:Nat}(hj:j<s.size)(h:byteN s j=c.toNat):s.data.toList[j]?=some c:=by
 rw[byteN,List.getD_eq_getElem?_getD] at h;rw[Lib.data_getElem? s j hj] at h ⊢;simp only[Option.getD_some] at h;rw[show s[j]=c from UInt8.toNat_inj.1 h]
theorem ixq_from {s:ByteArray}{f i:Nat}(hfi:f≤i)(hi:i<s.size)(h:noC c s f i)(h2:byteN s i=c.toNat):ixQ c (s.extract f s.size)=((i-f:Nat):Int):=by
 have e:=Lib.extract_to_end s f;have hit:(s.extract f s.size).data.toList[i-f]?=some c:=by
  rw[e,List.getElem?_drop,show f+(i-f)=i by omega];exact byC_is hi h2
 rcases ixq_cases c (s.extract f s.size) with h' | ⟨j,h',hj⟩
 ·exact absurd hit (Lib.indexByte_none h' _)
 rw[h'];obtain⟨a1,a2⟩:=Lib.indexByte_some h';have b1:¬i-f<j:=fun hlt=>a2 _ hlt hit
 have b2:¬j<i-f:=fun hlt=>by
  rw[e,List.getElem?_drop] at a1;exact h (f+j) (by omega) (by omega) (byC_of a1)
 have:j=i-f:=by omega
 rw[this]
theorem ixq_none {s:ByteArray}{f:Nat}(h:noC c s f s.size):ixQ c (s.extract f s.size) = -1:=by
 rcases ixq_cases c (s.extract f s.size) with h' | ⟨j,h',hj⟩
 ·exact h'
 exfalso
 obtain⟨a1,_⟩:=Lib.indexByte_some h';rw[ByteArray.size_extract] at hj;rw[Lib.extract_to_end,List.getElem?_drop] at a1;exact h (f+j) (by omega) (by omega) (byC_of a1)
theorem cc_step {s:ByteArray}{f i:Nat}(hfi:f≤i)(hi:i<s.size)(h:noC c s f i)(h2:byteN s i=c.toNat):cutC c (s.extract f s.size)=s.extract f i :: cutC c (s.extract (i+1) s.size):=by
 rw[cc_hit (ixq_from hfi hi h h2)]
 congr 1
 ·rw[ByteArray.extract_extract]
  congr 1 <;> omega
 rw[ByteArray.extract_extract,ByteArray.size_extract]
 congr 2 <;> omega
theorem cc_end {s:ByteArray}{f:Nat}(h:noC c s f s.size):cutC c (s.extract f s.size)=[s.extract f s.size]:=cc_miss (ixq_none h)
end
theorem infoStr:(Tryz.prog.info? 9).map (fun i=>(i.zero,i.size,i.bytes))=some (some (.string ByteArray.empty),1,16):=by kernel_rfl
theorem genSplit_any (s:ByteArray)(N:Nat)(w:World)(hs:s.size<4611686018427387904)(hN:(N:Int)=min 7 ((s.size:Int)+1)):
 Calls prog 131 #[.string s,.string ⟨#[32]⟩,.int i64 0,.int i64 7] w fun e w' =>
  e=.returned (.slice (some ⟨w.heap.size,0,none⟩) (cutB (N-1) s).length N)∧w'=w.alloc (.cells (Lib.cellsOf (cutB (N-1) s) N) 9):=by
 have hNs:(N:Int)≤(s.size:Int)+1:=by omega
 have hN1:(1:Int)≤(N:Int):=by omega
 have hmk:=run_make_row' (P:=prog) 68 9 (.string ByteArray.empty) 16 underlying68 infoStr rfl .i64 .i64 N (by omega) (by omega);have hmin:min (7:Int) ((s.size:Int)+1)=(N:Int):=hN.symm;clear hN;go_enter func131,ntmps131;go_upto_region 7 with fail
 go_cut [3] from 9 (fun v w'=>v=.int i64 N∧w'=w)
 case first =>
  clear hmk;by_cases h7:(7:Int)≤(s.size:Int)+1
  ·have e:(N:Int)=7:=by omega
   go_wp2
   go_meet
   case rel=>exact⟨by rw[e],rfl⟩
  have e:(N:Int)=(s.size:Int)+1:=by omega
  go_wp2
  go_meet
  case rel=>exact⟨by rw[e],rfl⟩
 obtain⟨rfl,hw⟩:=hcut
 replace hw:=hw.symm
 subst hw
 go_wp2_with fail
 clear hmk
 go_loopg [0,10] (N-1) (fun g s0 s10 wr=>∃(done:List ByteArray) (rest:ByteArray),s0=.string rest∧s10=.int i64 done.length∧done.length≤N-1∧g=N-1-done.length∧rest.size≤s.size ∧
  wr=w.alloc (.cells (Lib.cellsOf done N) 9)∧done++cutB (N-1-done.length) rest=cutB (N-1) s)
 case atStart=>exact⟨[],s,rfl,rfl,Nat.zero_le _,rfl,nLQ _,by rw[Lib.cellsOf_nil],rfl⟩
 case round =>
  obtain⟨done,rest,rfl,rfl,hd,rfl,hrs,rfl,hsp⟩:=hrel;have hnext:(Lib.cellsOf done N)[done.length]?=some (.string ByteArray.empty):=Lib.cellsOf_next (by omega);have HS:Hid (done++cutB (N-1-done.length) rest=cutB (N-1) s):=hsp;clear hsp;have fin:cutB (N-1-done.length) rest=[rest]→(cutB (N-1) s).length=done.length+1∧(Lib.cellsOf done N).setIfInBounds done.length (.string rest)=Lib.cellsOf (cutB (N-1) s) N:=fun h=>by
   have e:=HS.out;rw[h] at e;rw[←e];exact⟨by simp,Lib.cellsOf_set (by omega) rest⟩
  by_cases hlt:done.length<N-1
  ·have hltz:((done.length:Nat):Int)<(N:Int)-1:=by omega
   rcases bl_cases rest with hix | ⟨i,hix,hroom⟩
   ·go_wp2_with fail
    refine (sindex_any _ _).mono ?_;rintro e w' ⟨rfl,rfl⟩;rw[hix];go_wp2;go_ret;obtain⟨f1,f2⟩:=fin (cut_miss _ hix);rw[f1,←f2];exact⟨by first | rfl | (congr 2 <;> omega),rfl⟩
   have c0:¬((i:Int)<0):=by omega
   have c1:(0:Int) ≤ ↑i+0:=by omega
   have c2:(↑i+0:Int) ≤ ↑rest.size:=by omega
   have c3:(0:Int) ≤ ↑i+1:=by omega
   have c4:(↑i+1:Int) ≤ ↑rest.size:=by omega
   go_wp2_with fail
   refine (sindex_any _ _).mono ?_;rintro e w' ⟨rfl,rfl⟩;rw[hix];go_wp2
   go_roundg (N-1-(done.length+1))
   case measure=>omega
   case rel =>
    refine⟨done++[rest.extract 0 i],rest.extract (i+1) rest.size,rfl,by simp,by simp;omega,by simp,by rw[ByteArray.size_extract];omega,by rw[←Lib.cellsOf_set (by omega)],?_⟩;rw[←HS.out,show N-1-done.length=(N-1-(done.length+1))+1 by omega,cut_hit _ hix];simp
  have hltz:¬(((done.length:Nat):Int)<(N:Int)-1):=by omega
  go_wp2;go_ret;obtain⟨f1,f2⟩:=fin (by rw[show N-1-done.length=0 by omega];rfl);rw[f1,←f2];exact⟨by first | rfl | (congr 2 <;> omega),rfl⟩
theorem byteN_at (s:ByteArray)(k:Nat)(h:k<s.size):byteN s k=s[k].toNat:=by
 unfold byteN;have h':k<s.data.toList.length:=by simpa using h
 rw[List.getD_eq_getElem?_getD,List.getElem?_eq_getElem h'];rfl
theorem mayTo_le (s:ByteArray):∀(n k:Nat),k<n→mayTo s n=true→mayB (byteN s k)=true
 | 0,_,h,_=>absurd h (Nat.not_lt_zero _)
 | n+1,k,h,hm=>by
   simp only[mayTo,Bool.and_eq_true] at hm;by_cases e:k=n
   ·subst e;exact hm.2
   exact mayTo_le s n k (by omega) hm.1
def PsC (w:World)(M D:Int)(w':World):Prop:=
 Below w.heap.size w w'∧w.heap.size+1<w'.heap.size ∧
  (w'.cell? ⟨w.heap.size,0,none⟩=some (.int i64 0)∧w'.cell? ⟨w.heap.size,1,none⟩=some (.int i64 0)) ∧
  (w'.cell? ⟨w.heap.size+1,0,none⟩=some (.int i64 M)∧w'.cell? ⟨w.heap.size+1,1,none⟩=some (.int i64 D)) ∧
  (w'.frozen? ⟨w.heap.size,0,none⟩=false∧w'.frozen? ⟨w.heap.size,1,none⟩=false∧w'.frozen? ⟨w.heap.size+1,0,none⟩=false∧w'.frozen? ⟨w.heap.size+1,1,none⟩=false)
theorem PsC.drew {w w':World}{M D:Int}(h:PsC w M D w'):PsC w M D w'.drew:=by
 obtain⟨hB,hsz,⟨r0,r1⟩,⟨c0,c1⟩,⟨f0,f1,f2,f3⟩⟩:=h;exact⟨hB.drew,hsz,⟨r0,r1⟩,⟨c0,c1⟩,⟨f0,f1,f2,f3⟩⟩
theorem PsC.setM {w w':World}{M D:Int}(h:PsC w M D w')(X Y:Int)(e:Y=X):PsC w X D (w'.setCell ⟨w.heap.size+1,0,none⟩ (.int i64 Y)):=by
 obtain⟨hB,hsz,⟨r0,r1⟩,⟨c0,c1⟩,⟨f0,f1,f2,f3⟩⟩:=h;subst e;refine⟨hB.setCell (by simp) _,by simpa using hsz,⟨?_,?_⟩,⟨?_,?_⟩,⟨?_,?_,?_,?_⟩⟩
 ·rw[World.cell?_setCell_other _ _ _ _ (by simp),r0]
 ·rw[World.cell?_setCell_other _ _ _ _ (by simp),r1]
 ·rw[World.cell?_setCell_same _ _ _ c0]
 ·rw[World.cell?_setCell_other _ _ _ _ (by simp),c1]
 all_goals simp[*]
theorem PsC.setD {w w':World}{M D:Int}(h:PsC w M D w')(X Y:Int)(e:Y=X):PsC w M X (w'.setCell ⟨w.heap.size+1,1,none⟩ (.int i64 Y)):=by
 obtain⟨hB,hsz,⟨r0,r1⟩,⟨c0,c1⟩,⟨f0,f1,f2,f3⟩⟩:=h;subst e;refine⟨hB.setCell (by simp) _,by simpa using hsz,⟨?_,?_⟩,⟨?_,?_⟩,⟨?_,?_,?_,?_⟩⟩
 ·rw[World.cell?_setCell_other _ _ _ _ (by simp),r0]
 ·rw[World.cell?_setCell_other _ _ _ _ (by simp),r1]
 ·rw[World.cell?_setCell_other _ _ _ _ (by simp),c0]
 ·rw[World.cell?_setCell_same _ _ _ c1]
 all_goals simp[*]
theorem psM_bit {s:ByteArray}{k:Nat}(hb:byteN s k=49∨byteN s k=48):psMTo s (k+1)=bits .or .i64 (psMTo s k) (bitN k):=by
 rcases hb with hb | hb <;> simp[psMTo,rdM,hb]
theorem psB_one {s:ByteArray}{k:Nat}(hb:byteN s k=49):psBTo s (k+1)=bits .or .i64 (psBTo s k) (bitN k):=by
 simp[psBTo,rdB,hb]
theorem psB_zero {s:ByteArray}{k:Nat}(hb:byteN s k=48):psBTo s (k+1)=psBTo s k:=by
 simp[psBTo,rdB,hb]
theorem psM_any {s:ByteArray}{k:Nat}(hb:byteN s k=42):psMTo s (k+1)=psMTo s k:=by
 simp[psMTo,rdM,hb]
theorem psB_any {s:ByteArray}{k:Nat}(hb:byteN s k=42):psBTo s (k+1)=psBTo s k:=by
 simp[psBTo,rdB,hb]
theorem may_next {s:ByteArray}{k:Nat}(h:mayTo s k=true)(hb:byteN s k=49∨byteN s k=48∨byteN s k=42):mayTo s (k+1)=true:=by
 rcases hb with hb | hb | hb <;> simp[mayTo,mayB,h,hb]
theorem parse_long (s:ByteArray)(w:World)(h:s.size≠4):
 Calls prog 114 #[.string s] w fun e w'=>e=.returned (.tuple #[.agg #[.int i64 0,.int i64 0],.iface 72 (.int i64 2)])∧Below w.heap.size w w':=by
 have h4:((s.size:Int)==4)=false:=by simp;omega
 go_enter func114,ntmps114;go_wp2;refine bodyPost_ret (v:=.tuple #[.agg #[.int i64 0,.int i64 0],.iface 72 (.int i64 2)]) (by simp[results,results114,go_sem]) rfl ⟨rfl,?_⟩;exact (bRQ _ _).alloc (nLQ _) _
theorem parse_bad (s:ByteArray)(w:World)(h:s.size=4)(hp:psOk s=false):
 Calls prog 114 #[.string s] w fun e w'=>e=.returned (.tuple #[.agg #[.int i64 0,.int i64 0],.iface 72 (.int i64 2)])∧Below w.heap.size w w':=by
 have HP:Hid (psOk s=false):=hp;clear hp;have h4:((s.size:Int)==4)=true:=by simp;omega
 go_enter func114,ntmps114;go_wp2;have hI:PsC w 0 0 ((w.alloc (.cells #[.int i64 0,.int i64 0] 62)).alloc (.cells #[.int i64 0,.int i64 0] 62)):=by
  refine⟨((bRQ _ _).alloc (nLQ _) _).alloc (by simp) _,by simp,?_,?_,?_⟩ <;> simp
 generalize ((w.alloc (.cells #[.int i64 0,.int i64 0] 62)).alloc (.cells #[.int i64 0,.int i64 0] 62))=W1 at *
 go_loopw [11] (fun i w'=>∃k:Nat,k≤4∧i=.int i64 k∧mayTo s k=true∧PsC w (psMTo s k) (psBTo s k) w') (fun i _=>4-(intOf i).toNat)
 case atStart=>exact⟨0,by omega,rfl,rfl,hI⟩
 case round =>
  obtain⟨k,hk,rfl,hmay,hI'⟩:=hrel;have HM:Hid (mayTo s k=true):=hmay;clear hI hmay;have HI:Hid (PsC w (psMTo s k) (psBTo s k) wr):=hI';obtain⟨hB,hsz,⟨r0,r1⟩,⟨c0,c1⟩,⟨f0,f1,f2,f3⟩⟩:=hI';by_cases hlt:k<4
  ·have hks:k<s.size:=by omega
   have hb:=byteN_at s k hks;have HB:Hid (byteN s k=s[k].toNat):=hb;clear hb;by_cases h49:s[k].toNat=49
   ·have g:((s[k].toNat:Int)==49)=true:=by simp;omega
    have HN:Hid (byteN s k=49):=HB.out.trans h49;go_wp2
    go_cut [11] from 11 to 43 (fun i w'=>i=.int i64 k∧PsC w (psMTo s (k+1)) (psBTo s k) w')
    case first =>
     go_region_with (go_at_call 72;refine (bitAt_any _ _ (by omega) (by omega)).mono ?_;rintro e w' ⟨rfl,rfl⟩)
     all_goals
      go_wp2_with fail
      go_meet
      case rel=>exact⟨rfl,(HI.out.setM _ _ (psM_bit (.inl HN.out)).symm).drew⟩
    case rest =>
     obtain⟨rfl,hC⟩:=hcut;clear hB hsz r0 r1 c0 c1 f0 f1 f2 f3 HI h49 g h4;have HI:Hid (PsC w (psMTo s (k+1)) (psBTo s k) wc):=hC;obtain⟨hB,hsz,⟨r0,r1⟩,⟨c0,c1⟩,⟨f0,f1,f2,f3⟩⟩:=hC;go_wp2
     go_region_with (go_at_call 72;refine (bitAt_any _ _ (by omega) (by omega)).mono ?_;rintro e w' ⟨rfl,rfl⟩)
     all_goals
      go_wp2;go_roundw
      case rel=>exact⟨k+1,by omega,by go_num,may_next HM.out (.inl HN.out),(HI.out.setD _ _ (psB_one HN.out).symm).drew⟩
      case measure=>simp[intOf];omega
   have g:((s[k].toNat:Int)==49)=false:=by simp;omega
   by_cases h48:s[k].toNat=48
   ·have HN:Hid (byteN s k=48):=HB.out.trans h48;go_wp2
    go_region_with (go_at_call 72;refine (bitAt_any _ _ (by omega) (by omega)).mono ?_;rintro e w' ⟨rfl,rfl⟩)
    all_goals
     go_wp2;go_roundw
     case rel=>exact⟨k+1,by omega,by go_num,may_next HM.out (.inr (.inl HN.out)),by rw[psB_zero HN.out];exact (HI.out.setM _ _ (psM_bit (.inr HN.out)).symm).drew⟩
     case measure=>simp[intOf];omega
   have g2:((s[k].toNat:Int)==48)=false:=by simp;omega
   by_cases h42:s[k].toNat=42
   ·have HN:Hid (byteN s k=42):=HB.out.trans h42;go_wp2;go_roundw
    case rel=>exact⟨k+1,by omega,by go_num,may_next HM.out (.inr (.inr HN.out)),by rw[psB_any HN.out,psM_any HN.out];exact HI.out⟩
    case measure=>simp[intOf];omega
   have g3:((s[k].toNat:Int)==42)=false:=by simp;omega
   go_wp2;refine bodyPost_ret (v:=.tuple #[.agg #[.int i64 0,.int i64 0],.iface 72 (.int i64 2)]) (by simp[results,results114,go_sem, *]) rfl ⟨rfl,?_⟩;exact ((hB.setCell (by simp) _).setCell (by simp) _)
  exfalso
  obtain rfl:k=4:=by omega
  have:=HM.out;have:=HP.out
  simp_all [psOk]
theorem parse_ok (s:ByteArray)(w:World)(h:s.size=4)(hp:psOk s=true):
 Calls prog 114 #[.string s] w fun e w'=>e=.returned (.tuple #[.agg #[.int i64 (psM s),.int i64 (psB s)],.nilIface])∧Below w.heap.size w w':=by
 have HP:Hid (psOk s=true):=hp;clear hp;have h4:((s.size:Int)==4)=true:=by simp;omega
 go_enter func114,ntmps114;go_wp2;have hI:PsC w 0 0 ((w.alloc (.cells #[.int i64 0,.int i64 0] 62)).alloc (.cells #[.int i64 0,.int i64 0] 62)):=by
  refine⟨((bRQ _ _).alloc (nLQ _) _).alloc (by simp) _,by simp,?_,?_,?_⟩ <;> simp
 generalize ((w.alloc (.cells #[.int i64 0,.int i64 0] 62)).alloc (.cells #[.int i64 0,.int i64 0] 62))=W1 at *
 go_loopw [11] (fun i w'=>∃k:Nat,k≤4∧i=.int i64 k∧mayTo s k=true∧PsC w (psMTo s k) (psBTo s k) w') (fun i _=>4-(intOf i).toNat)
 case atStart=>exact⟨0,by omega,rfl,rfl,hI⟩
 case round =>
  obtain⟨k,hk,rfl,hmay,hI'⟩:=hrel;have HM:Hid (mayTo s k=true):=hmay;clear hI hmay;have HI:Hid (PsC w (psMTo s k) (psBTo s k) wr):=hI';obtain⟨hB,hsz,⟨r0,r1⟩,⟨c0,c1⟩,⟨f0,f1,f2,f3⟩⟩:=hI';by_cases hlt:k<4
  ·have hks:k<s.size:=by omega
   have hb:=byteN_at s k hks;have HB:Hid (byteN s k=s[k].toNat):=hb;clear hb;by_cases h49:s[k].toNat=49
   ·have g:((s[k].toNat:Int)==49)=true:=by simp;omega
    have HN:Hid (byteN s k=49):=HB.out.trans h49;go_wp2
    go_cut [11] from 11 to 43 (fun i w'=>i=.int i64 k∧PsC w (psMTo s (k+1)) (psBTo s k) w')
    case first =>
     go_region_with (go_at_call 72;refine (bitAt_any _ _ (by omega) (by omega)).mono ?_;rintro e w' ⟨rfl,rfl⟩)
     all_goals
      go_wp2_with fail
      go_meet
      case rel=>exact⟨rfl,(HI.out.setM _ _ (psM_bit (.inl HN.out)).symm).drew⟩
    case rest =>
     obtain⟨rfl,hC⟩:=hcut;clear hB hsz r0 r1 c0 c1 f0 f1 f2 f3 HI h49 g h4;have HI:Hid (PsC w (psMTo s (k+1)) (psBTo s k) wc):=hC;obtain⟨hB,hsz,⟨r0,r1⟩,⟨c0,c1⟩,⟨f0,f1,f2,f3⟩⟩:=hC;go_wp2
     go_region_with (go_at_call 72;refine (bitAt_any _ _ (by omega) (by omega)).mono ?_;rintro e w' ⟨rfl,rfl⟩)
     all_goals
      go_wp2;go_roundw
      case rel=>exact⟨k+1,by omega,by go_num,may_next HM.out (.inl HN.out),(HI.out.setD _ _ (psB_one HN.out).symm).drew⟩
      case measure=>simp[intOf];omega
   have g:((s[k].toNat:Int)==49)=false:=by simp;omega
   by_cases h48:s[k].toNat=48
   ·have HN:Hid (byteN s k=48):=HB.out.trans h48;go_wp2
    go_region_with (go_at_call 72;refine (bitAt_any _ _ (by omega) (by omega)).mono ?_;rintro e w' ⟨rfl,rfl⟩)
    all_goals
     go_wp2;go_roundw
     case rel=>exact⟨k+1,by omega,by go_num,may_next HM.out (.inr (.inl HN.out)),by rw[psB_zero HN.out];exact (HI.out.setM _ _ (psM_bit (.inr HN.out)).symm).drew⟩
     case measure=>simp[intOf];omega
   have g2:((s[k].toNat:Int)==48)=false:=by simp;omega
   by_cases h42:s[k].toNat=42
   ·have HN:Hid (byteN s k=42):=HB.out.trans h42;go_wp2;go_roundw
    case rel=>exact⟨k+1,by omega,by go_num,may_next HM.out (.inr (.inr HN.out)),by rw[psB_any HN.out,psM_any HN.out];exact HI.out⟩
    case measure=>simp[intOf];omega
   exfalso
   have hp:=HP.out;simp only[psOk,Bool.and_eq_true] at hp;have:=mayTo_le s 4 k hlt hp.2;simp[mayB,HB.out] at this;omega
  obtain rfl:k=4:=by omega
  go_wp2;have e1:psM s=psMTo s 4:=by simp only[psM,HP.out];rfl
  have e2:psB s=psBTo s 4:=by simp only[psB,HP.out];rfl
  refine bodyPost_ret (v:=.tuple #[.agg #[.int i64 (psMTo s 4),.int i64 (psBTo s 4)],.nilIface]) (by simp[results,results114,go_sem, *]) rfl ⟨by rw[e1,e2],?_⟩;exact ((hB.setCell (by simp) _).setCell (by simp) _)
theorem ps_size {s:ByteArray}(h:psOk s=true):s.size=4:=by
 simp only[psOk,Bool.and_eq_true,beq_iff_eq] at h;exact h.1
theorem parse_no (s:ByteArray)(w:World)(hp:psOk s=false):
 Calls prog 114 #[.string s] w fun e w'=>e=.returned (.tuple #[.agg #[.int i64 0,.int i64 0],.iface 72 (.int i64 2)])∧Below w.heap.size w w':=by
 by_cases h:s.size=4
 ·exact parse_bad s w h hp
 exact parse_long s w h
theorem parse_yes (s:ByteArray)(w:World)(hp:psOk s=true):
 Calls prog 114 #[.string s] w fun e w'=>e=.returned (.tuple #[.agg #[.int i64 (psM s),.int i64 (psB s)],.nilIface])∧Below w.heap.size w w':=
 parse_ok s w (ps_size hp) hp
theorem byte_lst (s:ByteArray):s.toList=s.data.toList:=by rw[Lib.toList_data]
theorem size_lst (s:ByteArray):s.data.toList.length=s.size:=by simp
theorem is0 (s:ByteArray):(s.toList==[48])=(byteN s 0==48&&s.size==1):=by
 rw[byte_lst];have hl:=size_lst s;unfold byteN;cases h:s.data.toList with
 | nil=>rw[h] at hl;simp at hl ⊢
 | cons c r =>
   rw[h] at hl;cases r with
   | nil =>
     simp only[List.length_cons,List.length_nil] at hl;rw[←hl];have e:(c==48)=(c.toNat==48):=by
      rw[Bool.eq_iff_iff];simp only[beq_iff_eq];exact⟨fun h=>by rw[h];rfl,fun h=>UInt8.toNat_inj.1 (by rw[h];rfl)⟩
     simp[e]
   | cons d r =>
     have:s.size≠1:=by simp at hl;omega
     simp[this]
theorem dec_head (s:ByteArray)(w:World)(h:dcHd s=false):
 Calls prog 86 #[.string s] w fun e w'=>e=.returned (.tuple #[.int i64 0,.bool false])∧w'=w:=by
 by_cases h0:s.size=0
 ·have e0:s.toList.isEmpty=true:=by
   rw[byte_lst,List.isEmpty_iff,←List.length_eq_zero_iff,size_lst,h0]
  go_enter func86,ntmps86;go_wp2;refine bodyPost_ret (v:=.tuple #[.int i64 0,.bool false]) (by simp[results,results86,go_sem]) rfl ⟨rfl,rfl⟩
 have e0:s.toList.isEmpty=false:=by
  rw[byte_lst,←Bool.not_eq_true,List.isEmpty_iff,←List.length_eq_zero_iff,size_lst];exact h0
 by_cases h9:9<s.size
 ·have e9:decide ((9:Int)<(s.size:Int))=true:=by simp;omega
  go_enter func86,ntmps86;go_wp2;refine bodyPost_ret (v:=.tuple #[.int i64 0,.bool false]) (by simp[results,results86,go_sem]) rfl ⟨rfl,rfl⟩
 have e9:decide ((9:Int)<(s.size:Int))=false:=by simp;omega
 have hz:0<s.size:=by omega
 have hh:byteN s 0=48∧s.size≠1:=by
  simp[dcHd] at h;have:=h (by omega) (by omega);exact⟨this.1,this.2⟩
 have e1:((s[0].toNat:Int)==48)=true:=by
  have:=byteN_at s 0 hz;rw[hh.1] at this;simp;omega
 have e2:(s.toList==[48])=false:=by
  rw[is0];simp[hh.2]
 go_enter func86,ntmps86;go_wp2;refine bodyPost_ret (v:=.tuple #[.int i64 0,.bool false]) (by simp[results,results86,go_sem]) rfl ⟨rfl,rfl⟩
theorem dc_small {s:ByteArray}{k:Nat}(hk:k≤9)(h:dgTo s k=true):0≤dcTo s k∧dcTo s k<1000000000:=by
 have h1:=dc_bd h;refine⟨h1.1,Int.lt_of_lt_of_le h1.2 ?_⟩
 rcases (by omega:k=0∨k=1∨k=2∨k=3∨k=4∨k=5∨k=6∨k=7∨k=8∨k=9) with rfl | rfl | rfl | rfl | rfl | rfl | rfl | rfl | rfl | rfl <;> decide
theorem dec_tail (s:ByteArray)(w:World)(h:dcHd s=true):
 Calls prog 86 #[.string s] w fun e w'=>e=.returned (.tuple #[.int i64 (dcN s),.bool (dcOk s)])∧w'=w:=by
 have hh:0<s.size∧s.size≤9:=by
  simp only[dcHd,Bool.and_eq_true,decide_eq_true_eq] at h;omega
 obtain⟨hz,h9⟩:=hh;have e0:s.toList.isEmpty=false:=by
  rw[byte_lst,←Bool.not_eq_true,List.isEmpty_iff,←List.length_eq_zero_iff,size_lst];omega
 have e9:decide ((9:Int)<(s.size:Int))=false:=by simp;omega
 have HH:Hid (dcHd s=true):=h;go_enter func86,ntmps86;go_upto_region 1 with fail
 go_cut [21] from 4 (fun v w'=>v=.bool false∧w'=w)
 case first =>
  cases e1:((s[0].toNat:Int)==48)
  ·go_wp2
   go_meet
   case rel=>exact⟨rfl,rfl⟩
  have e2:(s.toList==[48])=true:=by
   rw[is0];have hb:=byteN_at s 0 hz;have h48:byteN s 0=48:=by simp at e1;omega
   simp only[dcHd,h48,Bool.and_eq_true] at h;simpa[h48] using h.2.2
  go_wp2
  go_meet
  case rel=>exact⟨rfl,rfl⟩
 obtain⟨rfl,hw⟩:=hcut
 replace hw:=hw.symm
 subst hw;clear h e0 e9;go_wp2
 go_loopw [4,24] (fun n i wr=>∃k:Nat,k≤s.size∧n=.int i64 (dcTo s k)∧i=.int i64 k∧dgTo s k=true∧wr=w) (fun _ i _=>s.size-(intOf i).toNat)
 case atStart=>exact⟨0,by omega,rfl,rfl,rfl,rfl⟩
 case round =>
  obtain⟨k,hk,rfl,rfl,hdg,hw⟩:=hrel
  replace hw:=hw.symm
  subst hw;have HD:Hid (dgTo s k=true):=hdg;obtain⟨b0,b1⟩:=dc_small (by omega) hdg;clear hdg;by_cases hlt:k<s.size
  ·have hb:=byteN_at s k hlt;have HB:Hid (byteN s k=s[k].toNat):=hb;clear hb;have hu:s[k].toNat<256:=s[k].toNat_lt;by_cases hd:digB (s[k].toNat)=true
   ·obtain⟨d0,d1⟩:=dig_of hd;have g0:decide ((s[k].toNat:Int)<48)=false:=by simp;omega
    have g1:decide ((57:Int)<(s[k].toNat:Int))=false:=by simp;omega
    have HD1:Hid (dgTo s (k+1)=true):=by
     show dgTo s (k+1)=true;simp[dgTo,HD.out,HB.out,hd]
    have HC:Hid (dcTo s (k+1)=10*dcTo s k+((s[k].toNat:Int)-48)):=by
     show dcTo s (k+1)=_;simp[dcTo,HB.out]
    generalize dcTo s k=q at *
    go_wp2;go_roundw
    case rel=>exact⟨k+1,by omega,by rw[HC.out];try rfl,by go_num,HD1.out,trivial⟩
    case measure=>simp[intOf];omega
   have hx:dcOk s=false:=by
    cases e:dcOk s
    ·rfl
    exfalso
    simp only[dcOk,Bool.and_eq_true] at e;have:=dg_le hlt e.2;rw[HB.out] at this;exact hd this
   have hy:dcN s=0:=by simp[dcN,hx]
   have HX:Hid (dcOk s=false):=hx;have HY:Hid (dcN s=0):=hy;have hd2:s[k].toNat<48∨57<s[k].toNat:=by
    simp[digB] at hd;omega
   clear hx hy hd
   rcases hd2 with hd2 | hd2
   ·have g0:decide ((s[k].toNat:Int)<48)=true:=by simp;omega
    go_wp2;refine bodyPost_ret (v:=.tuple #[.int i64 0,.bool false]) (by simp[results,results86,go_sem]) rfl ⟨by rw[HX.out,HY.out],rfl⟩
   have g0:decide ((s[k].toNat:Int)<48)=false:=by simp;omega
   have g1:decide ((57:Int)<(s[k].toNat:Int))=true:=by simp;omega
   go_wp2;refine bodyPost_ret (v:=.tuple #[.int i64 0,.bool false]) (by simp[results,results86,go_sem]) rfl ⟨by rw[HX.out,HY.out],rfl⟩
  obtain rfl:k=s.size:=by omega
  have hx:dcOk s=true:=by simp[dcOk,HH.out,HD.out]
  have hy:dcN s=dcTo s s.size:=by simp[dcN,hx]
  have HX:Hid (dcOk s=true):=hx;have HY:Hid (dcN s=dcTo s s.size):=hy;clear hx hy;go_wp2;refine bodyPost_ret (v:=.tuple #[.int i64 (dcTo s s.size),.bool true]) (by simp[results,results86,go_sem]) rfl ⟨by rw[HX.out,HY.out],rfl⟩
theorem dec_any (s:ByteArray)(w:World):
 Calls prog 86 #[.string s] w fun e w'=>e=.returned (.tuple #[.int i64 (dcN s),.bool (dcOk s)])∧w'=w:=by
 cases h:dcHd s
 ·have hx:dcOk s=false:=by simp[dcOk,h]
  have hy:dcN s=0:=by simp[dcN,hx]
  rw[hx,hy];exact dec_head s w h
 exact dec_tail s w h
theorem cut_less:∀(k:Nat) (s:ByteArray),s.size≤k→cutB (k+1) s=cutB k s
 | 0,s,h=>by
   rcases bl_cases s with e | ⟨i,_,e⟩
   ·rw[cut_miss _ e,cut_miss _ e]
   omega
 | k+1,s,h=>by
   rcases bl_cases s with e | ⟨i,e,hi⟩
   ·rw[cut_miss _ e,cut_miss _ e]
   rw[cut_hit _ e,cut_hit _ e,cut_less k _ (by rw[ByteArray.size_extract];omega)]
theorem cut_all (s:ByteArray):∀(j k:Nat),s.size≤k→cutB (k+j) s=cutB k s
 | 0,_,_=>rfl
 | j+1,k,h=>by rw[←Nat.add_assoc,cut_less _ _ (by omega),cut_all s j k h]
theorem cut_six (s:ByteArray){N:Nat}(hN:(N:Int)=min 7 ((s.size:Int)+1)):cutB (N-1) s=cutB 6 s:=by
 by_cases h:s.size≤6
 ·obtain rfl:N=s.size+1:=by omega
  have:=cut_all s (6-s.size) s.size (nLQ _);rw[show s.size+(6-s.size)=6 by omega] at this;exact this.symm
 obtain rfl:N=7:=by omega
 rfl
def WAt (w:World)(b o:Nat)(ws:List ByteArray):Prop:=∀i (h:i<ws.length),w.cell? ⟨b,o+i,none⟩=some (.string ws[i])
theorem WAt.later {w w':World}{b o:Nat}{ws:List ByteArray}(h:WAt w b o ws)(hb:Below w.heap.size w w'):WAt w' b o ws:=
 fun i hi=>(hb.cell (bLQ _ _ (h i hi))).trans (h i hi)
theorem WAt.tail {w:World}{b o:Nat}{a:ByteArray}{ws:List ByteArray}(h:WAt w b o (a :: ws)):WAt w b (o+1) ws:=by
 intro i hi;have:=h (i+1) (by simp;omega);rw[show o+(i+1)=o+1+i by omega] at this;simpa using this
theorem WAt.head {w:World}{b o:Nat}{a:ByteArray}{ws:List ByteArray}(h:WAt w b o (a :: ws)):w.cell? ⟨b,o,none⟩=some (.string a):=by
 have:=h 0 (by simp);simpa using this
theorem splitN_any (s:ByteArray)(w:World)(hs:s.size<4611686018427387904):
 Calls prog 113 #[.string s,.string ⟨#[32]⟩,.int i64 7] w fun e w' =>
  ∃cap,e=.returned (.slice (some ⟨w.heap.size,0,none⟩) (cutB 6 s).length cap)∧(cutB 6 s).length≤cap∧cap≤7∧WAt w' w.heap.size 0 (cutB 6 s)∧Below w.heap.size w w':=by
 obtain⟨N,hN⟩:∃N:Nat,(N:Int)=min 7 ((s.size:Int)+1):=⟨(min 7 ((s.size:Int)+1)).toNat,by omega⟩;have hc:=cut_six s hN;have hl:=cut_len (N-1) s;rw[hc] at hl;go_enter func113,ntmps113
 go_wp2_with fail
 refine (genSplit_any s N _ hs hN).mono ?_;rintro e w1 ⟨rfl,rfl⟩;rw[hc];have hW:WAt (w.alloc (.cells (Lib.cellsOf (cutB 6 s) N) 9)) w.heap.size 0 (cutB 6 s):=by
  intro i hi;simp only[World.cell?_alloc_new,Nat.zero_add,Lib.cellsOf];rw[List.getElem?_toArray,List.getElem?_append_left (by simpa using hi)];simp[hi]
 clear hc;go_wp2;go_ret;exact⟨N,rfl,by omega,by omega,hW,(bRQ _ _).alloc (nLQ _) _⟩
def deOk:List ByteArray→Bool
 | [a]=>a.toList==[100,114,111,112]
 | [a,b]=>(a.toList==[111,117,116])&&(dcOk b && !(dcN b==0))
 | [a,b,c,d]=>(a.toList==[111,117,116])&&((dcOk b && !(dcN b==0))&&((c.toList==[115,101,116])&&(psOk d && !(psM d==0))))
 | _=>false
def deO:List ByteArray→Int
 | _ :: b :: _=>dcN b
 | _=>0
def deM:List ByteArray→Int
 | [_,_,_,d]=>psM d
 | _=>0
def deB:List ByteArray→Int
 | [_,_,_,d]=>psB d
 | _=>0
def DeP (ws:List ByteArray)(w:World)(e:Ending)(w':World):Prop:=
 (∃x m b:Int,e=.returned (.tuple #[.int i64 x,.agg #[.int i64 m,.int i64 b],.bool (deOk ws)])∧(deOk ws=true→x=deO ws∧m=deM ws∧b=deB ws))∧Below w.heap.size w w'
theorem deed_1 (a:ByteArray)(b o cap:Nat)(w:World)(h:WAt w b o [a]):
 Calls prog 115 #[.slice (some ⟨b,o,none⟩) 1 cap] w (DeP [a] w):=by
 have c0:=h.head;have hlt:b<w.heap.size:=bLQ _ _ c0;have e1:deOk [a]=(a.toList==[100,114,111,112]):=rfl;clear h;go_enter func115,ntmps115;go_wp2
 go_region
 all_goals
  go_wp2;refine bodyPost_ret (v:=.tuple #[.int i64 0,.agg #[.int i64 0,.int i64 0],.bool (a.toList==[100,114,111,112])]) (by simp[results,results115,go_sem]) rfl ⟨⟨0,0,0,by rw[e1],fun _=>⟨rfl,rfl,rfl⟩⟩,?_⟩
  repeat (first | exact (bRQ _ _).alloc (nLQ _) _ | apply Below.drew)
theorem below_new {w w1:World}(o:Obj)(hb:Below (w.alloc o).heap.size (w.alloc o) w1):Below w.heap.size w w1:=
 ((bRQ _ _).alloc (nLQ _) _).trans (hb.mono (by simp))
theorem de_no {a b:ByteArray}{r:List ByteArray}(h:(a.toList==[111,117,116])=false∨dcOk b=false∨(dcN b==0)=true):deOk (a :: b :: r)=false:=by
 match r with
 | []=>rcases h with h | h | h <;> simp[deOk,h]
 | [c]=>rfl
 | [c,d]=>rcases h with h | h | h <;> simp[deOk,h]
 | c :: d :: x :: y=>rfl
theorem deed_out (a b:ByteArray)(r:List ByteArray)(n g o cap:Nat)(w:World)(h:WAt w g o (a :: b :: r))(hn:r.length=n)
 (h1:(a.toList==[111,117,116])=false):
 Calls prog 115 #[.slice (some ⟨g,o,none⟩) (n+2) cap] w (DeP (a :: b :: r) w):=by
 have c0:=h.head;have hlt:g<w.heap.size:=bLQ _ _ c0;have HD:Hid (deOk (a :: b :: r)=false):=de_no (.inl h1);have en:(((n:Int)+2)==1)=false:=by simp;omega
 clear h hn;go_enter func115,ntmps115;go_wp2;refine bodyPost_ret (v:=.tuple #[.int i64 0,.agg #[.int i64 0,.int i64 0],.bool false]) (by simp[results,results115,go_sem]) rfl ⟨⟨0,0,0,by rw[HD.out],fun h=>by rw[HD.out] at h;cases h⟩,?_⟩;exact (bRQ _ _).alloc (nLQ _) _
theorem deed_num (a b:ByteArray)(r:List ByteArray)(n g o cap:Nat)(w:World)(h:WAt w g o (a :: b :: r))(hn:r.length=n)
 (h1:(a.toList==[111,117,116])=true) (h2:dcOk b=false∨dcOk b=true∧(dcN b==0)=true):
 Calls prog 115 #[.slice (some ⟨g,o,none⟩) (n+2) cap] w (DeP (a :: b :: r) w):=by
 have c0:=h.head;have c1:=h.tail.head;have hlt:g<w.heap.size:=bLQ _ _ c0;have HD:Hid (deOk (a :: b :: r)=false):=de_no (.inr (by rcases h2 with h2 | h2;exact .inl h2;exact .inr h2.2));have en:(((n:Int)+2)==1)=false:=by simp;omega
 clear h hn
 rcases h2 with h2 | ⟨h2,h3⟩
 ·go_enter func115,ntmps115
  go_wp2_with fail
  refine (dec_any _ _).mono ?_;rintro e w1 ⟨rfl,rfl⟩;rw[h2];go_wp2;refine bodyPost_ret (v:=.tuple #[.int i64 0,.agg #[.int i64 0,.int i64 0],.bool false]) (by simp[results,results115,go_sem]) rfl ⟨⟨0,0,0,by rw[HD.out],fun h=>by rw[HD.out] at h;cases h⟩,?_⟩;exact (bRQ _ _).alloc (nLQ _) _
 go_enter func115,ntmps115
 go_wp2_with fail
 refine (dec_any _ _).mono ?_;rintro e w1 ⟨rfl,rfl⟩;rw[h2];go_wp2;refine bodyPost_ret (v:=.tuple #[.int i64 0,.agg #[.int i64 0,.int i64 0],.bool false]) (by simp[results,results115,go_sem]) rfl ⟨⟨0,0,0,by rw[HD.out],fun h=>by rw[HD.out] at h;cases h⟩,?_⟩;exact (bRQ _ _).alloc (nLQ _) _
theorem deed_2 (a b:ByteArray)(g o cap:Nat)(w:World)(h:WAt w g o [a,b])
 (h1:(a.toList==[111,117,116])=true) (h2:dcOk b=true) (h3:(dcN b==0)=false):
 Calls prog 115 #[.slice (some ⟨g,o,none⟩) 2 cap] w (DeP [a,b] w):=by
 have c0:=h.head;have c1:=h.tail.head;have hlt:g<w.heap.size:=bLQ _ _ c0;have HD:Hid (deOk [a,b]=true):=by show deOk [a,b]=true;simp[deOk,h1,h2,h3]
 clear h;go_enter func115,ntmps115
 go_wp2_with fail
 refine (dec_any _ _).mono ?_;rintro e w1 ⟨rfl,rfl⟩;rw[h2];go_wp2;refine bodyPost_ret (v:=.tuple #[.int i64 (dcN b),.agg #[.int i64 0,.int i64 0],.bool true]) (by simp[results,results115,go_sem]) rfl ⟨⟨dcN b,0,0,by rw[HD.out],fun _=>⟨rfl,rfl,rfl⟩⟩,?_⟩;exact (bRQ _ _).alloc (nLQ _) _
theorem deed_long (a b:ByteArray)(r:List ByteArray)(n g o cap:Nat)(w:World)(h:WAt w g o (a :: b :: r))(hn:r.length=n)
 (h1:(a.toList==[111,117,116])=true) (h2:dcOk b=true) (h3:(dcN b==0)=false) (h4:n≠0∧n≠2):
 Calls prog 115 #[.slice (some ⟨g,o,none⟩) (n+2) cap] w (DeP (a :: b :: r) w):=by
 have c0:=h.head;have c1:=h.tail.head;have hlt:g<w.heap.size:=bLQ _ _ c0;have HD:Hid (deOk (a :: b :: r)=false):=by
  show deOk (a :: b :: r)=false
  match r,hn with
  | [],hn=>simp at hn;omega
  | [c],_=>rfl
  | [c,d],hn=>simp at hn;omega
  | c :: d :: x :: y,_=>rfl
 have en:(((n:Int)+2)==1)=false:=by simp;omega
 have en2:(((n:Int)+2)==2)=false:=by simp;omega
 have en4:(((n:Int)+2)==4)=false:=by simp;omega
 have en5:(((n:Int)+2) != 4)=true:=by simp;omega
 clear h hn h4;go_enter func115,ntmps115
 go_wp2_with fail
 refine (dec_any _ _).mono ?_;rintro e w1 ⟨rfl,rfl⟩;rw[h2];go_wp2;refine bodyPost_ret (v:=.tuple #[.int i64 0,.agg #[.int i64 0,.int i64 0],.bool false]) (by simp[results,results115,go_sem]) rfl ⟨⟨0,0,0,by rw[HD.out],fun h=>by rw[HD.out] at h;cases h⟩,?_⟩;exact (bRQ _ _).alloc (nLQ _) _
theorem deed_4 (a b c d:ByteArray)(g o cap:Nat)(w:World)(h:WAt w g o [a,b,c,d])
 (h1:(a.toList==[111,117,116])=true) (h2:dcOk b=true) (h3:(dcN b==0)=false):
 Calls prog 115 #[.slice (some ⟨g,o,none⟩) 4 cap] w (DeP [a,b,c,d] w):=by
 have c0:=h.head;have c1:=h.tail.head;have c2:=h.tail.tail.head;have c3:=h.tail.tail.tail.head;have hlt:g<w.heap.size:=bLQ _ _ c0;clear h;cases h4:(c.toList==[115,101,116])
 ·have HD:Hid (deOk [a,b,c,d]=false):=by show deOk [a,b,c,d]=false;simp[deOk,h4]
  go_enter func115,ntmps115
  go_wp2_with fail
  refine (dec_any _ _).mono ?_;rintro e w1 ⟨rfl,rfl⟩;rw[h2];go_wp2;refine bodyPost_ret (v:=.tuple #[.int i64 0,.agg #[.int i64 0,.int i64 0],.bool false]) (by simp[results,results115,go_sem]) rfl ⟨⟨0,0,0,by rw[HD.out],fun h=>by rw[HD.out] at h;cases h⟩,?_⟩;exact (bRQ _ _).alloc (nLQ _) _
 cases h5:psOk d
 ·have HD:Hid (deOk [a,b,c,d]=false):=by show deOk [a,b,c,d]=false;simp[deOk,h5]
  go_enter func115,ntmps115
  go_wp2_with fail
  refine (dec_any _ _).mono ?_;rintro e w1 ⟨rfl,rfl⟩;rw[h2]
  go_wp2_with fail
  refine (parse_no _ _ h5).mono ?_;rintro e w1 ⟨rfl,hb1⟩;obtain⟨hc1,hf1⟩:=bcell hb1;have hlt2:w.heap.size<(w.alloc (.cells #[.int i64 0,.int i64 0] 62)).heap.size:=by simp
  have hlt3:w.heap.size<w1.heap.size:=Nat.lt_of_lt_of_le hlt2 hb1.size;have hB:=below_new _ hb1;clear hb1;go_wp2
  go_region
  all_goals
   go_wp2;refine bodyPost_ret (v:=.tuple #[.int i64 (dcN b),.agg #[.int i64 0,.int i64 0],.bool false]) (by simp[results,results115,go_sem, *]) rfl ⟨⟨dcN b,0,0,by rw[HD.out],fun h=>by rw[HD.out] at h;cases h⟩,?_⟩
   repeat (first | exact hB | apply Below.drew | refine Below.alloc ?_ (by simp <;> omega) _ | refine Below.setCell ?_ (by simp) _)
 cases h6:(psM d==0)
 ·have HD:Hid (deOk [a,b,c,d]=true):=by show deOk [a,b,c,d]=true;simp[deOk,h1,h2,h3,h4,h5,h6]
  have h7:(psM d != 0)=true:=by simpa using h6
  go_enter func115,ntmps115
  go_wp2_with fail
  refine (dec_any _ _).mono ?_;rintro e w1 ⟨rfl,rfl⟩;rw[h2]
  go_wp2_with fail
  refine (parse_yes _ _ h5).mono ?_;rintro e w1 ⟨rfl,hb1⟩;obtain⟨hc1,hf1⟩:=bcell hb1;have hlt2:w.heap.size<(w.alloc (.cells #[.int i64 0,.int i64 0] 62)).heap.size:=by simp
  have hlt3:w.heap.size<w1.heap.size:=Nat.lt_of_lt_of_le hlt2 hb1.size;have hB:=below_new _ hb1;clear hb1;go_wp2
  go_region
  all_goals
   go_wp2;refine bodyPost_ret (v:=.tuple #[.int i64 (dcN b),.agg #[.int i64 (psM d),.int i64 (psB d)],.bool true]) (by simp[results,results115,go_sem, *]) rfl ⟨⟨dcN b,psM d,psB d,by rw[HD.out],fun _=>⟨rfl,rfl,rfl⟩⟩,?_⟩
   repeat (first | exact hB | apply Below.drew | refine Below.alloc ?_ (by simp <;> omega) _ | refine Below.setCell ?_ (by simp) _)
 have HD:Hid (deOk [a,b,c,d]=false):=by show deOk [a,b,c,d]=false;simp[deOk,h6]
 have h7:(psM d != 0)=false:=by simpa using h6
 go_enter func115,ntmps115
 go_wp2_with fail
 refine (dec_any _ _).mono ?_;rintro e w1 ⟨rfl,rfl⟩;rw[h2]
 go_wp2_with fail
 refine (parse_yes _ _ h5).mono ?_;rintro e w1 ⟨rfl,hb1⟩;obtain⟨hc1,hf1⟩:=bcell hb1;have hlt2:w.heap.size<(w.alloc (.cells #[.int i64 0,.int i64 0] 62)).heap.size:=by simp
 have hlt3:w.heap.size<w1.heap.size:=Nat.lt_of_lt_of_le hlt2 hb1.size;have hB:=below_new _ hb1;clear hb1;go_wp2
 go_region
 all_goals
  go_wp2;refine bodyPost_ret (v:=.tuple #[.int i64 (dcN b),.agg #[.int i64 (psM d),.int i64 (psB d)],.bool false]) (by simp[results,results115,go_sem, *]) rfl ⟨⟨dcN b,psM d,psB d,by rw[HD.out],fun h=>by rw[HD.out] at h;cases h⟩,?_⟩
  repeat (first | exact hB | apply Below.drew | refine Below.alloc ?_ (by simp <;> omega) _ | refine Below.setCell ?_ (by simp) _)
theorem deed_any (ws:List ByteArray)(n g o cap:Nat)(w:World)(h:WAt w g o ws)(hn:ws.length=n)(h1:1≤n):
 Calls prog 115 #[.slice (some ⟨g,o,none⟩) n cap] w (DeP ws w):=by
 match ws,hn with
 | [],hn=>simp at hn;omega
 | [a],hn =>
   obtain rfl:n=1:=by simpa using hn.symm
   exact deed_1 a g o cap w h
 | a :: b :: r,hn =>
   obtain rfl:n=r.length+2:=by simpa using hn.symm
   cases e1:(a.toList==[111,117,116])
   ·exact deed_out a b r _ g o cap w h rfl e1
   cases e2:dcOk b
   ·exact deed_num a b r _ g o cap w h rfl e1 (.inl e2)
   cases e3:(dcN b==0)
   ·match r with
    | []=>exact deed_2 a b g o cap w h e1 e2 e3
    | [c]=>exact deed_long a b [c] _ g o cap w h rfl e1 e2 e3 ⟨by simp,by simp⟩
    | [c,d]=>exact deed_4 a b c d g o cap w h e1 e2 e3
    | c :: d :: x :: y=>exact deed_long a b _ _ g o cap w h rfl e1 e2 e3 ⟨by simp,by simp⟩
   exact deed_num a b r _ g o cap w h rfl e1 (.inr ⟨e2,e3⟩)
end
end Go.Proofs.YtgddlpcacnolfaaGreatDoor
