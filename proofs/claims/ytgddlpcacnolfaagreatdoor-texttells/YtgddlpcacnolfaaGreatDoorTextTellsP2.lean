/- Contracts and facts on the way to TextTells, joined into one text: RuleParse, CubeFacts, RuleBackMath2, RulePaCut, RuleTabMath, MapGen, TopoMath, But, Gen, TopoMath2, NetMath, WishMath, WishText, TextMath, TableMath. -/
import Derived.Test.YtgddlpcacnolfaaGreatDoorTextTellsP1
namespace Go.Proofs.YtgddlpcacnolfaaGreatDoor
set_option linter.unusedSimpArgs false
set_option linter.unusedVariables false
set_option maxHeartbeats 16000000
set_option maxRecDepth 100000
open Go.Proofs.Tryz
open IntKind (i64)
section
open Go.RowKit
def rdW:List ByteArray→Bool
 | a :: b :: c :: r=>dcOk a&&(psOk b&&deOk (c :: r))
 | _=>false
def rP (ws:List ByteArray):Int:=dcN (ws.getD 0 ByteArray.empty)
def rM (ws:List ByteArray):Int:=psM (ws.getD 1 ByteArray.empty)
def rB (ws:List ByteArray):Int:=psB (ws.getD 1 ByteArray.empty)
def rO (ws:List ByteArray):Int:=deO (ws.drop 2)
def rS (ws:List ByteArray):Int:=deM (ws.drop 2)
def rV (ws:List ByteArray):Int:=deB (ws.drop 2)
def paN (ws:List ByteArray):Int:=if rdW ws then ruN (rP ws) (rM ws) (rB ws) (rO ws) (rS ws) (rV ws) else 2
theorem paN_no {ws:List ByteArray}(h:rdW ws=false):paN ws=2:=by simp[paN,h]
theorem paN_yes {ws:List ByteArray}(h:rdW ws=true):paN ws=ruN (rP ws) (rM ws) (rB ws) (rO ws) (rS ws) (rV ws):=by simp[paN,h]
def paV (ws:List ByteArray):Value:=
 if paN ws=0 then .agg #[.int i64 (rP ws),.int i64 (rM ws),.int i64 (rB ws),.int i64 (rO ws),.int i64 (rS ws),.int i64 (rV ws)] else .agg #[.int i64 0,.int i64 0,.int i64 0,.int i64 0,.int i64 0,.int i64 0]
theorem paV_no {ws:List ByteArray}(h:paN ws≠0):paV ws=.agg #[.int i64 0,.int i64 0,.int i64 0,.int i64 0,.int i64 0,.int i64 0]:=by simp[paV,h]
theorem paV_yes {ws:List ByteArray}(h:paN ws=0):paV ws=.agg #[.int i64 (rP ws),.int i64 (rM ws),.int i64 (rB ws),.int i64 (rO ws),.int i64 (rS ws),.int i64 (rV ws)]:=by simp[paV,h]
structure PaK (w:World)(B:Nat)(ws:List ByteArray)(w':World):Prop where
 below:Below w.heap.size w w'
 lt:w.heap.size<w'.heap.size
 gt:w.heap.size<B
 ltB:B<w'.heap.size
 c:∀k,k<6→w'.cell? ⟨w.heap.size,k,none⟩=some (.int i64 0)
 f:∀k,w'.frozen? ⟨w.heap.size,k,none⟩=false
 words:WAt w' B 0 ws
theorem PaK.later {w w1 w2:World}{B:Nat}{ws:List ByteArray}(h:PaK w B ws w1)(hb:Below w1.heap.size w1 w2):PaK w B ws w2:=
 ⟨h.below.trans (hb.mono h.below.size),Nat.lt_of_lt_of_le h.lt hb.size,h.gt,Nat.lt_of_lt_of_le h.ltB hb.size,fun k hk=>cell_later hb (h.c k hk),fun k=>(hb.frozen (p:=⟨w.heap.size,k,none⟩) h.lt).trans (h.f k),h.words.later hb⟩
theorem PaK.alloc {w w1:World}{B:Nat}{ws:List ByteArray}(h:PaK w B ws w1)(o:Obj):PaK w B ws (w1.alloc o):=h.later ((bRQ _ _).alloc (nLQ _) o)
theorem PaK.start (s:ByteArray)(w w1:World){o:Obj}(ho:o=Obj.cells #[.int i64 0,.int i64 0,.int i64 0,.int i64 0,.int i64 0,.int i64 0] 64)
 (hb:Below (w.alloc o).heap.size (w.alloc o) w1) (hlt:(w.alloc o).heap.size<w1.heap.size) (hW:WAt w1 (w.alloc o).heap.size 0 (cutB 6 s)):PaK w (w.heap.size+1) (cutB 6 s) w1:=by
 have hs:(w.alloc o).heap.size=w.heap.size+1:=by simp
 subst ho;refine⟨below_new _ hb,by omega,by omega,by omega,fun k hk=>?_,fun k=>?_,by rw[hs] at hW;exact hW⟩
 ·rw[hb.cell (p:=⟨w.heap.size,k,none⟩) (by simp)]
  rcases (by omega:k=0∨k=1∨k=2∨k=3∨k=4∨k=5) with rfl | rfl | rfl | rfl | rfl | rfl <;> simp
 rw[hb.frozen (p:=⟨w.heap.size,k,none⟩) (by simp)];simp
theorem six {B b:Nat}{w w1:World}(h:Below B w w1)(hb:B≤b)(v0 v1 v2 v3 v4 v5:Value):
 Below B w ((((((w1.setCell ⟨b,0,none⟩ v0).setCell ⟨b,1,none⟩ v1).setCell ⟨b,2,none⟩ v2).setCell ⟨b,3,none⟩ v3).setCell ⟨b,4,none⟩ v4).setCell ⟨b,5,none⟩ v5):=
 (((((h.setCell (by simpa using hb) _).setCell (by simpa using hb) _).setCell (by simpa using hb) _).setCell (by simpa using hb) _).setCell (by simpa using hb) _).setCell (by simpa using hb) _
theorem ruParse_short (s:ByteArray)(w:World)(hs:s.size<4611686018427387904)(ws:List ByteArray)(n:Nat)(hws:cutB 6 s=ws)(hn:ws.length=n)(h1:1≤n)(h2:n<3):
 Calls prog 90 #[.string s] w fun e w'=>e=.returned (.tuple #[.agg #[.int i64 0,.int i64 0,.int i64 0,.int i64 0,.int i64 0,.int i64 0],.iface 72 (.int i64 2)])∧Below w.heap.size w w':=by
 go_enter func90,ntmps90
 go_wp2_with fail
 refine (splitN_any s _ hs).mono ?_;rintro e w1 ⟨cap,rfl,hcap,hcap7,hW,hb1⟩;have hlt1:(w.alloc (.cells #[.int i64 0,.int i64 0,.int i64 0,.int i64 0,.int i64 0,.int i64 0] 64)).heap.size<w1.heap.size:=
  bLQ _ _ (hW 0 (by rw[hws,hn];omega))
 have hK:=PaK.start s w w1 rfl hb1 hlt1 hW;rw[hws] at hcap hK ⊢;rw[hn] at hcap ⊢;have ek:(w.alloc (.cells #[.int i64 0,.int i64 0,.int i64 0,.int i64 0,.int i64 0,.int i64 0] 64)).heap.size=w.heap.size+1:=by simp
 rw[ek];clear hW hb1 hlt1 ek;have HK:Hid (PaK w (w.heap.size+1) ws w1):=hK;have lt1:=hK.lt;have q0:=hK.c 0 (by omega);have q1:=hK.c 1 (by omega);have q2:=hK.c 2 (by omega);have q3:=hK.c 3 (by omega);have q4:=hK.c 4 (by omega);have q5:=hK.c 5 (by omega);have qf:=hK.f;have e3:decide ((n:Int)<3)=true:=by simp;omega
 clear hK hws hn;go_wp2;refine bodyPost_ret (v:=.tuple #[.agg #[.int i64 0,.int i64 0,.int i64 0,.int i64 0,.int i64 0,.int i64 0],.iface 72 (.int i64 2)]) (by simp[results,results90,go_sem, *]) rfl ⟨rfl,?_⟩;exact six HK.out.below (nLQ _) _ _ _ _ _ _
theorem ruParse_num (s:ByteArray)(w:World)(hs:s.size<4611686018427387904)(a b c:ByteArray)(r:List ByteArray)(n:Nat)(hws:cutB 6 s=a :: b :: c :: r)(hn:r.length=n)(h1:dcOk a=false):
 Calls prog 90 #[.string s] w fun e w'=>e=.returned (.tuple #[.agg #[.int i64 0,.int i64 0,.int i64 0,.int i64 0,.int i64 0,.int i64 0],.iface 72 (.int i64 2)])∧Below w.heap.size w w':=by
 go_enter func90,ntmps90
 go_wp2_with fail
 refine (splitN_any s _ hs).mono ?_;rintro e w1 ⟨cap,rfl,hcap,hcap7,hW,hb1⟩;have hlt1:(w.alloc (.cells #[.int i64 0,.int i64 0,.int i64 0,.int i64 0,.int i64 0,.int i64 0] 64)).heap.size<w1.heap.size:=
  bLQ _ _ (hW 0 (by rw[hws];simp))
 have hK:=PaK.start s w w1 rfl hb1 hlt1 hW;rw[hws] at hcap hK ⊢;have ek:(w.alloc (.cells #[.int i64 0,.int i64 0,.int i64 0,.int i64 0,.int i64 0,.int i64 0] 64)).heap.size=w.heap.size+1:=by simp
 rw[ek];clear hW hb1 hlt1 ek;have hln:(a :: b :: c :: r).length=n+3:=by simp[hn]
 rw[hln] at hcap ⊢;have HK:Hid (PaK w (w.heap.size+1) (a :: b :: c :: r) w1):=hK;have lt1:=hK.lt;have q0:=hK.c 0 (by omega);have q1:=hK.c 1 (by omega);have q2:=hK.c 2 (by omega);have q3:=hK.c 3 (by omega);have q4:=hK.c 4 (by omega);have q5:=hK.c 5 (by omega);have qf:=hK.f;have k0:=hK.words.head;have k1:=hK.words.tail.head;have ltB:=hK.ltB;clear hws hln;have e3:decide ((n:Int)+3<3)=false:=by simp;omega
 clear hK
 go_wp2_with fail
 refine (dec_any _ _).mono ?_;rintro e w' ⟨rfl,rfl⟩;rw[h1];go_wp2;refine bodyPost_ret (v:=.tuple #[.agg #[.int i64 0,.int i64 0,.int i64 0,.int i64 0,.int i64 0,.int i64 0],.iface 72 (.int i64 2)]) (by simp[results,results90,go_sem, *]) rfl ⟨rfl,?_⟩;exact six HK.out.below (nLQ _) _ _ _ _ _ _
theorem ruParse_cube (s:ByteArray)(w:World)(hs:s.size<4611686018427387904)(a b c:ByteArray)(r:List ByteArray)(n:Nat)(hws:cutB 6 s=a :: b :: c :: r)(hn:r.length=n)(h1:dcOk a=true)(h2:psOk b=false):
 Calls prog 90 #[.string s] w fun e w'=>e=.returned (.tuple #[.agg #[.int i64 0,.int i64 0,.int i64 0,.int i64 0,.int i64 0,.int i64 0],.iface 72 (.int i64 2)])∧Below w.heap.size w w':=by
 go_enter func90,ntmps90
 go_wp2_with fail
 refine (splitN_any s _ hs).mono ?_;rintro e w1 ⟨cap,rfl,hcap,hcap7,hW,hb1⟩;have hlt1:(w.alloc (.cells #[.int i64 0,.int i64 0,.int i64 0,.int i64 0,.int i64 0,.int i64 0] 64)).heap.size<w1.heap.size:=
  bLQ _ _ (hW 0 (by rw[hws];simp))
 have hK:=PaK.start s w w1 rfl hb1 hlt1 hW;rw[hws] at hcap hK ⊢;have ek:(w.alloc (.cells #[.int i64 0,.int i64 0,.int i64 0,.int i64 0,.int i64 0,.int i64 0] 64)).heap.size=w.heap.size+1:=by simp
 rw[ek];clear hW hb1 hlt1 ek;have hln:(a :: b :: c :: r).length=n+3:=by simp[hn]
 rw[hln] at hcap ⊢;have HK:Hid (PaK w (w.heap.size+1) (a :: b :: c :: r) w1):=hK;have lt1:=hK.lt;have q0:=hK.c 0 (by omega);have q1:=hK.c 1 (by omega);have q2:=hK.c 2 (by omega);have q3:=hK.c 3 (by omega);have q4:=hK.c 4 (by omega);have q5:=hK.c 5 (by omega);have qf:=hK.f;have k0:=hK.words.head;have k1:=hK.words.tail.head;have ltB:=hK.ltB;clear hws hln;have e3:decide ((n:Int)+3<3)=false:=by simp;omega
 clear hK
 go_wp2_with fail
 refine (dec_any _ _).mono ?_;rintro e w' ⟨rfl,rfl⟩;rw[h1]
 go_wp2_with fail
 refine (parse_no _ _ h2).mono ?_;rintro e w2 ⟨rfl,hb2⟩;have HK2:Hid (PaK w (w.heap.size+1) (a :: b :: c :: r) w2):=HK.out.later hb2;clear hb2;clear q0 q1 q2 q3 q4 q5 qf;have lt2:=HK2.out.lt;have q0:=HK2.out.c 0 (by omega);have q1:=HK2.out.c 1 (by omega);have q2:=HK2.out.c 2 (by omega);have q3:=HK2.out.c 3 (by omega);have q4:=HK2.out.c 4 (by omega);have q5:=HK2.out.c 5 (by omega);have qf:=HK2.out.f;go_wp2;refine bodyPost_ret (v:=.tuple #[.agg #[.int i64 0,.int i64 0,.int i64 0,.int i64 0,.int i64 0,.int i64 0],.iface 72 (.int i64 2)]) (by simp[results,results90,go_sem, *]) rfl ⟨rfl,?_⟩;exact Below.alloc (six HK2.out.below (nLQ _) _ _ _ _ _ _) (by simp <;> omega) _
theorem ruParse_deed (s:ByteArray)(w:World)(hs:s.size<4611686018427387904)(a b c:ByteArray)(r:List ByteArray)(n:Nat)(hws:cutB 6 s=a :: b :: c :: r)(hn:r.length=n)(h1:dcOk a=true)(h2:psOk b=true)(h3:deOk (c :: r)=false):
 Calls prog 90 #[.string s] w fun e w'=>e=.returned (.tuple #[.agg #[.int i64 0,.int i64 0,.int i64 0,.int i64 0,.int i64 0,.int i64 0],.iface 72 (.int i64 2)])∧Below w.heap.size w w':=by
 go_enter func90,ntmps90
 go_wp2_with fail
 refine (splitN_any s _ hs).mono ?_;rintro e w1 ⟨cap,rfl,hcap,hcap7,hW,hb1⟩;have hlt1:(w.alloc (.cells #[.int i64 0,.int i64 0,.int i64 0,.int i64 0,.int i64 0,.int i64 0] 64)).heap.size<w1.heap.size:=
  bLQ _ _ (hW 0 (by rw[hws];simp))
 have hK:=PaK.start s w w1 rfl hb1 hlt1 hW;rw[hws] at hcap hK ⊢;have ek:(w.alloc (.cells #[.int i64 0,.int i64 0,.int i64 0,.int i64 0,.int i64 0,.int i64 0] 64)).heap.size=w.heap.size+1:=by simp
 rw[ek];clear hW hb1 hlt1 ek;have hln:(a :: b :: c :: r).length=n+3:=by simp[hn]
 rw[hln] at hcap ⊢;have HK:Hid (PaK w (w.heap.size+1) (a :: b :: c :: r) w1):=hK;have lt1:=hK.lt;have q0:=hK.c 0 (by omega);have q1:=hK.c 1 (by omega);have q2:=hK.c 2 (by omega);have q3:=hK.c 3 (by omega);have q4:=hK.c 4 (by omega);have q5:=hK.c 5 (by omega);have qf:=hK.f;have k0:=hK.words.head;have k1:=hK.words.tail.head;have ltB:=hK.ltB;clear hws hln;have e3:decide ((n:Int)+3<3)=false:=by simp;omega
 have hdW:WAt w1 (w.heap.size+1) (0+1+1) (c :: r):=hK.words.tail.tail;have hdl:(c :: r).length=n+1:=by simp[hn]
 clear hK
 go_wp2_with fail
 refine (dec_any _ _).mono ?_;rintro e w' ⟨rfl,rfl⟩;rw[h1]
 go_wp2_with fail
 refine (parse_yes _ _ h2).mono ?_;rintro e w2 ⟨rfl,hb2⟩;have hdW2:=(hdW.later hb2).later ((bRQ _ _).alloc (nLQ _) (Obj.cells #[.int i64 (psM b),.int i64 (psB b)] 62));have HK2:Hid (PaK w (w.heap.size+1) (a :: b :: c :: r) w2):=HK.out.later hb2;have lt2:=HK2.out.lt;clear hb2 hdW
 go_wp2_with fail
 refine (deed_any (c :: r) (n+1) _ _ _ _ hdW2 hdl (by omega)).mono ?_;rintro e w3 ⟨⟨x,m,y,rfl,hv⟩,hb3⟩;have HK3:Hid (PaK w (w.heap.size+1) (a :: b :: c :: r) w3):=(HK2.out.alloc _).later hb3;have o0:w3.cell? ⟨w2.heap.size,0,none⟩=some (.int i64 (psM b)):=cell_later hb3 (by simp);have o1:w3.cell? ⟨w2.heap.size,1,none⟩=some (.int i64 (psB b)):=cell_later hb3 (by simp);have ltO:w2.heap.size<w3.heap.size:=by have:=hb3.size;simp at this;omega
 clear hb3 hdW2 hdl;rw[h3];clear q0 q1 q2 q3 q4 q5 qf;have lt3:=HK3.out.lt;have q0:=HK3.out.c 0 (by omega);have q1:=HK3.out.c 1 (by omega);have q2:=HK3.out.c 2 (by omega);have q3:=HK3.out.c 3 (by omega);have q4:=HK3.out.c 4 (by omega);have q5:=HK3.out.c 5 (by omega);have qf:=HK3.out.f;clear hv o0 o1;go_wp2;refine bodyPost_ret (v:=.tuple #[.agg #[.int i64 0,.int i64 0,.int i64 0,.int i64 0,.int i64 0,.int i64 0],.iface 72 (.int i64 2)]) (by simp[results,results90,go_sem, *]) rfl ⟨rfl,?_⟩;exact Below.alloc (six HK3.out.below (nLQ _) _ _ _ _ _ _) (by simp <;> omega) _
theorem ruParse_range (s:ByteArray)(w:World)(hs:s.size<4611686018427387904)(a b c:ByteArray)(r:List ByteArray)(n:Nat)(hws:cutB 6 s=a :: b :: c :: r)(hn:r.length=n)(h1:dcOk a=true)(h2:psOk b=true)(h3:deOk (c :: r)=true)(h4:ruN (dcN a) (psM b) (psB b) (deO (c :: r)) (deM (c :: r)) (deB (c :: r))≠0):
 Calls prog 90 #[.string s] w fun e w'=>e=.returned (.tuple #[.agg #[.int i64 0,.int i64 0,.int i64 0,.int i64 0,.int i64 0,.int i64 0],.iface 72 (.int i64 (ruN (dcN a) (psM b) (psB b) (deO (c :: r)) (deM (c :: r)) (deB (c :: r))))])∧Below w.heap.size w w':=by
 go_enter func90,ntmps90
 go_wp2_with fail
 refine (splitN_any s _ hs).mono ?_;rintro e w1 ⟨cap,rfl,hcap,hcap7,hW,hb1⟩;have hlt1:(w.alloc (.cells #[.int i64 0,.int i64 0,.int i64 0,.int i64 0,.int i64 0,.int i64 0] 64)).heap.size<w1.heap.size:=
  bLQ _ _ (hW 0 (by rw[hws];simp))
 have hK:=PaK.start s w w1 rfl hb1 hlt1 hW;rw[hws] at hcap hK ⊢;have ek:(w.alloc (.cells #[.int i64 0,.int i64 0,.int i64 0,.int i64 0,.int i64 0,.int i64 0] 64)).heap.size=w.heap.size+1:=by simp
 rw[ek];clear hW hb1 hlt1 ek;have hln:(a :: b :: c :: r).length=n+3:=by simp[hn]
 rw[hln] at hcap ⊢;have HK:Hid (PaK w (w.heap.size+1) (a :: b :: c :: r) w1):=hK;have lt1:=hK.lt;have q0:=hK.c 0 (by omega);have q1:=hK.c 1 (by omega);have q2:=hK.c 2 (by omega);have q3:=hK.c 3 (by omega);have q4:=hK.c 4 (by omega);have q5:=hK.c 5 (by omega);have qf:=hK.f;have k0:=hK.words.head;have k1:=hK.words.tail.head;have ltB:=hK.ltB;clear hws hln;have e3:decide ((n:Int)+3<3)=false:=by simp;omega
 have hdW:WAt w1 (w.heap.size+1) (0+1+1) (c :: r):=hK.words.tail.tail;have hdl:(c :: r).length=n+1:=by simp[hn]
 clear hK
 go_wp2_with fail
 refine (dec_any _ _).mono ?_;rintro e w' ⟨rfl,rfl⟩;rw[h1]
 go_wp2_with fail
 refine (parse_yes _ _ h2).mono ?_;rintro e w2 ⟨rfl,hb2⟩;have hdW2:=(hdW.later hb2).later ((bRQ _ _).alloc (nLQ _) (Obj.cells #[.int i64 (psM b),.int i64 (psB b)] 62));have HK2:Hid (PaK w (w.heap.size+1) (a :: b :: c :: r) w2):=HK.out.later hb2;have lt2:=HK2.out.lt;clear hb2 hdW
 go_wp2_with fail
 refine (deed_any (c :: r) (n+1) _ _ _ _ hdW2 hdl (by omega)).mono ?_;rintro e w3 ⟨⟨x,m,y,rfl,hv⟩,hb3⟩;have HK3:Hid (PaK w (w.heap.size+1) (a :: b :: c :: r) w3):=(HK2.out.alloc _).later hb3;have o0:w3.cell? ⟨w2.heap.size,0,none⟩=some (.int i64 (psM b)):=cell_later hb3 (by simp);have o1:w3.cell? ⟨w2.heap.size,1,none⟩=some (.int i64 (psB b)):=cell_later hb3 (by simp);have ltO:w2.heap.size<w3.heap.size:=by have:=hb3.size;simp at this;omega
 clear hb3 hdW2 hdl;rw[h3];clear q0 q1 q2 q3 q4 q5 qf;have lt3:=HK3.out.lt;have q0:=HK3.out.c 0 (by omega);have q1:=HK3.out.c 1 (by omega);have q2:=HK3.out.c 2 (by omega);have q3:=HK3.out.c 3 (by omega);have q4:=HK3.out.c 4 (by omega);have q5:=HK3.out.c 5 (by omega);have qf:=HK3.out.f;obtain⟨rfl,rfl,rfl⟩:=hv h3
 go_wp2_with fail
 refine (ruCheck_any _ _ _ _ _ _ _).mono ?_;rintro e w4 ⟨rfl,hb4⟩;rw[no_ne h4];have HK4:Hid (PaK w (w.heap.size+1) (a :: b :: c :: r) w4):=((HK3.out.alloc _).alloc _).later hb4;have n0:w4.cell? ⟨w3.heap.size+1,0,none⟩=some (.int i64 (dcN a)):=cell_later hb4 (by simp);have n1:w4.cell? ⟨w3.heap.size+1,1,none⟩=some (.int i64 (psM b)):=cell_later hb4 (by simp);have n2:w4.cell? ⟨w3.heap.size+1,2,none⟩=some (.int i64 (psB b)):=cell_later hb4 (by simp);have n3:w4.cell? ⟨w3.heap.size+1,3,none⟩=some (.int i64 (deO (c :: r))):=cell_later hb4 (by simp);have n4:w4.cell? ⟨w3.heap.size+1,4,none⟩=some (.int i64 (deM (c :: r))):=cell_later hb4 (by simp);have n5:w4.cell? ⟨w3.heap.size+1,5,none⟩=some (.int i64 (deB (c :: r))):=cell_later hb4 (by simp);have ltN:w3.heap.size+1<w4.heap.size:=by have:=hb4.size;simp at this;omega
 clear hb4 o0 o1;clear q0 q1 q2 q3 q4 q5 qf;have lt4:=HK4.out.lt;have q0:=HK4.out.c 0 (by omega);have q1:=HK4.out.c 1 (by omega);have q2:=HK4.out.c 2 (by omega);have q3:=HK4.out.c 3 (by omega);have q4:=HK4.out.c 4 (by omega);have q5:=HK4.out.c 5 (by omega);have qf:=HK4.out.f;go_wp2;refine bodyPost_ret (v:=.tuple #[.agg #[.int i64 0,.int i64 0,.int i64 0,.int i64 0,.int i64 0,.int i64 0],.iface 72 (.int i64 (ruN (dcN a) (psM b) (psB b) (deO (c :: r)) (deM (c :: r)) (deB (c :: r))))]) (by simp[results,results90,go_sem, *]) rfl ⟨rfl,?_⟩;exact six HK4.out.below (nLQ _) _ _ _ _ _ _
theorem ruParse_good (s:ByteArray)(w:World)(hs:s.size<4611686018427387904)(a b c:ByteArray)(r:List ByteArray)(n:Nat)(hws:cutB 6 s=a :: b :: c :: r)(hn:r.length=n)(h1:dcOk a=true)(h2:psOk b=true)(h3:deOk (c :: r)=true)(h4:ruN (dcN a) (psM b) (psB b) (deO (c :: r)) (deM (c :: r)) (deB (c :: r))=0):
 Calls prog 90 #[.string s] w fun e w'=>e=.returned (.tuple #[.agg #[.int i64 (dcN a),.int i64 (psM b),.int i64 (psB b),.int i64 (deO (c :: r)),.int i64 (deM (c :: r)),.int i64 (deB (c :: r))],.nilIface])∧Below w.heap.size w w':=by
 go_enter func90,ntmps90
 go_wp2_with fail
 refine (splitN_any s _ hs).mono ?_;rintro e w1 ⟨cap,rfl,hcap,hcap7,hW,hb1⟩;have hlt1:(w.alloc (.cells #[.int i64 0,.int i64 0,.int i64 0,.int i64 0,.int i64 0,.int i64 0] 64)).heap.size<w1.heap.size:=
  bLQ _ _ (hW 0 (by rw[hws];simp))
 have hK:=PaK.start s w w1 rfl hb1 hlt1 hW;rw[hws] at hcap hK ⊢;have ek:(w.alloc (.cells #[.int i64 0,.int i64 0,.int i64 0,.int i64 0,.int i64 0,.int i64 0] 64)).heap.size=w.heap.size+1:=by simp
 rw[ek];clear hW hb1 hlt1 ek;have hln:(a :: b :: c :: r).length=n+3:=by simp[hn]
 rw[hln] at hcap ⊢;have HK:Hid (PaK w (w.heap.size+1) (a :: b :: c :: r) w1):=hK;have lt1:=hK.lt;have q0:=hK.c 0 (by omega);have q1:=hK.c 1 (by omega);have q2:=hK.c 2 (by omega);have q3:=hK.c 3 (by omega);have q4:=hK.c 4 (by omega);have q5:=hK.c 5 (by omega);have qf:=hK.f;have k0:=hK.words.head;have k1:=hK.words.tail.head;have ltB:=hK.ltB;clear hws hln;have e3:decide ((n:Int)+3<3)=false:=by simp;omega
 have hdW:WAt w1 (w.heap.size+1) (0+1+1) (c :: r):=hK.words.tail.tail;have hdl:(c :: r).length=n+1:=by simp[hn]
 clear hK
 go_wp2_with fail
 refine (dec_any _ _).mono ?_;rintro e w' ⟨rfl,rfl⟩;rw[h1]
 go_wp2_with fail
 refine (parse_yes _ _ h2).mono ?_;rintro e w2 ⟨rfl,hb2⟩;have hdW2:=(hdW.later hb2).later ((bRQ _ _).alloc (nLQ _) (Obj.cells #[.int i64 (psM b),.int i64 (psB b)] 62));have HK2:Hid (PaK w (w.heap.size+1) (a :: b :: c :: r) w2):=HK.out.later hb2;have lt2:=HK2.out.lt;clear hb2 hdW
 go_wp2_with fail
 refine (deed_any (c :: r) (n+1) _ _ _ _ hdW2 hdl (by omega)).mono ?_;rintro e w3 ⟨⟨x,m,y,rfl,hv⟩,hb3⟩;have HK3:Hid (PaK w (w.heap.size+1) (a :: b :: c :: r) w3):=(HK2.out.alloc _).later hb3;have o0:w3.cell? ⟨w2.heap.size,0,none⟩=some (.int i64 (psM b)):=cell_later hb3 (by simp);have o1:w3.cell? ⟨w2.heap.size,1,none⟩=some (.int i64 (psB b)):=cell_later hb3 (by simp);have ltO:w2.heap.size<w3.heap.size:=by have:=hb3.size;simp at this;omega
 clear hb3 hdW2 hdl;rw[h3];clear q0 q1 q2 q3 q4 q5 qf;have lt3:=HK3.out.lt;have q0:=HK3.out.c 0 (by omega);have q1:=HK3.out.c 1 (by omega);have q2:=HK3.out.c 2 (by omega);have q3:=HK3.out.c 3 (by omega);have q4:=HK3.out.c 4 (by omega);have q5:=HK3.out.c 5 (by omega);have qf:=HK3.out.f;obtain⟨rfl,rfl,rfl⟩:=hv h3
 go_wp2_with fail
 refine (ruCheck_any _ _ _ _ _ _ _).mono ?_;rintro e w4 ⟨rfl,hb4⟩;rw[no_ok h4];have HK4:Hid (PaK w (w.heap.size+1) (a :: b :: c :: r) w4):=((HK3.out.alloc _).alloc _).later hb4;have n0:w4.cell? ⟨w3.heap.size+1,0,none⟩=some (.int i64 (dcN a)):=cell_later hb4 (by simp);have n1:w4.cell? ⟨w3.heap.size+1,1,none⟩=some (.int i64 (psM b)):=cell_later hb4 (by simp);have n2:w4.cell? ⟨w3.heap.size+1,2,none⟩=some (.int i64 (psB b)):=cell_later hb4 (by simp);have n3:w4.cell? ⟨w3.heap.size+1,3,none⟩=some (.int i64 (deO (c :: r))):=cell_later hb4 (by simp);have n4:w4.cell? ⟨w3.heap.size+1,4,none⟩=some (.int i64 (deM (c :: r))):=cell_later hb4 (by simp);have n5:w4.cell? ⟨w3.heap.size+1,5,none⟩=some (.int i64 (deB (c :: r))):=cell_later hb4 (by simp);have ltN:w3.heap.size+1<w4.heap.size:=by have:=hb4.size;simp at this;omega
 clear hb4 o0 o1;clear q0 q1 q2 q3 q4 q5 qf;have lt4:=HK4.out.lt;have q0:=HK4.out.c 0 (by omega);have q1:=HK4.out.c 1 (by omega);have q2:=HK4.out.c 2 (by omega);have q3:=HK4.out.c 3 (by omega);have q4:=HK4.out.c 4 (by omega);have q5:=HK4.out.c 5 (by omega);have qf:=HK4.out.f;go_wp2;refine bodyPost_ret (v:=.tuple #[.agg #[.int i64 (dcN a),.int i64 (psM b),.int i64 (psB b),.int i64 (deO (c :: r)),.int i64 (deM (c :: r)),.int i64 (deB (c :: r))],.nilIface]) (by simp[results,results90,go_sem, *]) rfl ⟨rfl,?_⟩;exact six HK4.out.below (nLQ _) _ _ _ _ _ _
theorem ruParse_any (s:ByteArray)(w:World)(hs:s.size<4611686018427387904):
 Calls prog 90 #[.string s] w fun e w'=>e=.returned (.tuple #[paV (cutB 6 s),noV (paN (cutB 6 s))])∧Below w.heap.size w w':=by
 have hl:=(cut_len 6 s).2;have bad:rdW (cutB 6 s)=false→paV (cutB 6 s)=.agg #[.int i64 0,.int i64 0,.int i64 0,.int i64 0,.int i64 0,.int i64 0]∧noV (paN (cutB 6 s))=.iface 72 (.int i64 2):=fun h=>by
  have e:=paN_no h;exact⟨paV_no (by rw[e];decide),by rw[e];rfl⟩
 match hws:cutB 6 s with
 | []=>rw[hws] at hl;simp at hl
 | [a] =>
   rw[hws] at bad;obtain⟨e1,e2⟩:=bad rfl;rw[e1,e2];exact ruParse_short s w hs [a] 1 hws rfl (by omega) (by omega)
 | [a,b] =>
   rw[hws] at bad;obtain⟨e1,e2⟩:=bad rfl;rw[e1,e2];exact ruParse_short s w hs [a,b] 2 hws rfl (by omega) (by omega)
 | a :: b :: c :: r =>
   rw[hws] at bad;cases h1:dcOk a
   ·obtain⟨e1,e2⟩:=bad (by simp[rdW,h1]);rw[e1,e2];exact ruParse_num s w hs a b c r _ hws rfl h1
   cases h2:psOk b
   ·obtain⟨e1,e2⟩:=bad (by simp[rdW,h2]);rw[e1,e2];exact ruParse_cube s w hs a b c r _ hws rfl h1 h2
   cases h3:deOk (c :: r)
   ·obtain⟨e1,e2⟩:=bad (by simp[rdW,h3]);rw[e1,e2];exact ruParse_deed s w hs a b c r _ hws rfl h1 h2 h3
   have e:paN (a :: b :: c :: r)=ruN (dcN a) (psM b) (psB b) (deO (c :: r)) (deM (c :: r)) (deB (c :: r)):=paN_yes (by simp[rdW,h1,h2,h3]);by_cases h4:ruN (dcN a) (psM b) (psB b) (deO (c :: r)) (deM (c :: r)) (deB (c :: r))=0
   ·rw[paV_yes (by rw[e];exact h4),e,no_ok h4];exact ruParse_good s w hs a b c r _ hws rfl h1 h2 h3 h4
   rw[paV_no (by rw[e];exact h4),e,no_ne h4];exact ruParse_range s w hs a b c r _ hws rfl h1 h2 h3 h4
def chr3 (k:Fin 3):UInt8:=if k=0 then 49 else if k=1 then 48 else 42
def txt (a b c d:Fin 3):ByteArray:=⟨#[chr3 a,chr3 b,chr3 c,chr3 d]⟩
theorem chr3_of {x:UInt8}(h:mayB x.toNat=true):∃k,x=chr3 k:=by
 simp only[mayB,Bool.or_eq_true,beq_iff_eq] at h
 rcases h with (h | h) | h
 ·exact⟨0,UInt8.toNat_inj.1 h⟩
 ·exact⟨1,UInt8.toNat_inj.1 h⟩
 exact⟨2,UInt8.toNat_inj.1 h⟩
theorem txt_of {s:ByteArray}(h:psOk s=true):∃a b c d,s=txt a b c d:=by
 obtain⟨⟨l⟩⟩:=s;simp only[psOk,Bool.and_eq_true,beq_iff_eq] at h;obtain⟨h4,hm⟩:=h;have hl:l.length=4:=by simpa[ByteArray.size] using h4
 match l,hl with
 | [x0,x1,x2,x3],_ =>
   simp only[mayTo,Bool.and_eq_true,Bool.true_and] at hm;obtain⟨⟨⟨m0,m1⟩,m2⟩,m3⟩:=hm;obtain⟨a,rfl⟩:=chr3_of (x:=x0) m0;obtain⟨b,rfl⟩:=chr3_of (x:=x1) m1;obtain⟨c,rfl⟩:=chr3_of (x:=x2) m2;obtain⟨d,rfl⟩:=chr3_of (x:=x3) m3;exact⟨a,b,c,d,rfl⟩
theorem read_all:∀a b c d:Fin 3,(okB (psM (txt a b c d)) (psB (txt a b c d))&&(prS (psM (txt a b c d)) (psB (txt a b c d))).data.toList==(txt a b c d).data.toList)=true:=by decide +kernel
theorem read {s:ByteArray}(h:psOk s=true):okB (psM s) (psB s)=true∧prS (psM s) (psB s)=s:=by
 obtain⟨a,b,c,d,rfl⟩:=txt_of h;have:=read_all a b c d;simp only[Bool.and_eq_true,beq_iff_eq] at this;exact⟨this.1,by
  have e:=this.2
  generalize prS _ _=x at *
  generalize txt a b c d=y at *
  obtain⟨⟨x⟩⟩:=x;obtain⟨⟨y⟩⟩:=y;simp at e;rw[e]⟩
def setS:ByteArray:=⟨#[115,101,116]⟩
theorem seven:paN (cutB 6 ⟨#[55,32,49,42,48,42,32,111,117,116,32,50,32,115,101,116,32,42,42,49,49]⟩)=0 ∧
 rP (cutB 6 ⟨#[55,32,49,42,48,42,32,111,117,116,32,50,32,115,101,116,32,42,42,49,49]⟩)=7∧rO (cutB 6 ⟨#[55,32,49,42,48,42,32,111,117,116,32,50,32,115,101,116,32,42,42,49,49]⟩)=2 ∧
 rS (cutB 6 ⟨#[55,32,49,42,48,42,32,111,117,116,32,50,32,115,101,116,32,42,42,49,49]⟩)=3∧rV (cutB 6 ⟨#[55,32,49,42,48,42,32,111,117,116,32,50,32,115,101,116,32,42,42,49,49]⟩)=3:=by decide +kernel
theorem rd_len {ws:List ByteArray}(h:rdW ws=true):ws.length=3∨ws.length=4∨ws.length=6:=by
 match ws,h with
 | a :: b :: c :: r,h =>
   simp only[rdW,Bool.and_eq_true] at h;have h2:=h.2.2
   match r,h2 with
   | [],_=>simp
   | [_],_=>simp
   | [_,_,_],_=>simp
   | [_,_],h2=>simp[deOk] at h2
   | _ :: _ :: _ :: _ :: _,h2=>simp[deOk] at h2
theorem rd_no {ws:List ByteArray}(h:¬(ws.length=3∨ws.length=4∨ws.length=6)):rdW ws=false:=by
 cases e:rdW ws
 ·rfl
 exact absurd (rd_len e) h
theorem pa_cut (s:ByteArray):paN (cutB 6 s)=paN (cutA s)∧paV (cutB 6 s)=paV (cutA s):=by
 obtain⟨h1,h2⟩:=cut_few 6 s;by_cases h:(cutA s).length≤7
 ·rw[h1 h];exact⟨rfl,rfl⟩
 have e1:=h2 (by omega);have p1:paN (cutB 6 s)=2:=paN_no (rd_no (by omega));have p2:paN (cutA s)=2:=paN_no (rd_no (by omega));exact⟨by rw[p1,p2],by rw[paV_no (by rw[p1];decide),paV_no (by rw[p2];decide)]⟩
def cmpN (a b:Int):Int:=if a<b then -1 else if b<a then 1 else 0
def orN (x y z:Int):Int:=if x=0 then (if y=0 then z else y) else x
def ordN (p m b p' m' b':Int):Int:=orN (cmpN p p') (cmpN m m') (cmpN b b')
structure Ru where
 p:Int
 m:Int
 b:Int
 o:Int
 s:Int
 v:Int
abbrev TsQ:=List (List Ru)
def Ru.n (r:Ru):Int:=ruN r.p r.m r.b r.o r.s r.v
def Ru.ok (r:Ru):Bool:=ruOk r.p r.m r.b r.o r.s r.v
def Ru.has (r:Ru)(h:Int):Bool:=hasB r.m r.b h
def ordR (a b:Ru):Int:=ordN a.p a.m a.b b.p b.m b.b
def keyB (a b:Ru):Bool:=ordR a b==0
def zeR:Ru:=⟨0,0,0,0,0,0⟩
theorem cmp_0 {a b:Int}:cmpN a b=0↔a=b:=by unfold cmpN;split <;> (try split) <;> omega
theorem ord_0 {a b:Ru}:ordR a b=0↔a.p=b.p∧a.m=b.m∧a.b=b.b:=by
 unfold ordR ordN orN;by_cases h1:a.p=b.p
 ·rw[if_pos (cmp_0.2 h1)];by_cases h2:a.m=b.m
  ·rw[if_pos (cmp_0.2 h2),cmp_0];exact⟨fun h=>⟨h1,h2,h⟩,fun h=>h.2.2⟩
  rw[if_neg (fun h=>h2 (cmp_0.1 h)),cmp_0];exact⟨fun h=>absurd h h2,fun h=>h.2.1⟩
 rw[if_neg (fun h=>h1 (cmp_0.1 h)),cmp_0];exact⟨fun h=>absurd h h1,fun h=>h.1⟩
theorem key_eq (a b:Ru):keyB a b=(decide (a.p=b.p)&&(decide (a.m=b.m)&&decide (a.b=b.b))):=by
 rw[Bool.eq_iff_iff,keyB,beq_iff_eq,ord_0];simp
def clTo (L:List Ru):Nat→Bool
 | 0=>false
 | k+1=>clTo L k || (L.take k).any (fun a=>keyB a (L.getD k zeR))
def okR (L:List Ru):Bool:=L.all Ru.ok
def tbTo (L:List Ru):Nat→Int
 | 0=>0
 | k+1=>if tbTo L k=0 then (if (L.getD k zeR).n=0 then (if (L.take k).any (fun a=>keyB a (L.getD k zeR)) then 7 else 0) else (L.getD k zeR).n) else tbTo L k
def tbN (L:List Ru):Int:=if 12<L.length then 4 else tbTo L L.length
theorem n_ne {r:Ru}(h:r.ok=false):r.n≠0:=ruN_ne h
theorem n_ok {r:Ru}(h:r.ok=true):r.n=0:=ruN_ok h
theorem ok_n {r:Ru}(h:r.n=0):r.ok=true:=by
 cases e:r.ok
 ·exact absurd h (n_ne e)
 rfl
theorem okR_next {L:List Ru}{k:Nat}(hk:k<L.length)(h:okR (L.take k)=true)(h2:(L[k]).ok=true):okR (L.take (k+1))=true:=by
 rw[List.take_succ_eq_append_getElem hk];simp only[okR,List.all_append,List.all_cons,List.all_nil,Bool.and_true,Bool.and_eq_true];exact⟨h,h2⟩
theorem to_le {L:List Ru}{k:Nat}(h:tbTo L k≠0):∀{n:Nat},k≤n→tbTo L n=tbTo L k
 | 0,hn=>by
   obtain rfl:k=0:=by omega
   rfl
 | n+1,hn=>by
   by_cases e:k=n+1
   ·subst e;rfl
   have:=to_le h (show k≤n by omega);rw[tbTo,if_neg (by rw[this];exact h),this]
theorem getD_at {L:List Ru}{k:Nat}(hk:k<L.length):L.getD k zeR=L[k]:=by simp[List.getD,hk]
theorem cl_le {L:List Ru}:∀{k n:Nat},k≤n→clTo L n=false→clTo L k=false
 | k,0,h,hc=>by
   obtain rfl:k=0:=by omega
   exact hc
 | k,n+1,h,hc=>by
   by_cases e:k=n+1
   ·subst e;exact hc
   simp only[clTo,Bool.or_eq_false_iff] at hc;exact cl_le (by omega) hc.1
theorem cl_no {L:List Ru}:clTo L L.length=false↔∀i j,i<j→j<L.length→keyB (L.getD i zeR) (L.getD j zeR)=false:=by
 constructor
 ·intro h i j hij hj;have:=cl_le (show j+1≤L.length by omega) h;simp only[clTo,Bool.or_eq_false_iff] at this;have h2:=this.2;rw[List.any_eq_false] at h2;have hm:L.getD i zeR∈L.take j:=by
   rw[getD_at (by omega)];rw[List.mem_take_iff_getElem];exact⟨i,by omega,rfl⟩
  simpa using h2 _ hm
 intro h;have:∀n,n≤L.length→clTo L n=false:=by
  intro n
  induction n with
  | zero=>intro _;rfl
  | succ n ih =>
    intro hn;simp only[clTo,Bool.or_eq_false_iff];refine⟨ih (by omega),?_⟩;rw[List.any_eq_false];intro a ha;rw[List.mem_take_iff_getElem] at ha;obtain⟨i,hi,rfl⟩:=ha;have:=h i n (by omega) (by omega);rw[getD_at (by omega)] at this;simpa using this
 exact this _ (nLQ _)
theorem to_0 {L:List Ru}:∀{k:Nat},k≤L.length→(tbTo L k=0↔okR (L.take k)=true∧clTo L k=false)
 | 0,_=>by simp[tbTo,okR,clTo]
 | k+1,hk=>by
   have ih:=to_0 (show k≤L.length by omega);have hl:k<L.length:=by omega
   rw[tbTo,clTo];by_cases h1:tbTo L k=0
   ·obtain⟨i1,i2⟩:=ih.1 h1;rw[if_pos h1,i2,Bool.false_or];by_cases h2:(L.getD k zeR).n=0
    ·rw[if_pos h2];have h3:=okR_next hl i1 (by rw[←getD_at hl];exact ok_n h2);cases h4:(L.take k).any (fun a=>keyB a (L.getD k zeR))
     ·simp[h3]
     simp
    rw[if_neg h2];refine⟨fun h=>absurd h h2,fun h=>?_⟩
    exfalso
    have h5:=h.1;rw[okR,List.all_eq_true] at h5;exact h2 (n_ok (by rw[getD_at hl];exact h5 _ (by rw[List.mem_take_iff_getElem];exact⟨k,by omega,rfl⟩)))
   rw[if_neg h1];refine⟨fun h=>absurd h h1,fun h=>?_⟩
   exfalso
   obtain⟨h5,h6⟩:=h;simp only[Bool.or_eq_false_iff] at h6;refine h1 (ih.2 ⟨?_,h6.1⟩);rw[okR,List.all_eq_true] at h5 ⊢;intro x hx;refine h5 x ?_;rw[List.mem_take_iff_getElem] at hx ⊢;obtain⟨i,hi,e⟩:=hx;exact⟨i,by omega,e⟩
theorem tb_0 {L:List Ru}:tbN L=0↔L.length≤12∧okR L=true∧clTo L L.length=false:=by
 unfold tbN;by_cases h1:12<L.length
 ·rw[if_pos h1];constructor
  ·intro h;cases h
  intro h;omega
 rw[if_neg h1,to_0 (nLQ _),List.take_length];exact⟨fun h=>⟨by omega,h⟩,fun h=>h.2⟩
section
variable {κ β:Type}
def fndM (q:κ→κ→Bool)(k:κ):List κ→List MapEntry→Nat→Option (Nat×Value)
 | k' :: ks,e :: es,i=>if q k k' then some (i,e.val) else fndM q k ks es (i+1)
 | _,_,_=>none
def mget (q:κ→κ→Bool)(k:κ):List (κ×β)→Option β
 | []=>none
 | p :: M=>if q k p.1 then some p.2 else mget q k M
def mput (q:κ→κ→Bool)(k:κ)(b:β):List (κ×β)→List (κ×β)
 | []=>[(k,b)]
 | p :: M=>if q k p.1 then (k,b) :: M else p :: mput q k b M
theorem mget_put {q:κ→κ→Bool}(hq:∀a b,q a b=true↔a=b)(k k':κ)(b:β):∀M:List (κ×β),mget q k' (mput q k b M)=if q k' k then some b else mget q k' M
 | []=>by simp[mput,mget]
 | p :: M=>by
   have ih:=mget_put hq k k' b M;rw[mput];by_cases h:q k p.1=true
   ·rw[if_pos h,mget,mget];have e:=(hq _ _).1 h;subst e;simp only
    split <;> simp_all
   rw[if_neg h,mget,mget,ih];by_cases h2:q k' p.1=true
   ·rw[if_pos h2,if_pos h2];have e:=(hq _ _).1 h2;have:¬q k' k=true:=fun h3=>h (by rw[hq] at h3;subst h3;exact h2)
    rw[if_neg this]
   rw[if_neg h2,if_neg h2]
end
structure KeyE (P:Program)(K:TypeId)(κ:Type) where
 c:κ→Value
 q:κ→κ→Bool
 qeq:∀a b,q a b=true↔a=b
 check:∀(e:Bool) (k:κ) (w:World),(Instr.checkKey e 10000 K (c k)).run P w=.ok () w
 find:∀(k:κ) (ks:List κ) (l:List MapEntry) (w:World),l.map (·.key)=ks.map c→(Instr.findKey K (c k) l).run P w=.ok (fndM q k ks l 0) w
 bits:∀k,Instr.sameBits 10000 (c k) (c k)=true
section
variable {P:Program}{K:TypeId}{κ β:Type}
theorem find_ask {c:κ→Value}{q:κ→κ→Bool}(heq:∀a b w,(Op.equal K (c a) (c b)).run P w=.ok (q a b) w)(k:κ):∀(ks:List κ) (l:List MapEntry) (i:Nat) (w:World),l.map (·.key)=ks.map c→(Instr.findAsking K (c k) l i).run P w=.ok (fndM q k ks l i) w
 | [],[],i,w,_=>rfl
 | [],_ :: _,_,_,h=>by simp at h
 | _ :: _,[],_,_,h=>by simp at h
 | k' :: ks,e :: l,i,w,h=>by
   simp only[List.map_cons,List.cons.injEq] at h;simp only[Instr.findAsking,Sem.run_bind,h.1,heq,Result.andThen_ok];rw[fndM];cases hq:q k k'
   ·simp only[Bool.false_eq_true,if_false];exact find_ask heq k ks l (i+1) w h.2
   simp
theorem find_now {c:κ→Value}{q:κ→κ→Bool}{d:TypeDesc}(hs:∀a b,Instr.sameNow d (c a) (c b)=some (q a b))(k:κ):∀(ks:List κ) (l:List MapEntry) (i:Nat),l.map (·.key)=ks.map c→Instr.findNow d (c k) l i=some (fndM q k ks l i)
 | [],[],i,_=>rfl
 | [],_ :: _,_,h=>by simp at h
 | _ :: _,[],_,h=>by simp at h
 | k' :: ks,e :: l,i,h=>by
   simp only[List.map_cons,List.cons.injEq] at h;rw[Instr.findNow,h.1,hs,fndM];cases hq:q k k'
   ·simp only[Bool.false_eq_true,if_false];exact find_now hs k ks l (i+1) h.2
   simp
def KeyE.now (c:κ→Value)(q:κ→κ→Bool)(qeq:∀a b,q a b=true↔a=b)(check:∀(e:Bool) (k:κ) (w:World),(Instr.checkKey e 10000 K (c k)).run P w=.ok () w)(d:TypeDesc)(hd:P.underlying K=some d)
    (hs:∀a b,Instr.sameNow d (c a) (c b)=some (q a b)) (bits:∀k,Instr.sameBits 10000 (c k) (c k)=true):KeyE P K κ:=
 ⟨c,q,qeq,check,fun k ks l w h=>Go.MapKept.run_findKey hd (find_now hs k ks l 0 h),bits⟩
def KeyE.ask (c:κ→Value)(q:κ→κ→Bool)(qeq:∀a b,q a b=true↔a=b)(check:∀(e:Bool) (k:κ) (w:World),(Instr.checkKey e 10000 K (c k)).run P w=.ok () w)(d:TypeDesc)(hd:P.underlying K=some d)
    (hs:∀a b,Instr.sameNow d (c a) (c b)=none) (heq:∀a b w,(Op.equal K (c a) (c b)).run P w=.ok (q a b) w) (bits:∀k,Instr.sameBits 10000 (c k) (c k)=true):KeyE P K κ:=
 ⟨c,q,qeq,check,fun k ks l w h=>by
  cases ks with
  | nil =>
    cases l with
    | nil=>exact Go.MapKept.run_findKey hd rfl
    | cons e l=>simp at h
  | cons k' ks =>
    cases l with
    | nil=>simp at h
    | cons e l =>
      have h1:Instr.findNow d (c k) (e :: l) 0=none:=by
       simp only[List.map_cons,List.cons.injEq] at h;rw[Instr.findNow,h.1,hs]
      simp only[Instr.findKey,Sem.run_bind,run_underlying hd,Result.andThen_ok,h1];exact find_ask heq k (k' :: ks) (e :: l) 0 w h,bits⟩
def Sta (bs:List Nat)(clock:Nat):Prop:=(∀b∈bs,b<clock)∧bs.Nodup
theorem sta_push {bs:List Nat}{clock:Nat}(h:Sta bs clock):Sta (bs++[clock]) (clock+1):=by
 refine⟨fun b hb=>?_,?_⟩
 ·simp only[List.mem_append,List.mem_singleton] at hb
  rcases hb with hb | rfl
  ·have:=h.1 b hb;omega
  omega
 rw[List.nodup_append];refine⟨h.2,by simp,fun a ha b hb e=>?_⟩;simp only[List.mem_singleton] at hb;have:=h.1 a ha;omega
theorem born_modify (f:MapEntry→MapEntry)(hf:∀e,(f e).born=e.born):∀(l:List MapEntry) (i:Nat),(l.modify i f).map (·.born)=l.map (·.born)
 | [],i=>by simp
 | a :: l,0=>by simp[hf]
 | a :: l,i+1=>by
   have ih:=born_modify f hf l i;simp[List.modify_succ_cons,ih]
def MAt (E:KeyE P K κ)(ve:β→Value)(w:World)(B:Nat)(M:List (κ×β)):Prop:=
 ∃es clock,w.heap[B]?=some (.map es clock)∧es.toList.map (·.key)=(M.map (·.1)).map E.c∧es.toList.map (·.val)=(M.map (·.2)).map ve∧Sta (es.toList.map (·.born)) clock
variable {E:KeyE P K κ}{ve:β→Value}
theorem MAt.lt {w:World}{B:Nat}{M:List (κ×β)}(h:MAt E ve w B M):B<w.heap.size:=by
 obtain⟨es,clock,h1,_⟩:=h;exact (Array.getElem?_eq_some_iff.1 h1).1
theorem MAt.later {w w':World}{B:Nat}{M:List (κ×β)}(h:MAt E ve w B M)(hb:Below w.heap.size w w'):MAt E ve w' B M:=by
 have hlt:=h.lt;obtain⟨es,clock,h1,h2⟩:=h;exact⟨es,clock,(hb.block B hlt).trans h1,h2⟩
theorem MAt.kept {w w':World}{B:Nat}{M:List (κ×β)}{row:Option Nat}(h:MAt E ve w B M)(hg:w.grownBy w' row)(hne:some B≠row):MAt E ve w' B M:=by
 have hlt:=h.lt;obtain⟨es,clock,h1,h2⟩:=h;exact⟨es,clock,(hg.block B hlt hne).trans h1,h2⟩
theorem mat_new (E:KeyE P K κ)(ve:β→Value)(w:World):MAt E ve (w.alloc (.map #[] 0)) w.heap.size []:=⟨#[],0,heap_alloc_new w _,rfl,rfl,by simp[Sta]⟩
theorem fnd_get {q:κ→κ→Bool}{k:κ}:∀(M:List (κ×β)) (l:List MapEntry) (i:Nat),l.map (·.val)=(M.map (·.2)).map ve→((fndM q k (M.map (·.1)) l i).map (·.2))=(mget q k M).map ve
 | [],[],_,_=>rfl
 | [],_ :: _,_,h=>by simp at h
 | _ :: _,[],_,h=>by simp at h
 | p :: M,e :: l,i,h=>by
   simp only[List.map_cons,List.cons.injEq] at h;rw[List.map_cons,fndM,mget];cases hq:q k p.1
   ·simp only[Bool.false_eq_true,if_false];exact fnd_get M l (i+1) h.2
   simp[h.1]
def getV (ve:β→Value)(z:Value)(o:Option β):Value:=match o with | some b=>ve b | none=>z
theorem run_lookup_M {w:World}{B:Nat}{M:List (κ×β)}(h:MAt E ve w B M)(t e:TypeId)(ht:P.underlying t=some (.map K e))(z:Value)(hz:∀w,(zeroValue e).run P w=.ok z w)(k:κ)(ok:Bool):
 (Instr.lookup t (.map (some B)) (E.c k) ok).run P w=.ok (if ok then .tuple #[getV ve z (mget E.q k M),.bool (mget E.q k M).isSome] else getV ve z (mget E.q k M)) w:=by
 obtain⟨es,clock,h1,h2,h3,_⟩:=h;have hf:=E.find k (M.map (·.1)) es.toList w h2;have hg:=fnd_get (ve:=ve) (q:=E.q) (k:=k) M es.toList 0 h3;simp only[Instr.lookup,Sem.run_bind,run_underlying ht,Result.andThen_ok,Go.MapKept.run_getObj_map h1,Sem.run_pure,E.check,hf]
 generalize fndM E.q k (M.map (·.1)) es.toList 0=r at *
 cases r with
 | none =>
   cases hm:mget E.q k M with
   | none=>cases ok <;> simp[getV,hz]
   | some b=>rw[hm] at hg;simp at hg
 | some p =>
   cases hm:mget E.q k M with
   | none=>rw[hm] at hg;simp at hg
   | some b =>
     rw[hm] at hg;simp at hg;cases ok <;> simp[getV,hg]
theorem fnd_put {q:κ→κ→Bool}(qeq:∀a b,q a b=true↔a=b){c:κ→Value}{k:κ}{b:β}:∀(M:List (κ×β)) (l:List MapEntry) (s:Nat),l.map (·.key)=(M.map (·.1)).map c→l.map (·.val)=(M.map (·.2)).map ve →
 (fndM q k (M.map (·.1)) l s=none∧(mput q k b M)=M++[(k,b)])∨∃i v,fndM q k (M.map (·.1)) l s=some (s+i,v)∧∃hi:i<l.length,l[i].key=c k ∧
  (l.modify i (fun e=>{ e with key:=c k,val:=ve b })).map (·.key)=((mput q k b M).map (·.1)).map c∧(l.modify i (fun e=>{ e with key:=c k,val:=ve b })).map (·.val)=((mput q k b M).map (·.2)).map ve
 | [],[],_,_,_=>.inl ⟨rfl,rfl⟩
 | [],_ :: _,_,h,_=>by simp at h
 | _ :: _,[],_,h,_=>by simp at h
 | p :: M,e :: l,s,h,h'=>by
   simp only[List.map_cons,List.cons.injEq] at h h';rw[List.map_cons,fndM,mput];cases hq:q k p.1
   ·simp only[Bool.false_eq_true,if_false]
    rcases fnd_put qeq (c:=c) (k:=k) (b:=b) M l (s+1) h.2 h'.2 with ⟨h1,h2⟩ | ⟨i,v,h1,hi,h2,h3,h4⟩
    ·exact .inl ⟨h1,by rw[h2];rfl⟩
    refine .inr ⟨i+1,v,by rw[h1];congr 2;omega,by simp;omega,by simpa using h2,?_,?_⟩
    ·simp only[List.modify_succ_cons,List.map_cons,h.1,h3]
    simp only[List.modify_succ_cons,List.map_cons,h'.1,h4]
   simp only[if_true];have e1:=(qeq _ _).1 hq;refine .inr ⟨0,e.val,rfl,by simp,by simp[h.1,e1],?_,?_⟩
   ·simp[h.2]
   simp[h'.2]
theorem run_update_M {w:World}{B:Nat}{M:List (κ×β)}(h:MAt E ve w B M)(t e:TypeId)(ht:P.underlying t=some (.map K e))(k:κ)(b:β):
 ∃w',(Instr.mapUpdate t (.map (some B)) (E.c k) (ve b)).run P w=.ok () w'∧MAt E ve w' B (mput E.q k b M)∧w.grownBy w' (some B):=by
 have hlt:=h.lt;obtain⟨es,clock,h1,h2,h3,hst⟩:=h;have hf:=E.find k (M.map (·.1)) es.toList w h2;have hgr:∀o:Obj,w.grownBy { w with heap:=w.heap.setIfInBounds B o } (some B):=fun o=>⟨rfl,rfl,rfl,by simp,fun j _ hj=>by
  have:B≠j:=fun e=>hj (by rw[e])
  simp[Array.getElem?_setIfInBounds_ne this]⟩
 have hat:∀o:Obj,({ w with heap:=w.heap.setIfInBounds B o }:World).heap[B]?=some o:=fun o=>by simp[hlt]
 rcases fnd_put E.qeq (ve:=ve) (c:=E.c) (k:=k) (b:=b) M es.toList 0 h2 h3 with ⟨r1,r2⟩ | ⟨i,v,r1,hi,r2,r3,r4⟩
 ·rw[r1] at hf;refine⟨_,?_,⟨es.push { key:=E.c k,val:=ve b,born:=clock },clock+1,hat _,?_,?_,by simpa using sta_push hst⟩,hgr _⟩
  ·simp only[Instr.mapUpdate,Sem.run_bind,run_underlying ht,Result.andThen_ok,Go.MapKept.run_getObj_map h1,E.check,hf,Go.MapKept.run_setObj_map _ h1]
  ·rw[r2];simp[h2]
  rw[r2];simp[h3]
 rw[r1] at hf;have hk:((es[i]?).map (·.key)).getD (E.c k)=E.c k:=by
  have hi2:i<es.size:=by simpa using hi
  rw[Array.getElem?_eq_getElem hi2];simpa using r2
 refine⟨_,?_,⟨es.modify i fun e=>{ e with key:=E.c k,val:=ve b },clock,hat _,?_,?_,by have hbm:=born_modify (fun e:MapEntry=>{ e with key:=E.c k,val:=ve b }) (fun _=>rfl) es.toList i;rw[Array.toList_modify,hbm];exact hst⟩,hgr _⟩
 ·simp only[Instr.mapUpdate,Sem.run_bind,run_underlying ht,Result.andThen_ok,Go.MapKept.run_getObj_map h1,E.check,hf,Nat.zero_add,hk,Instr.keyThatStays,E.bits,if_true,Sem.run_pure,Go.MapKept.run_setObj_map _ h1]
 ·rw[Array.toList_modify];exact r3
 rw[Array.toList_modify];exact r4
theorem find_born {l:List MapEntry}:∀{j:Nat} {e0:MapEntry},(l.map (·.born)).Nodup→l[j]?=some e0→l.findIdx? (fun e=>((e.born:Nat):Int)==((e0.born:Nat):Int))=some j:=by
 induction l with
 | nil=>intro j e0 _ h;simp at h
 | cons a r ih =>
   intro j e0 hn h;simp only[List.map_cons,List.nodup_cons] at hn;cases j with
   | zero =>
     simp only[List.getElem?_cons_zero,Option.some.injEq] at h;subst h;simp[List.findIdx?_cons]
   | succ j =>
     simp only[List.getElem?_cons_succ] at h;have hne:¬a.born=e0.born:=fun e1=>hn.1 (List.mem_map.2 ⟨e0,List.mem_of_getElem? h,e1.symm⟩)
     have hb:(((a.born:Nat):Int)==((e0.born:Nat):Int))=false:=by
      simp only[beq_eq_false_iff_ne,ne_eq,Int.natCast_inj];exact hne
     rw[List.findIdx?_cons,hb];simp[ih hn.2 h]
theorem idx_toList (xs:Array MapEntry)(p:MapEntry→Bool):xs.findIdx? p=xs.toList.findIdx? p:=by
 cases xs;simp
theorem modify_end {α:Type}(f:α→α)(a:α):∀l:List α,(l++[a]).modify l.length f=l++[f a]
 | []=>rfl
 | b :: r=>by simp[List.modify_succ_cons,modify_end f a r]
theorem modify_at {α:Type}(f g:α→α):∀(l:List α) (i:Nat) (hi:i<l.length),f l[i]=g l[i]→l.modify i f=l.modify i g
 | a :: l,0,_,h=>by simpa using h
 | a :: l,i+1,hi,h=>by
   have:=modify_at f g l i (by simpa using hi) (by simpa using h);simp[List.modify_succ_cons,this]
theorem modify_id {α:Type}(f:α→α):∀(l:List α) (i:Nat) (hi:i<l.length),f l[i]=l[i]→l.modify i f=l
 | a :: l,0,_,h=>by simpa using h
 | a :: l,i+1,hi,h=>by
   have:=modify_id f l i (by simpa using hi) (by simpa using h);simp[List.modify_succ_cons,this]
theorem run_entry_M {w:World}{B:Nat}{M:List (κ×β)}(h:MAt E ve w B M)(t e:TypeId)(ht:P.underlying t=some (.map K e))(z:β)(hz:∀w,(zeroValue e).run P w=.ok (ve z) w)(k:κ):
 ∃ (v0:Value) (st:Nat) (w1:World),(Instr.mapEntry t (.map (some B)) (E.c k)).run P w=.ok (.tuple #[v0,.int i64 (st:Int)]) w1∧w.grownBy w1 (some B)∧MAt E ve w1 B (mput E.q k ((mget E.q k M).getD z) M) ∧
   ∀(w2:World) (b:β),w2.heap[B]?=w1.heap[B]?→∃w3,(Instr.entryStore t (.map (some B)) (.int i64 (st:Int)) (ve b)).run P w2=.ok () w3∧MAt E ve w3 B (mput E.q k b M)∧w2.grownBy w3 (some B):=by
 have hlt:=h.lt;obtain⟨es,clock,h1,h2,h3,hst⟩:=h;have hf:=E.find k (M.map (·.1)) es.toList w h2;have hgr:∀(w:World) (o:Obj),w.grownBy { w with heap:=w.heap.setIfInBounds B o } (some B):=fun w o=>⟨rfl,rfl,rfl,by simp,fun j _ hj=>by
  have:B≠j:=fun e=>hj (by rw[e])
  simp[Array.getElem?_setIfInBounds_ne this]⟩
 have hat:∀(w:World) (o o':Obj),w.heap[B]?=some o'→({ w with heap:=w.heap.setIfInBounds B o }:World).heap[B]?=some o:=fun w o o' hw=>by
  have hl:B<w.heap.size:=(Array.getElem?_eq_some_iff.1 hw).1;simp[hl]
 rcases fnd_put E.qeq (ve:=ve) (c:=E.c) (k:=k) (b:=z) M es.toList 0 h2 h3 with ⟨r1,r2⟩ | ⟨i,v,r1,hi,r2,r3,r4⟩
 ·rw[r1] at hf;have hno:mget E.q k M=none:=by
   have:=fnd_get (ve:=ve) (q:=E.q) (k:=k) M es.toList 0 h3;rw[r1] at this;cases hm:mget E.q k M with
   | none=>rfl
   | some b=>rw[hm] at this;simp at this
  have hput:∀b,mput E.q k b M=M++[(k,b)]:=fun b=>by
   rcases fnd_put E.qeq (ve:=ve) (c:=E.c) (k:=k) (b:=b) M es.toList 0 h2 h3 with ⟨_,r⟩ | ⟨i,v,q1,_⟩
   ·exact r
   rw[r1] at q1;cases q1
  refine⟨ve z,clock,{ w with heap:=w.heap.setIfInBounds B (.map (es.push { key:=E.c k,val:=ve z,born:=clock }) (clock+1)) },?_,hgr _ _,⟨_,_,hat _ _ _ h1,?_,?_,by simpa using sta_push hst⟩,fun w2 b hw2=>?_⟩
  ·simp only[Instr.mapEntry,Sem.run_bind,run_underlying ht,Result.andThen_ok,Go.MapKept.run_getObj_map h1,E.check,hf,hz,Go.MapKept.run_setObj_map _ h1,Sem.run_pure];rfl
  ·rw[hno,hput];simp[h2]
  ·rw[hno,hput];simp[h3]
  rw[hat _ _ _ h1] at hw2;have hidx:(es.push { key:=E.c k,val:=ve z,born:=clock }).findIdx? (fun e=>((e.born:Nat):Int)==((clock:Nat):Int))=some es.size:=by
   rw[idx_toList];exact find_born (l:=(es.push { key:=E.c k,val:=ve z,born:=clock }).toList) (j:=es.size) (e0:={ key:=E.c k,val:=ve z,born:=clock }) (by simpa using (sta_push hst).2) (by simp)
  have hmod:(es.push { key:=E.c k,val:=ve z,born:=clock }).modify es.size (fun e=>{ e with val:=ve b })=es.push { key:=E.c k,val:=ve b,born:=clock }:=by
   apply Array.ext'
   rw[Array.toList_modify,Array.toList_push,Array.toList_push,←Array.length_toList,modify_end]
  refine⟨{ w2 with heap:=w2.heap.setIfInBounds B (.map (es.push { key:=E.c k,val:=ve b,born:=clock }) (clock+1)) },?_,⟨_,_,hat _ _ _ hw2,?_,?_,by simpa using sta_push hst⟩,hgr _ _⟩
  ·simp[Instr.entryStore,Go.MapKept.run_getObj_map hw2,asInt,asIntOf,hidx,hmod,Go.MapKept.run_setObj_map _ hw2,Result.andThen]
  ·rw[hput];simp[h2]
  rw[hput];simp[h3]
 rw[r1] at hf;simp only[Nat.zero_add] at hf r1;have hi2:i<es.size:=by simpa using hi
 have hie:es[i]?=some es[i]:=Array.getElem?_eq_getElem hi2;have hil:es.toList[i]?=some es[i]:=by simp[hi2]
 have hkey:es[i].key=E.c k:=by simpa using r2
 have hget:∃b0,mget E.q k M=some b0∧ve b0=v:=by
  have:=fnd_get (ve:=ve) (q:=E.q) (k:=k) M es.toList 0 h3;rw[r1] at this;cases hm:mget E.q k M with
  | none=>rw[hm] at this;simp at this
  | some b=>rw[hm] at this;simp at this;exact⟨b,rfl,this.symm⟩
 obtain⟨b0,hb0,hv⟩:=hget;have hsame:es.modify i (fun e=>{ e with key:=E.c k })=es:=by
  apply Array.ext'
  rw[Array.toList_modify];refine modify_id _ _ i hi ?_;have:es.toList[i].key=E.c k:=r2;rw[←this]
 have hall:∀b,(es.toList.modify i (fun e=>{ e with key:=E.c k,val:=ve b })).map (·.key)=((mput E.q k b M).map (·.1)).map E.c∧(es.toList.modify i (fun e=>{ e with key:=E.c k,val:=ve b })).map (·.val)=((mput E.q k b M).map (·.2)).map ve:=fun b=>by
  rcases fnd_put E.qeq (ve:=ve) (c:=E.c) (k:=k) (b:=b) M es.toList 0 h2 h3 with ⟨q1,_⟩ | ⟨j,v',q1,_,_,q3,q4⟩
  ·rw[r1] at q1;cases q1
  rw[r1] at q1;simp only[Option.some.injEq,Prod.mk.injEq,Nat.zero_add] at q1;obtain⟨rfl,_⟩:=q1;exact⟨q3,q4⟩
 have hold:mput E.q k b0 M=M:=by
  have hput:∀(M:List (κ×β)),mget E.q k M=some b0→mput E.q k b0 M=M:=by
   intro M
   induction M with
   | nil=>intro h;cases h
   | cons p M ih =>
     intro h;rw[mget] at h;rw[mput];by_cases e:E.q k p.1=true
     ·rw[if_pos e] at h ⊢;have e1:=(E.qeq _ _).1 e;simp at h;subst h;subst e1;rfl
     rw[if_neg e] at h ⊢;rw[ih h]
  exact hput M hb0
 refine⟨v,es[i].born,w,?_,⟨rfl,rfl,rfl,nLQ _,fun _ _ _=>rfl⟩,⟨es,clock,h1,?_,?_,hst⟩,fun w2 b hw2=>?_⟩
 ·have hrefl:({ w with heap:=w.heap.setIfInBounds B (.map es clock) }:World)=w:=by
   have:w.heap.setIfInBounds B (.map es clock)=w.heap:=by
    apply Array.ext_getElem?
    intro j;by_cases e:B=j
    ·subst e;exact (hat w (.map es clock) _ h1).trans h1.symm
    simp[Array.getElem?_setIfInBounds_ne e]
   rw[this]
  simp only[Instr.mapEntry,Sem.run_bind,run_underlying ht,Result.andThen_ok,Go.MapKept.run_getObj_map h1,E.check,hf,hie,Option.map_some,Option.getD_some,hkey,Instr.keyThatStays,E.bits,if_true,Sem.run_pure,hsame,Go.MapKept.run_setObj_map _ h1];rw[hrefl];rfl
 ·rw[hb0,Option.getD_some,hold];exact h2
 ·rw[hb0,Option.getD_some,hold];exact h3
 rw[h1] at hw2;have hidx:es.findIdx? (fun e=>((e.born:Nat):Int)==((es[i].born:Nat):Int))=some i:=by
  rw[idx_toList];exact find_born hst.2 hil
 have hmod:es.modify i (fun e=>{ e with val:=ve b })=es.modify i (fun e=>{ e with key:=E.c k,val:=ve b }):=by
  apply Array.ext'
  rw[Array.toList_modify,Array.toList_modify];refine modify_at _ _ _ i hi ?_;have:es.toList[i].key=E.c k:=r2;rw[←this]
 refine⟨{ w2 with heap:=w2.heap.setIfInBounds B (.map (es.modify i (fun e=>{ e with key:=E.c k,val:=ve b })) clock) },?_,⟨_,_,hat _ _ _ hw2,?_,?_,by have hbm:=born_modify (fun e:MapEntry=>{ e with key:=E.c k,val:=ve b }) (fun _=>rfl) es.toList i;rw[Array.toList_modify,hbm];exact hst⟩,hgr _ _⟩
 ·simp[Instr.entryStore,Go.MapKept.run_getObj_map hw2,asInt,asIntOf,hidx,hmod,Go.MapKept.run_setObj_map _ hw2,Result.andThen]
 ·rw[Array.toList_modify];exact (hall b).1
 rw[Array.toList_modify];exact (hall b).2
variable {w:World}{ops:Array Oper}{rest:List Oper}{o:Oper}{a:Act}{Q:Exit→Act→World→Prop}
end
theorem ba_eq {a b:ByteArray}:(a==b)=true↔a=b:=by
 obtain⟨x⟩:=a;obtain⟨y⟩:=b;show (x==y)=true↔_;simp
def spB (S:Int)(x:Int×Int):Bool:=decide (1≤x.1)&&(decide (x.1≤S)&&(decide (1≤x.2)&&decide (x.2≤4)))
def nmB (s:ByteArray):Bool:=decide (1≤s.size)&&(decide (s.size≤6)&&s.data.toList.all fun c=>decide (97≤c.toNat)&&decide (c.toNat≤122))
def spsL (Ls:LkQ):List (Int×Int):=Ls.flatMap fun l=>[l.1,l.2]
def lkN (S:Int):LkQ→List (Int×Int)→Int
 | [],_=>0
 | l :: Ls,U=>if spB S l.1&&spB S l.2 then (if l.1==l.2 || (U.any fun u=>u==l.1 || u==l.2) then 7 else lkN S Ls (U++[l.1,l.2])) else 1
def hoN (S:Int):HoQ→List ByteArray→List (Int×Int)→Int
 | [],_,_=>0
 | h :: Hs,N,U=>if nmB h.1 then (if spB S h.2 then (if (N.any fun n=>n==h.1) || (U.any fun u=>u==h.2) then 7 else hoN S Hs (N++[h.1]) (U++[h.2])) else 1) else 2
def tpN (S:Int)(Ls:LkQ)(Hs:HoQ):Int:=
 if decide (1≤S)&&decide (S≤6) then (if decide (Ls.length≤200)&&decide (Hs.length≤8) then (if lkN S Ls []=0 then hoN S Hs [] (spsL Ls) else lkN S Ls []) else 4) else 1
theorem sp_of {S:Int}{x:Int×Int}(h:spB S x=true):1≤x.1∧x.1≤S∧1≤x.2∧x.2≤4:=by
 simpa[spB] using h
theorem lk_0 {S:Int}:∀{Ls:LkQ} {U:List (Int×Int)},U.Nodup→(lkN S Ls U=0↔(∀x∈spsL Ls,spB S x=true)∧(U++spsL Ls).Nodup)
 | [],U,hU=>by simp[lkN,spsL,hU]
 | l :: Ls,U,hU=>by
   obtain⟨x,y⟩:=l;have e:spsL ((x,y) :: Ls)=x :: y :: spsL Ls:=rfl;rw[lkN,e];simp only;by_cases h1:spB S x&&spB S y
   ·rw[if_pos h1];simp only[Bool.and_eq_true] at h1;by_cases h2:(x==y || (U.any fun u=>u==x || u==y))=true
    ·rw[if_pos h2];refine⟨fun h=>absurd h (by decide),fun h=>?_⟩
     exfalso
     have hn:=h.2;rw[List.nodup_append] at hn;obtain⟨_,h3,h4⟩:=hn;simp only[Bool.or_eq_true,beq_iff_eq,List.any_eq_true] at h2
     rcases h2 with h2 | ⟨u,hu,h2 | h2⟩
     ·subst h2;rw[List.nodup_cons] at h3;exact h3.1 (by simp)
     ·exact h4 u hu x (by simp) h2
     exact h4 u hu y (by simp) h2
    rw[if_neg h2];simp only[Bool.or_eq_true,beq_iff_eq,List.any_eq_true,not_or,not_exists,not_and] at h2;have hU2:(U++[x,y]).Nodup:=by
     rw[List.nodup_append];refine⟨hU,by simp[h2.1],?_⟩;intro a ha b hb e;subst e;simp only[List.mem_cons,List.not_mem_nil,or_false] at hb;have:=h2.2 a ha
     rcases hb with rfl | rfl
     ·exact this.1 rfl
     exact this.2 rfl
    rw[lk_0 hU2];have e2:U++[x,y]++spsL Ls=U++x :: y :: spsL Ls:=by simp
    rw[e2];refine and_congr ⟨fun h=>?_,fun h z hz=>h z (by simp[hz])⟩ Iff.rfl;intro z hz;simp only[List.mem_cons] at hz
    rcases hz with rfl | rfl | hz
    ·exact h1.1
    ·exact h1.2
    exact h z hz
   rw[if_neg h1];refine⟨fun h=>absurd h (by decide),fun h=>?_⟩;exact absurd (by simp[h.1 x (by simp),h.1 y (by simp)]) h1
theorem ho_0 {S:Int}:∀{Hs:HoQ} {N:List ByteArray} {U:List (Int×Int)},N.Nodup→U.Nodup→(hoN S Hs N U=0↔(∀h∈Hs,nmB h.1=true∧spB S h.2=true)∧(N++Hs.map (·.1)).Nodup∧(U++Hs.map (·.2)).Nodup)
 | [],N,U,hN,hU=>by simp[hoN,hN,hU]
 | h :: Hs,N,U,hN,hU=>by
   obtain⟨n,x⟩:=h;rw[hoN];simp only[List.map_cons];by_cases h1:nmB n=true
   ·rw[if_pos h1];by_cases h2:spB S x=true
    ·rw[if_pos h2];by_cases h3:((N.any fun m=>m==n) || (U.any fun u=>u==x))=true
     ·rw[if_pos h3];refine⟨fun h=>absurd h (by decide),fun h=>?_⟩
      exfalso
      simp only[Bool.or_eq_true,ba_eq,beq_iff_eq,List.any_eq_true] at h3
      rcases h3 with ⟨m,hm,e⟩ | ⟨u,hu,e⟩
      ·have:=(List.nodup_append.1 h.2.1).2.2;exact this m hm n (by simp) e
      have:=(List.nodup_append.1 h.2.2).2.2;exact this u hu x (by simp) e
     rw[if_neg h3];simp only[Bool.or_eq_true,ba_eq,beq_iff_eq,List.any_eq_true,not_or,not_exists,not_and] at h3;have hN2:(N++[n]).Nodup:=by
      rw[List.nodup_append];refine⟨hN,by simp,fun a ha b hb e=>?_⟩;simp only[List.mem_singleton] at hb;subst hb;exact h3.1 a ha e
     have hU2:(U++[x]).Nodup:=by
      rw[List.nodup_append];refine⟨hU,by simp,fun a ha b hb e=>?_⟩;simp only[List.mem_singleton] at hb;subst hb;exact h3.2 a ha e
     rw[ho_0 hN2 hU2];have e1:N++[n]++Hs.map (·.1)=N++n :: Hs.map (·.1):=by simp
     have e2:U++[x]++Hs.map (·.2)=U++x :: Hs.map (·.2):=by simp
     rw[e1,e2];refine and_congr ⟨fun h z hz=>?_,fun h z hz=>h z (by simp[hz])⟩ Iff.rfl
     rcases List.mem_cons.1 hz with rfl | hz
     ·exact⟨h1,h2⟩
     exact h z hz
    rw[if_neg h2];refine⟨fun h=>absurd h (by decide),fun h=>?_⟩;exact absurd (h.1 (n,x) (by simp)).2 h2
   rw[if_neg h1];refine⟨fun h=>absurd h (by decide),fun h=>?_⟩;exact absurd (h.1 (n,x) (by simp)).1 h1
theorem tp_0 {S:Int}{Ls:LkQ}{Hs:HoQ}(h:tpN S Ls Hs=0):
 (1≤S∧S≤6)∧(Ls.length≤200∧Hs.length≤8)∧(∀x∈spsL Ls,spB S x=true)∧(spsL Ls).Nodup∧(∀h∈Hs,nmB h.1=true∧spB S h.2=true)∧(Hs.map (·.1)).Nodup∧(spsL Ls++Hs.map (·.2)).Nodup:=by
 unfold tpN at h;by_cases h1:(decide (1≤S)&&decide (S≤6))=true
 ·rw[if_pos h1] at h;by_cases h2:(decide (Ls.length≤200)&&decide (Hs.length≤8))=true
  ·rw[if_pos h2] at h;by_cases h3:lkN S Ls []=0
   ·rw[if_pos h3] at h;have h4:=(lk_0 (S:=S) (Ls:=Ls) (U:=[]) List.nodup_nil).1 h3;simp only[List.nil_append] at h4;have h5:=(ho_0 (S:=S) (Hs:=Hs) (N:=[]) (U:=spsL Ls) List.nodup_nil h4.2).1 h;simp only[List.nil_append] at h5;simp only[Bool.and_eq_true,decide_eq_true_eq] at h1 h2;exact⟨h1,h2,h4.1,h4.2,h5.1,h5.2.1,h5.2.2⟩
   rw[if_neg h3] at h;exact absurd h h3
  rw[if_neg h2] at h;exact absurd h (by decide)
 rw[if_neg h1] at h;exact absurd h (by decide)
structure But (X:List Nat)(w w':World):Prop where
 os:w'.os=w.os
 tape:w'.tape=w.tape
 output:w'.output=w.output
 size:w.heap.size≤w'.heap.size
 block:∀k,k<w.heap.size→k ∉ X→w'.heap[k]?=w.heap[k]?
theorem But.refl (X:List Nat)(w:World):But X w w:=⟨rfl,rfl,rfl,nLQ _,fun _ _ _=>rfl⟩
theorem But.trans {X:List Nat}{a b c:World}(h:But X a b)(k:But X b c):But X a c:=
 ⟨k.os.trans h.os,k.tape.trans h.tape,k.output.trans h.output,Nat.le_trans h.size k.size,fun i hi hx=>(k.block i (Nat.lt_of_lt_of_le hi h.size) hx).trans (h.block i hi hx)⟩
theorem But.drew {X:List Nat}{a w:World}(h:But X a w):But X a w.drew:=⟨h.os,h.tape,h.output,h.size,h.block⟩
theorem wrap_small {x:Int}(h1 : -1000000≤x)(h2:x≤1000000):IntKind.i64.wrap x=x:=by
 rw[IntKind.wrap_i64];omega
theorem But.of_below {X:List Nat}{w w':World}(h:Below w.heap.size w w'):But X w w':=⟨h.os,h.tape,h.output,h.size,fun k hk _=>h.block k hk⟩
theorem But.of_grown {X:List Nat}{w w':World}{B:Nat}(h:w.grownBy w' (some B))(hB:B∈X):But X w w':=
 ⟨h.os,h.tape,h.output,h.size,fun k hk hx=>h.block k hk (fun e=>hx (by cases e;exact hB))⟩
theorem But.mono {X Y:List Nat}{w w':World}(h:But X w w')(hX:∀x∈X,x∈Y):But Y w w':=⟨h.os,h.tape,h.output,h.size,fun k hk hx=>h.block k hk (fun e=>hx (hX k e))⟩
theorem But.below {X:List Nat}{w w':World}{B:Nat}(h:But X w w')(hB:B≤w.heap.size)(hX:∀x∈X,B≤x):Below B w w':=
 ⟨h.os,h.tape,h.output,h.size,fun k hk=>h.block k (by omega) (fun e=>by have:=hX k e;omega)⟩
theorem But.cell {X:List Nat}{w w':World}(h:But X w w'){p:Addr}(hl:p.block<w.heap.size)(hX:p.block ∉ X):w'.cell? p=w.cell? p:=World.cell?_of_block (w:=w) (h.block p.block hl hX)
section
variable {P:Program}{K:TypeId}{κ β:Type}{E:KeyE P K κ}{ve:β→Value}
theorem MAt.but {X:List Nat}{w w':World}{B:Nat}{M:List (κ×β)}(h:MAt E ve w B M)(hb:But X w w')(hX:B ∉ X):MAt E ve w' B M:=by
 have hlt:=h.lt;obtain⟨es,clock,h1,h2⟩:=h;exact⟨es,clock,(hb.block B hlt hX).trans h1,h2⟩
end
section
variable {κ:Type}
def ctM (q:κ→κ→Bool)(x:κ)(U:List κ):Nat:=(U.filter fun y=>q x y).length
theorem ct_app {q:κ→κ→Bool}(x:κ)(U V:List κ):ctM q x (U++V)=ctM q x U+ctM q x V:=by simp[ctM]
theorem ct_le {q:κ→κ→Bool}(x:κ)(U:List κ):ctM q x U≤U.length:=List.length_filter_le _ _
theorem ct_pos {q:κ→κ→Bool}(hq:∀a b,q a b=true↔a=b)(x:κ)(U:List κ):0<ctM q x U↔x∈U:=by
 unfold ctM;rw[List.length_pos_iff_exists_mem];simp only[List.mem_filter,hq];exact⟨fun ⟨y,h1,h2⟩=>h2 ▸ h1,fun h=>⟨x,h,rfl⟩⟩
def TK (q:κ→κ→Bool)(M:List (κ×Int))(U:List κ):Prop:=∀s,(mget q s M).getD 0=(ctM q s U:Int)
theorem tk_nil (q:κ→κ→Bool):TK q [] []:=fun s=>rfl
theorem tk_put {q:κ→κ→Bool}(hq:∀a b,q a b=true↔a=b){M:List (κ×Int)}{U:List κ}(h:TK q M U)(x:κ):TK q (mput q x ((ctM q x U:Int)+1) M) (U++[x]):=by
 intro s;rw[mget_put hq,ct_app];by_cases e:q s x=true
 ·rw[if_pos e];have e2:=(hq _ _).1 e;subst e2;have:ctM q s [s]=1:=by simp[ctM,e]
  rw[this];simp
 rw[if_neg e,h s];have:ctM q s [x]=0:=by simp[ctM,e]
 rw[this];simp
theorem ct_one {q:κ→κ→Bool}(hq:∀a b,q a b=true↔a=b)(x y:κ):ctM q x [y]=if q x y then 1 else 0:=by
 cases h:q x y <;> simp[ctM,h]
end
def sq (a b:Int×Int):Bool:=a.1==b.1&&a.2==b.2
theorem sq_iff (a b:Int×Int):sq a b=true↔a=b:=by
 obtain⟨x,y⟩:=a;obtain⟨z,v⟩:=b;simp[sq]
def lk1 (S:Int)(U:List (Int×Int))(l:(Int×Int)×(Int×Int)):Int:=if spB S l.1&&spB S l.2 then (if l.1==l.2 || (U.any fun u=>u==l.1 || u==l.2) then 7 else 0) else 1
theorem lk_step (S:Int)(l:(Int×Int)×(Int×Int))(Ls:LkQ)(U:List (Int×Int)):lkN S (l :: Ls) U=if lk1 S U l=0 then lkN S Ls (U++[l.1,l.2]) else lk1 S U l:=by
 rw[lkN,lk1];by_cases h1:(spB S l.1&&spB S l.2)=true
 ·rw[if_pos h1,if_pos h1];by_cases h2:(l.1==l.2 || (U.any fun u=>u==l.1 || u==l.2))=true
  ·rw[if_pos h2,if_pos h2];rfl
  rw[if_neg h2,if_neg h2];rfl
 rw[if_neg h1,if_neg h1];rfl
def ho1 (S:Int)(N:List ByteArray)(U:List (Int×Int))(h:ByteArray×(Int×Int)):Int:=if nmB h.1 then (if spB S h.2 then (if (N.any fun n=>n==h.1) || (U.any fun u=>u==h.2) then 7 else 0) else 1) else 2
theorem ho_step (S:Int)(h:ByteArray×(Int×Int))(Hs:HoQ)(N:List ByteArray)(U:List (Int×Int)):hoN S (h :: Hs) N U=if ho1 S N U h=0 then hoN S Hs (N++[h.1]) (U++[h.2]) else ho1 S N U h:=by
 rw[hoN,ho1];by_cases h1:nmB h.1=true
 ·rw[if_pos h1,if_pos h1];by_cases h2:spB S h.2=true
  ·rw[if_pos h2,if_pos h2];by_cases h3:((N.any fun n=>n==h.1) || (U.any fun u=>u==h.2))=true
   ·rw[if_pos h3,if_pos h3];rfl
   rw[if_neg h3,if_neg h3];rfl
  rw[if_neg h2,if_neg h2];rfl
 rw[if_neg h1,if_neg h1];rfl
theorem ct_link (U:List (Int×Int))(x y:Int×Int):(decide ((1:Int)<(ctM sq x (U++[x]++[y]):Int)) || decide ((1:Int)<(ctM sq y (U++[x]++[y]):Int)))=(x==y || (U.any fun u=>u==x || u==y)):=by
 rw[Bool.eq_iff_iff];simp only[ct_app,ct_one sq_iff,Bool.or_eq_true,decide_eq_true_eq,beq_iff_eq,List.any_eq_true];have hx:=ct_pos sq_iff x U;have hy:=ct_pos sq_iff y U;have sx:sq x x=true:=(sq_iff _ _).2 rfl;have sy:sq y y=true:=(sq_iff _ _).2 rfl;rw[sx,sy];simp only[if_true];by_cases e:x=y
 ·subst e;simp[sx];omega
 have n1:sq x y=false:=by
  cases h:sq x y
  ·rfl
  exact absurd ((sq_iff _ _).1 h) e
 have n2:sq y x=false:=by
  cases h:sq y x
  ·rfl
  exact absurd ((sq_iff _ _).1 h).symm e
 rw[n1,n2];simp only[Bool.false_eq_true,if_false,e,false_or];constructor
 ·rintro (h | h)
  ·exact⟨x,hx.1 (by omega),.inl rfl⟩
  exact⟨y,hy.1 (by omega),.inr rfl⟩
 rintro⟨u,hu,rfl | rfl⟩
 ·have:=hx.2 hu;left;omega
 have:=hy.2 hu;right;omega
theorem ba_iff (a b:ByteArray):(a==b)=true↔a=b:=ba_eq
theorem ct_host {κ:Type}{q:κ→κ→Bool}(hq:∀a b,q a b=true↔a=b)(U:List κ)(x:κ):decide ((1:Int)<(ctM q x (U++[x]):Int))=(U.any fun u=>q u x):=by
 rw[Bool.eq_iff_iff];simp only[ct_app,ct_one hq,decide_eq_true_eq,List.any_eq_true];have hx:=ct_pos hq x U;have sx:q x x=true:=(hq _ _).2 rfl;rw[sx];simp only[if_true];constructor
 ·intro h;exact⟨x,hx.1 (by omega),sx⟩
 rintro⟨u,hu,e⟩;have e2:=(hq _ _).1 e;subst e2;have:=hx.2 hu;omega
theorem sps_take {Ls:LkQ}{k:Nat}(hk:k<Ls.length):spsL (Ls.take (k+1))=spsL (Ls.take k)++[Ls[k].1,Ls[k].2]:=by
 rw[List.take_succ_eq_append_getElem hk];unfold spsL;rw[List.flatMap_append];rfl
theorem sps_len (Ls:LkQ):(spsL Ls).length=2*Ls.length:=by
 induction Ls with
 | nil=>rfl
 | cons l Ls ih =>
   have e:spsL (l :: Ls)=l.1 :: l.2 :: spsL Ls:=rfl;rw[e];simp[ih];omega
end
section
open Go.ChangeShapes Go.WideShapes Go.ChangeAt Go.RowKit
structure Enc (α:Type) where
 c:α→List Value
 n:Nat
 len:∀x,(c x).length=n
 pos:0<n
 one:∀x u,u∈c x→u.oneCell'=true
def VAt (w:World)(g o:Nat)(vs:List Value):Prop:=∀j u,vs[j]?=some u→w.cell? ⟨g,o+j,none⟩=some u
theorem VAt.later {w w':World}{g o:Nat}{vs:List Value}(h:VAt w g o vs)(hb:Below w.heap.size w w'):VAt w' g o vs:=fun j u hu=>cell_later hb (h j u hu)
theorem vat_new (w:World)(vs:List Value)(t:TypeId):VAt (w.alloc (.cells vs.toArray t)) w.heap.size 0 vs:=by
 intro j u hu;rw[Nat.zero_add];have hj:j<vs.length:=(List.getElem?_eq_some_iff.1 hu).1;simp only[World.cell?,World.alloc];simp[hu]
section
variable {α:Type}{E:Enc α}
def GAt (E:Enc α)(w:World)(g o:Nat)(L:List α):Prop:=∀i (h:i<L.length),VAt w g (o+i*E.n) (E.c L[i])
theorem GAt.later {w w':World}{g o:Nat}{L:List α}(h:GAt E w g o L)(hb:Below w.heap.size w w'):GAt E w' g o L:=fun i hi=>(h i hi).later hb
theorem GAt.take {w:World}{g o:Nat}{L:List α}(h:GAt E w g o L)(k:Nat):GAt E w g o (L.take k):=by
 intro i hi;rw[List.getElem_take];exact h i (by simp at hi;omega)
theorem GAt.drop {w:World}{g o:Nat}{L:List α}(h:GAt E w g o L)(k:Nat):GAt E w g (o+k*E.n) (L.drop k):=by
 intro i hi;have hi2:k+i<L.length:=by simp at hi;omega
 have:=h (k+i) hi2;rw[List.getElem_drop];have e:o+(k+i)*E.n=o+k*E.n+i*E.n:=by rw[Nat.add_mul];omega
 rw[←e];exact this
def GS (E:Enc α)(w:World)(v:Value)(L:List α):Prop:=
 (∃ao cap,v=.slice ao 0 cap∧L=[])∨∃g o cap,v=.slice (some ⟨g,o,none⟩) L.length cap∧L.length≤cap∧cap≤maxLen∧GAt E w g o L
theorem GS.later {w w':World}{v:Value}{L:List α}(h:GS E w v L)(hb:Below w.heap.size w w'):GS E w' v L:=by
 rcases h with h | ⟨g,o,cap,h1,h2,h3,h4⟩
 ·exact .inl h
 exact .inr ⟨g,o,cap,h1,h2,h3,h4.later hb⟩
theorem GS.form {w:World}{v:Value}{L:List α}(h:GS E w v L):∃ao n cap,v=.slice ao n cap∧L.length=n∧n≤maxLen∧n≤cap∧(0<n→∃g o,ao=some ⟨g,o,none⟩∧GAt E w g o L∧cap≤maxLen):=by
 rcases h with ⟨ao,cap,rfl,rfl⟩ | ⟨g,o,cap,rfl,h1,h2,h3⟩
 ·exact⟨ao,0,cap,rfl,rfl,Nat.zero_le _,Nat.zero_le _,fun h=>absurd h (by omega)⟩
 exact⟨_,_,cap,rfl,rfl,Nat.le_trans h1 h2,h1,fun _=>⟨g,o,rfl,h3,h2⟩⟩
theorem GS.len {w:World}{ao:AdQ}{n cap:Nat}{L:List α}(h:GS E w (.slice ao n cap) L):L.length=n:=by
 rcases h with ⟨_,_,e,rfl⟩ | ⟨_,_,_,e,_⟩
 ·simp at e;simp[e]
 simp at e;exact e.2.1.symm
theorem GS.nil (w:World):GS E w (.slice none 0 0) []:=.inl ⟨none,0,rfl,rfl⟩
def cellsG (E:Enc α)(L:List α):List Value:=L.flatMap E.c
theorem cellsG_len (L:List α):(cellsG E L).length=L.length*E.n:=by
 induction L with
 | nil=>simp[cellsG]
 | cons x r ih =>
   simp only[cellsG,List.flatMap_cons,List.length_append,List.length_cons,E.len] at *;rw[ih,Nat.add_mul];omega
theorem cellsG_app (L M:List α):cellsG E (L++M)=cellsG E L++cellsG E M:=by simp[cellsG]
theorem cellsG_one (x:α):cellsG E [x]=E.c x:=by simp[cellsG]
theorem cellsG_at (L:List α):∀(i:Nat) (h:i<L.length) (j:Nat),j<E.n→(cellsG E L)[i*E.n+j]?=(E.c L[i])[j]?:=by
 induction L with
 | nil=>intro i h;simp at h
 | cons x r ih =>
   intro i h j hj;cases i with
   | zero =>
     simp only[cellsG,List.flatMap_cons,Nat.zero_mul,Nat.zero_add,List.getElem_cons_zero];rw[List.getElem?_append_left (by rw[E.len];exact hj)]
   | succ i =>
     have:=ih i (by simpa using h) j hj;simp only[cellsG,List.flatMap_cons,List.getElem_cons_succ] at this ⊢;rw[List.getElem?_append_right (by rw[E.len,Nat.add_mul];omega),E.len];have e:(i+1)*E.n+j-E.n=i*E.n+j:=by rw[Nat.add_mul];omega
     rw[e];exact this
theorem own_GS {w:World}{B e:Nat}{v:Value}{L:List α}(h:w.ownsRow B e E.n v L.length (cellsG E L)):GS E w v L:=by
 rcases h.2 with ⟨rfl,h0⟩ | ⟨g,cap,cur,rfl,_,_,h1,h2,_⟩
 ·exact .inl ⟨none,0,rfl,List.length_eq_zero_iff.1 h0⟩
 refine .inr ⟨g,0,cap,rfl,h1,h2,fun i hi j u hu=>?_⟩;have hj:j<E.n:=by
  have:=(List.getElem?_eq_some_iff.1 hu).1;rw[E.len] at this;exact this
 have hlt:i*E.n+j<L.length*E.n:=by
  have:(i+1)*E.n≤L.length*E.n:=Nat.mul_le_mul_right _ hi;rw[Nat.add_mul] at this;omega
 rw[Nat.zero_add,h.cellAt _ hlt,cellsG_at L i hi j hj];exact hu
theorem GAt.cells {w:World}{g o:Nat}{M:List α}(h:GAt E w g o M):∀j u,(cellsG E M)[j]?=some u→w.cell? ((⟨g,o,none⟩:Addr).add j)=some u:=by
 intro j u hu;have hj:j<M.length*E.n:=by
  have:=(List.getElem?_eq_some_iff.1 hu).1;rw[cellsG_len] at this;exact this
 have hadd:(⟨g,o,none⟩:Addr).add j=⟨g,o+j,none⟩:=by
  simp only[Addr.add]
  first
   | rfl
   | (split
      ·next h0=>rw[h0];rfl
      rfl)
 have hi:j / E.n<M.length:=Nat.div_lt_of_lt_mul (by rw[Nat.mul_comm];exact hj);have hm:j % E.n<E.n:=Nat.mod_lt _ E.pos;have e:j / E.n*E.n+j % E.n=j:=by rw[Nat.mul_comm];exact Nat.div_add_mod _ _
 have h1:=cellsG_at (E:=E) M (j / E.n) hi (j % E.n) hm;rw[e,hu] at h1;have h2:=h (j / E.n) hi (j % E.n) u h1.symm;rw[Nat.add_assoc,e] at h2;rw[hadd];exact h2
end
section
variable {α:Type}
theorem any_nextG {L:List α}{f:α→Bool}{k:Nat}(hk:k<L.length)(h:(L.take k).any f=false)(h2:f L[k]=false):(L.take (k+1)).any f=false:=by
 rw[List.take_succ_eq_append_getElem hk];simp only[List.any_append,h,List.any_cons,List.any_nil,h2,Bool.or_false]
theorem any_hitG {L:List α}{f:α→Bool}{k:Nat}(hk:k<L.length)(h2:f L[k]=true):L.any f=true:=List.any_eq_true.2 ⟨_,List.getElem_mem hk,h2⟩
def ixG (f:α→Bool)(L:List α):Int:=if L.any f then (L.findIdx f:Int) else -1
theorem ixG_hit {L:List α}{f:α→Bool}{k:Nat}(hk:k<L.length)(h:(L.take k).any f=false)(h2:f L[k]=true):ixG f L=k:=by
 rw[ixG,any_hitG hk h2,if_pos rfl]
 congr 1
 rw[List.findIdx_eq hk];refine⟨h2,fun j hj=>?_⟩;rw[List.any_eq_false] at h;have:=h L[j] (by rw[List.mem_take_iff_getElem];exact⟨j,by omega,rfl⟩);simpa using this
theorem ixG_no {L:List α}{f:α→Bool}(h:L.any f=false):ixG f L = -1:=by simp[ixG,h]
theorem ixG_any (L:List α)(f:α→Bool):decide (0≤ixG f L)=L.any f:=by
 unfold ixG;cases L.any f
 ·simp
 simp
end
section
variable {α:Type}
def smG (q:α→α→Bool):List α→List α→Bool
 | [],[]=>true
 | a :: l,b :: m=>q a b&&smG q l m
 | _,_=>false
theorem smG_iff {q:α→α→Bool}:∀{L M:List α},smG q L M=true↔L.length=M.length∧∀i (h1:i<L.length) (h2:i<M.length),q L[i] M[i]=true
 | [],[]=>by simp[smG]
 | [],_ :: _=>by simp[smG]
 | _ :: _,[]=>by simp[smG]
 | a :: l,b :: m=>by
   rw[smG,Bool.and_eq_true,smG_iff (L:=l) (M:=m)];constructor
   ·rintro⟨h1,h2,h3⟩;refine⟨by simp[h2],fun i hi hj=>?_⟩;cases i with
    | zero=>exact h1
    | succ i=>exact h3 i (by simpa using hi) (by simpa using hj)
   rintro⟨h1,h2⟩;refine⟨h2 0 (by simp) (by simp),by simpa using h1,fun i hi hj=>?_⟩;exact h2 (i+1) (by simpa using hi) (by simpa using hj)
theorem smG_len {q:α→α→Bool}{L M:List α}(h:L.length≠M.length):smG q L M=false:=by
 cases e:smG q L M
 ·rfl
 exact absurd (smG_iff.1 e).1 h
theorem smG_no {q:α→α→Bool}{L M:List α}{k:Nat}(h1:k<L.length)(h2:k<M.length)(h:q L[k] M[k]=false):smG q L M=false:=by
 cases e:smG q L M
 ·rfl
 have:=(smG_iff.1 e).2 k h1 h2;rw[h] at this;cases this
theorem smG_eq {q:α→α→Bool}(hq:∀a b,q a b=true↔a=b):∀{L M:List α},smG q L M=true↔L=M
 | [],[]=>by simp[smG]
 | [],_ :: _=>by simp[smG]
 | _ :: _,[]=>by simp[smG]
 | a :: l,b :: m=>by
   rw[smG,Bool.and_eq_true,smG_eq hq,hq];simp
end
section
variable {P:Program}{α:Type}{E:Enc α}
theorem gs_of {H:Type}{enc:TypeId×Value→H}{W:World}{base:Nat}{v:Value}{d:DataW H}{p:List MemPlace}(ts te:TypeId)(hu:P.underlying ts=some (.slice te))(hC:P.cellsOf te=E.n)(x0:α)
 (hel:∀(n:Nat) (cs:List Value) (x:DataW H×List MemPlace),DataW.trod enc P W 0 (fun _=>true) true n te cs=some x→∃y,cs=E.c y)
 (hv:Value.okWide P W .any base ts v) (h:DataW.Trod enc P W 0 (fun _=>true) true ts v d p):∃L,GS E W v L:=by
 obtain⟨a0,len0,cap0,rfl⟩:=okWide_slice hu hv;obtain⟨fuel,hf⟩:=h;have hf2:DataW.trod enc P W 0 (fun _=>true) true fuel ts [.slice a0 len0 cap0]=some (d,p):=hf
 rcases Go.Deep.open_slice hu hf2 with ⟨hc,hx⟩ | ⟨a,len,cap,m,k,D,Pl,hc,_,hl,hm,hmm,hx,hall⟩
 ·simp only[List.cons.injEq,and_true,Value.slice.injEq] at hc;obtain⟨rfl,rfl,rfl⟩:=hc;exact⟨[],.inl ⟨none,0,rfl,rfl⟩⟩
 simp only[List.cons.injEq,and_true,Value.slice.injEq] at hc;obtain⟨rfl,rfl,rfl⟩:=hc;simp only[if_true] at hmm;subst hmm
 rcases Nat.eq_zero_or_pos len0 with h0 | h0
 ·subst h0;exact⟨[],.inl ⟨_,_,rfl,rfl⟩⟩
 have each:∀i,i<m→∃y:α,∀j,j<E.n→W.cell? (a.add (i*E.n+j))=(E.c y)[j]?:=by
  intro i hi;obtain⟨cs,h1,h2⟩:=hall i hi;rw[hC] at h1;obtain⟨_,hlen,hcell⟩:=World.cells?_some h1;obtain⟨y,rfl⟩:=hel _ _ _ h2;refine⟨y,fun j hj=>?_⟩;have:=hcell j (by omega);rw[Go.Deep.add_add] at this;exact this
 have iR:Inhabited α:=⟨x0⟩;obtain⟨R,hR⟩:=Go.Deep.choose_lt each;obtain⟨sb,so,spot⟩:=a;have hspot:spot=none:=by
  have h1:=hR 0 (by omega) 0 E.pos;have h2:(E.c (R 0))[0]?.isSome=true:=by
   rw[List.getElem?_eq_getElem (by rw[E.len];exact E.pos)];rfl
  obtain⟨u,hu2⟩:=Option.isSome_iff_exists.1 h2;rw[hu2] at h1;simpa[Addr.add] using World.cell?_spot h1
 subst hspot;have hadd:∀j,(⟨sb,so,none⟩:Addr).add j=⟨sb,so+j,none⟩:=by
  intro j;simp only[Addr.add]
  first
   | rfl
   | (split
      ·next h0=>rw[h0];rfl
      rfl)
 refine⟨(List.range len0).map R,.inr ⟨sb,so,_,by simp,by simpa using hl,hm,fun i hi j u hu2=>?_⟩⟩;have hi2:i<len0:=by simpa using hi
 have e:((List.range len0).map R)[i]=R i:=by simp
 rw[e] at hu2;have hj:j<E.n:=by
  have:=(List.getElem?_eq_some_iff.1 hu2).1;rw[E.len] at this;exact this
 have hc:=hR i (by omega) j hj;rw[hadd,hu2,←Nat.add_assoc] at hc;exact hc
end
end
section
open Go.RowKit
def whN (Hs:HoQ)(n:ByteArray):Int:=ixG (fun h=>h.1==n) Hs
def swB (S a:Int):Bool:=decide (1≤a)&&decide (a≤S)
theorem sw_of {S a:Int}:swB S a=true↔1≤a∧a≤S:=by simp[swB]
def tsTo (Ts:TsQ):Nat→Int
 | 0=>0
 | k+1=>if tsTo Ts k=0 then tbN (Ts.getD k []) else tsTo Ts k
theorem ts_le {Ts:TsQ}{k:Nat}(h:tsTo Ts k≠0):∀{n:Nat},k≤n→tsTo Ts n=tsTo Ts k
 | 0,hn=>by
   obtain rfl:k=0:=by omega
   rfl
 | n+1,hn=>by
   by_cases e:k=n+1
   ·subst e;rfl
   have:=ts_le h (show k≤n by omega);rw[tsTo,if_neg (by rw[this];exact h),this]
def ntN (S:Int)(Ls:LkQ)(Hs:HoQ)(Ts:TsQ):Int:=
 if tpN S Ls Hs=0 then (if (Ts.length:Int)=S then tsTo Ts Ts.length else 3) else tpN S Ls Hs
theorem ts_0 {Ts:TsQ}:∀{n:Nat},tsTo Ts n=0→∀k,k<n→tbN (Ts.getD k [])=0
 | 0,_,k,hk=>by omega
 | n+1,h,k,hk=>by
   unfold tsTo at h;by_cases e:tsTo Ts n=0
   ·rw[if_pos e] at h;by_cases ek:k=n
    ·subst ek;exact h
    exact ts_0 e k (by omega)
   rw[if_neg e] at h;exact absurd h e
theorem nt_0 {S:Int}{Ls:LkQ}{Hs:HoQ}{Ts:TsQ}(h:ntN S Ls Hs Ts=0):tpN S Ls Hs=0∧(Ts.length:Int)=S∧∀k,k<Ts.length→tbN (Ts.getD k [])=0:=by
 unfold ntN at h;by_cases e:tpN S Ls Hs=0
 ·rw[if_pos e] at h;by_cases e2:(Ts.length:Int)=S
  ·rw[if_pos e2] at h;exact⟨e,e2,ts_0 h⟩
  rw[if_neg e2] at h;omega
 rw[if_neg e] at h;exact absurd h e
structure Wi where
 k:Int
 f:ByteArray
 t:ByteArray
 v:Int
def zeW:Wi:=⟨0,ByteArray.empty,ByteArray.empty,0⟩
def wkB (k:Int):Bool:=decide (1≤k)&&decide (k≤4)
def viB (w:Wi)(S:Int):Bool:=(w.k != 3) || swB S w.v
def nlB (w:Wi):Bool:=(w.f==ByteArray.empty)&&(w.t==ByteArray.empty)
def hoB (Hs:HoQ)(n:ByteArray):Bool:=Hs.any fun h=>h.1==n
def veB (w:Wi):Bool:=(w.k != 3)&&(w.v != 0)
def woN (S:Int)(Hs:HoQ)(w:Wi):Int:=
 if !wkB w.k || (!viB w S || veB w) then 1 else if w.k=4 then (if nlB w then 0 else 3) else if hoB Hs w.f&&hoB Hs w.t then 0 else 5
def wsTo (S:Int)(Hs:HoQ)(l:List Wi):Nat→Int
 | 0=>0
 | k+1=>if wsTo S Hs l k=0 then woN S Hs (l.getD k zeW) else wsTo S Hs l k
def wsN (S:Int)(Ls:LkQ)(Hs:HoQ)(l:List Wi):Int:=
 if tpN S Ls Hs=0 then (if 8<l.length then 4 else wsTo S Hs l l.length) else tpN S Ls Hs
theorem ws_le {S:Int}{Hs:HoQ}{l:List Wi}{k:Nat}(h:wsTo S Hs l k≠0):∀{n:Nat},k≤n→wsTo S Hs l n=wsTo S Hs l k
 | 0,hn=>by
   obtain rfl:k=0:=by omega
   rfl
 | n+1,hn=>by
   by_cases e:k=n+1
   ·subst e;rfl
   have:=ws_le h (show k≤n by omega);rw[wsTo,if_neg (by rw[this];exact h),this]
theorem ws_0 {S:Int}{Hs:HoQ}{l:List Wi}:∀{n:Nat},wsTo S Hs l n=0→∀k,k<n→woN S Hs (l.getD k zeW)=0
 | 0,_,k,hk=>by omega
 | n+1,h,k,hk=>by
   unfold wsTo at h;by_cases e:wsTo S Hs l n=0
   ·rw[if_pos e] at h;by_cases ek:k=n
    ·subst ek;exact h
    exact ws_0 e k (by omega)
   rw[if_neg e] at h;exact absurd h e
theorem getW {l:List Wi}{k:Nat}(hk:k<l.length):l.getD k zeW=l[k]:=by simp[List.getD,hk]
section
variable (Ls:LkQ)(Hs:HoQ)(Ts:TsQ)
end
section
variable {Ls:LkQ}{Hs:HoQ}{Ts:TsQ}
variable {Xs:HoQ}
variable {l:List Wi}
end
theorem wa_ext {a b:ByteArray}(h:a.data.toList=b.data.toList):a=b:=by
 obtain⟨⟨l⟩⟩:=a;obtain⟨⟨r⟩⟩:=b;simp at h;rw[h]
theorem wa_app (a b:ByteArray):(a++b).data.toList=a.data.toList++b.data.toList:=by simp[ByteArray.data_append]
theorem wa_as (a b c:ByteArray):a++(b++c)=a++b++c:=ByteArray.append_assoc.symm
def blW:ByteArray:=⟨#[32]⟩
theorem blW_lst:blW.data.toList=[32]:=rfl
def reaS:ByteArray:=⟨#[114,101,97,99,104]⟩
def apaS:ByteArray:=⟨#[97,112,97,114,116]⟩
def wayS:ByteArray:=⟨#[119,97,121]⟩
def looS:ByteArray:=⟨#[108,111,111,112,115]⟩
def woW (k:Int):ByteArray:=if k=1 then reaS else if k=2 then apaS else if k=3 then wayS else if k=4 then looS else ByteArray.empty
def whW (a:ByteArray):Int:=if a==ByteArray.empty then 0 else if a==reaS then 1 else if a==apaS then 2 else if a==wayS then 3 else if a==looS then 4 else 0
def shN (w:Wi):Int:=
 if !wkB w.k || !viB w 6 then 1 else if (w.k != 4) && !(nmB w.f&&nmB w.t) then 2 else if veB w || ((w.k==4) && !nlB w) then 3 else 0
def shT (w:Wi):ByteArray:=
 if w.k=4 then looS else if w.k=3 then woW w.k++(blW++(w.f++(blW++(w.t++(blW++dgS w.v))))) else woW w.k++(blW++(w.f++(blW++w.t)))
def shV (w:Wi):ByteArray:=if shN w=0 then shT w else ByteArray.empty
theorem jx_none:∀{l:List UInt8},32 ∉ l→Lib.indexByte l 32 = -1
 | [],_=>rfl
 | a :: l,h=>by
   have h1:(a==32)=false:=by
    rw[beq_eq_false_iff_ne];exact fun e=>h (by rw[e];exact List.mem_cons_self)
   rw[Lib.indexByte,h1,jx_none (fun e=>h (List.mem_cons_of_mem _ e))];rfl
theorem jx_some:∀{l r:List UInt8},32 ∉ l→Lib.indexByte (l++32 :: r) 32=(l.length:Nat)
 | [],_,_=>rfl
 | a :: l,r,h=>by
   have h1:(a==32)=false:=by
    rw[beq_eq_false_iff_ne];exact fun e=>h (by rw[e];exact List.mem_cons_self)
   rw[List.cons_append,Lib.indexByte,h1,jx_some (fun e=>h (List.mem_cons_of_mem _ e))];have:¬(((l.length:Nat):Int) == -1)=true:=by simp
   simp only[Bool.false_eq_true,if_false,this,List.length_cons];simp
theorem wut_one {a:ByteArray}(k:Nat)(h:32 ∉ a.data.toList):cutB k a=[a]:=cut_miss k (jx_none h)
theorem wut_at {a r:ByteArray}(h:32 ∉ a.data.toList):blAt (a++(blW++r))=(a.size:Nat)∧(a++(blW++r)).extract 0 a.size=a∧(a++(blW++r)).extract (a.size+1) (a++(blW++r)).size=r:=by
 have e:(a++(blW++r)).data.toList=a.data.toList++32 :: r.data.toList:=by rw[wa_app,wa_app,blW_lst];rfl
 refine⟨by rw[blAt,e,jx_some h,Lib.size_eq],wa_ext (by rw[Lib.extract_data,e,Lib.size_eq];simp),wa_ext (by
  rw[Lib.extract_to_end,e,Lib.size_eq];rw[List.drop_append,List.drop_eq_nil_of_le (by omega)];simp)⟩
theorem wut_word {a r:ByteArray}(k:Nat)(h:32 ∉ a.data.toList):cutB (k+1) (a++(blW++r))=a :: cutB k r:=by
 obtain⟨h1,h2,h3⟩:=wut_at (r:=r) h;rw[cut_hit k h1,h2,h3]
theorem wutA_word {a r:ByteArray}(h:32 ∉ a.data.toList):cutA (a++(blW++r))=a :: cutA r:=by
 obtain⟨h1,h2,h3⟩:=wut_at (r:=r) h;rw[cutA_hit h1,h2,h3]
theorem wutA_one {a:ByteArray}(h:32 ∉ a.data.toList):cutA a=[a]:=cutA_miss (jx_none h)
def jnW:List ByteArray→ByteArray
 | []=>ByteArray.empty
 | [a]=>a
 | a :: b :: r=>a++(blW++jnW (b :: r))
theorem wut_ne (k:Nat)(s:ByteArray):∃a r,cutB k s=a :: r:=by
 match h:cutB k s with
 | []=>have:=(cut_len k s).2;rw[h] at this;simp at this
 | a :: r=>exact⟨a,r,rfl⟩
theorem wut_join:∀(k:Nat) (s:ByteArray),jnW (cutB k s)=s
 | 0,_=>rfl
 | k+1,s=>by
   rcases bl_cases s with h | ⟨i,h,hi⟩
   ·rw[cut_miss _ h];rfl
   rw[cut_hit _ h];obtain⟨a,r,e⟩:=wut_ne k (s.extract (i+1) s.size);have ih:=wut_join k (s.extract (i+1) s.size);rw[e] at ih ⊢;rw[jnW,ih]
   apply wa_ext
   rw[wa_app,wa_app,blW_lst,Lib.extract_data,Lib.extract_to_end];have hg:=(Lib.indexByte_some h).1;have hlt:i<s.data.toList.length:=by rw[←Lib.size_eq];exact hi
   have hd:s.data.toList.drop i=32 :: s.data.toList.drop (i+1):=by
    rw[List.drop_eq_getElem_cons hlt];rw[List.getElem?_eq_getElem hlt] at hg;rw[Option.some.inj hg]
   simp only[Nat.sub_zero,List.drop_zero];rw[List.singleton_append,←hd,List.take_append_drop]
theorem nm_bl {a:ByteArray}(h:nmB a=true):32 ∉ a.data.toList:=by
 simp only[nmB,Bool.and_eq_true,List.all_eq_true] at h;intro hm;have:=h.2.2 _ hm;simp at this
theorem via_fin:∀k:Fin 7,(dcOk (dgS ((k:Nat):Int))&&(dcN (dgS ((k:Nat):Int))==((k:Nat):Int) && !((dgS ((k:Nat):Int)).data.toList.contains 32)))=true:=by decide +kernel
theorem via_back {p:Int}(h:0≤p∧p≤6):dcOk (dgS p)=true∧dcN (dgS p)=p∧32 ∉ (dgS p).data.toList:=by
 obtain⟨k,rfl⟩:∃k:Fin 7,p=((k:Nat):Int):=⟨⟨p.toNat,by omega⟩,by simp;omega⟩;have:=via_fin k;simp only[Bool.and_eq_true,beq_iff_eq] at this;exact⟨this.1,this.2.1,by simpa using this.2.2⟩
theorem via_big {s:ByteArray}(h0:byteN s 0≠48):∀{k:Nat},dgTo s (k+1)=true→10 ^ k≤dcTo s (k+1)
 | 0,h=>by
   simp only[dgTo,Bool.and_eq_true] at h;have:=dig_of h.2;simp[dcTo];omega
 | k+1,h=>by
   simp only[dgTo,Bool.and_eq_true] at h;have h1:=via_big h0 (k:=k) (by simp only[dgTo,Bool.and_eq_true];exact h.1);have h2:=dig_of h.2;have e:dcTo s (k+1+1)=10*dcTo s (k+1)+((byteN s (k+1):Nat)-48):=rfl;rw[e,Int.pow_succ];omega
theorem via1_fin:∀i:Fin 10,(dgS (dcN ⟨#[UInt8.ofNat (48+i)]⟩)).data.toList=[UInt8.ofNat (48+i)]:=by decide +kernel
theorem via_byte {c:UInt8}(h:digB c.toNat=true):∃i:Fin 10,c=UInt8.ofNat (48+i):=by
 have h1:=dig_of h;refine⟨⟨c.toNat-48,by omega⟩,?_⟩
 apply UInt8.toNat_inj.1
 simp only[UInt8.toNat_ofNat'];omega
theorem via_read {a:ByteArray}(h:dcOk a=true)(h2:dcN a≤9):dgS (dcN a)=a:=by
 simp only[dcOk,Bool.and_eq_true] at h;obtain⟨hh,hd⟩:=h;have hN:dcN a=dcTo a a.size:=by simp[dcN,dcOk,hh,hd]
 simp only[dcHd,Bool.and_eq_true,decide_eq_true_eq] at hh;obtain⟨z1,z9,z0⟩:=hh;have hs:a.size=1:=by
  by_cases hs:a.size=1
  ·exact hs
  exfalso
  have h0:byteN a 0≠48:=by
   simp[hs] at z0;exact z0
  obtain⟨k,hk⟩:∃k,a.size=k+1:=⟨a.size-1,by omega⟩;rw[hk] at hd hN;have hb:=via_big h0 hd
  rcases (by omega:k=1∨k=2∨k=3∨k=4∨k=5∨k=6∨k=7∨k=8) with rfl | rfl | rfl | rfl | rfl | rfl | rfl | rfl <;> simp at hb hN <;> omega
 have hl:a.data.toList.length=1:=by rw[←Lib.size_eq];exact hs
 match hq:a.data.toList,hl with
 | [c],_ =>
   have hb:byteN a 0=c.toNat:=by simp[byteN,hq]
   obtain⟨i,rfl⟩:=via_byte (c:=c) (by rw[←hb];exact dg_le (n:=a.size) (by omega) hd);have e:a=⟨#[UInt8.ofNat (48+i)]⟩:=wa_ext hq;exact wa_ext (by rw[hq,e];exact via1_fin i)
theorem shw_0 {w:Wi}(h:shN w=0):(w.k=4∧w.f=ByteArray.empty∧w.t=ByteArray.empty∧w.v=0)∨((w.k=1∨w.k=2)∧nmB w.f=true∧nmB w.t=true∧w.v=0)∨(w.k=3∧nmB w.f=true∧nmB w.t=true∧1≤w.v∧w.v≤6):=by
 unfold shN at h
 split at h
 ·cases h
 next h1 =>
 split at h
 ·cases h
 next h2 =>
 split at h
 ·cases h
 next h3 =>
 simp only[wkB,viB,swB,Bool.or_eq_true,Bool.not_eq_true',Bool.and_eq_false_iff,Bool.or_eq_false_iff,decide_eq_false_iff_not,bne_eq_false_iff_eq,not_or,not_and] at h1;simp only[Bool.and_eq_true,bne_iff_ne,Bool.not_eq_true',Bool.and_eq_false_iff,not_and,not_or,Bool.not_eq_false] at h2;simp only[veB,nlB,Bool.or_eq_true,Bool.and_eq_true,bne_iff_ne,beq_iff_eq,Bool.not_eq_true',Bool.and_eq_false_iff,not_or,not_and,Bool.not_eq_false,ne_eq,Decidable.not_not,ba_eq] at h3;obtain⟨⟨a1,a2⟩,a3⟩:=h1
 rcases (by omega:w.k=4∨w.k=3∨(w.k=1∨w.k=2)) with e | e | e
 ·exact .inl ⟨e,(h3.2 e).1,(h3.2 e).2,h3.1 (by omega)⟩
 ·have:=h2 (by omega);have:=a3 e;exact .inr (.inr ⟨e,(h2 (by omega)).1,(h2 (by omega)).2,by omega,by omega⟩)
 exact .inr (.inl ⟨e,(h2 (by omega)).1,(h2 (by omega)).2,h3.1 (by omega)⟩)
theorem sh_mk4:shN ⟨4,ByteArray.empty,ByteArray.empty,0⟩=0:=by decide +kernel
def wrK (a:ByteArray):Int:=if a==wayS then 3 else if a==apaS then 2 else if a==reaS then 1 else 0
def okW (w:Wi):Option Wi:=if shN w=0 then some w else none
def rdL:List ByteArray→Option Wi
 | [a,b,c]=>okW ⟨wrK a,b,c,0⟩
 | [a,b,c,d]=>if dcOk d&&((a==wayS) && !(dcN d==0)) then okW ⟨wrK a,b,c,dcN d⟩ else none
 | _=>none
def rdO (s:ByteArray):Option Wi:=if s==looS then some ⟨4,ByteArray.empty,ByteArray.empty,0⟩ else rdL (cutA s)
theorem ok_some {w x:Wi}(h:okW w=some x):w=x∧shN w=0:=by
 unfold okW at h
 split at h
 ·next e=>cases h;exact⟨rfl,e⟩
 cases h
theorem rea_bl:32 ∉ reaS.data.toList:=by decide
theorem apa_bl:32 ∉ apaS.data.toList:=by decide
theorem way_bl:32 ∉ wayS.data.toList:=by decide
theorem loo_bl:32 ∉ looS.data.toList:=by decide
theorem wrK_c (a:ByteArray):(a=wayS∧wrK a=3)∨(a=apaS∧wrK a=2)∨(a=reaS∧wrK a=1)∨wrK a=0:=by
 unfold wrK
 split
 ·next e=>exact .inl ⟨ba_eq.1 e,rfl⟩
 split
 ·next e=>exact .inr (.inl ⟨ba_eq.1 e,rfl⟩)
 split
 ·next e=>exact .inr (.inr (.inl ⟨ba_eq.1 e,rfl⟩))
 exact .inr (.inr (.inr rfl))
theorem sh_no {f t:ByteArray}{v:Int}:shN ⟨0,f,t,v⟩≠0:=by simp[shN,wkB]
theorem sh_no3 {f t:ByteArray}:shN ⟨3,f,t,0⟩≠0:=by simp[shN,wkB,viB,swB]
theorem rd_text {s:ByteArray}{w:Wi}(h:rdO s=some w):shN w=0∧shT w=s:=by
 unfold rdO at h
 split at h
 ·next e =>
  cases h;exact⟨sh_mk4,(ba_eq.1 e).symm⟩
 have hj:=wut_join s.size s;rw[show cutB s.size s=cutA s from rfl] at hj;unfold rdL at h
 split at h
 ·next a b c e =>
  rw[e] at hj;obtain⟨h1,h2⟩:=ok_some h;subst h1;refine⟨h2,?_⟩;have hj:a++(blW++(b++(blW++c)))=s:=hj
  rcases wrK_c a with ⟨rfl,e1⟩ | ⟨rfl,e1⟩ | ⟨rfl,e1⟩ | e1
  ·rw[e1] at h2;exact absurd h2 sh_no3
  ·rw[e1,←hj];rfl
  ·rw[e1,←hj];rfl
  rw[e1] at h2;exact absurd h2 sh_no
 ·next a b c d e =>
  rw[e] at hj
  split at h
  ·next hd =>
   obtain⟨h1,h2⟩:=ok_some h;subst h1;refine⟨h2,?_⟩;simp only[Bool.and_eq_true,ba_eq] at hd;obtain⟨d1,rfl,d2⟩:=hd;have hj:wayS++(blW++(b++(blW++(c++(blW++d)))))=s:=hj;have e1:wrK wayS=3:=rfl;rw[e1] at h2 ⊢
   rcases shw_0 h2 with ⟨k,_⟩ | ⟨k,_⟩ | ⟨_,_,_,_,k6⟩
   ·simp at k
   ·simp at k
   have:=via_read d1 (by simp only at k6;omega);rw[←hj];show wayS++(blW++(b++(blW++(c++(blW++dgS (dcN d))))))=_;rw[this]
  cases h
 cases h
theorem ne_loo {a r:ByteArray}(h:32 ∉ a.data.toList):(a++(blW++r)==looS)=false:=by
 cases e:(a++(blW++r)==looS) with
 | false=>rfl
 | true =>
   exfalso
   have e2:=ba_eq.1 e;have:32∈(a++(blW++r)).data.toList:=by rw[wa_app,wa_app,blW_lst];simp
   rw[e2] at this;exact loo_bl this
theorem text_rd {w:Wi}(h:shN w=0):rdO (shT w)=some w:=by
 have hh:=h;obtain⟨k,f,t,v⟩:=w
 rcases shw_0 h with ⟨e,e1,e2,e3⟩ | ⟨e,e1,e2,e3⟩ | ⟨e,e1,e2,e3,e4⟩
 ·simp only at e e1 e2 e3;subst e e1 e2 e3;show rdO looS=_;rw[rdO,if_pos (ba_eq.2 rfl)]
 ·simp only at e e1 e2 e3;subst e3
  rcases e with rfl | rfl
  ·show rdO (reaS++(blW++(f++(blW++t))))=_;rw[rdO,ne_loo rea_bl,wutA_word rea_bl,wutA_word (nm_bl e1),wutA_one (nm_bl e2)];show okW ⟨wrK reaS,f,t,0⟩=_;rw[show wrK reaS=1 from rfl,okW,if_pos hh]
  show rdO (apaS++(blW++(f++(blW++t))))=_;rw[rdO,ne_loo apa_bl,wutA_word apa_bl,wutA_word (nm_bl e1),wutA_one (nm_bl e2)];show okW ⟨wrK apaS,f,t,0⟩=_;rw[show wrK apaS=2 from rfl,okW,if_pos hh]
 simp only at e e1 e2 e3 e4;subst e;obtain⟨b1,b2,b3⟩:=via_back (p:=v) ⟨by omega,e4⟩;show rdO (wayS++(blW++(f++(blW++(t++(blW++dgS v))))))=_;rw[rdO,ne_loo way_bl,wutA_word way_bl,wutA_word (nm_bl e1),wutA_word (nm_bl e2),wutA_one b3];show (if dcOk (dgS v)&&((wayS==wayS) && !(dcN (dgS v)==0)) then okW ⟨wrK wayS,f,t,dcN (dgS v)⟩ else none)=_;rw[b1,b2,ba_eq.2 rfl,show wrK wayS=3 from rfl,if_pos (by simp;omega),okW,if_pos hh]
def wkW (c:List ByteArray)(V:Int):Wi:=⟨whW (c.getD 0 ByteArray.empty),if 2<c.length then c.getD 1 ByteArray.empty else ByteArray.empty,if 2<c.length then c.getD 2 ByteArray.empty else ByteArray.empty,if 3<c.length then V else 0⟩
theorem text_wk {w:Wi}(h:shN w=0){V:Int}(hV:∀d,cutB 3 (shT w)=[d,w.f,w.t,dgS w.v]→V=w.v):wkW (cutB 3 (shT w)) V=w:=by
 obtain⟨k,f,t,v⟩:=w
 rcases shw_0 h with ⟨e,e1,e2,e3⟩ | ⟨e,e1,e2,e3⟩ | ⟨e,e1,e2,e3,e4⟩
 ·simp only at e e1 e2 e3;subst e e1 e2 e3;have:cutB 3 (shT ⟨4,ByteArray.empty,ByteArray.empty,0⟩)=[looS]:=wut_one 3 loo_bl;rw[this];rfl
 ·simp only at e e1 e2 e3;subst e3
  rcases e with rfl | rfl
  ·have:cutB 3 (shT ⟨1,f,t,0⟩)=[reaS,f,t]:=by
    show cutB 3 (reaS++(blW++(f++(blW++t))))=_;rw[wut_word 2 rea_bl,wut_word 1 (nm_bl e1),wut_one 1 (nm_bl e2)]
   rw[this];rfl
  have:cutB 3 (shT ⟨2,f,t,0⟩)=[apaS,f,t]:=by
   show cutB 3 (apaS++(blW++(f++(blW++t))))=_;rw[wut_word 2 apa_bl,wut_word 1 (nm_bl e1),wut_one 1 (nm_bl e2)]
  rw[this];rfl
 simp only at e e1 e2 e3 e4;subst e;obtain⟨b1,b2,b3⟩:=via_back (p:=v) ⟨by omega,e4⟩;have:cutB 3 (shT ⟨3,f,t,v⟩)=[wayS,f,t,dgS v]:=by
  show cutB 3 (wayS++(blW++(f++(blW++(t++(blW++dgS v))))))=_;rw[wut_word 2 way_bl,wut_word 1 (nm_bl e1),wut_word 0 (nm_bl e2)];rfl
 rw[this,hV _ this];rfl
theorem wk_rd (s:ByteArray){V:Int}(hV:∀p:Int,1≤p→p≤6→(cutB 3 s).getD 3 ByteArray.empty=dgS p→V=p):
 (shN (wkW (cutB 3 s) V)=0∧shT (wkW (cutB 3 s) V)=s→rdO s=some (wkW (cutB 3 s) V))∧(¬(shN (wkW (cutB 3 s) V)=0∧shT (wkW (cutB 3 s) V)=s)→rdO s=none):=by
 constructor
 ·rintro⟨h1,h2⟩;have:=text_rd h1;rw[h2] at this;exact this
 intro hn;cases e:rdO s with
 | none=>rfl
 | some w =>
   exfalso
   obtain⟨h1,h2⟩:=rd_text e;have hw:wkW (cutB 3 s) V=w:=by
    rw[←h2];refine text_wk h1 (fun d hd=>?_)
    rcases shw_0 h1 with ⟨e,_⟩ | ⟨e,_⟩ | ⟨e,e1,e2,e3,e4⟩
    ·exfalso
     have hx:shT w=looS:=by rw[shT,if_pos e]
     rw[hx,wut_one 3 loo_bl] at hd;simp at hd
    ·exfalso
     rcases shw_0 h1 with ⟨k,_⟩ | ⟨_,e1,e2,_⟩ | ⟨k,_⟩
     ·omega
     ·have h32:32 ∉ (woW w.k).data.toList:=by
       rcases e with e | e
       ·rw[e];exact rea_bl
       rw[e];exact apa_bl
      have hx:shT w=woW w.k++(blW++(w.f++(blW++w.t))):=by rw[shT,if_neg (by omega),if_neg (by omega)]
      rw[hx,wut_word 2 h32,wut_word 1 (nm_bl e1),wut_one 1 (nm_bl e2)] at hd;simp at hd
     omega
    refine hV w.v e3 e4 ?_;rw[←h2,hd];rfl
   rw[hw] at hn;exact hn ⟨h1,h2⟩
def chW (c:UInt8):ByteArray:=⟨#[c]⟩
theorem chW_lst (c:UInt8):(chW c).data.toList=[c]:=rfl
section
variable {c:UInt8}
def nlT (c:UInt8):List ByteArray→ByteArray
 | []=>ByteArray.empty
 | a :: r=>a++(chW c++nlT c r)
end
def swcS:ByteArray:=⟨#[115,119,105,116,99,104,101,115]⟩
def lnkS:ByteArray:=⟨#[108,105,110,107]⟩
def hosS:ByteArray:=⟨#[104,111,115,116]⟩
def rulS:ByteArray:=⟨#[114,117,108,101]⟩
def spT (p:Int×Int):ByteArray:=dgS p.1++(chW 46++dgS p.2)
def swT (S:Int):ByteArray:=swcS++(blW++dgS S)
def lnT (l:(Int×Int)×(Int×Int)):ByteArray:=lnkS++(blW++(spT l.1++(blW++spT l.2)))
def hoT (h:ByteArray×(Int×Int)):ByteArray:=hosS++(blW++(h.1++(blW++spT h.2)))
def rlT (k:Int)(r:Ru):ByteArray:=rulS++(blW++(dgS k++(blW++rsS r.p r.m r.b r.o r.s r.v)))
def tbT:Nat→TsQ→List ByteArray
 | _,[]=>[]
 | k,T :: Ts=>T.map (rlT ((k+1:Nat):Int))++tbT (k+1) Ts
def linesT (S:Int)(Ls:LkQ)(Hs:HoQ)(Ts:TsQ)(ws:List Wi):List ByteArray:=swT S :: (Ls.map lnT++(Hs.map hoT++(tbT 0 Ts++ws.map shT)))
def textT (S:Int)(Ls:LkQ)(Hs:HoQ)(Ts:TsQ)(ws:List Wi):ByteArray:=nlT 10 (linesT S Ls Hs Ts ws)
structure RdT where
 S:Int
 Ls:LkQ
 Hs:HoQ
 Ts:TsQ
 ws:List Wi
 ph:Int
def spO (s:ByteArray):Option (Int×Int):=match cutC 46 s with
 | [a,b]=>if (dcOk a&&dcOk b)=true then some (dcN a,dcN b) else none
 | _=>none
def rlO (ws:List ByteArray):Option Ru:=if paN ws=0 then some ⟨rP ws,rM ws,rB ws,rO ws,rS ws,rV ws⟩ else none
def tbP (Ts:TsQ)(m:Nat)(r:Ru):TsQ:=((Ts++List.replicate (m-Ts.length) []).set (m-1) ((Ts++List.replicate (m-Ts.length) []).getD (m-1) []++[r]))
def phB (d:RdT)(k:Int):Bool:=decide (0≤d.ph)&&decide (d.ph≤k)
def lnO (d:RdT)(s:ByteArray):Option RdT:=match cutA s with
 | []=>none
 | w :: p =>
   if w=swcS then (match p with
    | [a]=>if (decide (d.ph<0)&&dcOk a)=true then some { d with S:=dcN a,ph:=0 } else none
    | _=>none)
   else if w=lnkS then (match p with
    | [a,b]=>(match spO a,spO b with
      | some x,some y=>if phB d 1=true then some { d with Ls:=d.Ls++[(x,y)],ph:=1 } else none
      | _,_=>none)
    | _=>none)
   else if w=hosS then (match p with
    | [a,b]=>(match spO b with
      | some y=>if phB d 2=true then some { d with Hs:=d.Hs++[(a,y)],ph:=2 } else none
      | none=>none)
    | _=>none)
   else if w=rulS then (match p with
    | a :: r=>if (dcOk a&&(decide (1≤dcN a)&&(decide (dcN a≤6)&&(decide ((d.Ts.length:Int)≤dcN a)&&phB d 3))))=true then (match rlO r with
      | some x=>some { d with Ts:=tbP d.Ts (dcN a).toNat x,ph:=3 }
      | none=>none) else none
    | _=>none)
   else (match rdO s with
    | some x=>if phB d 4=true then some { d with ws:=d.ws++[x],ph:=4 } else none
    | none=>none)
def lsO:RdT→List ByteArray→RdT ⊕ Nat
 | d,[]=>.inl d
 | d,s :: l=>match lnO d s with
   | some e=>(match lsO e l with | .inl x=>.inl x | .inr k=>.inr (k+1))
   | none=>.inr 0
def rd0:RdT:=⟨0,[],[],[],[],-1⟩
def fiT (S:Int)(Ts:TsQ):TsQ:=if S≤6 then Ts++List.replicate (S.toNat-Ts.length) [] else Ts
theorem ls_app:∀(l m:List ByteArray) (d:RdT),lsO d (l++m)=match lsO d l with | .inl e=>(match lsO e m with | .inl x=>.inl x | .inr k=>.inr (l.length+k)) | .inr k=>.inr k
 | [],m,d=>by
   rw[List.nil_append,show lsO d []=.inl d from rfl];cases h:lsO d m <;> simp[h]
 | s :: l,m,d=>by
   rw[List.cons_append,lsO,lsO];cases h:lnO d s with
   | none=>rfl
   | some e =>
     simp only;rw[ls_app l m e];cases lsO e l with
     | inr k=>rfl
     | inl x =>
       simp only;cases lsO x m with
       | inl y=>rfl
       | inr k=>simp only[List.length_cons];congr 1;omega
structure Op8 where
 w:Int
 a:Bool
 r:Ru
theorem tb_iff {L:List Ru}:tbN L=0↔L.length≤12∧(∀r∈L,r.ok=true)∧L.Pairwise (fun a b=>keyB a b=false):=by
 rw[tb_0,cl_no,okR,List.all_eq_true,List.pairwise_iff_getElem];refine and_congr Iff.rfl (and_congr Iff.rfl ⟨fun h i j hi hj hij=>?_,fun h i j hij hj=>?_⟩)
 ·have:=h i j hij hj;rw[getD_at hi,getD_at hj] at this;exact this
 rw[getD_at (by omega),getD_at hj];exact h i j (by omega) hj hij
end
end Go.Proofs.YtgddlpcacnolfaaGreatDoor
