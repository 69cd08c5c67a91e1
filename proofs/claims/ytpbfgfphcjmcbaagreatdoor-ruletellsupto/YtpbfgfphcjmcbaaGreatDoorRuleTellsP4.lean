/- Contracts and facts on the way to RuleTells, joined into one text: RefReadAny, CubePrint, RulePrint, RefDigits, RefShow, RuleTabMath, RuleRefMath, RuleTab, RefTurned, RuleTwo, Quiet, RefFind, RefTable, OwnInts, RefInts, RuleOrder. -/
import Derived.Test.YtpbfgfphcjmcbaaGreatDoorRuleTellsP3
namespace Go.Proofs.YtpbfgfphcjmcbaaGreatDoor
set_option linter.unusedSimpArgs false
set_option linter.unusedVariables false
set_option maxHeartbeats 16000000
set_option maxRecDepth 100000
open Go.Proofs.Tryz
open IntKind (i64)
section
open Go.RowKit
theorem ne_true {x:Int}(h:x≠0):(x != 0)=true:=by simpa using h
theorem pa_no {ws:List ByteArray}(h:rdW ws=false):paV ws=.agg #[.int i64 0,.int i64 0,.int i64 0,.int i64 0,.int i64 0,.int i64 0]∧paN ws=2:=
 ⟨paV_no (by rw[paN_no h];decide),paN_no h⟩
theorem readRule_any (s:ByteArray)(w:World)(hs:s.size≤1048576):
 Calls prog 9 #[.string s] w fun e w'=>e=.returned (.tuple #[paV (cutA s),.int i64 (paN (cutA s))])∧Below w.heap.size w w':=by
 have bad:∀{P:Value→Int→Prop},rdW (cutA s)=false→P (.agg #[.int i64 0,.int i64 0,.int i64 0,.int i64 0,.int i64 0,.int i64 0]) 2→P (paV (cutA s)) (paN (cutA s)):=fun {P} h hp=>by
  obtain⟨e1,e2⟩:=pa_no h;rw[e1,e2];exact hp
 by_cases hl:(cutA s).length=3∨(cutA s).length=4∨(cutA s).length=6
 ·match hws:cutA s with
  | []=>rw[hws] at hl;simp at hl
  | [_]=>rw[hws] at hl;simp at hl
  | [_,_]=>rw[hws] at hl;simp at hl
  | [a,b,c] =>
    rw[hws] at bad;cases h1:dcOk a
    ·exact bad (P:=fun V N=>Calls prog 9 #[.string s] w fun e w'=>e=.returned (.tuple #[V,.int i64 N])∧Below w.heap.size w w') (by simp[rdW,h1]) (rd_num3 s w hs a b c hws h1)
    cases h2:psOk b
    ·exact bad (P:=fun V N=>Calls prog 9 #[.string s] w fun e w'=>e=.returned (.tuple #[V,.int i64 N])∧Below w.heap.size w w') (by simp[rdW,h2]) (rd_cube3 s w hs a b c hws h1 h2)
    cases h3:(c.toList==[100,114,111,112])
    ·exact bad (P:=fun V N=>Calls prog 9 #[.string s] w fun e w'=>e=.returned (.tuple #[V,.int i64 N])∧Below w.heap.size w w') (by simp[rdW,deOk,h3]) (rd_drop3 s w hs a b c hws h1 h2 h3)
    have e:paN [a,b,c]=ruN (dcN a) (psM b) (psB b) 0 0 0:=paN_yes (by simp[rdW,deOk,h1,h2,h3]);by_cases h9:ruN (dcN a) (psM b) (psB b) 0 0 0=0
    ·rw[paV_yes (by rw[e];exact h9),e,h9];exact rd_good3 s w hs a b c hws h1 h2 h3 h9
    rw[paV_no (by rw[e];exact h9),e];exact rd_range3 s w hs a b c hws h1 h2 h3 (ne_true h9)
  | [a,b,c,d] =>
    rw[hws] at bad;cases h1:dcOk a
    ·exact bad (P:=fun V N=>Calls prog 9 #[.string s] w fun e w'=>e=.returned (.tuple #[V,.int i64 N])∧Below w.heap.size w w') (by simp[rdW,h1]) (rd_num4 s w hs a b c d hws h1)
    cases h2:psOk b
    ·exact bad (P:=fun V N=>Calls prog 9 #[.string s] w fun e w'=>e=.returned (.tuple #[V,.int i64 N])∧Below w.heap.size w w') (by simp[rdW,h2]) (rd_cube4 s w hs a b c d hws h1 h2)
    cases h3:(c.toList==[111,117,116])
    ·exact bad (P:=fun V N=>Calls prog 9 #[.string s] w fun e w'=>e=.returned (.tuple #[V,.int i64 N])∧Below w.heap.size w w') (by simp[rdW,deOk,h3]) (rd_out4 s w hs a b c d hws h1 h2 h3)
    cases h5:dcOk d
    ·exact bad (P:=fun V N=>Calls prog 9 #[.string s] w fun e w'=>e=.returned (.tuple #[V,.int i64 N])∧Below w.heap.size w w') (by simp[rdW,deOk,h5]) (rd_port4 s w hs a b c d hws h1 h2 h3 h5)
    cases h6:(dcN d==0)
    ·have e:paN [a,b,c,d]=ruN (dcN a) (psM b) (psB b) (dcN d) 0 0:=paN_yes (by simp only[rdW,deOk,h1,h2,h3,h5,h6];rfl);by_cases h9:ruN (dcN a) (psM b) (psB b) (dcN d) 0 0=0
     ·rw[paV_yes (by rw[e];exact h9),e,h9];exact rd_good4 s w hs a b c d hws h1 h2 h3 h5 h6 h9
     rw[paV_no (by rw[e];exact h9),e];exact rd_range4 s w hs a b c d hws h1 h2 h3 h5 h6 (ne_true h9)
    exact bad (P:=fun V N=>Calls prog 9 #[.string s] w fun e w'=>e=.returned (.tuple #[V,.int i64 N])∧Below w.heap.size w w') (by simp only[rdW,deOk,h1,h2,h3,h5,h6];rfl) (rd_zero4 s w hs a b c d hws h1 h2 h3 h5 h6)
  | [_,_,_,_,_]=>rw[hws] at hl;simp at hl
  | [a,b,c,d,e,f] =>
    rw[hws] at bad;cases h1:dcOk a
    ·exact bad (P:=fun V N=>Calls prog 9 #[.string s] w fun e w'=>e=.returned (.tuple #[V,.int i64 N])∧Below w.heap.size w w') (by simp[rdW,h1]) (rd_num6 s w hs a b c d e f hws h1)
    cases h2:psOk b
    ·exact bad (P:=fun V N=>Calls prog 9 #[.string s] w fun e w'=>e=.returned (.tuple #[V,.int i64 N])∧Below w.heap.size w w') (by simp[rdW,h2]) (rd_cube6 s w hs a b c d e f hws h1 h2)
    cases h3:(c.toList==[111,117,116])
    ·exact bad (P:=fun V N=>Calls prog 9 #[.string s] w fun e w'=>e=.returned (.tuple #[V,.int i64 N])∧Below w.heap.size w w') (by simp only[rdW,deOk,h1,h2,h3];rfl) (rd_out6 s w hs a b c d e f hws h1 h2 h3)
    cases h5:dcOk d
    ·exact bad (P:=fun V N=>Calls prog 9 #[.string s] w fun e w'=>e=.returned (.tuple #[V,.int i64 N])∧Below w.heap.size w w') (by simp only[rdW,deOk,h1,h2,h3,h5];rfl) (rd_port6 s w hs a b c d e f hws h1 h2 h3 h5)
    cases h6:(dcN d==0)
    ·cases h7:(e.toList==[115,101,116])
     ·exact bad (P:=fun V N=>Calls prog 9 #[.string s] w fun e w'=>e=.returned (.tuple #[V,.int i64 N])∧Below w.heap.size w w') (by simp only[rdW,deOk,h1,h2,h3,h5,h6,h7];rfl) (rd_set6 s w hs a b c d e f hws h1 h2 h3 h5 h6 h7)
     cases h8:psOk f
     ·exact bad (P:=fun V N=>Calls prog 9 #[.string s] w fun e w'=>e=.returned (.tuple #[V,.int i64 N])∧Below w.heap.size w w') (by simp only[rdW,deOk,h1,h2,h3,h5,h6,h7,h8];rfl) (rd_what6 s w hs a b c d e f hws h1 h2 h3 h5 h6 h7 h8)
     cases h10:(psM f==0)
     ·have ee:paN [a,b,c,d,e,f]=ruN (dcN a) (psM b) (psB b) (dcN d) (psM f) (psB f):=paN_yes (by simp only[rdW,deOk,h1,h2,h3,h5,h6,h7,h8,h10];rfl);by_cases h9:ruN (dcN a) (psM b) (psB b) (dcN d) (psM f) (psB f)=0
      ·rw[paV_yes (by rw[ee];exact h9),ee,h9];exact rd_good6 s w hs a b c d e f hws h1 h2 h3 h5 h6 h7 h8 h10 h9
      rw[paV_no (by rw[ee];exact h9),ee];exact rd_range6 s w hs a b c d e f hws h1 h2 h3 h5 h6 h7 h8 h10 (ne_true h9)
     exact bad (P:=fun V N=>Calls prog 9 #[.string s] w fun e w'=>e=.returned (.tuple #[V,.int i64 N])∧Below w.heap.size w w') (by simp only[rdW,deOk,h1,h2,h3,h5,h6,h7,h8,h10];rfl) (rd_none6 s w hs a b c d e f hws h1 h2 h3 h5 h6 h7 h8 h10)
    exact bad (P:=fun V N=>Calls prog 9 #[.string s] w fun e w'=>e=.returned (.tuple #[V,.int i64 N])∧Below w.heap.size w w') (by simp only[rdW,deOk,h1,h2,h3,h5,h6];rfl) (rd_zero6 s w hs a b c d e f hws h1 h2 h3 h5 h6)
  | _ :: _ :: _ :: _ :: _ :: _ :: _ :: _=>rw[hws] at hl;simp at hl
 refine bad (P:=fun V N=>Calls prog 9 #[.string s] w fun e w'=>e=.returned (.tuple #[V,.int i64 N])∧Below w.heap.size w w') (rd_no hl) ?_;exact rd_len0 s w hs _ rfl (fun h=>hl (.inl h)) (fun h=>hl (.inr (.inl h))) (fun h=>hl (.inr (.inr h)))
theorem letter_any (m b x:Int)(w:World):
 Calls prog 44 #[.agg #[.int i64 m,.int i64 b],.int i64 x] w fun e w'=>e=.returned (.int .u8 (ltr m b x))∧Below w.heap.size w w':=by
 cases h1:(bits .and .i64 m x==0)
 ·cases h2:(bits .and .i64 b x==0)
  ·have e:ltr m b x=49:=by simp only[ltr,h1,h2];rfl
   rw[e];clear e;go_enter func44,ntmps44;go_wp2;go_ret;exact⟨rfl,(bRQ _ _).alloc (nLQ _) _⟩
  have e:ltr m b x=48:=by simp only[ltr,h1,h2];rfl
  rw[e];clear e;go_enter func44,ntmps44;go_wp2;go_ret;exact⟨rfl,(bRQ _ _).alloc (nLQ _) _⟩
 have e:ltr m b x=42:=by simp only[ltr,h1];rfl
 rw[e];clear e;go_enter func44,ntmps44;go_wp2;go_ret;exact⟨rfl,(bRQ _ _).alloc (nLQ _) _⟩
def PrInv (m b:Int)(w:World)(B k:Nat)(w':World):Prop:=
 Below w.heap.size w w'∧w.heap.size<B∧B<w'.heap.size ∧
  w'.cell? ⟨w.heap.size,0,none⟩=some (.int i64 m)∧w'.cell? ⟨w.heap.size,1,none⟩=some (.int i64 b) ∧
  (w'.cell? ⟨B,0,none⟩=some (.int .u8 (ltrTo m b k 0))∧w'.cell? ⟨B,1,none⟩=some (.int .u8 (ltrTo m b k 1)) ∧
  w'.cell? ⟨B,2,none⟩=some (.int .u8 (ltrTo m b k 2))∧w'.cell? ⟨B,3,none⟩=some (.int .u8 (ltrTo m b k 3))) ∧
  (w'.frozen? ⟨B,0,none⟩=false∧w'.frozen? ⟨B,1,none⟩=false∧w'.frozen? ⟨B,2,none⟩=false∧w'.frozen? ⟨B,3,none⟩=false)
theorem PrInv.later {m b:Int}{w W w':World}{B k:Nat}(h:PrInv m b w B k W)(hb:Below W.heap.size W w'):PrInv m b w B k w':=by
 obtain⟨hB,h0,hsz,hm,hb',⟨c0,c1,c2,c3⟩,⟨f0,f1,f2,f3⟩⟩:=h;have fz:∀o,w'.frozen? ⟨B,o,none⟩=W.frozen? ⟨B,o,none⟩:=fun o=>hb.frozen (p:=⟨B,o,none⟩) hsz
 exact⟨hB.trans (hb.mono hB.size),h0,Nat.lt_of_lt_of_le hsz hb.size,cell_later hb hm,cell_later hb hb',⟨cell_later hb c0,cell_later hb c1,cell_later hb c2,cell_later hb c3⟩,
  ⟨(fz 0).trans f0,(fz 1).trans f1,(fz 2).trans f2,(fz 3).trans f3⟩⟩
theorem ltrTo_lt {m b:Int}{k j:Nat}(h:j<k):ltrTo m b k j=ltrAt m b j:=by simp[ltrTo,h]
theorem ltrTo_ne {m b:Int}{k j:Nat}(h:j≠k):ltrTo m b (k+1) j=ltrTo m b k j:=by
 unfold ltrTo;by_cases hj:j<k
 ·rw[if_pos hj,if_pos (by omega)]
 rw[if_neg hj,if_neg (by omega)]
theorem PrInv.step {m b:Int}{w w':World}{B k:Nat}(h:PrInv m b w B k w')(x:Int)(hx:x=bitN k):PrInv m b w B (k+1) (w'.setCell ⟨B,k,none⟩ (.int .u8 (ltr m b x))):=by
 obtain⟨hB,h0,hsz,hm,hb',⟨c0,c1,c2,c3⟩,⟨f0,f1,f2,f3⟩⟩:=h;subst hx;have hc:∀j,w'.cell? ⟨B,j,none⟩=some (.int .u8 (ltrTo m b k j))→(w'.setCell ⟨B,k,none⟩ (.int .u8 (ltr m b (bitN k)))).cell? ⟨B,j,none⟩=some (.int .u8 (ltrTo m b (k+1) j)):=by
  intro j hcj;by_cases e:j=k
  ·subst e;rw[World.cell?_setCell_same _ _ _ hcj,ltrTo_lt (by omega)];rfl
  rw[World.cell?_setCell_other _ _ _ _ (by simp <;> omega),hcj,ltrTo_ne e]
 refine⟨hB.setCell (by simp;omega) _,h0,by simpa using hsz,?_,?_,⟨hc 0 c0,hc 1 c1,hc 2 c2,hc 3 c3⟩,⟨?_,?_,?_,?_⟩⟩
 ·rw[World.cell?_setCell_other _ _ _ _ (by simp <;> omega),hm]
 ·rw[World.cell?_setCell_other _ _ _ _ (by simp <;> omega),hb']
 all_goals simp[*]
theorem print_ok (m b:Int)(w:World)(h:okB m b=true):
 Calls prog 27 #[.agg #[.int i64 m,.int i64 b]] w fun e w'=>e=.returned (.tuple #[.string (prS m b),.nilIface])∧Below w.heap.size w w':=by
 go_enter func27,ntmps27
 go_wp2_with fail
 refine (check_ok _ _ _ h).mono ?_;rintro e w1 ⟨rfl,hb1⟩;obtain⟨hc1,hf1⟩:=bcell hb1;have hz1:w.heap.size<w1.heap.size:=by have:=hb1.size;simp at this;omega
 go_wp2;have hI:PrInv m b w w1.heap.size 0 (w1.alloc (.cells #[Value.int IntKind.u8 0,Value.int IntKind.u8 0,Value.int IntKind.u8 0,Value.int IntKind.u8 0] 79)):=by
  refine⟨((((bRQ _ _).alloc (nLQ _) _).trans (hb1.mono (by simp))).alloc (by omega) _),hz1,by simp,?_,?_,⟨?_,?_,?_,?_⟩,⟨?_,?_,?_,?_⟩⟩
  ·rw[World.cell?_alloc_past _ _ _ hz1,hc1 _ _ (by simp)];simp
  ·rw[World.cell?_alloc_past _ _ _ hz1,hc1 _ _ (by simp)];simp
  all_goals simp[ltrTo]
 clear hb1 hc1 hf1 hz1
 generalize w1.alloc (.cells #[Value.int IntKind.u8 0,Value.int IntKind.u8 0,Value.int IntKind.u8 0,Value.int IntKind.u8 0] 79)=W1 at *
 generalize w1.heap.size=B at *
 clear w1
 go_loopw [12] (fun i w'=>∃k:Nat,k≤4∧i=.int i64 k∧PrInv m b w B k w') (fun i _=>4-(intOf i).toNat)
 case atStart=>exact⟨0,by omega,rfl,hI⟩
 case round =>
  obtain⟨k,hk,rfl,hI'⟩:=hrel;clear hI;obtain⟨hB,h0,hsz,hm,hb,⟨c0,c1,c2,c3⟩,⟨f0,f1,f2,f3⟩⟩:=id hI';have HI:Hid (PrInv m b w B k wr):=hI';clear hI'
  rcases (by omega:k=0∨k=1∨k=2∨k=3∨k=4) with rfl | rfl | rfl | rfl | rfl
  ·go_wp2
   go_region_with (first | (go_at_call 45;refine (bitAt_any _ _ (by decide) (by decide)).mono ?_;rintro e w' ⟨rfl,rfl⟩) | (go_at_call 44;refine (letter_any _ _ _ _).mono ?_;rintro e w' ⟨rfl,hb⟩;have HI2:=HI.out.later (((Below.refl _ wr).drew).trans hb);obtain⟨hB',h0',hsz',hm',hb',⟨c0',c1',c2',c3'⟩,⟨f0',f1',f2',f3'⟩⟩:=id HI2;replace HI2:Hid (PrInv m b w B 0 w'):=HI2))
   all_goals
    go_wp2;go_roundw
    case rel=>exact⟨1,by omega,rfl,HI2.out.step _ (by decide)⟩
    case measure=>simp[intOf]
  ·go_wp2
   go_region_with (first | (go_at_call 45;refine (bitAt_any _ _ (by decide) (by decide)).mono ?_;rintro e w' ⟨rfl,rfl⟩) | (go_at_call 44;refine (letter_any _ _ _ _).mono ?_;rintro e w' ⟨rfl,hb⟩;have HI2:=HI.out.later (((Below.refl _ wr).drew).trans hb);obtain⟨hB',h0',hsz',hm',hb',⟨c0',c1',c2',c3'⟩,⟨f0',f1',f2',f3'⟩⟩:=id HI2;replace HI2:Hid (PrInv m b w B 1 w'):=HI2))
   all_goals
    go_wp2;go_roundw
    case rel=>exact⟨2,by omega,rfl,HI2.out.step _ (by decide)⟩
    case measure=>simp[intOf]
  ·go_wp2
   go_region_with (first | (go_at_call 45;refine (bitAt_any _ _ (by decide) (by decide)).mono ?_;rintro e w' ⟨rfl,rfl⟩) | (go_at_call 44;refine (letter_any _ _ _ _).mono ?_;rintro e w' ⟨rfl,hb⟩;have HI2:=HI.out.later (((Below.refl _ wr).drew).trans hb);obtain⟨hB',h0',hsz',hm',hb',⟨c0',c1',c2',c3'⟩,⟨f0',f1',f2',f3'⟩⟩:=id HI2;replace HI2:Hid (PrInv m b w B 2 w'):=HI2))
   all_goals
    go_wp2;go_roundw
    case rel=>exact⟨3,by omega,rfl,HI2.out.step _ (by decide)⟩
    case measure=>simp[intOf]
  ·go_wp2
   go_region_with (first | (go_at_call 45;refine (bitAt_any _ _ (by decide) (by decide)).mono ?_;rintro e w' ⟨rfl,rfl⟩) | (go_at_call 44;refine (letter_any _ _ _ _).mono ?_;rintro e w' ⟨rfl,hb⟩;have HI2:=HI.out.later (((Below.refl _ wr).drew).trans hb);obtain⟨hB',h0',hsz',hm',hb',⟨c0',c1',c2',c3'⟩,⟨f0',f1',f2',f3'⟩⟩:=id HI2;replace HI2:Hid (PrInv m b w B 3 w'):=HI2))
   all_goals
    go_wp2;go_roundw
    case rel=>exact⟨4,by omega,rfl,HI2.out.step _ (by decide)⟩
    case measure=>simp[intOf]
  have hconv:=run_convert_bytes_arg (P:=prog) wr 82 5 underlying82 underlying5 B 0 4 4 [ltrAt m b 0,ltrAt m b 1,ltrAt m b 2,ltrAt m b 3] rfl (by
   intro i hi
   rcases (by omega:i=0∨i=1∨i=2∨i=3) with rfl | rfl | rfl | rfl <;> simp[*,ltrTo]) 9 underlying9
  clear c0 c1 c2 c3 f0 f1 f2 f3 hm hb;go_wp2
  go_ret2
  exact⟨rfl,hB⟩
def rsH (p m b:Int):ByteArray:=dgS p++⟨#[32]⟩++prS m b
def rsO (p m b o:Int):ByteArray:=rsH p m b++(⟨#[32,111,117,116,32]⟩++dgS o)
def rsS (p m b o s v:Int):ByteArray:=
 if o=0 then rsH p m b++⟨#[32,100,114,111,112]⟩ else if s=0 then rsO p m b o else rsO p m b o++(⟨#[32,115,101,116,32]⟩++prS s v)
theorem dg_size (p:Int):(dgS p).size≤2:=by
 unfold dgS
 split
 ·exact Nat.le_succ 1
 exact Nat.le_refl 2
theorem pr_size (m b:Int):(prS m b).size=4:=rfl
theorem set_ok {p o s v:Int}(h1:ruIn p o s v=true)(h2:ruSet o s v=true):okB s v=true:=by
 simp only[ruIn,Bool.and_eq_true] at h1;simp only[ruSet,Bool.and_eq_true] at h2;simp[okB,h1.2,h2.1]
theorem cells6 {w w1:World}{p m b o s v:Int}(hb:Below (w.alloc (.cells #[.int i64 p,.int i64 m,.int i64 b,.int i64 o,.int i64 s,.int i64 v] 25)).heap.size (w.alloc (.cells #[.int i64 p,.int i64 m,.int i64 b,.int i64 o,.int i64 s,.int i64 v] 25)) w1):
 (w1.cell? ⟨w.heap.size,0,none⟩=some (.int i64 p)∧w1.cell? ⟨w.heap.size,1,none⟩=some (.int i64 m)∧w1.cell? ⟨w.heap.size,2,none⟩=some (.int i64 b)∧w1.cell? ⟨w.heap.size,3,none⟩=some (.int i64 o)∧w1.cell? ⟨w.heap.size,4,none⟩=some (.int i64 s)∧w1.cell? ⟨w.heap.size,5,none⟩=some (.int i64 v))∧w.heap.size<w1.heap.size:=by
 have hs:=hb.size;simp at hs;refine⟨⟨?_,?_,?_,?_,?_,?_⟩,by omega⟩ <;> (rw[hb.cell (p:=⟨w.heap.size,_,none⟩) (by simp)];simp)
theorem below_one {w w1:World}{o:Obj}(hb:Below (w.alloc o).heap.size (w.alloc o) w1):Below w.heap.size w w1:=
 ((bRQ _ _).alloc (nLQ _) _).trans (hb.mono (by simp))
theorem ruPrint_bad (p m b o s v:Int)(w:World)(h:ruOk p m b o s v=false):
 Calls prog 8 #[.agg #[.int i64 p,.int i64 m,.int i64 b,.int i64 o,.int i64 s,.int i64 v]] w fun e w'=>e=.returned (.tuple #[.string ⟨#[]⟩,.iface 55 (.int i64 (ruN p m b o s v))])∧Below w.heap.size w w':=by
 have hn:=ruN_ne h;go_enter func8,ntmps8
 go_wp2_with fail
 refine (ruCheck_any _ _ _ _ _ _ _).mono ?_;rintro e w1 ⟨rfl,hb1⟩;rw[no_ne hn];go_wp2;refine bodyPost_ret (v:=.tuple #[.string ⟨#[]⟩,.iface 55 (.int i64 (ruN p m b o s v))]) (by simp[results,results8,go_sem]) rfl ⟨rfl,?_⟩;exact ((bRQ _ _).alloc (nLQ _) _).trans (hb1.mono (by simp))
theorem ruPrint_ok (p m b o s v:Int)(w:World)(h:ruOk p m b o s v=true):
 Calls prog 8 #[.agg #[.int i64 p,.int i64 m,.int i64 b,.int i64 o,.int i64 s,.int i64 v]] w fun e w'=>e=.returned (.tuple #[.string (rsS p m b o s v),.nilIface])∧Below w.heap.size w w':=by
 have hn:=ruN_ok h;obtain⟨g1,g2,g3⟩:=ru_ok h;have g4:=set_ok g1 g3;obtain⟨⟨⟨p0,p1⟩,⟨o0,o1⟩⟩,_⟩:=ru_in g1;have d1:=dg_size p;have d2:=dg_size o;have d3:=pr_size m b;have d4:=pr_size s v;by_cases ho:o=0
 ·have e:rsS p m b o s v=rsH p m b++⟨#[32,100,114,111,112]⟩:=by simp[rsS,ho]
  rw[e];clear e h g1 g3;have ho2:(o==0)=true:=by simpa using ho
  clear ho;go_enter func8,ntmps8
  go_wp2_with fail
  refine (ruCheck_any _ _ _ _ _ _ _).mono ?_;rintro e w1 ⟨rfl,hb1⟩;rw[no_ok hn];obtain⟨⟨q0,q1,q2,q3,q4,q5⟩,lt1⟩:=cells6 hb1;have hB:=below_one hb1;clear hb1
  go_wp2_with fail
  refine (print_ok _ _ _ g2).mono ?_;rintro e w2 ⟨rfl,hb2⟩;have r0:=cell_later hb2 q0;have r3:=cell_later hb2 q3;have hB2:=hB.trans (hb2.mono hB.size);have lt2:=Nat.lt_of_lt_of_le lt1 hb2.size;clear hb2 q0 q1 q2 q3 q4 q5 hB
  go_wp2_with fail
  refine (itoa_any _ _ p0 (by omega)).mono ?_;rintro e w' ⟨rfl,rfl⟩;go_wp2;refine bodyPost_ret (v:=.tuple #[.string (rsH p m b++⟨#[32,100,114,111,112]⟩),.nilIface]) (by simp[results,results8,go_sem,rsH]) rfl ⟨rfl,?_⟩;exact hB2
 have ho2:(o==0)=false:=by simpa using ho
 by_cases hz:s=0
 ·have e:rsS p m b o s v=rsO p m b o:=by simp[rsS,ho,hz]
  rw[e];have hz2:(s==0)=true:=by simpa using hz
  have hz3:(s != 0)=false:=by simpa using hz
  clear e h g1 g3 ho hz;go_enter func8,ntmps8
  go_wp2_with fail
  refine (ruCheck_any _ _ _ _ _ _ _).mono ?_;rintro e w1 ⟨rfl,hb1⟩;rw[no_ok hn];obtain⟨⟨q0,q1,q2,q3,q4,q5⟩,lt1⟩:=cells6 hb1;have hB:=below_one hb1;clear hb1
  go_wp2_with fail
  refine (print_ok _ _ _ g2).mono ?_;rintro e w2 ⟨rfl,hb2⟩;have r0:=cell_later hb2 q0;have r3:=cell_later hb2 q3;have r4:=cell_later hb2 q4;have hB2:=hB.trans (hb2.mono hB.size);have lt2:=Nat.lt_of_lt_of_le lt1 hb2.size;clear hb2 q0 q1 q2 q3 q4 q5 hB
  go_wp2_with fail
  refine (itoa_any _ _ p0 (by omega)).mono ?_;rintro e w' ⟨rfl,rfl⟩
  go_wp2_with fail
  refine (itoa_any _ _ o0 (by omega)).mono ?_;rintro e w' ⟨rfl,rfl⟩;go_wp2;refine bodyPost_ret (v:=.tuple #[.string (rsO p m b o),.nilIface]) (by simp[results,results8,go_sem,rsH,rsO]) rfl ⟨rfl,?_⟩;exact hB2
 have e:rsS p m b o s v=rsO p m b o++(⟨#[32,115,101,116,32]⟩++prS s v):=by simp[rsS,ho,hz]
 rw[e];have hz2:(s==0)=false:=by simpa using hz
 have hz3:(s != 0)=true:=by simpa using hz
 clear e h g1 g3 ho hz;go_enter func8,ntmps8
 go_wp2_with fail
 refine (ruCheck_any _ _ _ _ _ _ _).mono ?_;rintro e w1 ⟨rfl,hb1⟩;rw[no_ok hn];obtain⟨⟨q0,q1,q2,q3,q4,q5⟩,lt1⟩:=cells6 hb1;have hB:=below_one hb1;clear hb1
 go_wp2_with fail
 refine (print_ok _ _ _ g2).mono ?_;rintro e w2 ⟨rfl,hb2⟩;have r0:=cell_later hb2 q0;have r3:=cell_later hb2 q3;have r4:=cell_later hb2 q4;have r5:=cell_later hb2 q5;have hB2:=hB.trans (hb2.mono hB.size);have lt2:=Nat.lt_of_lt_of_le lt1 hb2.size;clear hb2 q0 q1 q2 q3 q4 q5 hB
 go_wp2_with fail
 refine (itoa_any _ _ p0 (by omega)).mono ?_;rintro e w' ⟨rfl,rfl⟩
 go_wp2_with fail
 refine (itoa_any _ _ o0 (by omega)).mono ?_;rintro e w' ⟨rfl,rfl⟩
 go_wp2_with fail
 refine (print_ok _ _ _ g4).mono ?_;rintro e w3 ⟨rfl,hb3⟩;have hB3:=hB2.trans (hb3.mono hB2.size);clear hb3 hB2;go_wp2;refine bodyPost_ret (v:=.tuple #[.string (rsO p m b o++(⟨#[32,115,101,116,32]⟩++prS s v)),.nilIface]) (by simp[results,results8,go_sem,rsH,rsO]) rfl ⟨rfl,?_⟩;exact hB3
theorem dig1:∀k:Fin 10,(⟨#[48,49,50,51,52,53,54,55,56,57]⟩:ByteArray).extract ((k:Nat):Int).toNat (((k:Nat):Int)+1).toNat=dgS ((k:Nat):Int):=by
 decide +kernel
theorem digits_lo (p:Int)(w:World)(h0:0≤p)(h1:p<10):
 Calls prog 25 #[.int i64 p] w fun e w'=>e=.returned (.string (dgS p))∧w'=w:=by
 have e1:decide (p<10)=true:=by simpa using h1
 go_enter func25,ntmps25;go_wp2;go_ret;refine⟨ret_str ?_,rfl⟩;obtain⟨k,rfl⟩:∃k:Fin 10,p=((k:Nat):Int):=⟨⟨p.toNat,by omega⟩,by simp;omega⟩;exact dig1 k
theorem dig2:∀k:Fin 100,10≤k.val→dgS (((k:Nat):Int) / 10)++(⟨#[48,49,50,51,52,53,54,55,56,57]⟩:ByteArray).extract (((k:Nat):Int) % 10).toNat ((((k:Nat):Int) % 10)+1).toNat=dgS ((k:Nat):Int):=by
 decide +kernel
theorem digits_any (p:Int)(w:World)(h0:0≤p)(h1:p<100):
 Calls prog 25 #[.int i64 p] w fun e w'=>e=.returned (.string (dgS p))∧w'=w:=by
 by_cases h:p<10
 ·exact digits_lo p w h0 h
 have e1:decide (p<10)=false:=by simpa using h
 have hd:=dg_size (p / 10);have r0:0≤p % 10:=Int.emod_nonneg _ (by decide);have r1:p % 10<10:=Int.emod_lt_of_pos _ (by decide);go_enter func25,ntmps25
 go_wp2_with fail
 refine (digits_lo _ _ (by omega) (by omega)).mono ?_;rintro e w' ⟨rfl,rfl⟩;go_wp2;go_ret;refine⟨ret_str ?_,rfl⟩;obtain⟨k,rfl⟩:∃k:Fin 100,p=((k:Nat):Int):=⟨⟨p.toNat,by omega⟩,by simp;omega⟩;exact dig2 k (by omega)
theorem ap_as (a b c:ByteArray):a++(b++c)=a++b++c:=ByteArray.append_assoc.symm
theorem showRule_any (p m b o s v:Int)(w:World)(h:ruOk p m b o s v=true):
 Calls prog 7 #[.agg #[.int i64 p,.int i64 m,.int i64 b,.int i64 o,.int i64 s,.int i64 v]] w fun e w'=>e=.returned (.string (rsS p m b o s v))∧Below w.heap.size w w':=by
 obtain⟨g1,g2,g3⟩:=ru_ok h;have g4:=set_ok g1 g3;obtain⟨⟨⟨p0,p1⟩,⟨o0,o1⟩⟩,⟨s0,s1⟩,_⟩:=ru_in g1;have d1:=dg_size p;have d2:=dg_size o;have d3:=pr_size m b;have d4:=pr_size s v;by_cases ho:o=0
 ·have e:rsS p m b o s v=dgS p++⟨#[32]⟩++prS m b++⟨#[32,100,114,111,112]⟩:=by simp[rsS,rsH,ho]
  rw[e];have ho2:(o==0)=true:=by simpa using ho
  clear e h g1 g3 ho;go_enter func7,ntmps7
  go_wp2_with fail
  refine (digits_any _ _ p0 (by omega)).mono ?_;rintro e w' ⟨rfl,rfl⟩
  go_wp2_with fail
  refine (refShow_any _ _ _ g2).mono ?_;rintro e w2 ⟨rfl,hb2⟩;obtain⟨⟨q0,q1,q2,q3,q4,q5⟩,lt1⟩:=cells6 hb2;have hB:=below_one hb2;clear hb2;go_wp2;go_ret;exact⟨rfl,hB⟩
 have ho2:(o==0)=false:=by simpa using ho
 by_cases hz:s=0
 ·have e:rsS p m b o s v=dgS p++⟨#[32]⟩++prS m b++⟨#[32,111,117,116,32]⟩++dgS o:=by simp only[rsS,rsO,rsH,if_neg ho,if_pos hz,ap_as]
  rw[e];have hz2:decide (0<s)=false:=by simp;omega
  clear e h g1 g3 ho;go_enter func7,ntmps7
  go_wp2_with fail
  refine (digits_any _ _ p0 (by omega)).mono ?_;rintro e w' ⟨rfl,rfl⟩
  go_wp2_with fail
  refine (refShow_any _ _ _ g2).mono ?_;rintro e w2 ⟨rfl,hb2⟩;obtain⟨⟨q0,q1,q2,q3,q4,q5⟩,lt1⟩:=cells6 hb2;have hB:=below_one hb2;clear hb2
  go_wp2_with fail
  refine (digits_any _ _ o0 (by omega)).mono ?_;rintro e w' ⟨rfl,rfl⟩;go_wp2;go_ret;exact⟨rfl,hB⟩
 have e:rsS p m b o s v=dgS p++⟨#[32]⟩++prS m b++⟨#[32,111,117,116,32]⟩++dgS o++⟨#[32,115,101,116,32]⟩++prS s v:=by simp only[rsS,rsO,rsH,if_neg ho,if_neg hz,ap_as]
 rw[e];have hz2:decide (0<s)=true:=by simp;omega
 clear e h g1 g3 ho hz;go_enter func7,ntmps7
 go_wp2_with fail
 refine (digits_any _ _ p0 (by omega)).mono ?_;rintro e w' ⟨rfl,rfl⟩
 go_wp2_with fail
 refine (refShow_any _ _ _ g2).mono ?_;rintro e w2 ⟨rfl,hb2⟩;obtain⟨⟨q0,q1,q2,q3,q4,q5⟩,lt1⟩:=cells6 hb2;have hB:=below_one hb2;clear hb2
 go_wp2_with fail
 refine (digits_any _ _ o0 (by omega)).mono ?_;rintro e w' ⟨rfl,rfl⟩
 go_wp2_with fail
 refine (refShow_any _ _ _ g4).mono ?_;rintro e w3 ⟨rfl,hb3⟩;have hB3:=hB.trans (hb3.mono hB.size);clear hb3 hB;go_wp2;go_ret;exact⟨rfl,hB3⟩
def cmpN (a b:Int):Int:=if a<b then -1 else if b<a then 1 else 0
def orN (x y z:Int):Int:=if x=0 then (if y=0 then z else y) else x
def ordN (p m b p' m' b':Int):Int:=orN (cmpN p p') (cmpN m m') (cmpN b b')
structure Ru where
 p:Int
 m:Int
 b:Int
 o:Int
 s:Int
 v:Int
abbrev TsQ:=List (List Ru)
def Ru.n (r:Ru):Int:=ruN r.p r.m r.b r.o r.s r.v
def Ru.ok (r:Ru):Bool:=ruOk r.p r.m r.b r.o r.s r.v
def Ru.has (r:Ru)(h:Int):Bool:=hasB r.m r.b h
def ordR (a b:Ru):Int:=ordN a.p a.m a.b b.p b.m b.b
def keyB (a b:Ru):Bool:=ordR a b==0
def zeR:Ru:=⟨0,0,0,0,0,0⟩
theorem cmp_0 {a b:Int}:cmpN a b=0↔a=b:=by unfold cmpN;split <;> (try split) <;> omega
theorem ord_0 {a b:Ru}:ordR a b=0↔a.p=b.p∧a.m=b.m∧a.b=b.b:=by
 unfold ordR ordN orN;by_cases h1:a.p=b.p
 ·rw[if_pos (cmp_0.2 h1)];by_cases h2:a.m=b.m
  ·rw[if_pos (cmp_0.2 h2),cmp_0];exact⟨fun h=>⟨h1,h2,h⟩,fun h=>h.2.2⟩
  rw[if_neg (fun h=>h2 (cmp_0.1 h)),cmp_0];exact⟨fun h=>absurd h h2,fun h=>h.2.1⟩
 rw[if_neg (fun h=>h1 (cmp_0.1 h)),cmp_0];exact⟨fun h=>absurd h h1,fun h=>h.1⟩
theorem ord_le {a b:Ru}:ordR a b≤0↔(a.p<b.p∨a.p=b.p∧(a.m<b.m∨a.m=b.m∧a.b≤b.b)):=by
 unfold ordR ordN orN cmpN
 split <;> split <;> (try split) <;> (try split) <;> (try split) <;> (try split) <;> omega
theorem key_eq (a b:Ru):keyB a b=(decide (a.p=b.p)&&(decide (a.m=b.m)&&decide (a.b=b.b))):=by
 rw[Bool.eq_iff_iff,keyB,beq_iff_eq,ord_0];simp
def clTo (L:List Ru):Nat→Bool
 | 0=>false
 | k+1=>clTo L k || (L.take k).any (fun a=>keyB a (L.getD k zeR))
def okR (L:List Ru):Bool:=L.all Ru.ok
def tbTo (L:List Ru):Nat→Int
 | 0=>0
 | k+1=>if tbTo L k=0 then (if (L.getD k zeR).n=0 then (if (L.take k).any (fun a=>keyB a (L.getD k zeR)) then 7 else 0) else (L.getD k zeR).n) else tbTo L k
def tbN (L:List Ru):Int:=if 12<L.length then 4 else tbTo L L.length
theorem n_ne {r:Ru}(h:r.ok=false):r.n≠0:=ruN_ne h
theorem n_ok {r:Ru}(h:r.ok=true):r.n=0:=ruN_ok h
theorem ok_n {r:Ru}(h:r.n=0):r.ok=true:=by
 cases e:r.ok
 ·exact absurd h (n_ne e)
 rfl
theorem okR_next {L:List Ru}{k:Nat}(hk:k<L.length)(h:okR (L.take k)=true)(h2:(L[k]).ok=true):okR (L.take (k+1))=true:=by
 rw[List.take_succ_eq_append_getElem hk];simp only[okR,List.all_append,List.all_cons,List.all_nil,Bool.and_true,Bool.and_eq_true];exact⟨h,h2⟩
theorem to_le {L:List Ru}{k:Nat}(h:tbTo L k≠0):∀{n:Nat},k≤n→tbTo L n=tbTo L k
 | 0,hn=>by
   obtain rfl:k=0:=by omega
   rfl
 | n+1,hn=>by
   by_cases e:k=n+1
   ·subst e;rfl
   have:=to_le h (show k≤n by omega);rw[tbTo,if_neg (by rw[this];exact h),this]
theorem getD_at {L:List Ru}{k:Nat}(hk:k<L.length):L.getD k zeR=L[k]:=by simp[List.getD,hk]
theorem to_0 {L:List Ru}:∀{k:Nat},k≤L.length→(tbTo L k=0↔okR (L.take k)=true∧clTo L k=false)
 | 0,_=>by simp[tbTo,okR,clTo]
 | k+1,hk=>by
   have ih:=to_0 (show k≤L.length by omega);have hl:k<L.length:=by omega
   rw[tbTo,clTo];by_cases h1:tbTo L k=0
   ·obtain⟨i1,i2⟩:=ih.1 h1;rw[if_pos h1,i2,Bool.false_or];by_cases h2:(L.getD k zeR).n=0
    ·rw[if_pos h2];have h3:=okR_next hl i1 (by rw[←getD_at hl];exact ok_n h2);cases h4:(L.take k).any (fun a=>keyB a (L.getD k zeR))
     ·simp[h3]
     simp
    rw[if_neg h2];refine⟨fun h=>absurd h h2,fun h=>?_⟩
    exfalso
    have h5:=h.1;rw[okR,List.all_eq_true] at h5;exact h2 (n_ok (by rw[getD_at hl];exact h5 _ (by rw[List.mem_take_iff_getElem];exact⟨k,by omega,rfl⟩)))
   rw[if_neg h1];refine⟨fun h=>absurd h h1,fun h=>?_⟩
   exfalso
   obtain⟨h5,h6⟩:=h;simp only[Bool.or_eq_false_iff] at h6;refine h1 (ih.2 ⟨?_,h6.1⟩);rw[okR,List.all_eq_true] at h5 ⊢;intro x hx;refine h5 x ?_;rw[List.mem_take_iff_getElem] at hx ⊢;obtain⟨i,hi,e⟩:=hx;exact⟨i,by omega,e⟩
theorem tb_0 {L:List Ru}:tbN L=0↔L.length≤12∧okR L=true∧clTo L L.length=false:=by
 unfold tbN;by_cases h1:12<L.length
 ·rw[if_pos h1];constructor
  ·intro h;cases h
  intro h;omega
 rw[if_neg h1,to_0 (nLQ _),List.take_length];exact⟨fun h=>⟨by omega,h⟩,fun h=>h.2⟩
def beTo (L:List Ru)(h:Int):Nat→Int
 | 0 => -1
 | k+1=>if ((L.getD k zeR).has h&&(decide (beTo L h k<0) || decide (0<ordR (L.getD k zeR) (L.getD (beTo L h k).toNat zeR))))=true then (k:Int) else beTo L h k
theorem be_bd (L:List Ru)(h:Int):∀k:Nat,-1≤beTo L h k∧beTo L h k<k
 | 0=>by simp[beTo]
 | k+1=>by
   have:=be_bd L h k;unfold beTo
   split <;> omega
def luN (L:List Ru)(h:Int):Int:=if tbN L=0 then (if hdrB h then (if beTo L h L.length<0 then 5 else 0) else 1) else tbN L
def luI (L:List Ru)(h:Int):Int:=if luN L h=0 then beTo L h L.length else 0
def tuB (s v h:Int)(i:Nat):Bool:=bitB s i&&bitB v i || !bitB s i&&bitB h i
def tuTo (s v h:Int):Nat→Int
 | 0=>0
 | k+1=>if tuB s v h (3-k) then tuTo s v h k*2+1 else tuTo s v h k*2
theorem tu_bd (s v h:Int):∀k,0≤tuTo s v h k∧tuTo s v h k<2 ^ k
 | 0=>by simp[tuTo]
 | k+1=>by
   have:=tu_bd s v h k;have e:(2:Int) ^ (k+1)=2 ^ k*2:=Int.pow_succ ..;unfold tuTo
   split <;> omega
theorem tu_fin:∀(s v h:Fin 16),((bits .andNot .i64 ((v:Nat):Int) ((s:Nat):Int)==0) && !(tuTo ((s:Nat):Int) ((v:Nat):Int) ((h:Nat):Int) 4==apV ((s:Nat):Int) ((v:Nat):Int) ((h:Nat):Int)))=false:=by decide +kernel
theorem fin16 {x:Int}(h:0≤x∧x<16):∃i:Fin 16,x=((i:Nat):Int):=⟨⟨x.toNat,by omega⟩,by simp;omega⟩
theorem tu_ap {s v h:Int}(hs:0≤s∧s<16)(hv:0≤v∧v<16)(hh:0≤h∧h<16)(hz:(bits .andNot .i64 v s==0)=true):tuTo s v h 4=apV s v h:=by
 obtain⟨a,rfl⟩:=fin16 hs;obtain⟨b,rfl⟩:=fin16 hv;obtain⟨c,rfl⟩:=fin16 hh;have:=tu_fin a b c;rw[hz] at this;simpa using this
def shB (L:List Ru)(i k:Nat):Bool:=(List.range k).any fun h=>beTo L (h:Int) L.length==(i:Int)
theorem sh_0 (L:List Ru)(i:Nat):shB L i 0=false:=rfl
theorem shB_next (L:List Ru)(i k:Nat):shB L i (k+1)=(shB L i k || (beTo L (k:Int) L.length==(i:Int))):=by
 simp[shB,List.range_succ]
def deTo (L:List Ru):Nat→List Int
 | 0=>[]
 | k+1=>if shB L k 16 then deTo L k else deTo L k++[(k:Int)]
theorem deTo_len (L:List Ru):∀k,(deTo L k).length≤k
 | 0=>by simp[deTo]
 | k+1=>by
   have:=deTo_len L k;unfold deTo
   split
   ·omega
   simp;omega
def deadL (L:List Ru):List Int:=if tbN L=0 then deTo L L.length else []
theorem tb_le {L:List Ru}(h:tbN L=0):L.length≤12:=(tb_0.1 h).1
theorem dead_len (L:List Ru):(deadL L).length≤12:=by
 unfold deadL
 split
 ·next h=>exact Nat.le_trans (deTo_len L _) (tb_le h)
 simp
def abB (a b:Ru):Bool:=if a.p=b.p then (if a.m=b.m then decide (b.b<a.b) else decide (b.m<a.m)) else decide (b.p<a.p)
theorem ab_ord (a b:Ru):abB a b=decide (0<ordR a b):=by
 have h:ordR a b≤0↔_:=ord_le (a:=a) (b:=b);unfold abB
 split
 ·split <;> (rw[decide_eq_decide];omega)
 rw[decide_eq_decide];omega
structure C6 (w:World)(g o:Nat)(r:Ru):Prop where
 c0:w.cell? ⟨g,o,none⟩=some (.int i64 r.p)
 c1:w.cell? ⟨g,o+1,none⟩=some (.int i64 r.m)
 c2:w.cell? ⟨g,o+2,none⟩=some (.int i64 r.b)
 c3:w.cell? ⟨g,o+3,none⟩=some (.int i64 r.o)
 c4:w.cell? ⟨g,o+4,none⟩=some (.int i64 r.s)
 c5:w.cell? ⟨g,o+5,none⟩=some (.int i64 r.v)
theorem C6.later {w w':World}{g o:Nat}{r:Ru}(h:C6 w g o r)(hb:Below w.heap.size w w'):C6 w' g o r:=
 ⟨cell_later hb h.c0,cell_later hb h.c1,cell_later hb h.c2,cell_later hb h.c3,cell_later hb h.c4,cell_later hb h.c5⟩
theorem C6.new (w:World)(p m b o s v:Int)(t:TypeId):C6 (w.alloc (.cells #[.int i64 p,.int i64 m,.int i64 b,.int i64 o,.int i64 s,.int i64 v] t)) w.heap.size 0 ⟨p,m,b,o,s,v⟩:=by
 refine⟨?_,?_,?_,?_,?_,?_⟩ <;> simp
def RAt (w:World)(g o:Nat)(L:List Ru):Prop:=∀i (h:i<L.length),C6 w g (o+i*6) L[i]
theorem RAt.later {w w':World}{g o:Nat}{L:List Ru}(h:RAt w g o L)(hb:Below w.heap.size w w'):RAt w' g o L:=fun i hi=>(h i hi).later hb
theorem RAt.take {w:World}{g o:Nat}{L:List Ru}(h:RAt w g o L)(k:Nat):RAt w g o (L.take k):=by
 intro i hi;rw[List.getElem_take];exact h i (by simp at hi;omega)
def SR (w:World)(v:Value)(L:List Ru):Prop:=
 (∃ao cap,v=.slice ao 0 cap∧L=[])∨∃g o cap,v=.slice (some ⟨g,o,none⟩) L.length cap∧L.length≤cap∧cap≤maxLen∧RAt w g o L
theorem SR.later {w w':World}{v:Value}{L:List Ru}(h:SR w v L)(hb:Below w.heap.size w w'):SR w' v L:=by
 rcases h with h | ⟨g,o,cap,h1,h2,h3,h4⟩
 ·exact .inl h
 exact .inr ⟨g,o,cap,h1,h2,h3,h4.later hb⟩
theorem RAt.at {w:World}{g o:Nat}{L:List Ru}(h:RAt w g o L){n k:Nat}(hn:L.length=n)(hk:k<n):
 ∃ (p m b q s v:Int) (hl:k<L.length),L[k]=⟨p,m,b,q,s,v⟩∧(w.cell? ⟨g,o+k*6,none⟩=some (.int i64 p)∧w.cell? ⟨g,o+k*6+1,none⟩=some (.int i64 m)∧w.cell? ⟨g,o+k*6+2,none⟩=some (.int i64 b) ∧
   w.cell? ⟨g,o+k*6+3,none⟩=some (.int i64 q)∧w.cell? ⟨g,o+k*6+4,none⟩=some (.int i64 s)∧w.cell? ⟨g,o+k*6+5,none⟩=some (.int i64 v)):=
 have hl:k<L.length:=by omega
 have c:=h k hl
 ⟨_,_,_,_,_,_,hl,rfl,c.c0,c.c1,c.c2,c.c3,c.c4,c.c5⟩
theorem key_ways (p m b o s v p' m' b' o' s' v':Int):
 ((p==p')=false∧keyB ⟨p,m,b,o,s,v⟩ ⟨p',m',b',o',s',v'⟩=false)∨((p==p')=true∧(m==m')=false∧keyB ⟨p,m,b,o,s,v⟩ ⟨p',m',b',o',s',v'⟩=false) ∨
 ((p==p')=true∧(m==m')=true∧(b==b')=false∧keyB ⟨p,m,b,o,s,v⟩ ⟨p',m',b',o',s',v'⟩=false)∨((p==p')=true∧(m==m')=true∧(b==b')=true∧keyB ⟨p,m,b,o,s,v⟩ ⟨p',m',b',o',s',v'⟩=true):=by
 rw[key_eq];by_cases h1:p=p' <;> by_cases h2:m=m' <;> by_cases h3:b=b' <;> simp[h1,h2,h3]
theorem clash_any (p m b o s v p' m' b' o' s' v':Int)(w:World):
 Calls prog 40 #[.agg #[.int i64 p,.int i64 m,.int i64 b,.int i64 o,.int i64 s,.int i64 v],.agg #[.int i64 p',.int i64 m',.int i64 b',.int i64 o',.int i64 s',.int i64 v']] w fun e w'=>e=.returned (.bool (keyB ⟨p,m,b,o,s,v⟩ ⟨p',m',b',o',s',v'⟩))∧Below w.heap.size w w':=by
 have HB:Hid (∀o1 o2,Below w.heap.size w ((w.alloc o1).alloc o2)):=fun o1 o2=>((bRQ _ _).alloc (nLQ _) o1).alloc (by simp) o2
 rcases key_ways p m b o s v p' m' b' o' s' v' with ⟨e1,e⟩ | ⟨e1,e2,e⟩ | ⟨e1,e2,e3,e⟩ | ⟨e1,e2,e3,e⟩
 all_goals
  rw[e];clear e;go_enter func40,ntmps40;go_wp2;go_ret;exact⟨rfl,HB.out _ _⟩
def Asks (w:World)(f:FuncId)(c:Value)(P:Ru→Bool):Prop:=
 ∀ (p m b o s v:Int) (W:World),Below w.heap.size w W →
   Calls prog f #[.agg #[.int i64 p,.int i64 m,.int i64 b,.int i64 o,.int i64 s,.int i64 v],c] W fun e w'=>e=.returned (.bool (P ⟨p,m,b,o,s,v⟩))∧Below W.heap.size W w'
theorem Asks.later {w w':World}{f:FuncId}{c:Value}{P:Ru→Bool}(h:Asks w f c P)(hb:Below w.heap.size w w'):Asks w' f c P:=
 fun p m b o s v W hW=>h p m b o s v W (hb.trans (hW.mono hb.size))
theorem table1_any (p m b o s v:Int)(r:Ru)(B:Nat)(w:World)(hc:C6 w B 0 r):
 Calls prog 39 #[.agg #[.int i64 p,.int i64 m,.int i64 b,.int i64 o,.int i64 s,.int i64 v],.pointer (some ⟨B,0,none⟩)] w fun e w'=>e=.returned (.bool (keyB ⟨p,m,b,o,s,v⟩ r))∧Below w.heap.size w w':=by
 obtain⟨p',m',b',o',s',v'⟩:=r;obtain⟨c0,c1,c2,c3,c4,c5⟩:=hc;simp only[Nat.zero_add] at c0 c1 c2 c3 c4 c5;have hlt:B<w.heap.size:=bLQ _ _ c0;go_enter func39,ntmps39
 go_wp2_with fail
 refine (clash_any _ _ _ _ _ _ _ _ _ _ _ _ _).mono ?_;rintro e w1 ⟨rfl,hb1⟩;go_wp2;go_ret;exact⟨rfl,((bRQ _ _).alloc (nLQ _) _).trans (hb1.mono (by simp))⟩
theorem table1_asks (r:Ru)(B:Nat)(w:World)(hc:C6 w B 0 r):Asks w 39 (.pointer (some ⟨B,0,none⟩)) (fun a=>keyB a r):=
 fun p m b o s v W hW=>table1_any p m b o s v r B W (hc.later hW)
theorem any_nextR {L:List Ru}{f:Ru→Bool}{k:Nat}(hk:k<L.length)(h:(L.take k).any f=false)(h2:f L[k]=false):(L.take (k+1)).any f=false:=by
 rw[List.take_succ_eq_append_getElem hk];simp only[List.any_append,h,List.any_cons,List.any_nil,h2,Bool.or_false]
theorem any_hitR {L:List Ru}{f:Ru→Bool}{k:Nat}(hk:k<L.length)(h2:f L[k]=true):L.any f=true:=List.any_eq_true.2 ⟨_,List.getElem_mem hk,h2⟩
def ixP (f:Ru→Bool)(L:List Ru):Int:=if L.any f then (L.findIdx f:Int) else -1
theorem ixP_hit {L:List Ru}{f:Ru→Bool}{k:Nat}(hk:k<L.length)(h:(L.take k).any f=false)(h2:f L[k]=true):ixP f L=k:=by
 rw[ixP,any_hitR hk h2,if_pos rfl]
 congr 1
 rw[List.findIdx_eq hk];refine⟨h2,fun j hj=>?_⟩;rw[List.any_eq_false] at h;have:=h L[j] (by rw[List.mem_take_iff_getElem];exact⟨j,by omega,rfl⟩);simpa using this
theorem ixP_no {L:List Ru}{f:Ru→Bool}(h:L.any f=false):ixP f L = -1:=by simp[ixP,h]
theorem ixP_any (L:List Ru)(f:Ru→Bool):decide (0≤ixP f L)=L.any f:=by
 unfold ixP;cases L.any f
 ·simp
 simp
theorem idxF (ao:AdQ)(n cap:Nat)(f:FuncId)(c:Value)(P:Ru→Bool)(L:List Ru)(w:World)(hn:L.length=n)(hn2:n≤maxLen)(ha:0<n→∃g o,ao=some ⟨g,o,none⟩∧RAt w g o L∧cap≤maxLen)(he:∀args w,(callFunc f args).run prog w=.ok (.enter f args) w)(hf:Asks w f c P):
 Calls prog 49 #[.slice ao n cap,.func (Fn.func f) #[] #[c]] w fun e w'=>e=.returned (.int i64 (ixP P L))∧Below w.heap.size w w':=by
 have HN:Hid (L.length=n):=hn;have HF:Hid (Asks w f c P):=hf;have HA:Hid (0<n→∃g o,ao=some ⟨g,o,none⟩∧RAt w g o L∧cap≤maxLen):=ha;unfold maxLen at hn2;clear hn hf ha;go_enter func49,ntmps49;go_wp2
 go_loopw [8] (fun i wr=>∃k:Nat,k≤n∧i=.int i64 k∧(L.take k).any P=false∧Below w.heap.size w wr)
  (fun i _=>n-(intOf i).toNat)
 case atStart=>exact⟨0,by omega,rfl,by simp,bRQ _ _⟩
 case round =>
  obtain⟨k,hk,rfl,hno,hB⟩:=hrel;have HB:Hid (Below w.heap.size w wr):=hB;have HNO:Hid ((L.take k).any P=false):=hno;clear hno;by_cases hlt:k<n
  ·obtain⟨g,o,hao,hc,_⟩:=HA.out (by omega);subst hao;obtain⟨p,m,b,q,s,v,hkl,hL,q0,q1,q2,q3,q4,q5⟩:=(hc.later hB).at HN.out hlt;have HL:Hid (L[k]=⟨p,m,b,q,s,v⟩):=hL;clear hL hB;cases ho:P ⟨p,m,b,q,s,v⟩
   ·go_wp2_with fail
    refine (HF.out p m b q s v _ HB.out).mono ?_;rintro e w1 ⟨rfl,hb1⟩;rw[ho];have HB1:=HB.out.trans (hb1.mono HB.out.size);clear hb1;go_wp2;go_roundw
    case rel=>exact⟨k+1,by omega,by go_num,any_nextR hkl HNO.out (by rw[HL.out];exact ho),HB1⟩
    case measure=>simp[intOf];omega
   go_wp2_with fail
   refine (HF.out p m b q s v _ HB.out).mono ?_;rintro e w1 ⟨rfl,hb1⟩;rw[ho];go_wp2;go_ret;exact⟨by rw[ixP_hit hkl HNO.out (by rw[HL.out];exact ho)];rfl,HB.out.trans (hb1.mono HB.out.size)⟩
  obtain rfl:k=n:=by omega
  go_wp2;go_ret;exact⟨by have:=HNO.out;rw[←HN.out,List.take_length] at this;rw[ixP_no this];rfl,HB.out⟩
theorem containsF (ao:AdQ)(n cap:Nat)(f:FuncId)(c:Value)(P:Ru→Bool)(L:List Ru)(w:World)(hn:L.length=n)(hn2:n≤maxLen)(ha:0<n→∃g o,ao=some ⟨g,o,none⟩∧RAt w g o L∧cap≤maxLen)(he:∀args w,(callFunc f args).run prog w=.ok (.enter f args) w)(hf:Asks w f c P):
 Calls prog 38 #[.slice ao n cap,.func (Fn.func f) #[] #[c]] w fun e w'=>e=.returned (.bool (L.any P))∧Below w.heap.size w w':=by
 rw[←ixP_any];obtain⟨x,hx⟩:∃x,x=ixP P L:=⟨_,rfl⟩;have HX:Hid (x=ixP P L):=hx;rw[←hx];clear hx;go_enter func38,ntmps38
 go_wp2_with fail
 refine (idxF ao n cap f c P L _ hn hn2 ha he hf).mono ?_;rintro e w1 ⟨rfl,hb1⟩;rw[←HX.out];go_wp2;go_ret;exact⟨rfl,hb1⟩
theorem containsR_any (g o cap n B:Nat)(r:Ru)(L:List Ru)(w:World)(hc:RAt w g o L)(hn:L.length=n)(hn2:n≤maxLen)(hcap:cap≤maxLen)(hr:C6 w B 0 r):
 Calls prog 38 #[.slice (some ⟨g,o,none⟩) n cap,.func (Fn.func 39) #[] #[.pointer (some ⟨B,0,none⟩)]] w fun e w'=>e=.returned (.bool (L.any (fun a=>keyB a r)))∧Below w.heap.size w w':=
 containsF _ n cap _ _ _ L w hn hn2 (fun _=>⟨g,o,rfl,hc,hcap⟩) (enters_of func39 (by kernel_rfl) rfl) (table1_asks r B w hr)
theorem turned_any (p m b o s v h:Int)(w:World)(hs:0≤s∧s<16)(hv:0≤v∧v<16)(hh:0≤h∧h<16):
 Calls prog 13 #[.agg #[.int i64 p,.int i64 m,.int i64 b,.int i64 o,.int i64 s,.int i64 v],.int i64 h] w fun e w'=>e=.returned (.int i64 (tuTo s v h 4))∧Below w.heap.size w w':=by
 go_enter func13,ntmps13;go_wp2
 go_loop [5,6] (fun t i=>∃k:Nat,k≤4∧i=.int i64 (3-k)∧t=.int i64 (tuTo s v h k)) (fun _ i=>(intOf i+1).toNat)
 case atStart=>exact⟨0,by omega,rfl,rfl⟩
 case round =>
  obtain⟨k,hk,rfl,rfl⟩:=hrel;have hbd:=tu_bd s v h k;have hp:(2:Int) ^ k≤16:=by
   rcases (by omega:k=0∨k=1∨k=2∨k=3∨k=4) with rfl | rfl | rfl | rfl | rfl <;> decide
  have b0:=hbd.1;have b1:tuTo s v h k<16:=Int.lt_of_lt_of_le hbd.2 hp;clear hp hbd;by_cases hlt:k<4
  ·have hi:(3-(k:Int)).toNat=3-k:=by omega
   have HI:Hid ((3-(k:Int)).toNat=3-k):=hi;have HT:Hid (tuTo s v h (k+1)=if (bitB s (3-k)&&bitB v (3-k) || !bitB s (3-k)&&bitB h (3-k)) then tuTo s v h k*2+1 else tuTo s v h k*2):=by
    show tuTo s v h (k+1)=_;rfl
   clear hi
   generalize tuTo s v h k=T at *
   go_wp2_with fail
   refine (refBit_any _ _ _ hs (by omega)).mono ?_;rintro e w' ⟨rfl,rfl⟩;rw[HI.out]
   go_wp2_with fail
   refine (refBit_any _ _ _ hv (by omega)).mono ?_;rintro e w' ⟨rfl,rfl⟩;rw[HI.out]
   go_wp2_with fail
   refine (refBit_any _ _ _ hh (by omega)).mono ?_;rintro e w' ⟨rfl,rfl⟩;rw[HI.out]
   generalize bitB s (3-k)=X at *
   generalize bitB v (3-k)=Y at *
   generalize bitB h (3-k)=Z at *
   cases X <;> cases Y <;> cases Z
   all_goals
    go_wp2
    go_round
    case rel=>exact⟨k+1,by omega,by go_num,by rw[HT.out];rfl⟩
    case measure=>simp[intOf];omega
  obtain rfl:k=4:=by omega
  go_wp2;go_ret;exact⟨rfl,(bRQ _ _).alloc (nLQ _) _⟩
def CD (w:World)(g o:Nat)(p m b q s v:Int)(g' o':Nat)(p' m' b' q' s' v':Int)(w':World):Prop:=
 Below w.heap.size w w'∧(w'.cell? ⟨g,o,none⟩=some (.int i64 p)∧w'.cell? ⟨g,o+1,none⟩=some (.int i64 m)∧w'.cell? ⟨g,o+2,none⟩=some (.int i64 b) ∧
  w'.cell? ⟨g,o+3,none⟩=some (.int i64 q)∧w'.cell? ⟨g,o+4,none⟩=some (.int i64 s)∧w'.cell? ⟨g,o+5,none⟩=some (.int i64 v)) ∧
 w'.cell? ⟨g',o',none⟩=some (.int i64 p')∧w'.cell? ⟨g',o'+1,none⟩=some (.int i64 m')∧w'.cell? ⟨g',o'+2,none⟩=some (.int i64 b') ∧
  w'.cell? ⟨g',o'+3,none⟩=some (.int i64 q')∧w'.cell? ⟨g',o'+4,none⟩=some (.int i64 s')∧w'.cell? ⟨g',o'+5,none⟩=some (.int i64 v')
theorem CD.later {w W W':World}{g o:Nat}{p m b q s v:Int}{g' o':Nat}{p' m' b' q' s' v':Int}(hb:Below W.heap.size W W')(h:CD w g o p m b q s v g' o' p' m' b' q' s' v' W):CD w g o p m b q s v g' o' p' m' b' q' s' v' W':=by
 obtain⟨h0,⟨h1,h2,h3,h4,h5,h6⟩,k1,k2,k3,k4,k5,k6⟩:=h;exact⟨h0.trans (hb.mono h0.size),⟨cell_later hb h1,cell_later hb h2,cell_later hb h3,cell_later hb h4,cell_later hb h5,cell_later hb h6⟩,cell_later hb k1,cell_later hb k2,cell_later hb k3,cell_later hb k4,cell_later hb k5,cell_later hb k6⟩
theorem quiet_val {P:Program}{o:Oper}{a:Act}{C:World→Prop}{K:Act→Prop}{v:Value}
 (hy:∀w,C w→(execOp a.eval o).run P w=.ok (.value v) w) (h:K (a.put o.dst v)):o.quiet P a C K:=
 ⟨v,fun w hC=>by unfold Oper.quietAt;rw[hy w hC];exact⟨rfl,rfl⟩,h⟩
theorem qv {P:Program}{o:Oper}{a:Act}{C:World→Prop}{K:Act→Prop}(v:Value)(hy:∀w,C w→(execOp a.eval o).run P w=.ok (.value v) w)(h:K (a.put o.dst v)):o.quiet P a C K:=quiet_val hy h
theorem quiet_call {P:Program}{o:Oper}{a:Act}{C:World→Prop}{K:Act→Prop}{v:Value}{f:FuncId}{args:Array Value}
 (he:∀w,(execOp a.eval o).run P w=.ok (.enter f args) w) (hc:∀w,C w→Calls P f args w fun e w''=>e=.returned v∧C w'') (h:K (a.put o.dst v)):o.quiet P a C K:=
 ⟨v,fun w hC=>by unfold Oper.quietAt;rw[he w];exact⟨rfl,hc w hC⟩,h⟩
theorem above_abB (p m b o s v p' m' b' o' s' v':Int)(w:World):
 Calls prog 41 #[.agg #[.int i64 p,.int i64 m,.int i64 b,.int i64 o,.int i64 s,.int i64 v],.agg #[.int i64 p',.int i64 m',.int i64 b',.int i64 o',.int i64 s',.int i64 v']] w fun e w'=>e=.returned (.bool (abB ⟨p,m,b,o,s,v⟩ ⟨p',m',b',o',s',v'⟩))∧Below w.heap.size w w':=by
 by_cases h1:p=p'
 ·subst h1;by_cases h2:m=m'
  ·subst h2;have e:abB ⟨p,m,b,o,s,v⟩ ⟨p,m,b',o',s',v'⟩=decide (b'<b):=by simp[abB]
   rw[e];clear e;go_enter func41,ntmps41;go_wp2;go_ret;exact⟨rfl,((bRQ _ _).alloc (nLQ _) _).alloc (by simp) _⟩
  have e:abB ⟨p,m,b,o,s,v⟩ ⟨p,m',b',o',s',v'⟩=decide (m'<m):=by simp[abB,h2]
  have h3:(m != m')=true:=by simpa using h2
  rw[e];clear e;go_enter func41,ntmps41;go_wp2;go_ret;exact⟨rfl,((bRQ _ _).alloc (nLQ _) _).alloc (by simp) _⟩
 have e:abB ⟨p,m,b,o,s,v⟩ ⟨p',m',b',o',s',v'⟩=decide (p'<p):=by simp[abB,h1]
 have h3:(p != p')=true:=by simpa using h1
 rw[e];clear e;go_enter func41,ntmps41;go_wp2;go_ret;exact⟨rfl,((bRQ _ _).alloc (nLQ _) _).alloc (by simp) _⟩
theorem above_any (p m b o s v p' m' b' o' s' v':Int)(w:World):
 Calls prog 41 #[.agg #[.int i64 p,.int i64 m,.int i64 b,.int i64 o,.int i64 s,.int i64 v],.agg #[.int i64 p',.int i64 m',.int i64 b',.int i64 o',.int i64 s',.int i64 v']] w fun e w'=>e=.returned (.bool (decide (0<ordR ⟨p,m,b,o,s,v⟩ ⟨p',m',b',o',s',v'⟩)))∧Below w.heap.size w w':=
 (above_abB p m b o s v p' m' b' o' s' v' w).mono fun e w' h=>⟨by rw[h.1,ab_ord],h.2⟩
theorem be_nextF {L:List Ru}{h:Int}{k:Nat}(x:Int)(hx:x=beTo L h k)(y:Bool)(hy:((L.getD k zeR).has h&&(decide (x<0) || decide (0<ordR (L.getD k zeR) (L.getD x.toNat zeR))))=y):beTo L h (k+1)=if y then (k:Int) else x:=by
 subst hx;rw[beTo,hy]
theorem find_some (g o cap n:Nat)(h:Int)(L:List Ru)(w:World)(hc:RAt w g o L)(hn:L.length=n)(hcap2:n≤maxLen):
 Calls prog 17 #[.slice (some ⟨g,o,none⟩) n cap,.int i64 h] w fun e w'=>e=.returned (.int i64 (beTo L h n))∧Below w.heap.size w w':=by
 have HN:Hid (L.length=n):=hn;unfold maxLen at hcap2;clear hn;go_enter func17,ntmps17;go_wp2
 go_loopw [5,6] (fun x i wr=>∃k:Nat,k≤n∧x=.int i64 (beTo L h k)∧i=.int i64 k∧Below w.heap.size w wr) (fun _ i _=>n-(intOf i).toNat)
 case atStart=>exact⟨0,by omega,rfl,rfl,bRQ _ _⟩
 case round =>
  obtain⟨k,hk,rfl,rfl,hB⟩:=hrel;have hbd:=be_bd L h k
  generalize hx:beTo L h k=x at *
  have HX:Hid (x=beTo L h k):=hx.symm;obtain⟨x0,x1⟩:=hbd;clear hx;have HB:Hid (Below w.heap.size w wr):=hB;by_cases hlt:k<n
  ·obtain⟨p,m,b,q,s,v,hkl,hL,q0,q1,q2,q3,q4,q5⟩:=(hc.later hB).at HN.out hlt;have HK:Hid (L.getD k zeR=⟨p,m,b,q,s,v⟩):=(getD_at hkl).trans hL;have HCC:Hid (RAt wr g o L):=hc.later hB;clear hL hB
   go_wp2_with fail
   refine (refHas_any _ _ _ _).mono ?_;rintro e w1 ⟨rfl,hb1⟩;have HCC1:Hid (RAt w1 g o L):=HCC.out.later hb1;have HB1:Hid (Below w.heap.size w w1):=HB.out.trans (hb1.mono HB.out.size);clear hb1 q0 q1 q2 q3 q4 q5 HCC
   generalize hY:hasB m b h=Y
   have HY:Hid (hasB m b h=Y):=hY;clear hY;go_upto_region 6 with fail;have kb0:(0:Int)≤(k:Int):=by omega
   have kb1:(k:Int)<(n:Int):=by omega
   go_cut [36] from 8 to 37 (fun c w'=>c=.bool (Y&&(decide (x<0) || decide (0<ordR (L.getD k zeR) (L.getD x.toNat zeR))))∧Below w.heap.size w w')
   case first =>
    cases Y
    ·refine wp_region_quiet (C:=fun w'=>Below w.heap.size w w') (by kernel_rfl) (by kernel_rfl) (Below.drew HB1.out) ?_;simp only[List.toList_toArray];go_big_quiet_want;refine qv (.bool false) ?_ ?_
     ·rintro w' z0;go_simp
     simp only[Act.put,AP];go_big_quiet_on;go_big_quiet_want;refine qv (.bool false) ?_ ?_
     ·rintro w' z0;go_simp
     simp only[Act.put,AP];go_big_quiet_on;go_big_quiet_skip;go_big_quiet_skip;go_big_quiet_skip;go_big_quiet_skip;go_big_quiet_skip;go_big_quiet_skip;go_big_quiet_skip;go_big_quiet_skip;go_big_quiet_skip;go_big_quiet_skip;go_big_quiet_skip;go_big_quiet_skip;go_big_quiet_skip;go_big_quiet_want;refine qv (.bool false) ?_ ?_
     ·rintro w' z0;go_simp
     simp only[Act.put,AP];go_big_quiet_on;refine wpQuiet_nil ?_;intro w' hC
     go_wp2_with fail
     go_meet
     case rel=>exact⟨rfl,hC⟩
    by_cases hx0:x<0
    ·have hx1:decide (x<0)=true:=by simpa using hx0
     refine wp_region_quiet (C:=fun w'=>Below w.heap.size w w') (by kernel_rfl) (by kernel_rfl) (Below.drew HB1.out) ?_;simp only[List.toList_toArray];go_big_quiet_want;refine qv (.bool true) ?_ ?_
     ·rintro w' z0;go_simp
     simp only[Act.put,AP];go_big_quiet_on;go_big_quiet_want;refine qv (.bool true) ?_ ?_
     ·rintro w' z0;go_simp
     simp only[Act.put,AP];go_big_quiet_on;go_big_quiet_want;refine qv (.int i64 x) ?_ ?_
     ·rintro w' z0;go_simp
     simp only[Act.put,AP];go_big_quiet_on;go_big_quiet_want;refine qv (.bool true) ?_ ?_
     ·rintro w' z0;go_simp
     simp only[Act.put,AP];go_big_quiet_on;go_big_quiet_want;refine qv (.bool true) ?_ ?_
     ·rintro w' z0;go_simp
     simp only[Act.put,AP];go_big_quiet_on;go_big_quiet_skip;go_big_quiet_skip;go_big_quiet_skip;go_big_quiet_skip;go_big_quiet_skip;go_big_quiet_skip;go_big_quiet_skip;go_big_quiet_skip;go_big_quiet_skip;go_big_quiet_want;refine qv (.bool true) ?_ ?_
     ·rintro w' z0;go_simp
     simp only[Act.put,AP];go_big_quiet_on;go_big_quiet_want;refine qv (.bool true) ?_ ?_
     ·rintro w' z0;go_simp
     simp only[Act.put,AP];go_big_quiet_on;refine wpQuiet_nil ?_;intro w' hC
     go_wp2_with fail
     go_meet
     case rel=>exact⟨by rw[hx1];rfl,hC⟩
    obtain⟨y,hy⟩:∃y:Nat,x=(y:Int):=⟨x.toNat,by omega⟩;have hx2:decide ((y:Int)<0)=false:=by simp
    subst hy;obtain⟨p2,m2,b2,q2,s2,v2,hyl,hLy,y0,y1,y2,y3,y4,y5⟩:=HCC1.out.at HN.out (show y<n by omega);obtain⟨p1,m1,b1,q1,s1,v1,hkl1,hLk,r0,r1,r2,r3,r4,r5⟩:=HCC1.out.at HN.out hlt;have E:=HK.out;rw[getD_at hkl1,hLk] at E;simp only[Ru.mk.injEq] at E;obtain⟨rfl,rfl,rfl,rfl,rfl,rfl⟩:=E;have HYL:Hid (L.getD ((y:Nat):Int).toNat zeR=⟨p2,m2,b2,q2,s2,v2⟩):=by
     show L.getD ((y:Nat):Int).toNat zeR=_;rw[Int.toNat_natCast,getD_at hyl,hLy]
    have yb0:(0:Int)≤(y:Int):=by omega
    have yb1:((y:Int))<(n:Int):=by omega
    have hS0:CD w g (o+k*6) p1 m1 b1 q1 s1 v1 g (o+y*6) p2 m2 b2 q2 s2 v2 w1:=⟨HB1.out,⟨r0,r1,r2,r3,r4,r5⟩,y0,y1,y2,y3,y4,y5⟩;clear y0 y1 y2 y3 y4 y5 r0 r1 r2 r3 r4 r5 hLy hLk;refine wp_region_quiet (C:=CD w g (o+k*6) p1 m1 b1 q1 s1 v1 g (o+y*6) p2 m2 b2 q2 s2 v2) (by kernel_rfl) (by kernel_rfl) (CD.later (W:=w1) (Below.drew (bRQ _ _)) hS0) ?_;simp only[List.toList_toArray];go_big_quiet_want;refine qv (.bool true) ?_ ?_
    ·rintro w' ⟨z0,⟨z1,z2,z3,z4,z5,z6⟩,y1,y2,y3,y4,y5,y6⟩;go_simp
    simp only[Act.put,AP];go_big_quiet_on;go_big_quiet_want;refine qv (.bool true) ?_ ?_
    ·rintro w' ⟨z0,⟨z1,z2,z3,z4,z5,z6⟩,y1,y2,y3,y4,y5,y6⟩;go_simp
    simp only[Act.put,AP];go_big_quiet_on;go_big_quiet_want;refine qv (.int i64 (y:Int)) ?_ ?_
    ·rintro w' ⟨z0,⟨z1,z2,z3,z4,z5,z6⟩,y1,y2,y3,y4,y5,y6⟩;go_simp
    simp only[Act.put,AP];go_big_quiet_on;go_big_quiet_want;refine qv (.bool false) ?_ ?_
    ·rintro w' ⟨z0,⟨z1,z2,z3,z4,z5,z6⟩,y1,y2,y3,y4,y5,y6⟩;go_simp
    simp only[Act.put,AP];go_big_quiet_on;go_big_quiet_want;refine qv (.bool false) ?_ ?_
    ·rintro w' ⟨z0,⟨z1,z2,z3,z4,z5,z6⟩,y1,y2,y3,y4,y5,y6⟩;go_simp
    simp only[Act.put,AP];go_big_quiet_on;go_big_quiet_want;refine qv (.slice (some ⟨g,o,none⟩) n cap) ?_ ?_
    ·rintro w' ⟨z0,⟨z1,z2,z3,z4,z5,z6⟩,y1,y2,y3,y4,y5,y6⟩;go_simp
    simp only[Act.put,AP];go_big_quiet_on;go_big_quiet_want;refine qv (.int i64 (k:Int)) ?_ ?_
    ·rintro w' ⟨z0,⟨z1,z2,z3,z4,z5,z6⟩,y1,y2,y3,y4,y5,y6⟩;go_simp
    simp only[Act.put,AP];go_big_quiet_on;go_big_quiet_want;refine qv (.pointer (some ⟨g,o+k*6,none⟩)) ?_ ?_
    ·rintro w' ⟨z0,⟨z1,z2,z3,z4,z5,z6⟩,y1,y2,y3,y4,y5,y6⟩;go_simp
    simp only[Act.put,AP];go_big_quiet_on;go_big_quiet_want;refine qv (.agg #[.int i64 p1,.int i64 m1,.int i64 b1,.int i64 q1,.int i64 s1,.int i64 v1]) ?_ ?_
    ·rintro w' ⟨z0,⟨z1,z2,z3,z4,z5,z6⟩,y1,y2,y3,y4,y5,y6⟩;go_simp
    simp only[Act.put,AP];go_big_quiet_on;go_big_quiet_want;refine qv (.slice (some ⟨g,o,none⟩) n cap) ?_ ?_
    ·rintro w' ⟨z0,⟨z1,z2,z3,z4,z5,z6⟩,y1,y2,y3,y4,y5,y6⟩;go_simp
    simp only[Act.put,AP];go_big_quiet_on;go_big_quiet_want;refine qv (.int i64 (y:Int)) ?_ ?_
    ·rintro w' ⟨z0,⟨z1,z2,z3,z4,z5,z6⟩,y1,y2,y3,y4,y5,y6⟩;go_simp
    simp only[Act.put,AP];go_big_quiet_on;go_big_quiet_want;refine qv (.pointer (some ⟨g,o+y*6,none⟩)) ?_ ?_
    ·rintro w' ⟨z0,⟨z1,z2,z3,z4,z5,z6⟩,y1,y2,y3,y4,y5,y6⟩;go_simp
    simp only[Act.put,AP];go_big_quiet_on;go_big_quiet_want;refine qv (.agg #[.int i64 p2,.int i64 m2,.int i64 b2,.int i64 q2,.int i64 s2,.int i64 v2]) ?_ ?_
    ·rintro w' ⟨z0,⟨z1,z2,z3,z4,z5,z6⟩,y1,y2,y3,y4,y5,y6⟩;go_simp
    simp only[Act.put,AP];go_big_quiet_on;go_big_quiet_want;refine quiet_call (f:=41) (args:=#[.agg #[.int i64 p1,.int i64 m1,.int i64 b1,.int i64 q1,.int i64 s1,.int i64 v1],.agg #[.int i64 p2,.int i64 m2,.int i64 b2,.int i64 q2,.int i64 s2,.int i64 v2]]) (v:=.bool (decide (0<ordR ⟨p1,m1,b1,q1,s1,v1⟩ ⟨p2,m2,b2,q2,s2,v2⟩))) (fun w'=>?_) (fun w' hC=>(above_any p1 m1 b1 q1 s1 v1 p2 m2 b2 q2 s2 v2 w').mono (fun e w2 h2=>⟨h2.1,CD.later h2.2 hC⟩)) ?_
    ·go_simp
    simp only[Act.put,AP];go_big_quiet_on;go_big_quiet_want;refine qv (.bool (decide (0<ordR ⟨p1,m1,b1,q1,s1,v1⟩ ⟨p2,m2,b2,q2,s2,v2⟩))) ?_ ?_
    ·rintro w' ⟨z0,⟨z1,z2,z3,z4,z5,z6⟩,y1,y2,y3,y4,y5,y6⟩;go_simp
    simp only[Act.put,AP];go_big_quiet_on;go_big_quiet_want;refine qv (.bool (decide (0<ordR ⟨p1,m1,b1,q1,s1,v1⟩ ⟨p2,m2,b2,q2,s2,v2⟩))) ?_ ?_
    ·rintro w' ⟨z0,⟨z1,z2,z3,z4,z5,z6⟩,y1,y2,y3,y4,y5,y6⟩;go_simp
    simp only[Act.put,AP];go_big_quiet_on;refine wpQuiet_nil ?_;intro w' hC
    go_wp2_with fail
    go_meet
    case rel=>exact⟨by rw[HYL.out,HK.out,hx2];rfl,hC.1⟩
   case rest =>
    obtain⟨hc2,hB2⟩:=hcut;have HYY:Hid (beTo L h (k+1)=if (Y&&(decide (x<0) || decide (0<ordR (L.getD k zeR) (L.getD x.toNat zeR)))) then (k:Int) else x):=be_nextF x HX.out _ (by rw[HK.out,←HY.out];rfl);clear HCC1
    generalize (Y&&(decide (x<0) || decide (0<ordR (L.getD k zeR) (L.getD x.toNat zeR))))=Z at *
    subst hc2;cases Z
    ·go_wp2;go_roundw
     case rel=>exact⟨k+1,by omega,by rw[HYY.out];rfl,by go_num,hB2⟩
     case measure=>simp[intOf];omega
    go_wp2;go_roundw
    case rel=>exact⟨k+1,by omega,by rw[HYY.out];rfl,by go_num,hB2⟩
    case measure=>simp[intOf];omega
  obtain rfl:k=n:=by omega
  go_wp2;go_ret;exact⟨by rw[←HX.out];rfl,HB.out⟩
theorem find_nil (ao:AdQ)(cap:Nat)(h:Int)(w:World):
 Calls prog 17 #[.slice ao 0 cap,.int i64 h] w fun e w'=>e=.returned (.int i64 (-1))∧Below w.heap.size w w':=by
 go_enter func17,ntmps17;go_wp2
 go_loopw [5,6] (fun x i wr=>x=.int i64 (-1)∧i=.int i64 0∧wr=w) (fun _ i _=>0)
 case atStart=>exact⟨rfl,rfl,rfl⟩
 case round =>
  obtain⟨rfl,rfl,rfl⟩:=hrel;go_wp2;go_ret;exact⟨rfl,bRQ _ _⟩
theorem find_any (x:Value)(L:List Ru)(h:Int)(w:World)(hs:SR w x L):
 Calls prog 17 #[x,.int i64 h] w fun e w'=>e=.returned (.int i64 (beTo L h L.length))∧Below w.heap.size w w':=by
 rcases hs with ⟨ao,cap,rfl,rfl⟩ | ⟨g,o,cap,rfl,h1,h2,hc⟩
 ·exact find_nil ao cap h w
 exact find_some g o cap _ h L w hc rfl (Nat.le_trans h1 h2)
theorem to_badF {L:List Ru}{k:Nat}{r:Ru}(hk:k<L.length)(hr:L[k]=r)(h:tbTo L k=0)(h2:r.n≠0)(h12:L.length≤12):tbN L=r.n:=by
 have e:tbTo L (k+1)=r.n:=by rw[tbTo,if_pos h,getD_at hk,hr,if_neg h2]
 rw[tbN,if_neg (by omega),←e];exact to_le (by rw[e];exact h2) hk
theorem to_clashF {L:List Ru}{k:Nat}{r:Ru}(hk:k<L.length)(hr:L[k]=r)(h:tbTo L k=0)(h2:r.n=0)(h3:(L.take k).any (fun a=>keyB a r)=true)(h12:L.length≤12):tbN L=7:=by
 have e:tbTo L (k+1)=7:=by
  rw[tbTo,if_pos h,getD_at hk,hr,if_pos h2,h3];rfl
 rw[tbN,if_neg (by omega),←e];exact to_le (by rw[e];decide) hk
theorem to_nextF {L:List Ru}{k:Nat}{r:Ru}(hk:k<L.length)(hr:L[k]=r)(h:tbTo L k=0)(h2:r.n=0)(h3:(L.take k).any (fun a=>keyB a r)=false):tbTo L (k+1)=0:=by
 rw[tbTo,if_pos h,getD_at hk,hr,if_pos h2,h3];rfl
theorem tab_take {L:List Ru}{f:Ru→Bool}{q k:Nat}(hq:q<k)(hk:q<L.length)(h:f L[q]=true):(L.take k).any f=true:=
 List.any_eq_true.2 ⟨_,List.mem_take_iff_getElem.2 ⟨q,by omega,rfl⟩,h⟩
theorem refTable_some (g o cap n:Nat)(L:List Ru)(w:World)(hc:RAt w g o L)(hn:L.length=n)(hl:n≤12):
 Calls prog 15 #[.slice (some ⟨g,o,none⟩) n cap] w fun e w'=>e=.returned (.int i64 (tbN L))∧Below w.heap.size w w':=by
 have HN:Hid (L.length=n):=hn;clear hn;go_enter func15,ntmps15;go_wp2
 go_loopw [3] (fun i wr=>∃k:Nat,k≤n∧i=.int i64 k∧tbTo L k=0∧Below w.heap.size w wr) (fun i _=>n-(intOf i).toNat)
 case atStart=>exact⟨0,by omega,rfl,rfl,bRQ _ _⟩
 case round =>
  obtain⟨k,hk,rfl,hno,hB⟩:=hrel;have HB:Hid (Below w.heap.size w wr):=hB;have HNO:Hid (tbTo L k=0):=hno;clear hno;by_cases hlt:k<n
  ·obtain⟨p,m,b,q,s,v,hkl,hL,q0,q1,q2,q3,q4,q5⟩:=(hc.later hB).at HN.out hlt;have HL:Hid (L[k]=⟨p,m,b,q,s,v⟩):=hL;clear hL hB;by_cases ho:ruN p m b q s v=0
   ·have HO:Hid (ruN p m b q s v=0):=ho
    go_wp2_with fail
    refine (refRule_any _ _ _ _ _ _ _).mono ?_;rintro e w1 ⟨rfl,hb1⟩;rw[HO.out];have HB1:Hid (Below w.heap.size w w1):=HB.out.trans (hb1.mono HB.out.size);clear hb1 q0 q1 q2 q3 q4 q5 ho;go_wp2
    go_loopw [5] (fun j w2=>∃t:Nat,t≤k∧j=.int i64 t∧(L.take t).any (fun a=>keyB a ⟨p,m,b,q,s,v⟩)=false∧Below w.heap.size w w2) (fun j _=>k-(intOf j).toNat)
    case atStart=>exact⟨0,by omega,rfl,by simp,HB1.out⟩
    case round =>
     obtain⟨t,ht,rfl,hany,hB2⟩:=hrel;have HANY:Hid ((L.take t).any (fun a=>keyB a ⟨p,m,b,q,s,v⟩)=false):=hany;have HB2:Hid (Below w.heap.size w wr):=hB2;clear hany;by_cases hq:t<k
     ·obtain⟨p4,m4,b4,o4,s4,v4,htl,hLt,y0,y1,y2,y3,y4,y5⟩:=(hc.later hB2).at HN.out (show t<n by omega);obtain⟨p5,m5,b5,o5,s5,v5,_,hLk,r0,r1,r2,r3,r4,r5⟩:=(hc.later hB2).at HN.out hlt;rw[HL.out] at hLk;simp only[Ru.mk.injEq] at hLk;obtain⟨rfl,rfl,rfl,rfl,rfl,rfl⟩:=hLk;have HLT:Hid (L[t]=⟨p4,m4,b4,o4,s4,v4⟩):=hLt;have HCE:Hid (CD w g (o+t*6) p4 m4 b4 o4 s4 v4 g (o+k*6) p m b q s v wr):=⟨hB2,⟨y0,y1,y2,y3,y4,y5⟩,r0,r1,r2,r3,r4,r5⟩;clear y0 y1 y2 y3 y4 y5 r0 r1 r2 r3 r4 r5 hLt hB2;go_upto_region 12 with fail;have tb0:(0:Int)≤(t:Int):=by omega
      have tb1:(t:Int)<(n:Int):=by omega
      have kb0:(0:Int)≤(k:Int):=by omega
      have kb1:(k:Int)<(n:Int):=by omega
      go_cut [51] from 23 to 51 (fun c w'=>c=.bool (keyB ⟨p4,m4,b4,o4,s4,v4⟩ ⟨p,m,b,q,s,v⟩)∧Below w.heap.size w w')
      case first =>
       as_aux_lemma =>
        by_cases e1:p4=p
        ·have f1:(p4==p)=true:=by simpa using e1
         by_cases e2:m4=m∧b4=b
         ·obtain⟨e2,e3⟩:=e2;have hky:keyB ⟨p4,m4,b4,o4,s4,v4⟩ ⟨p,m,b,q,s,v⟩=true:=by rw[key_eq];simp[e1,e2,e3]
          have f2:(m4==m)=true:=by simpa using e2
          have f3:(b4==b)=true:=by simpa using e3
          have hC0:=HCE.out;clear e1 e2 e3;refine wp_region_quiet (C:=CD w g (o+t*6) p4 m4 b4 o4 s4 v4 g (o+k*6) p m b q s v) (by kernel_rfl) (by kernel_rfl) (CD.later (W:=wr) (Below.drew (bRQ _ _)) hC0) ?_;simp only[List.toList_toArray];go_big_quiet_want;refine qv (.slice (some ⟨g,o,none⟩) n cap) ?_ ?_
          ·rintro w' ⟨z0,⟨z1,z2,z3,z4,z5,z6⟩,y1,y2,y3,y4,y5,y6⟩;go_simp
          simp only[Act.put,AP];go_big_quiet_on;go_big_quiet_want;refine qv (.int i64 (t:Int)) ?_ ?_
          ·rintro w' ⟨z0,⟨z1,z2,z3,z4,z5,z6⟩,y1,y2,y3,y4,y5,y6⟩;go_simp
          simp only[Act.put,AP];go_big_quiet_on;go_big_quiet_want;refine qv (.pointer (some ⟨g,o+t*6,none⟩)) ?_ ?_
          ·rintro w' ⟨z0,⟨z1,z2,z3,z4,z5,z6⟩,y1,y2,y3,y4,y5,y6⟩;go_simp
          simp only[Act.put,AP];go_big_quiet_on;go_big_quiet_want;refine qv (.pointer (some ⟨g,o+t*6,none⟩)) ?_ ?_
          ·rintro w' ⟨z0,⟨z1,z2,z3,z4,z5,z6⟩,y1,y2,y3,y4,y5,y6⟩;go_simp
          simp only[Act.put,AP];go_big_quiet_on;go_big_quiet_want;refine qv (.int i64 p4) ?_ ?_
          ·rintro w' ⟨z0,⟨z1,z2,z3,z4,z5,z6⟩,y1,y2,y3,y4,y5,y6⟩;go_simp
          simp only[Act.put,AP];go_big_quiet_on;go_big_quiet_want;refine qv (.slice (some ⟨g,o,none⟩) n cap) ?_ ?_
          ·rintro w' ⟨z0,⟨z1,z2,z3,z4,z5,z6⟩,y1,y2,y3,y4,y5,y6⟩;go_simp
          simp only[Act.put,AP];go_big_quiet_on;go_big_quiet_want;refine qv (.int i64 (k:Int)) ?_ ?_
          ·rintro w' ⟨z0,⟨z1,z2,z3,z4,z5,z6⟩,y1,y2,y3,y4,y5,y6⟩;go_simp
          simp only[Act.put,AP];go_big_quiet_on;go_big_quiet_want;refine qv (.pointer (some ⟨g,o+k*6,none⟩)) ?_ ?_
          ·rintro w' ⟨z0,⟨z1,z2,z3,z4,z5,z6⟩,y1,y2,y3,y4,y5,y6⟩;go_simp
          simp only[Act.put,AP];go_big_quiet_on;go_big_quiet_want;refine qv (.pointer (some ⟨g,o+k*6,none⟩)) ?_ ?_
          ·rintro w' ⟨z0,⟨z1,z2,z3,z4,z5,z6⟩,y1,y2,y3,y4,y5,y6⟩;go_simp
          simp only[Act.put,AP];go_big_quiet_on;go_big_quiet_want;refine qv (.int i64 p) ?_ ?_
          ·rintro w' ⟨z0,⟨z1,z2,z3,z4,z5,z6⟩,y1,y2,y3,y4,y5,y6⟩;go_simp
          simp only[Act.put,AP];go_big_quiet_on;go_big_quiet_want;refine qv (.bool true) ?_ ?_
          ·rintro w' ⟨z0,⟨z1,z2,z3,z4,z5,z6⟩,y1,y2,y3,y4,y5,y6⟩;go_simp
          simp only[Act.put,AP];go_big_quiet_on;go_big_quiet_want;refine qv (.bool true) ?_ ?_
          ·rintro w' ⟨z0,⟨z1,z2,z3,z4,z5,z6⟩,y1,y2,y3,y4,y5,y6⟩;go_simp
          simp only[Act.put,AP];go_big_quiet_on;go_big_quiet_want;refine qv (.slice (some ⟨g,o,none⟩) n cap) ?_ ?_
          ·rintro w' ⟨z0,⟨z1,z2,z3,z4,z5,z6⟩,y1,y2,y3,y4,y5,y6⟩;go_simp
          simp only[Act.put,AP];go_big_quiet_on;go_big_quiet_want;refine qv (.int i64 (t:Int)) ?_ ?_
          ·rintro w' ⟨z0,⟨z1,z2,z3,z4,z5,z6⟩,y1,y2,y3,y4,y5,y6⟩;go_simp
          simp only[Act.put,AP];go_big_quiet_on;go_big_quiet_want;refine qv (.pointer (some ⟨g,o+t*6,none⟩)) ?_ ?_
          ·rintro w' ⟨z0,⟨z1,z2,z3,z4,z5,z6⟩,y1,y2,y3,y4,y5,y6⟩;go_simp
          simp only[Act.put,AP];go_big_quiet_on;go_big_quiet_want;refine qv (.pointer (some ⟨g,o+t*6+1,none⟩)) ?_ ?_
          ·rintro w' ⟨z0,⟨z1,z2,z3,z4,z5,z6⟩,y1,y2,y3,y4,y5,y6⟩;go_simp
          simp only[Act.put,AP];go_big_quiet_on;go_big_quiet_want;refine qv (.agg #[.int i64 m4,.int i64 b4]) ?_ ?_
          ·rintro w' ⟨z0,⟨z1,z2,z3,z4,z5,z6⟩,y1,y2,y3,y4,y5,y6⟩;go_simp
          simp only[Act.put,AP];go_big_quiet_on;go_big_quiet_want;refine qv (.slice (some ⟨g,o,none⟩) n cap) ?_ ?_
          ·rintro w' ⟨z0,⟨z1,z2,z3,z4,z5,z6⟩,y1,y2,y3,y4,y5,y6⟩;go_simp
          simp only[Act.put,AP];go_big_quiet_on;go_big_quiet_want;refine qv (.int i64 (k:Int)) ?_ ?_
          ·rintro w' ⟨z0,⟨z1,z2,z3,z4,z5,z6⟩,y1,y2,y3,y4,y5,y6⟩;go_simp
          simp only[Act.put,AP];go_big_quiet_on;go_big_quiet_want;refine qv (.pointer (some ⟨g,o+k*6,none⟩)) ?_ ?_
          ·rintro w' ⟨z0,⟨z1,z2,z3,z4,z5,z6⟩,y1,y2,y3,y4,y5,y6⟩;go_simp
          simp only[Act.put,AP];go_big_quiet_on;go_big_quiet_want;refine qv (.pointer (some ⟨g,o+k*6+1,none⟩)) ?_ ?_
          ·rintro w' ⟨z0,⟨z1,z2,z3,z4,z5,z6⟩,y1,y2,y3,y4,y5,y6⟩;go_simp
          simp only[Act.put,AP];go_big_quiet_on;go_big_quiet_want;refine qv (.agg #[.int i64 m,.int i64 b]) ?_ ?_
          ·rintro w' ⟨z0,⟨z1,z2,z3,z4,z5,z6⟩,y1,y2,y3,y4,y5,y6⟩;go_simp
          simp only[Act.put,AP];go_big_quiet_on;go_big_quiet_want;refine qv (.bool true) ?_ ?_
          ·rintro w' ⟨z0,⟨z1,z2,z3,z4,z5,z6⟩,y1,y2,y3,y4,y5,y6⟩;go_simp
          simp only[Act.put,AP];go_big_quiet_on;go_big_quiet_want;refine qv (.bool true) ?_ ?_
          ·rintro w' ⟨z0,⟨z1,z2,z3,z4,z5,z6⟩,y1,y2,y3,y4,y5,y6⟩;go_simp
          simp only[Act.put,AP];go_big_quiet_on;refine wpQuiet_nil ?_;intro w' hC
          go_wp2_with fail
          go_meet
          case rel=>exact⟨by rw[hky],hC.1⟩
         have hky:keyB ⟨p4,m4,b4,o4,s4,v4⟩ ⟨p,m,b,q,s,v⟩=false:=by
          rw[key_eq];simp only[e1,decide_true,Bool.true_and,Bool.and_eq_false_iff,decide_eq_false_iff_not];by_cases e3:m4=m
          ·exact .inr fun e4=>e2 ⟨e3,e4⟩
          exact .inl e3
         by_cases e3:m4=m
         ·have f3:¬b4=b:=fun e4=>e2 ⟨e3,e4⟩
          have f2:(m4==m)=true:=by simpa using e3
          have f4:(b4==b)=false:=by simpa using f3
          clear e2;have hC0:=HCE.out;clear e1;refine wp_region_quiet (C:=CD w g (o+t*6) p4 m4 b4 o4 s4 v4 g (o+k*6) p m b q s v) (by kernel_rfl) (by kernel_rfl) (CD.later (W:=wr) (Below.drew (bRQ _ _)) hC0) ?_;simp only[List.toList_toArray];go_big_quiet_want;refine qv (.slice (some ⟨g,o,none⟩) n cap) ?_ ?_
          ·rintro w' ⟨z0,⟨z1,z2,z3,z4,z5,z6⟩,y1,y2,y3,y4,y5,y6⟩;go_simp
          simp only[Act.put,AP];go_big_quiet_on;go_big_quiet_want;refine qv (.int i64 (t:Int)) ?_ ?_
          ·rintro w' ⟨z0,⟨z1,z2,z3,z4,z5,z6⟩,y1,y2,y3,y4,y5,y6⟩;go_simp
          simp only[Act.put,AP];go_big_quiet_on;go_big_quiet_want;refine qv (.pointer (some ⟨g,o+t*6,none⟩)) ?_ ?_
          ·rintro w' ⟨z0,⟨z1,z2,z3,z4,z5,z6⟩,y1,y2,y3,y4,y5,y6⟩;go_simp
          simp only[Act.put,AP];go_big_quiet_on;go_big_quiet_want;refine qv (.pointer (some ⟨g,o+t*6,none⟩)) ?_ ?_
          ·rintro w' ⟨z0,⟨z1,z2,z3,z4,z5,z6⟩,y1,y2,y3,y4,y5,y6⟩;go_simp
          simp only[Act.put,AP];go_big_quiet_on;go_big_quiet_want;refine qv (.int i64 p4) ?_ ?_
          ·rintro w' ⟨z0,⟨z1,z2,z3,z4,z5,z6⟩,y1,y2,y3,y4,y5,y6⟩;go_simp
          simp only[Act.put,AP];go_big_quiet_on;go_big_quiet_want;refine qv (.slice (some ⟨g,o,none⟩) n cap) ?_ ?_
          ·rintro w' ⟨z0,⟨z1,z2,z3,z4,z5,z6⟩,y1,y2,y3,y4,y5,y6⟩;go_simp
          simp only[Act.put,AP];go_big_quiet_on;go_big_quiet_want;refine qv (.int i64 (k:Int)) ?_ ?_
          ·rintro w' ⟨z0,⟨z1,z2,z3,z4,z5,z6⟩,y1,y2,y3,y4,y5,y6⟩;go_simp
          simp only[Act.put,AP];go_big_quiet_on;go_big_quiet_want;refine qv (.pointer (some ⟨g,o+k*6,none⟩)) ?_ ?_
          ·rintro w' ⟨z0,⟨z1,z2,z3,z4,z5,z6⟩,y1,y2,y3,y4,y5,y6⟩;go_simp
          simp only[Act.put,AP];go_big_quiet_on;go_big_quiet_want;refine qv (.pointer (some ⟨g,o+k*6,none⟩)) ?_ ?_
          ·rintro w' ⟨z0,⟨z1,z2,z3,z4,z5,z6⟩,y1,y2,y3,y4,y5,y6⟩;go_simp
          simp only[Act.put,AP];go_big_quiet_on;go_big_quiet_want;refine qv (.int i64 p) ?_ ?_
          ·rintro w' ⟨z0,⟨z1,z2,z3,z4,z5,z6⟩,y1,y2,y3,y4,y5,y6⟩;go_simp
          simp only[Act.put,AP];go_big_quiet_on;go_big_quiet_want;refine qv (.bool true) ?_ ?_
          ·rintro w' ⟨z0,⟨z1,z2,z3,z4,z5,z6⟩,y1,y2,y3,y4,y5,y6⟩;go_simp
          simp only[Act.put,AP];go_big_quiet_on;go_big_quiet_want;refine qv (.bool true) ?_ ?_
          ·rintro w' ⟨z0,⟨z1,z2,z3,z4,z5,z6⟩,y1,y2,y3,y4,y5,y6⟩;go_simp
          simp only[Act.put,AP];go_big_quiet_on;go_big_quiet_want;refine qv (.slice (some ⟨g,o,none⟩) n cap) ?_ ?_
          ·rintro w' ⟨z0,⟨z1,z2,z3,z4,z5,z6⟩,y1,y2,y3,y4,y5,y6⟩;go_simp
          simp only[Act.put,AP];go_big_quiet_on;go_big_quiet_want;refine qv (.int i64 (t:Int)) ?_ ?_
          ·rintro w' ⟨z0,⟨z1,z2,z3,z4,z5,z6⟩,y1,y2,y3,y4,y5,y6⟩;go_simp
          simp only[Act.put,AP];go_big_quiet_on;go_big_quiet_want;refine qv (.pointer (some ⟨g,o+t*6,none⟩)) ?_ ?_
          ·rintro w' ⟨z0,⟨z1,z2,z3,z4,z5,z6⟩,y1,y2,y3,y4,y5,y6⟩;go_simp
          simp only[Act.put,AP];go_big_quiet_on;go_big_quiet_want;refine qv (.pointer (some ⟨g,o+t*6+1,none⟩)) ?_ ?_
          ·rintro w' ⟨z0,⟨z1,z2,z3,z4,z5,z6⟩,y1,y2,y3,y4,y5,y6⟩;go_simp
          simp only[Act.put,AP];go_big_quiet_on;go_big_quiet_want;refine qv (.agg #[.int i64 m4,.int i64 b4]) ?_ ?_
          ·rintro w' ⟨z0,⟨z1,z2,z3,z4,z5,z6⟩,y1,y2,y3,y4,y5,y6⟩;go_simp
          simp only[Act.put,AP];go_big_quiet_on;go_big_quiet_want;refine qv (.slice (some ⟨g,o,none⟩) n cap) ?_ ?_
          ·rintro w' ⟨z0,⟨z1,z2,z3,z4,z5,z6⟩,y1,y2,y3,y4,y5,y6⟩;go_simp
          simp only[Act.put,AP];go_big_quiet_on;go_big_quiet_want;refine qv (.int i64 (k:Int)) ?_ ?_
          ·rintro w' ⟨z0,⟨z1,z2,z3,z4,z5,z6⟩,y1,y2,y3,y4,y5,y6⟩;go_simp
          simp only[Act.put,AP];go_big_quiet_on;go_big_quiet_want;refine qv (.pointer (some ⟨g,o+k*6,none⟩)) ?_ ?_
          ·rintro w' ⟨z0,⟨z1,z2,z3,z4,z5,z6⟩,y1,y2,y3,y4,y5,y6⟩;go_simp
          simp only[Act.put,AP];go_big_quiet_on;go_big_quiet_want;refine qv (.pointer (some ⟨g,o+k*6+1,none⟩)) ?_ ?_
          ·rintro w' ⟨z0,⟨z1,z2,z3,z4,z5,z6⟩,y1,y2,y3,y4,y5,y6⟩;go_simp
          simp only[Act.put,AP];go_big_quiet_on;go_big_quiet_want;refine qv (.agg #[.int i64 m,.int i64 b]) ?_ ?_
          ·rintro w' ⟨z0,⟨z1,z2,z3,z4,z5,z6⟩,y1,y2,y3,y4,y5,y6⟩;go_simp
          simp only[Act.put,AP];go_big_quiet_on;go_big_quiet_want;refine qv (.bool false) ?_ ?_
          ·rintro w' ⟨z0,⟨z1,z2,z3,z4,z5,z6⟩,y1,y2,y3,y4,y5,y6⟩;go_simp
          simp only[Act.put,AP];go_big_quiet_on;go_big_quiet_want;refine qv (.bool false) ?_ ?_
          ·rintro w' ⟨z0,⟨z1,z2,z3,z4,z5,z6⟩,y1,y2,y3,y4,y5,y6⟩;go_simp
          simp only[Act.put,AP];go_big_quiet_on;refine wpQuiet_nil ?_;intro w' hC
          go_wp2_with fail
          go_meet
          case rel=>exact⟨by rw[hky],hC.1⟩
         have f2:(m4==m)=false:=by simpa using e3
         clear e2;have hC0:=HCE.out;clear e1;refine wp_region_quiet (C:=CD w g (o+t*6) p4 m4 b4 o4 s4 v4 g (o+k*6) p m b q s v) (by kernel_rfl) (by kernel_rfl) (CD.later (W:=wr) (Below.drew (bRQ _ _)) hC0) ?_;simp only[List.toList_toArray];go_big_quiet_want;refine qv (.slice (some ⟨g,o,none⟩) n cap) ?_ ?_
         ·rintro w' ⟨z0,⟨z1,z2,z3,z4,z5,z6⟩,y1,y2,y3,y4,y5,y6⟩;go_simp
         simp only[Act.put,AP];go_big_quiet_on;go_big_quiet_want;refine qv (.int i64 (t:Int)) ?_ ?_
         ·rintro w' ⟨z0,⟨z1,z2,z3,z4,z5,z6⟩,y1,y2,y3,y4,y5,y6⟩;go_simp
         simp only[Act.put,AP];go_big_quiet_on;go_big_quiet_want;refine qv (.pointer (some ⟨g,o+t*6,none⟩)) ?_ ?_
         ·rintro w' ⟨z0,⟨z1,z2,z3,z4,z5,z6⟩,y1,y2,y3,y4,y5,y6⟩;go_simp
         simp only[Act.put,AP];go_big_quiet_on;go_big_quiet_want;refine qv (.pointer (some ⟨g,o+t*6,none⟩)) ?_ ?_
         ·rintro w' ⟨z0,⟨z1,z2,z3,z4,z5,z6⟩,y1,y2,y3,y4,y5,y6⟩;go_simp
         simp only[Act.put,AP];go_big_quiet_on;go_big_quiet_want;refine qv (.int i64 p4) ?_ ?_
         ·rintro w' ⟨z0,⟨z1,z2,z3,z4,z5,z6⟩,y1,y2,y3,y4,y5,y6⟩;go_simp
         simp only[Act.put,AP];go_big_quiet_on;go_big_quiet_want;refine qv (.slice (some ⟨g,o,none⟩) n cap) ?_ ?_
         ·rintro w' ⟨z0,⟨z1,z2,z3,z4,z5,z6⟩,y1,y2,y3,y4,y5,y6⟩;go_simp
         simp only[Act.put,AP];go_big_quiet_on;go_big_quiet_want;refine qv (.int i64 (k:Int)) ?_ ?_
         ·rintro w' ⟨z0,⟨z1,z2,z3,z4,z5,z6⟩,y1,y2,y3,y4,y5,y6⟩;go_simp
         simp only[Act.put,AP];go_big_quiet_on;go_big_quiet_want;refine qv (.pointer (some ⟨g,o+k*6,none⟩)) ?_ ?_
         ·rintro w' ⟨z0,⟨z1,z2,z3,z4,z5,z6⟩,y1,y2,y3,y4,y5,y6⟩;go_simp
         simp only[Act.put,AP];go_big_quiet_on;go_big_quiet_want;refine qv (.pointer (some ⟨g,o+k*6,none⟩)) ?_ ?_
         ·rintro w' ⟨z0,⟨z1,z2,z3,z4,z5,z6⟩,y1,y2,y3,y4,y5,y6⟩;go_simp
         simp only[Act.put,AP];go_big_quiet_on;go_big_quiet_want;refine qv (.int i64 p) ?_ ?_
         ·rintro w' ⟨z0,⟨z1,z2,z3,z4,z5,z6⟩,y1,y2,y3,y4,y5,y6⟩;go_simp
         simp only[Act.put,AP];go_big_quiet_on;go_big_quiet_want;refine qv (.bool true) ?_ ?_
         ·rintro w' ⟨z0,⟨z1,z2,z3,z4,z5,z6⟩,y1,y2,y3,y4,y5,y6⟩;go_simp
         simp only[Act.put,AP];go_big_quiet_on;go_big_quiet_want;refine qv (.bool true) ?_ ?_
         ·rintro w' ⟨z0,⟨z1,z2,z3,z4,z5,z6⟩,y1,y2,y3,y4,y5,y6⟩;go_simp
         simp only[Act.put,AP];go_big_quiet_on;go_big_quiet_want;refine qv (.slice (some ⟨g,o,none⟩) n cap) ?_ ?_
         ·rintro w' ⟨z0,⟨z1,z2,z3,z4,z5,z6⟩,y1,y2,y3,y4,y5,y6⟩;go_simp
         simp only[Act.put,AP];go_big_quiet_on;go_big_quiet_want;refine qv (.int i64 (t:Int)) ?_ ?_
         ·rintro w' ⟨z0,⟨z1,z2,z3,z4,z5,z6⟩,y1,y2,y3,y4,y5,y6⟩;go_simp
         simp only[Act.put,AP];go_big_quiet_on;go_big_quiet_want;refine qv (.pointer (some ⟨g,o+t*6,none⟩)) ?_ ?_
         ·rintro w' ⟨z0,⟨z1,z2,z3,z4,z5,z6⟩,y1,y2,y3,y4,y5,y6⟩;go_simp
         simp only[Act.put,AP];go_big_quiet_on;go_big_quiet_want;refine qv (.pointer (some ⟨g,o+t*6+1,none⟩)) ?_ ?_
         ·rintro w' ⟨z0,⟨z1,z2,z3,z4,z5,z6⟩,y1,y2,y3,y4,y5,y6⟩;go_simp
         simp only[Act.put,AP];go_big_quiet_on;go_big_quiet_want;refine qv (.agg #[.int i64 m4,.int i64 b4]) ?_ ?_
         ·rintro w' ⟨z0,⟨z1,z2,z3,z4,z5,z6⟩,y1,y2,y3,y4,y5,y6⟩;go_simp
         simp only[Act.put,AP];go_big_quiet_on;go_big_quiet_want;refine qv (.slice (some ⟨g,o,none⟩) n cap) ?_ ?_
         ·rintro w' ⟨z0,⟨z1,z2,z3,z4,z5,z6⟩,y1,y2,y3,y4,y5,y6⟩;go_simp
         simp only[Act.put,AP];go_big_quiet_on;go_big_quiet_want;refine qv (.int i64 (k:Int)) ?_ ?_
         ·rintro w' ⟨z0,⟨z1,z2,z3,z4,z5,z6⟩,y1,y2,y3,y4,y5,y6⟩;go_simp
         simp only[Act.put,AP];go_big_quiet_on;go_big_quiet_want;refine qv (.pointer (some ⟨g,o+k*6,none⟩)) ?_ ?_
         ·rintro w' ⟨z0,⟨z1,z2,z3,z4,z5,z6⟩,y1,y2,y3,y4,y5,y6⟩;go_simp
         simp only[Act.put,AP];go_big_quiet_on;go_big_quiet_want;refine qv (.pointer (some ⟨g,o+k*6+1,none⟩)) ?_ ?_
         ·rintro w' ⟨z0,⟨z1,z2,z3,z4,z5,z6⟩,y1,y2,y3,y4,y5,y6⟩;go_simp
         simp only[Act.put,AP];go_big_quiet_on;go_big_quiet_want;refine qv (.agg #[.int i64 m,.int i64 b]) ?_ ?_
         ·rintro w' ⟨z0,⟨z1,z2,z3,z4,z5,z6⟩,y1,y2,y3,y4,y5,y6⟩;go_simp
         simp only[Act.put,AP];go_big_quiet_on;go_big_quiet_want;refine qv (.bool false) ?_ ?_
         ·rintro w' ⟨z0,⟨z1,z2,z3,z4,z5,z6⟩,y1,y2,y3,y4,y5,y6⟩;go_simp
         simp only[Act.put,AP];go_big_quiet_on;go_big_quiet_want;refine qv (.bool false) ?_ ?_
         ·rintro w' ⟨z0,⟨z1,z2,z3,z4,z5,z6⟩,y1,y2,y3,y4,y5,y6⟩;go_simp
         simp only[Act.put,AP];go_big_quiet_on;refine wpQuiet_nil ?_;intro w' hC
         go_wp2_with fail
         go_meet
         case rel=>exact⟨by rw[hky],hC.1⟩
        have hky:keyB ⟨p4,m4,b4,o4,s4,v4⟩ ⟨p,m,b,q,s,v⟩=false:=by rw[key_eq];simp[e1]
        have f1:(p4==p)=false:=by simpa using e1
        have hC0:=HCE.out;clear e1;refine wp_region_quiet (C:=CD w g (o+t*6) p4 m4 b4 o4 s4 v4 g (o+k*6) p m b q s v) (by kernel_rfl) (by kernel_rfl) (CD.later (W:=wr) (Below.drew (bRQ _ _)) hC0) ?_;simp only[List.toList_toArray];go_big_quiet_want;refine qv (.slice (some ⟨g,o,none⟩) n cap) ?_ ?_
        ·rintro w' ⟨z0,⟨z1,z2,z3,z4,z5,z6⟩,y1,y2,y3,y4,y5,y6⟩;go_simp
        simp only[Act.put,AP];go_big_quiet_on;go_big_quiet_want;refine qv (.int i64 (t:Int)) ?_ ?_
        ·rintro w' ⟨z0,⟨z1,z2,z3,z4,z5,z6⟩,y1,y2,y3,y4,y5,y6⟩;go_simp
        simp only[Act.put,AP];go_big_quiet_on;go_big_quiet_want;refine qv (.pointer (some ⟨g,o+t*6,none⟩)) ?_ ?_
        ·rintro w' ⟨z0,⟨z1,z2,z3,z4,z5,z6⟩,y1,y2,y3,y4,y5,y6⟩;go_simp
        simp only[Act.put,AP];go_big_quiet_on;go_big_quiet_want;refine qv (.pointer (some ⟨g,o+t*6,none⟩)) ?_ ?_
        ·rintro w' ⟨z0,⟨z1,z2,z3,z4,z5,z6⟩,y1,y2,y3,y4,y5,y6⟩;go_simp
        simp only[Act.put,AP];go_big_quiet_on;go_big_quiet_want;refine qv (.int i64 p4) ?_ ?_
        ·rintro w' ⟨z0,⟨z1,z2,z3,z4,z5,z6⟩,y1,y2,y3,y4,y5,y6⟩;go_simp
        simp only[Act.put,AP];go_big_quiet_on;go_big_quiet_want;refine qv (.slice (some ⟨g,o,none⟩) n cap) ?_ ?_
        ·rintro w' ⟨z0,⟨z1,z2,z3,z4,z5,z6⟩,y1,y2,y3,y4,y5,y6⟩;go_simp
        simp only[Act.put,AP];go_big_quiet_on;go_big_quiet_want;refine qv (.int i64 (k:Int)) ?_ ?_
        ·rintro w' ⟨z0,⟨z1,z2,z3,z4,z5,z6⟩,y1,y2,y3,y4,y5,y6⟩;go_simp
        simp only[Act.put,AP];go_big_quiet_on;go_big_quiet_want;refine qv (.pointer (some ⟨g,o+k*6,none⟩)) ?_ ?_
        ·rintro w' ⟨z0,⟨z1,z2,z3,z4,z5,z6⟩,y1,y2,y3,y4,y5,y6⟩;go_simp
        simp only[Act.put,AP];go_big_quiet_on;go_big_quiet_want;refine qv (.pointer (some ⟨g,o+k*6,none⟩)) ?_ ?_
        ·rintro w' ⟨z0,⟨z1,z2,z3,z4,z5,z6⟩,y1,y2,y3,y4,y5,y6⟩;go_simp
        simp only[Act.put,AP];go_big_quiet_on;go_big_quiet_want;refine qv (.int i64 p) ?_ ?_
        ·rintro w' ⟨z0,⟨z1,z2,z3,z4,z5,z6⟩,y1,y2,y3,y4,y5,y6⟩;go_simp
        simp only[Act.put,AP];go_big_quiet_on;go_big_quiet_want;refine qv (.bool false) ?_ ?_
        ·rintro w' ⟨z0,⟨z1,z2,z3,z4,z5,z6⟩,y1,y2,y3,y4,y5,y6⟩;go_simp
        simp only[Act.put,AP];go_big_quiet_on;go_big_quiet_want;refine qv (.bool false) ?_ ?_
        ·rintro w' ⟨z0,⟨z1,z2,z3,z4,z5,z6⟩,y1,y2,y3,y4,y5,y6⟩;go_simp
        simp only[Act.put,AP];go_big_quiet_on;go_big_quiet_skip;go_big_quiet_skip;go_big_quiet_skip;go_big_quiet_skip;go_big_quiet_skip;go_big_quiet_skip;go_big_quiet_skip;go_big_quiet_skip;go_big_quiet_skip;go_big_quiet_skip;go_big_quiet_skip;go_big_quiet_want;refine qv (.bool false) ?_ ?_
        ·rintro w' ⟨z0,⟨z1,z2,z3,z4,z5,z6⟩,y1,y2,y3,y4,y5,y6⟩;go_simp
        simp only[Act.put,AP];go_big_quiet_on;refine wpQuiet_nil ?_;intro w' hC
        go_wp2_with fail
        go_meet
        case rel=>exact⟨by rw[hky],hC.1⟩
      case rest =>
       obtain⟨hc2,hB3⟩:=hcut;clear HCE;cases hky:keyB ⟨p4,m4,b4,o4,s4,v4⟩ ⟨p,m,b,q,s,v⟩
       ·rw[hky] at hc2;subst hc2;go_wp2;go_roundw
        case rel=>exact⟨t+1,by omega,by go_num,any_nextR htl HANY.out (by rw[HLT.out];exact hky),hB3⟩
        case measure=>simp[intOf];omega
       rw[hky] at hc2;subst hc2;have HT:Hid (tbN L=7):=to_clashF hkl HL.out HNO.out HO.out (tab_take hq htl (by rw[HLT.out];exact hky)) (by rw[HN.out];exact hl);go_wp2;go_ret;exact⟨by rw[HT.out];rfl,hB3⟩
     obtain rfl:t=k:=by omega
     clear hB2;go_wp2;go_roundw
     case rel=>exact⟨t+1,by omega,by go_num,to_nextF hkl HL.out HNO.out HO.out HANY.out,HB2.out⟩
     case measure=>simp[intOf];omega
   have HT:Hid (tbN L=ruN p m b q s v):=to_badF hkl HL.out HNO.out ho (by rw[HN.out];exact hl);have ho2:(ruN p m b q s v != 0)=true:=by simpa using ho
   clear ho
   go_wp2_with fail
   refine (refRule_any _ _ _ _ _ _ _).mono ?_;rintro e w1 ⟨rfl,hb1⟩;have HB1:=HB.out.trans (hb1.mono HB.out.size);clear hb1;go_wp2;go_ret;exact⟨by rw[HT.out];rfl,HB1⟩
  obtain rfl:k=n:=by omega
  go_wp2;go_ret;refine⟨?_,HB.out⟩;have e1:tbN L=0:=by
   rw[tbN,if_neg (by rw[HN.out];omega),HN.out];exact HNO.out
  rw[e1];rfl
theorem refTable_long (ao:AdQ)(cap n:Nat)(w:World)(hl:12<n):
 Calls prog 15 #[.slice ao n cap] w fun e w'=>e=.returned (.int i64 4)∧Below w.heap.size w w':=by
 go_enter func15,ntmps15;go_wp2;go_ret;exact⟨rfl,bRQ _ _⟩
theorem refTable_nil (ao:AdQ)(cap:Nat)(w:World):
 Calls prog 15 #[.slice ao 0 cap] w fun e w'=>e=.returned (.int i64 0)∧Below w.heap.size w w':=by
 go_enter func15,ntmps15;go_wp2
 go_loopw [3] (fun i wr=>i=.int i64 0∧wr=w) (fun i _=>0)
 case atStart=>exact⟨rfl,rfl⟩
 case round =>
  obtain⟨rfl,rfl⟩:=hrel;go_wp2;go_ret;exact⟨rfl,bRQ _ _⟩
theorem refTable_any (v:Value)(L:List Ru)(w:World)(h:SR w v L):
 Calls prog 15 #[v] w fun e w'=>e=.returned (.int i64 (tbN L))∧Below w.heap.size w w':=by
 rcases h with ⟨ao,cap,rfl,rfl⟩ | ⟨g,o,cap,rfl,h1,h2,hc⟩
 ·exact refTable_nil ao cap w
 by_cases h12:12<L.length
 ·have e:tbN L=4:=by simp[tbN,h12]
  rw[e];exact refTable_long _ _ _ _ h12
 exact refTable_some _ _ _ _ L w hc rfl (by omega)
theorem own_form {w:World}{B e size n:Nat}{v:Value}{xs:List Value}(h:w.ownsRow B e size v n xs):∃ao cap,v=.slice ao n cap:=by
 rcases h.2 with ⟨rfl,rfl⟩ | ⟨g,cap,cur,rfl,_⟩
 ·exact⟨none,0,rfl⟩
 exact⟨_,cap,rfl⟩
theorem own_ints {w:World}{B e:Nat}{v:Value}{xs:List Int}(h:w.ownsRow B e 1 v xs.length (xs.map (Value.int i64))):
 (v=.slice none 0 0∧xs=[])∨∃g cap,v=.slice (some ⟨g,0,none⟩) xs.length cap∧∀i (hi:i<xs.length),w.cell? ⟨g,i,none⟩=some (.int i64 xs[i]):=by
 rcases h.2 with ⟨rfl,h0⟩ | ⟨g,cap,cur,rfl,_⟩
 ·exact .inl ⟨rfl,List.length_eq_zero_iff.1 h0⟩
 refine .inr ⟨g,cap,rfl,fun i hi=>?_⟩;rw[h.cellAt i (by omega)];simp[hi]
def eqTo (a b:List Int)(k:Nat):Bool:=a.take k==b.take k
theorem ints_len (ao bo:AdQ)(n k c d:Nat)(w:World)(h:n≠k):
 Calls prog 19 #[.slice ao n c,.slice bo k d] w fun e w'=>e=.returned (.bool false)∧Below w.heap.size w w':=by
 have h2:(n:Int)≠(k:Int):=by omega
 go_enter func19,ntmps19;go_wp2;go_ret;exact⟨rfl,bRQ _ _⟩
theorem ints_nil (w:World)(ao bo:AdQ)(c d:Nat):
 Calls prog 19 #[.slice ao 0 c,.slice bo 0 d] w fun e w'=>e=.returned (.bool true)∧Below w.heap.size w w':=by
 go_enter func19,ntmps19;go_wp2
 go_loopw [5] (fun i wr=>i=.int i64 0∧wr=w) (fun i _=>0)
 case atStart=>exact⟨rfl,rfl⟩
 case round =>
  obtain⟨rfl,rfl⟩:=hrel;go_wp2;go_ret;exact⟨rfl,bRQ _ _⟩
theorem ints_some (g f n c d:Nat)(xs ys:List Int)(w:World)(hx:xs.length=n)(hy:ys.length=n)(hn:n≤16)
 (h1:∀i (hi:i<xs.length),w.cell? ⟨g,i,none⟩=some (.int i64 xs[i])) (h2:∀i (hi:i<ys.length),w.cell? ⟨f,i,none⟩=some (.int i64 ys[i])):
 Calls prog 19 #[.slice (some ⟨g,0,none⟩) n c,.slice (some ⟨f,0,none⟩) n d] w fun e w'=>e=.returned (.bool (xs==ys))∧Below w.heap.size w w':=by
 have HX:Hid (xs.length=n):=hx;have HY:Hid (ys.length=n):=hy;clear hx hy;go_enter func19,ntmps19;go_wp2
 go_loopw [5] (fun i wr=>∃k:Nat,k≤n∧i=.int i64 k∧eqTo xs ys k=true∧Below w.heap.size w wr)
  (fun i _=>n-(intOf i).toNat)
 case atStart=>exact⟨0,by omega,rfl,by simp[eqTo],bRQ _ _⟩
 case round =>
  obtain⟨k,hk,rfl,he,hB⟩:=hrel;have HB:Hid (Below w.heap.size w wr):=hB;have HE:Hid (eqTo xs ys k=true):=he;clear he;by_cases hlt:k<n
  ·have hkx:k<xs.length:=by rw[HX.out];exact hlt
   have hky:k<ys.length:=by rw[HY.out];exact hlt
   have q0:=h1 k hkx;have q1:=h2 k hky;have r0:=hB.cell (bLQ _ _ q0);have r1:=hB.cell (bLQ _ _ q1);rw[q0] at r0;rw[q1] at r1;obtain⟨x,hxk⟩:∃x,x=xs[k]:=⟨_,rfl⟩;obtain⟨y,hyk⟩:∃y,y=ys[k]:=⟨_,rfl⟩;rw[←hxk] at r0;rw[←hyk] at r1;have HXK:Hid (x=xs[k]):=hxk;have HYK:Hid (y=ys[k]):=hyk;clear hxk hyk q0 q1 h1 h2 hB;by_cases hne:x=y
   ·have HXY:Hid (x=y):=hne;subst hne;go_wp2
    go_quiet (fail)
    go_wp2;go_roundw
    case rel=>exact⟨k+1,by omega,by go_num,by
     have:=HE.out;simp only[eqTo,List.take_succ_eq_append_getElem hkx,List.take_succ_eq_append_getElem hky,beq_iff_eq] at *;rw[this,←HXK.out,←HYK.out],HB.out.trans ⟨rfl,rfl,rfl,nLQ _,fun _ _=>rfl⟩⟩
    case measure=>simp[intOf];omega
   go_wp2
   go_quiet (fail)
   go_wp2;go_ret;exact⟨by
    have:(xs==ys)=false:=by
     simp only[beq_eq_false_iff_ne,ne_eq];intro h;subst h;exact hne (HXK.out.trans HYK.out.symm)
    rw[this];rfl,HB.out.trans ⟨rfl,rfl,rfl,nLQ _,fun _ _=>rfl⟩⟩
  obtain rfl:k=n:=by omega
  go_wp2;go_ret;exact⟨by
   have:=HE.out;have h1:=List.take_length (l:=xs);have h2:=List.take_length (l:=ys);rw[HX.out] at h1;rw[HY.out] at h2;rw[eqTo,h1,h2] at this;rw[this];rfl,HB.out⟩
theorem ints_any (u v:Value)(xs ys:List Int)(w:World)(B C e:Nat)(hx:xs.length≤16)
 (h1:w.ownsRow B e 1 u xs.length (xs.map (Value.int i64))) (h2:w.ownsRow C e 1 v ys.length (ys.map (Value.int i64))):
 Calls prog 19 #[u,v] w fun e w'=>e=.returned (.bool (xs==ys))∧Below w.heap.size w w':=by
 by_cases hl:xs.length=ys.length
 ·rcases own_ints h1 with ⟨rfl,rfl⟩ | ⟨g,c,rfl,q1⟩
  ·obtain rfl:ys=[]:=List.length_eq_zero_iff.1 hl.symm;obtain⟨ao,d,rfl⟩:=own_form h2;exact ints_nil w _ _ _ _
  rcases own_ints h2 with ⟨rfl,rfl⟩ | ⟨f,d,rfl,q2⟩
  ·obtain rfl:xs=[]:=List.length_eq_zero_iff.1 hl;exact ints_nil w _ _ _ _
  have:=ints_some g f xs.length c d xs ys w rfl hl.symm hx q1 q2;rw[←hl];exact this
 have e:(xs==ys)=false:=by
  simp only[beq_eq_false_iff_ne,ne_eq];intro h;subst h;exact hl rfl
 rw[e];obtain⟨ao,c,rfl⟩:=own_form h1;obtain⟨bo,d,rfl⟩:=own_form h2;exact ints_len _ _ _ _ _ _ w hl
theorem nan_any (a:Int)(w:World):Calls prog 72 #[.int i64 a] w fun e w'=>e=.returned (.bool false)∧w'=w:=by
 go_enter func72,ntmps72;go_wp2;go_ret;exact⟨by simp,rfl⟩
theorem compare_any (a b:Int)(w:World):Calls prog 60 #[.int i64 a,.int i64 b] w fun e w'=>e=.returned (.int i64 (cmpN a b))∧w'=w:=by
 by_cases h1:a<b
 ·have e:cmpN a b = -1:=by simp[cmpN,h1]
  rw[e];clear e;have g1:decide (a<b)=true:=by simpa using h1
  go_enter func60,ntmps60
  go_wp2_with (first | (go_at_call 72;refine (nan_any _ _).mono ?_;rintro e w' ⟨rfl,rfl⟩))
  go_ret;exact⟨rfl,rfl⟩
 have g1:decide (a<b)=false:=by simpa using h1
 by_cases h2:b<a
 ·have e:cmpN a b=1:=by simp[cmpN,h1,h2]
  rw[e];clear e;have g2:decide (b<a)=true:=by simpa using h2
  go_enter func60,ntmps60
  go_wp2_with (first | (go_at_call 72;refine (nan_any _ _).mono ?_;rintro e w' ⟨rfl,rfl⟩))
  go_ret;exact⟨rfl,rfl⟩
 have e:cmpN a b=0:=by simp[cmpN,h1,h2]
 rw[e];clear e;have g2:decide (b<a)=false:=by simpa using h2
 go_enter func60,ntmps60
 go_wp2_with (first | (go_at_call 72;refine (nan_any _ _).mono ?_;rintro e w' ⟨rfl,rfl⟩))
 go_ret;exact⟨rfl,rfl⟩
theorem or_any (x y z:Int)(g:Nat)(w:World)(h0:w.cell? ⟨g,0,none⟩=some (.int i64 x))(h1:w.cell? ⟨g,1,none⟩=some (.int i64 y))(h2:w.cell? ⟨g,2,none⟩=some (.int i64 z)):
 Calls prog 59 #[.slice (some ⟨g,0,none⟩) 3 3] w fun e w'=>e=.returned (.int i64 (orN x y z))∧w'=w:=by
 generalize hq:orN x y z=q
 have HQ:Hid ((if x=0 then (if y=0 then z else y) else x)=q):=hq;clear hq;go_enter func59,ntmps59;go_wp2
 go_loopw [8] (fun i wr=>∃k:Nat,k≤3∧i=.int i64 k∧(0<k→x=0)∧(1<k→y=0)∧(2<k→z=0)∧wr=w) (fun i _=>3-(intOf i).toNat)
 case atStart=>exact⟨0,by omega,rfl,by omega,by omega,by omega,rfl⟩
 case round =>
  obtain⟨k,hk,rfl,a0,a1,a2,hw⟩:=hrel
  replace hw:=hw.symm
  subst hw
  rcases (by omega:k=0∨k=1∨k=2∨k=3) with rfl | rfl | rfl | rfl
  ·clear a0 a1 a2;by_cases hx:x=0
   ·have g1:(x==0)=true:=by simpa using hx
    have g2:(x != 0)=false:=by simpa using hx
    go_wp2;go_roundw
    case rel=>exact⟨1,by omega,rfl,fun _=>hx,by omega,by omega,trivial⟩
    case measure=>simp[intOf]
   have g1:(x==0)=false:=by simpa using hx
   have g2:(x != 0)=true:=by simpa using hx
   go_wp2;go_ret;exact⟨by rw[←HQ.out,if_neg hx];rfl,rfl⟩
  ·have hx:=a0 (by omega);clear a0 a1 a2;by_cases hy:y=0
   ·have g1:(y==0)=true:=by simpa using hy
    have g2:(y != 0)=false:=by simpa using hy
    go_wp2;go_roundw
    case rel=>exact⟨2,by omega,rfl,fun _=>hx,fun _=>hy,by omega,trivial⟩
    case measure=>simp[intOf]
   have g1:(y==0)=false:=by simpa using hy
   have g2:(y != 0)=true:=by simpa using hy
   go_wp2;go_ret;exact⟨by rw[←HQ.out,if_pos hx,if_neg hy];rfl,rfl⟩
  ·have hx:=a0 (by omega);have hy:=a1 (by omega);clear a0 a1 a2;by_cases hz:z=0
   ·have g1:(z==0)=true:=by simpa using hz
    have g2:(z != 0)=false:=by simpa using hz
    go_wp2;go_roundw
    case rel=>exact⟨3,by omega,rfl,fun _=>hx,fun _=>hy,fun _=>hz,trivial⟩
    case measure=>simp[intOf]
   have g1:(z==0)=false:=by simpa using hz
   have g2:(z != 0)=true:=by simpa using hz
   go_wp2;go_ret;exact⟨by rw[←HQ.out,if_pos hx,if_pos hy];rfl,rfl⟩
  have hx:=a0 (by omega);have hy:=a1 (by omega);have hz:=a2 (by omega);clear a0 a1 a2;go_wp2;go_ret;exact⟨by rw[←HQ.out,if_pos hx,if_pos hy,hz];rfl,rfl⟩
theorem compare_b (a b:Int)(w:World):Calls prog 60 #[.int i64 a,.int i64 b] w fun e w'=>e=.returned (.int i64 (cmpN a b))∧Below w.heap.size w w':=
 (compare_any a b w).mono fun _ w' h=>⟨h.1,by rw[h.2];exact bRQ _ _⟩
theorem or_b (x y z:Int)(g:Nat)(w:World)(h0:w.cell? ⟨g,0,none⟩=some (.int i64 x))(h1:w.cell? ⟨g,1,none⟩=some (.int i64 y))(h2:w.cell? ⟨g,2,none⟩=some (.int i64 z)):
 Calls prog 59 #[.slice (some ⟨g,0,none⟩) 3 3] w fun e w'=>e=.returned (.int i64 (orN x y z))∧Below w.heap.size w w':=
 (or_any x y z g w h0 h1 h2).mono fun _ w' h=>⟨h.1,by rw[h.2];exact bRQ _ _⟩
theorem cells3 {W:World}(x y z:Value)(t:TypeId):
 (W.alloc (.cells #[x,y,z] t)).cell? ⟨W.heap.size,0,none⟩=some x∧(W.alloc (.cells #[x,y,z] t)).cell? ⟨W.heap.size,1,none⟩=some y∧(W.alloc (.cells #[x,y,z] t)).cell? ⟨W.heap.size,2,none⟩=some z:=by
 refine⟨?_,?_,?_⟩ <;> simp
def OS (w:World)(p m b p' m' b':Int)(w':World):Prop:=
 Below w.heap.size w w'∧(w'.cell? ⟨w.heap.size,0,none⟩=some (.int i64 p)∧w'.cell? ⟨w.heap.size,1,none⟩=some (.int i64 m)∧w'.cell? ⟨w.heap.size,2,none⟩=some (.int i64 b)) ∧
  (w'.cell? ⟨w.heap.size+1,0,none⟩=some (.int i64 p')∧w'.cell? ⟨w.heap.size+1,1,none⟩=some (.int i64 m')∧w'.cell? ⟨w.heap.size+1,2,none⟩=some (.int i64 b'))
theorem OS.later {w W W':World}{p m b p' m' b':Int}(hb:Below W.heap.size W W')(h:OS w p m b p' m' b' W):OS w p m b p' m' b' W':=by
 obtain⟨h0,⟨h1,h2,h3⟩,⟨h4,h5,h6⟩⟩:=h;exact⟨h0.trans (hb.mono h0.size),⟨cell_later hb h1,cell_later hb h2,cell_later hb h3⟩,⟨cell_later hb h4,cell_later hb h5,cell_later hb h6⟩⟩
theorem order_any (p m b o s v p' m' b' o' s' v':Int)(w:World):
 Calls prog 50 #[.agg #[.int i64 p,.int i64 m,.int i64 b,.int i64 o,.int i64 s,.int i64 v],.agg #[.int i64 p',.int i64 m',.int i64 b',.int i64 o',.int i64 s',.int i64 v']] w fun e w'=>e=.returned (.int i64 (ordN p m b p' m' b'))∧Below w.heap.size w w':=by
 have hS0:OS w p m b p' m' b' ((w.alloc (.cells #[.int i64 p,.int i64 m,.int i64 b,.int i64 o,.int i64 s,.int i64 v] 25)).alloc (.cells #[.int i64 p',.int i64 m',.int i64 b',.int i64 o',.int i64 s',.int i64 v'] 25)):=by
  refine⟨((bRQ _ _).alloc (nLQ _) _).alloc (by simp) _,⟨?_,?_,?_⟩,⟨?_,?_,?_⟩⟩ <;> simp
 go_enter func50,ntmps50;go_wp2
 generalize ((w.alloc (.cells #[.int i64 p,.int i64 m,.int i64 b,.int i64 o,.int i64 s,.int i64 v] 25)).alloc (.cells #[.int i64 p',.int i64 m',.int i64 b',.int i64 o',.int i64 s',.int i64 v'] 25))=W0 at *
 unfold OS at hS0
 go_region_held3 (fun w'=>Below w.heap.size w w'∧(w'.cell? ⟨w.heap.size,0,none⟩=some (.int i64 p)∧w'.cell? ⟨w.heap.size,1,none⟩=some (.int i64 m)∧w'.cell? ⟨w.heap.size,2,none⟩=some (.int i64 b)) ∧
  (w'.cell? ⟨w.heap.size+1,0,none⟩=some (.int i64 p')∧w'.cell? ⟨w.heap.size+1,1,none⟩=some (.int i64 m')∧w'.cell? ⟨w.heap.size+1,2,none⟩=some (.int i64 b')))
  (first | assumption | exact OS.later (by assumption) (by assumption) | exact OS.later (Below.drew (bRQ _ _)) (by assumption) | exact OS.later (Below.alloc (bRQ _ _) (nLQ _) _) (by assumption))
  (first
   | (go_at_call 60;refine (compare_b _ _ _).mono ?_;rintro e w' ⟨rfl,hb⟩)
   | (go_at_call 59;refine (or_b (cmpN p p') (cmpN m m') (cmpN b b') _ _ (cells3 _ _ _ _).1 (cells3 _ _ _ _).2.1 (cells3 _ _ _ _).2.2).mono ?_;rintro e w' ⟨rfl,hb⟩))
 have hS:=(‹Below w.heap.size w w'∧_›).1;go_wp2;go_ret;exact⟨rfl,hS⟩
end
end Go.Proofs.YtpbfgfphcjmcbaaGreatDoor
