/- Contracts and facts on the way to TextTells, joined into one text: TextBackMath, TextReadMath, TextSpec, TextSize, ClassMem, ClassTwo, OwnRow, OwnInts, TextJoin, TextPrint1, TopoCon, SpotKey, StSpot, StLink, TopoLay, SlByte, TopoName, StHost, TopoSettle, TopoCheck, RuleTab. -/
import Derived.Test.YtgddlpcacnolfaaGreatDoorTextTellsP2
namespace Go.Proofs.YtgddlpcacnolfaaGreatDoor
set_option linter.unusedSimpArgs false
set_option linter.unusedVariables false
set_option maxHeartbeats 16000000
set_option maxRecDepth 100000
open Go.Proofs.Tryz
open IntKind (i64)
section
open Go.RowKit
def smP (p:Int×Int):Prop:=(0≤p.1∧p.1≤6)∧(0≤p.2∧p.2≤6)
theorem sp_sm {S:Int}{x:Int×Int}(hS:S≤6)(h:spB S x=true):smP x:=by
 simp only[spB,Bool.and_eq_true,decide_eq_true_eq] at h;exact⟨by omega,by omega⟩
theorem kw_ne:lnkS≠swcS∧hosS≠swcS∧hosS≠lnkS∧rulS≠swcS∧rulS≠lnkS∧rulS≠hosS:=by decide
theorem wo_sh {S:Int}{Hs:HoQ}{w:Wi}(s6:S≤6)(hnm:∀n,hoB Hs n=true→nmB n=true)(h:woN S Hs w=0):shN w=0:=by
 unfold woN at h;by_cases c:(!wkB w.k || (!viB w S || veB w))=true
 ·rw[if_pos c] at h;cases h
 rw[if_neg c] at h;simp only[Bool.or_eq_true,Bool.not_eq_true',not_or,Bool.not_eq_false,Bool.not_eq_true] at c;obtain⟨c1,c2,c3⟩:=c;have c4:viB w 6=true:=by
  unfold viB at c2 ⊢;cases e:(w.k != 3)
  ·rw[e] at c2;simp only[Bool.false_or,swB,Bool.and_eq_true,decide_eq_true_eq] at c2 ⊢;omega
  rfl
 unfold shN;rw[if_neg (by simp[c1,c4])];by_cases k4:w.k=4
 ·rw[if_pos k4] at h;cases n:nlB w
  ·rw[n] at h;cases h
  rw[if_neg (by simp[k4]),if_neg (by simp[c3])]
 rw[if_neg k4] at h;by_cases n:(hoB Hs w.f&&hoB Hs w.t)=true
 ·simp only[Bool.and_eq_true] at n;rw[if_neg (by simp[hnm _ n.1,hnm _ n.2]),if_neg (by simp[c3,k4])]
 rw[if_neg n] at h;cases h
theorem ws_sh {S:Int}{Ls:LkQ}{Hs:HoQ}{ws:List Wi}(h:wsN S Ls Hs ws=0):∀w∈ws,shN w=0:=by
 unfold wsN at h;by_cases ht:tpN S Ls Hs=0
 ·rw[if_pos ht] at h;obtain⟨⟨s1,s6⟩,_,_,_,hh,_⟩:=tp_0 ht;have hnm:∀n,hoB Hs n=true→nmB n=true:=fun n hn=>by
   obtain⟨x,hx,e⟩:=List.any_eq_true.1 hn;rw[←ba_eq.1 e];exact (hh x hx).1
  by_cases h8:8<ws.length
  ·rw[if_pos h8] at h;cases h
  rw[if_neg h8] at h;intro w hw;obtain⟨k,hk,e⟩:=List.getElem_of_mem hw;have h1:=ws_0 h k hk;rw[show ws.getD k zeW=w by simp[List.getD,hk,e]] at h1;exact wo_sh s6 hnm h1
 rw[if_neg ht] at h;exact absurd h ht
theorem bl_split {s:ByteArray}{i:Nat}(h:blAt s=i):s.extract 0 i++(blW++s.extract (i+1) s.size)=s:=by
 have hi:=bl_len s h
 apply wa_ext
 rw[wa_app,wa_app,blW_lst,Lib.extract_data,Lib.extract_to_end];have hg:=(Lib.indexByte_some h).1;have hlt:i<s.data.toList.length:=by rw[←Lib.size_eq];exact hi
 have hd:s.data.toList.drop i=32 :: s.data.toList.drop (i+1):=by
  rw[List.drop_eq_getElem_cons hlt];rw[List.getElem?_eq_getElem hlt] at hg;rw[Option.some.inj hg]
 simp only[Nat.sub_zero,List.drop_zero];rw[List.singleton_append,←hd,List.take_append_drop]
theorem cut_parts {s w:ByteArray}{p:List ByteArray}(h:cutA s=w :: p):(p=[]∧s=w)∨∃t,p=cutA t∧s=w++(blW++t):=by
 rcases bl_cases s with e | ⟨i,e,hi⟩
 ·rw[cutA_miss e] at h;cases h;exact .inl ⟨rfl,rfl⟩
 rw[cutA_hit e] at h;cases h;exact .inr ⟨_,rfl,(bl_split e).symm⟩
def rtL (s:ByteArray):List ByteArray:=(cutC 10 s).dropLast
def rtZ (s:ByteArray):ByteArray:=(cutC 10 s).getLastD ByteArray.empty
def rtC (e:RdT):Int:=if ntN e.S e.Ls e.Hs (fiT e.S e.Ts)=0 then wsN e.S e.Ls e.Hs e.ws else ntN e.S e.Ls e.Hs (fiT e.S e.Ts)
def rtN (s:ByteArray):Int:=if 3000<s.size then 4 else if s.size=0 then 2 else match lsO rd0 (rtL s) with
 | .inr _=>2
 | .inl e=>if (rtZ s).size=0 then rtC e else 2
def rtK (s:ByteArray):Nat:=if 3000<s.size then 0 else if s.size=0 then 0 else match lsO rd0 (rtL s) with
 | .inr k=>k
 | .inl e=>if (rtZ s).size=0 then 0 else (rtL s).length
def rtE (s:ByteArray):RdT:=match lsO rd0 (rtL s) with
 | .inr _=>rd0
 | .inl e=>e
theorem sz_0 {s:ByteArray}(h:s.size=0):s=ByteArray.empty:=by
 apply wa_ext
 have:s.data.toList=[]:=by
  rw[←List.length_eq_zero_iff,←Lib.size_eq];exact h
 rw[this];rfl
theorem rt_cut (s:ByteArray):cutC 10 s=rtL s++[rtZ s]:=by
 have hne:cutC 10 s≠[]:=by
  intro e;have:=(cc_len 10 s).1;rw[e] at this;simp at this
 rw[rtL,rtZ,List.getLastD_eq_getLast?,List.getLast?_eq_some_getLast hne,Option.getD_some,List.dropLast_concat_getLast]
theorem nl_snoc (c:UInt8):∀(l:List ByteArray) (x:ByteArray),nlT c (l++[x])=nlT c l++(x++chW c)
 | [],x=>wa_ext (by
   show (x++(chW c++ByteArray.empty)).data.toList=(ByteArray.empty++(x++chW c)).data.toList;simp only[wa_app];have e:ByteArray.empty.data.toList=[]:=rfl;rw[e];simp)
 | a :: l,x=>by
   rw[List.cons_append,nlT,nl_snoc c l x,nlT]
   apply wa_ext
   simp only[wa_app,List.append_assoc]
theorem sz_app (a b:ByteArray):(a++b).size=a.size+b.size:=ByteArray.size_append ..
theorem sp_size (p:Int×Int):(spT p).size≤5:=by
 have h1:=dg_size p.1;have h2:=dg_size p.2;rw[spT,sz_app,sz_app,show (chW 46).size=1 from rfl];omega
theorem nmt_size {a:ByteArray}(h:nmB a=true):a.size≤6:=by
 simp only[nmB,Bool.and_eq_true,decide_eq_true_eq] at h;exact h.2.1
structure LnX (X:ByteArray)(l:List ByteArray):Prop where
 e:X=nlT 10 l
 z:X.size≤40*l.length
theorem lnx_lk {X:ByteArray}{l:List ByteArray}(h:LnX X l)(p:(Int×Int)×(Int×Int)):LnX (X++⟨#[108,105,110,107,32]⟩++spT p.1++⟨#[32]⟩++spT p.2++⟨#[10]⟩) (l++[lnT p]):=by
 refine⟨?_,?_⟩
 ·rw[nl_snoc,←h.e]
  apply wa_ext
  simp only[wa_app,lnT,List.append_assoc];rfl
 have h1:=sp_size p.1;have h2:=sp_size p.2;have h3:=h.z;simp only[sz_app,List.length_append,List.length_singleton,show (⟨#[108,105,110,107,32]⟩:ByteArray).size=5 from rfl,show (⟨#[32]⟩:ByteArray).size=1 from rfl,show (⟨#[10]⟩:ByteArray).size=1 from rfl];omega
theorem lnx_ho {X:ByteArray}{l:List ByteArray}(h:LnX X l){p:ByteArray×(Int×Int)}(hp:nmB p.1=true):LnX (X++⟨#[104,111,115,116,32]⟩++p.1++⟨#[32]⟩++spT p.2++⟨#[10]⟩) (l++[hoT p]):=by
 refine⟨?_,?_⟩
 ·rw[nl_snoc,←h.e]
  apply wa_ext
  simp only[wa_app,hoT,List.append_assoc];rfl
 have h1:=sp_size p.2;have h2:=nmt_size hp;have h3:=h.z;simp only[sz_app,List.length_append,List.length_singleton,show (⟨#[104,111,115,116,32]⟩:ByteArray).size=5 from rfl,show (⟨#[32]⟩:ByteArray).size=1 from rfl,show (⟨#[10]⟩:ByteArray).size=1 from rfl];omega
theorem rs_size (r:Ru):(rsS r.p r.m r.b r.o r.s r.v).size≤25:=by
 have h1:=dg_size r.p;have h2:=dg_size r.o;have h3:=pr_size r.m r.b;have h4:=pr_size r.s r.v;unfold rsS rsO rsH;by_cases e:r.o=0
 ·rw[if_pos e];simp only[sz_app,show (⟨#[32]⟩:ByteArray).size=1 from rfl,show (⟨#[32,100,114,111,112]⟩:ByteArray).size=5 from rfl];omega
 rw[if_neg e];by_cases e2:r.s=0
 ·rw[if_pos e2];simp only[sz_app,show (⟨#[32]⟩:ByteArray).size=1 from rfl,show (⟨#[32,111,117,116,32]⟩:ByteArray).size=5 from rfl];omega
 rw[if_neg e2];simp only[sz_app,show (⟨#[32]⟩:ByteArray).size=1 from rfl,show (⟨#[32,111,117,116,32]⟩:ByteArray).size=5 from rfl,show (⟨#[32,115,101,116,32]⟩:ByteArray).size=5 from rfl];omega
theorem lnx_rl {X:ByteArray}{l:List ByteArray}(h:LnX X l)(k:Int)(r:Ru):LnX (X++⟨#[114,117,108,101,32]⟩++dgS k++⟨#[32]⟩++rsS r.p r.m r.b r.o r.s r.v++⟨#[10]⟩) (l++[rlT k r]):=by
 refine⟨?_,?_⟩
 ·rw[nl_snoc,←h.e]
  apply wa_ext
  simp only[wa_app,rlT,List.append_assoc];rfl
 have h1:=dg_size k;have h2:=rs_size r;have h3:=h.z;simp only[sz_app,List.length_append,List.length_singleton,show (⟨#[114,117,108,101,32]⟩:ByteArray).size=5 from rfl,show (⟨#[32]⟩:ByteArray).size=1 from rfl,show (⟨#[10]⟩:ByteArray).size=1 from rfl];omega
theorem sh_size {w:Wi}(h:shN w=0):(shT w).size≤30:=by
 have hw:∀k:Int,(woW k).size≤5:=fun k=>by
  unfold woW;by_cases h1:k=1
  ·rw[if_pos h1];decide
  rw[if_neg h1];by_cases h2:k=2
  ·rw[if_pos h2];decide
  rw[if_neg h2];by_cases h3:k=3
  ·rw[if_pos h3];decide
  rw[if_neg h3];by_cases h4:k=4
  ·rw[if_pos h4];decide
  rw[if_neg h4];decide
 have hk:=hw w.k
 rcases shw_0 h with ⟨h1,_⟩ | ⟨h1,hf,ht,_⟩ | ⟨h1,hf,ht,hv⟩
 ·rw[shT,if_pos h1];decide
 ·rw[shT,if_neg (by omega),if_neg (by omega)];have a:=nmt_size hf;have b:=nmt_size ht;simp only[sz_app,show blW.size=1 from rfl];omega
 rw[shT,if_neg (by omega),if_pos h1];have a:=nmt_size hf;have b:=nmt_size ht;have c:=dg_size w.v;simp only[sz_app,show blW.size=1 from rfl];omega
theorem lnx_wi {X:ByteArray}{l:List ByteArray}(h:LnX X l){w:Wi}(hw:shN w=0):LnX (X++shT w++⟨#[10]⟩) (l++[shT w]):=by
 refine⟨?_,?_⟩
 ·rw[nl_snoc,←h.e]
  apply wa_ext
  simp only[wa_app,List.append_assoc];rfl
 have h1:=sh_size hw;have h3:=h.z;simp only[sz_app,List.length_append,List.length_singleton,show (⟨#[10]⟩:ByteArray).size=1 from rfl];omega
theorem lnx_sw {S:Int}(hS:0≤S∧S≤6):LnX (⟨#[115,119,105,116,99,104,101,115,32]⟩++dgS S++⟨#[10]⟩) [swT S]:=by
 refine⟨?_,?_⟩
 ·apply wa_ext
  have e4:ByteArray.empty.data.toList=[]:=rfl;simp only[nlT,wa_app,swT,e4,List.append_assoc,List.append_nil];rfl
 have:=dg_size S;simp only[sz_app,List.length_singleton,show (⟨#[115,119,105,116,99,104,101,115,32]⟩:ByteArray).size=9 from rfl,show (⟨#[10]⟩:ByteArray).size=1 from rfl];omega
theorem tb_snoc:∀(Ts:TsQ) (T:List Ru) (k:Nat),tbT k (Ts++[T])=tbT k Ts++T.map (rlT ((k+Ts.length+1:Nat):Int))
 | [],T,k=>by simp[tbT]
 | X :: Ts,T,k=>by
   rw[List.cons_append,tbT,tbT,tb_snoc Ts T (k+1),List.append_assoc,List.length_cons,show k+1+Ts.length+1=k+(Ts.length+1)+1 by omega]
theorem tb_few:∀{Ts:TsQ} {k:Nat},(∀T∈Ts,T.length≤12)→(tbT k Ts).length≤12*Ts.length
 | [],k,_=>by simp[tbT]
 | T :: Ts,k,h=>by
   have h1:=h T (List.mem_cons_self ..);have h2:=tb_few (k:=k+1) fun x hx=>h x (List.mem_cons_of_mem _ hx)
   rw[tbT,List.length_append,List.length_map,List.length_cons];omega
abbrev SlT:Type:=AdQ×Nat×Nat
def slV (x:SlT):Value:=.slice x.1 x.2.1 x.2.2
def slE:Enc SlT where
 c:=fun x=>[slV x]
 n:=1
 len:=fun _=>rfl
 pos:=by decide
 one:=by
  intro x u hu;simp at hu;subst hu;rfl
theorem sl_cells (L:List SlT):cellsG slE L=L.map slV:=by
 induction L with
 | nil=>rfl
 | cons x r ih =>
   simp only[cellsG,List.flatMap_cons,List.map_cons] at *;rw[ih];rfl
theorem grown_below {w w':World}(hb:Below w.heap.size w w'):w.grownBy w' none:=⟨hb.os,hb.tape,hb.output,hb.size,fun k hk _=>hb.block k hk⟩
theorem grown_set (w:World)(b i:Nat)(v:Value):w.grownBy (w.setCell ⟨b,i,none⟩ v) (some b):=
 ⟨rfl,rfl,rfl,by simp[World.setCell],fun k _ hk=>Below.heap_setCell _ _ _ _ (fun e=>hk (by simp[e]))⟩
theorem none_or (o:Option Nat):o=none∨o≠none:=by cases o <;> simp
theorem run_append_blk {P:Program}{w:World}{base:Nat}(t ty e:TypeId)(i:TypeInfo)(z:Value)(ht:P.underlying t=some (.slice e))(hi:P.info? e=some i)(hz:i.zero=some z)
 (v:Value) (n:Nat) (xs:List Value) (hown:w.ownsRow base e i.size v n xs)
 (a:Addr) (c:Nat) (news:List Value) (hl:news.length=1*i.size) (hnews:∀j u,news[j]?=some u→w.cell? (a.add j)=some u) (h1:∀u∈news,u.oneCell'=true)
 (h63:n+1≤maxLen) (hbytes:(n+1)*i.bytes≤140737488355328) {v':Value} {w':World} (hr:(Builtin.append_ #[t,t] ty #[v,.slice (some a) 1 c]).run P w=.ok v' w'):v'.ownBlock=v.ownBlock∨v'.ownBlock=some w.heap.size:=by
 have hm:n+1≤9223372036854775807:=by simp only[maxLen] at h63;omega
 rcases hown.2 with ⟨rfl,rfl⟩ | ⟨g,cap,cur,rfl,hbg,hg,hnc,hcm,hcs,htake⟩
 ·rw[run_append_nil (P:=P) w t ty e i z ht hi hz a 1 c news hl hnews (by omega) (by omega) (by have hb:=hbytes;simp only[Nat.zero_add] at hb;omega)] at hr;cases hr;exact .inr rfl
 by_cases hroom:n+1≤cap
 ·have hfit:n*i.size+news.length≤cur.size:=by rw[hl,hcs,←Nat.add_mul];exact Nat.mul_le_mul_right _ hroom
  rw[run_append_room (P:=P) w t ty e i ht hi g n cap cur hg a 1 c news hl hnews h1 hroom hfit] at hr;cases hr;exact .inl rfl
 rw[run_append_grow (P:=P) w t ty e i z ht hi hz ⟨g,0,none⟩ n cap xs hown.1 (hown.cells (g:=g) rfl) a 1 c news hl hnews (by omega) (by omega) (growslice_fits (by omega) hbytes)] at hr;cases hr;exact .inr rfl
theorem wpList_append_blk {P:Program}{α:Type}{E:Enc α}(w:World){ops:Array Oper}{rest:List Oper}{o:Oper}{a:Act}{Q:Exit→Act→World→Prop}(hgd:o.guard=none)(s x:Operand)(t e:TypeId)
 (ho:o.op=.call { callee:=.builtin .append,args:=#[s,x],argTypes:=#[t,t] }) (ht:P.underlying t=some (.slice e)) (i:TypeInfo) (z:Value) (bytes:Nat) (hi:P.info? e=some i) (hz:i.zero=some z)
 (hsize:i.size=E.n) (hby:i.bytes=bytes) (hzs:z.cells.size=E.n) (base:Nat)
 (v:Value) (hs:a.eval s=v) (L:List α) (hown:w.ownsRow base e E.n v L.length (cellsG E L)) (g q c:Nat) (hx:a.eval x=.slice (some ⟨g,q,none⟩) 1 c) (y:α) (hM:VAt w g q (E.c y))
 (h63:L.length+1≤maxLen) (hbytes:(L.length+1)*bytes≤140737488355328) (hbase:base≤w.heap.size)
 (h:∀v' w',w'.ownsRow base e E.n v' (L++[y]).length (cellsG E (L++[y]))→w.grownBy w' v.ownBlock→v'.ownBlock=v.ownBlock∨v'.ownBlock=some w.heap.size→wpList P ops Q rest (a.put o.dst v') w'):wpList P ops Q (o :: rest) a w:=by
 have hG:GAt E w g q [y]:=by
  intro k hk;obtain rfl:k=0:=by simp at hk;omega
  simpa using hM
 have hc:=hG.cells;rw[cellsG_one] at hc;have hl:(E.c y).length=1*E.n:=by rw[E.len];omega
 obtain⟨v',w',hr,h2,h3,_⟩:=run_append_own (P:=P) w base t o.type e i z E.n bytes ht hi hz hsize hby hzs E.pos v _ _ hown ⟨g,q,none⟩ 1 c (E.c y) hl hc (E.one y) h63 hbytes hbase;have hb:=run_append_blk (P:=P) t o.type e i z ht hi hz v _ _ (by rw[hsize];exact hown) ⟨g,q,none⟩ c (E.c y) (by rw[hsize];exact hl) hc (E.one y) h63 (by rw[hby];exact hbytes) hr;refine wpList_plain hgd fun K hK=>?_
 unfold Oper.wp execOp;simp only[ho,resolve,invoke,builtin,Sem.run_bind,Sem.run_pure,Result.andThen_ok,List.map_toArray,List.map_cons,List.map_nil,hs,hx,hr];exact hK _ _ (h v' w' (by rw[List.length_append,cellsG_app,cellsG_one];exact h2) h3 hb)
section
variable {e1 e2:TypeId}{w w':World}{B:Nat}{v u:Value}{vs us:List SlT}{Cs Ps:List (List Int)}
end
theorem step_append_blk {P:Program}{α:Type}{E:Enc α}(w:World){ops:Array Oper}{o:Oper}{a:Act}{K:Act→World→Prop}{Q:Exit→Act→World→Prop}{X:Prop}(hgd:o.guard=none)(s x:Operand)(t e:TypeId)
 (ho:o.op=.call { callee:=.builtin .append,args:=#[s,x],argTypes:=#[t,t] }) (ht:P.underlying t=some (.slice e)) (i:TypeInfo) (z:Value) (bytes:Nat) (hi:P.info? e=some i) (hz:i.zero=some z)
 (hsize:i.size=E.n) (hby:i.bytes=bytes) (hzs:z.cells.size=E.n) (base:Nat)
 (v:Value) (hs:a.eval s=v) (L:List α) (hown:w.ownsRow base e E.n v L.length (cellsG E L)) (g q c:Nat) (hx:a.eval x=.slice (some ⟨g,q,none⟩) 1 c) (y:α) (hM:VAt w g q (E.c y))
 (h63:L.length+1≤maxLen) (hbytes:(L.length+1)*bytes≤140737488355328) (hbase:base≤w.heap.size)
 (h:∀v' w',w'.ownsRow base e E.n v' (L++[y]).length (cellsG E (L++[y]))→w.grownBy w' v.ownBlock→v'.ownBlock=v.ownBlock∨v'.ownBlock=some w.heap.size→K (a.put o.dst v') w'):
 if Region.wanted o (yielded ops a.tmps)=true then Oper.wp P o a w K Q else X:=by
 have hw:Region.wanted o (yielded ops a.tmps)=true:=by simp[Region.wanted,hgd]
 rw[if_pos hw];have hG:GAt E w g q [y]:=by
  intro k hk;obtain rfl:k=0:=by simp at hk;omega
  simpa using hM
 have hc:=hG.cells;rw[cellsG_one] at hc;have hl:(E.c y).length=1*E.n:=by rw[E.len];omega
 obtain⟨v',w',hr,h2,h3,_⟩:=run_append_own (P:=P) w base t o.type e i z E.n bytes ht hi hz hsize hby hzs E.pos v _ _ hown ⟨g,q,none⟩ 1 c (E.c y) hl hc (E.one y) h63 hbytes hbase;have hb:=run_append_blk (P:=P) t o.type e i z ht hi hz v _ _ (by rw[hsize];exact hown) ⟨g,q,none⟩ c (E.c y) (by rw[hsize];exact hl) hc (E.one y) h63 (by rw[hby];exact hbytes) hr;unfold Oper.wp execOp;simp only[ho,resolve,invoke,builtin,Sem.run_bind,Sem.run_pure,Result.andThen_ok,List.map_toArray,List.map_cons,List.map_nil,hs,hx,hr];exact h v' w' (by rw[List.length_append,cellsG_app,cellsG_one];exact h2) h3 hb
section
variable {e1 e2:TypeId}{w W1 W1' W2 W2' Wf:World}{B:Nat}{v u v' u':Value}{vs us:List SlT}{Cs Ps:List (List Int)}
end
theorem own_below {w w':World}{B e size n:Nat}{v:Value}{xs:List Value}(h:w.ownsRow B e size v n xs)(hb:Below w.heap.size w w'):w'.ownsRow B e size v n xs:=by
 obtain⟨h1,h2 | ⟨g,cap,cur,hv,hB,hg,h3⟩⟩:=h
 ·exact⟨h1,.inl h2⟩
 have hlt:g<w.heap.size:=by
  rcases Nat.lt_or_ge g w.heap.size with h | h
  ·exact h
  rw[Array.getElem?_eq_none h] at hg;cases hg
 exact⟨h1,.inr ⟨g,cap,cur,hv,hB,(hb.block g hlt).trans hg,h3⟩⟩
theorem own_form {w:World}{B e size n:Nat}{v:Value}{xs:List Value}(h:w.ownsRow B e size v n xs):∃ao cap,v=.slice ao n cap:=by
 rcases h.2 with ⟨rfl,rfl⟩ | ⟨g,cap,cur,rfl,_⟩
 ·exact⟨none,0,rfl⟩
 exact⟨_,cap,rfl⟩
end
section
open Go.Shelf
def lays156_ren:Go.Shelf.Ren:=⟨fun | 156=>25 | 165=>46 | 166=>47 | 169=>48 | 240=>77 | 241=>78 | 276=>104 | 277=>105 | n=>n,fun | 31=>68 | 9=>9 | 3=>3 | 4=>4 | 0=>0 | 20=>20 | 72=>104 | 76=>106 | 70=>101 | 37=>102 | 75=>34 | 127=>134 | 164=>135 | 5=>5 | 80=>108 | n=>n,fun | n=>n⟩
theorem lays156:Go.Proofs.Lays.n156 prog lays156_ren:={
 mixed:=by kernel_rfl
 f156:=func25.trans (congrArg some (by kernel_rfl))
 f165:=func46.trans (congrArg some (by kernel_rfl))
 f166:=func47.trans (congrArg some (by kernel_rfl))
 f169:=func48.trans (congrArg some (by kernel_rfl))
 f240:=func77.trans (congrArg some (by kernel_rfl))
 f241:=func78.trans (congrArg some (by kernel_rfl))
 f276:=func104.trans (congrArg some (by kernel_rfl))
 f277:=func105.trans (congrArg some (by kernel_rfl))
 t0:=underlying0
 a0:=Tryz.isAgg0
 z0:=Tryz.sizeOf0
 v0:=Tryz.zeroValue0
 t3:=underlying3
 a3:=Tryz.isAgg3
 z3:=Tryz.sizeOf3
 v3:=Tryz.zeroValue3
 t4:=underlying4
 a4:=Tryz.isAgg4
 z4:=Tryz.sizeOf4
 v4:=Tryz.zeroValue4
 t9:=underlying9
 a9:=Tryz.isAgg9
 z9:=Tryz.sizeOf9
 v9:=Tryz.zeroValue9
 t20:=underlying20
 a20:=Tryz.isAgg20
 z20:=Tryz.sizeOf20
 v20:=Tryz.zeroValue20
 t31:=underlying68
 a31:=Tryz.isAgg68
 z31:=Tryz.sizeOf68
 v31:=Tryz.zeroValue68
 t37:=underlying102
 a37:=Tryz.isAgg102
 z37:=Tryz.sizeOf102
 v37:=Tryz.zeroValue102
 t70:=underlying101
 a70:=Tryz.isAgg101
 z70:=Tryz.sizeOf101
 v70:=Tryz.zeroValue101
 t72:=underlying104
 a72:=Tryz.isAgg104
 z72:=Tryz.sizeOf104
 v72:=Tryz.zeroValue104
 t75:=underlying34
 a75:=Tryz.isAgg34
 z75:=Tryz.sizeOf34
 v75:=Tryz.zeroValue34
 t76:=underlying106
 a76:=Tryz.isAgg106
 z76:=Tryz.sizeOf106
 v76:=Tryz.zeroValue106
 t127:=underlying134
 a127:=Tryz.isAgg134
 z127:=Tryz.sizeOf134
 v127:=Tryz.zeroValue134
 t164:=underlying135
 a164:=Tryz.isAgg135
 z164:=Tryz.sizeOf135
 v164:=Tryz.zeroValue135 }
theorem Builder_Extra_156:Builder.Extra prog lays156_ren:={
 sizeBuilder:=by kernel_rfl
 liesBuilder:=by kernel_rfl
 t5:=underlying5
 a5:=Tryz.isAgg5
 z5:=Tryz.sizeOf5
 v5:=Tryz.zeroValue5
 infoByte:=by kernel_rfl
 cellsByte:=by kernel_rfl
 sizeByte:=by kernel_rfl
 neB5:=by decide }
open Go.RowKit in
theorem strings_Join (bk o c:Nat)(xs:List ByteArray)(sep:ByteArray)(w:World)(hcells:∀(j:Nat) x,xs[j]?=some x→w.cell? ⟨bk,o+j,none⟩=some (.string x))(hbk:bk<w.heap.size)(hN:xs.length≤140737488355328)(hcap:xs.length≤c)(hlen:(Lib.join (xs.map (·.data.toList)) sep.data.toList).length≤140737488355328):
 Calls prog 25 #[.slice (some ⟨bk,o,none⟩) xs.length c,.string sep] w fun e w'=>e=.returned (.string ⟨(Lib.join (xs.map (·.data.toList)) sep.data.toList).toArray⟩)∧Below w.heap.size w w':=Any.strings_Join lays156 Builder_Extra_156 bk o c xs sep w hcells hbk hN hcap hlen
end
section
open Go.RowKit
def strE:Enc ByteArray where
 c:=fun x=>[.string x]
 n:=1
 len:=fun _=>rfl
 pos:=by decide
 one:=by
  intro x u hu;simp at hu;subst hu;rfl
theorem str_cells (l:List ByteArray):cellsG strE l=l.map Value.string:=by
 induction l with
 | nil=>rfl
 | cons a l ih=>rw[show cellsG strE (a :: l)=strE.c a++cellsG strE l by simp[cellsG],ih];rfl
theorem str_info:(Tryz.prog.info? 9).map (fun i=>(i.zero,i.size,i.bytes))=some (some (.string ⟨#[]⟩),1,16):=by kernel_rfl
theorem str_new (w:World)(x:ByteArray)(t:TypeId):VAt (w.alloc (.cells #[.string x] t)) w.heap.size 0 (strE.c x):=vat_new w [.string x] t
def RowS (w:World)(B:Nat)(v:Value)(l:List ByteArray):Prop:=w.ownsRow B 9 strE.n v l.length (cellsG strE l)
theorem row_one (w:World)(B:Nat)(x:ByteArray)(h:B≤w.heap.size):RowS (w.alloc (.cells #[.string x] 9)) B (.slice (some ⟨w.heap.size,0,none⟩) 1 1) [x]:=
 ⟨rfl,.inr ⟨w.heap.size,1,#[.string x],rfl,h,heap_alloc_new w _,nLQ _,by unfold maxLen;omega,rfl,rfl⟩⟩
theorem RowS.later {w w':World}{B:Nat}{v:Value}{l:List ByteArray}(h:RowS w B v l)(hb:Below w.heap.size w w'):RowS w' B v l:=World.ownsRow.kept h (grown_below hb) (none_or _)
theorem RowS.cell {w:World}{B g n cap:Nat}{l:List ByteArray}(h:RowS w B (.slice (some ⟨g,0,none⟩) n cap) l):∀(j:Nat) x,l[j]?=some x→w.cell? ⟨g,0+j,none⟩=some (.string x):=fun j x hx=>by
 have hc:=World.ownsRow.cells h (g:=g) rfl j (.string x) (by rw[str_cells,List.getElem?_map,hx];rfl);rw[Nat.zero_add];by_cases h0:j=0
 ·subst h0;simpa[Addr.add] using hc
 simpa[Addr.add,h0] using hc
theorem join_nl:∀(x:ByteArray) (r:List ByteArray),Lib.join ((x :: r).map (·.data.toList)) [10]++[10]=(nlT 10 (x :: r)).data.toList
 | x,[]=>by
   rw[nlT,nlT,wa_app,wa_app,chW_lst,List.map_cons,List.map_nil,Lib.join_one];rfl
 | x,y :: r=>by
   have ih:=join_nl y r;rw[nlT,wa_app,wa_app,chW_lst,←ih];simp[Lib.join,List.intercalate]
theorem pspot_any (a b:Int)(w:World)(h:smP (a,b)):
 Calls prog 22 #[.agg #[.int i64 a,.int i64 b]] w fun e w'=>e=.returned (.string (spT (a,b)))∧Below w.heap.size w w':=by
 have d1:=dg_size a;have d2:=dg_size b;have HA:Hid (0≤a∧a<100):=⟨h.1.1,by have h2:a≤6:=h.1.2;show a<100;omega⟩;have HB:Hid (0≤b∧b<100):=⟨h.2.1,by have h2:b≤6:=h.2.2;show b<100;omega⟩;have hb:Below w.heap.size w (w.alloc (.cells #[.int i64 a,.int i64 b] 55)):=(bRQ _ _).alloc (nLQ _) _;have HBB:Hid (Below w.heap.size w (w.alloc (.cells #[.int i64 a,.int i64 b] 55))):=hb;obtain⟨X,hX⟩:∃X,X=spT (a,b):=⟨_,rfl⟩;have HX:Hid (X=dgS a++⟨#[46]⟩++dgS b):=by
  show _=_;rw[hX,spT]
  apply wa_ext
  simp only[wa_app,List.append_assoc];rfl
 rw[←hX];clear h hb hX;go_enter func22,ntmps22;go_upto_region 1 with fail
 go_region_with (go_at_call 21;first | (refine (itoa_any a _ HA.out.1 HA.out.2).mono ?_;rintro e w' ⟨rfl,rfl⟩) | (refine (itoa_any b _ HB.out.1 HB.out.2).mono ?_;rintro e w' ⟨rfl,rfl⟩))
 all_goals go_wp2
 all_goals go_ret
 all_goals refine⟨ret_str ?_,HBB.out.drew⟩
 all_goals rw[HX.out]
theorem isSwitch_any (S a:Int)(w:World):
 Calls prog 89 #[.int i64 S,.int i64 a] w fun e w'=>e=.returned (.bool (swB S a))∧Below w.heap.size w w':=by
 by_cases h1:1≤a
 ·by_cases h2:a≤S
  ·have e:swB S a=true:=sw_of.2 ⟨h1,h2⟩;rw[e];clear e;go_enter func89,ntmps89;go_wp2;go_ret;exact⟨rfl,bRQ _ _⟩
  have e:swB S a=false:=by simp[swB,h2]
  rw[e];clear e;go_enter func89,ntmps89;go_wp2;go_ret;exact⟨rfl,bRQ _ _⟩
 have e:swB S a=false:=by simp[swB,h1]
 rw[e];clear e;go_enter func89,ntmps89;go_wp2;go_ret;exact⟨rfl,bRQ _ _⟩
theorem isSpot_any (S x y:Int)(w:World):
 Calls prog 118 #[.int i64 S,.agg #[.int i64 x,.int i64 y]] w fun e w'=>e=.returned (.bool (spB S (x,y)))∧Below w.heap.size w w':=by
 have HB0:Hid (Below w.heap.size w (w.alloc (.cells #[.int i64 x,.int i64 y] 55))):=(bRQ _ _).alloc (nLQ _) _;have hlt:w.heap.size<(w.alloc (.cells #[.int i64 x,.int i64 y] 55)).heap.size:=by simp
 have c0:(w.alloc (.cells #[.int i64 x,.int i64 y] 55)).cell? ⟨w.heap.size,0,none⟩=some (.int i64 x):=by simp
 have c1:(w.alloc (.cells #[.int i64 x,.int i64 y] 55)).cell? ⟨w.heap.size,1,none⟩=some (.int i64 y):=by simp
 cases hs:swB S x
 ·have e:spB S (x,y)=false:=by
   cases h:spB S (x,y)
   ·rfl
   have:=sp_of h;have h2:=sw_of.2 ⟨this.1,this.2.1⟩;rw[hs] at h2;cases h2
  rw[e];clear e;go_enter func118,ntmps118
  go_wp2_with fail
  refine (isSwitch_any S x _).mono ?_;rintro e w1 ⟨rfl,hb1⟩;rw[hs];have HB1:Hid (Below w.heap.size w w1):=HB0.out.trans (hb1.mono HB0.out.size);clear hb1 c0 c1;go_wp2;go_ret;exact⟨rfl,HB1.out⟩
 have hw:=sw_of.1 hs;have e:spB S (x,y)=(decide (1≤y)&&decide (y≤4)):=by simp[spB,hw.1,hw.2]
 rw[e];clear e hw;have walk:∀r:Bool,r=(decide (1≤y)&&decide (y≤4))→Calls prog 118 #[.int i64 S,.agg #[.int i64 x,.int i64 y]] w fun e w'=>e=.returned (.bool r)∧Below w.heap.size w w':=by
  intro r hr;by_cases h1:1≤y
  ·by_cases h2:y≤4
   ·have e:r=true:=by rw[hr];simp[h1,h2]
    subst e;clear hr;go_enter func118,ntmps118
    go_wp2_with fail
    refine (isSwitch_any S x _).mono ?_;rintro e w1 ⟨rfl,hb1⟩;rw[hs];have HB1:Hid (Below w.heap.size w w1):=HB0.out.trans (hb1.mono HB0.out.size);have d1:=cell_later hb1 c1;clear hb1 c0 c1;go_wp2;go_ret;exact⟨rfl,HB1.out⟩
   have e:r=false:=by rw[hr];simp[h2]
   subst e;clear hr;go_enter func118,ntmps118
   go_wp2_with fail
   refine (isSwitch_any S x _).mono ?_;rintro e w1 ⟨rfl,hb1⟩;rw[hs];have HB1:Hid (Below w.heap.size w w1):=HB0.out.trans (hb1.mono HB0.out.size);have d1:=cell_later hb1 c1;have hd:decide (y≤4)=false:=by simp[h2]
   clear hb1 c0 c1;go_wp2;go_ret;exact⟨by first | rfl | simp[h2],HB1.out⟩
  have e:r=false:=by rw[hr];simp[h1]
  subst e;clear hr;go_enter func118,ntmps118
  go_wp2_with fail
  refine (isSwitch_any S x _).mono ?_;rintro e w1 ⟨rfl,hb1⟩;rw[hs];have HB1:Hid (Below w.heap.size w w1):=HB0.out.trans (hb1.mono HB0.out.size);have d1:=cell_later hb1 c1;clear hb1 c0 c1;go_wp2;go_ret;exact⟨rfl,HB1.out⟩
 exact walk _ rfl
theorem spotEq (a b c d:Int)(w:World):(Op.equal 55 (.agg #[.int i64 a,.int i64 b]) (.agg #[.int i64 c,.int i64 d])).run prog w=.ok (a==c&&b==d) w:=by
 unfold Op.equal Op.maxDepth;rw[run_equalIn_struct w 9999 _ _ _ (by kernel_rfl) (by kernel_rfl)];cases h1:(a==c)
 ·go_simp
 cases h2:(b==d)
 ·go_simp
 go_simp
theorem spotCheck (e:Bool)(a b:Int)(w:World):(Instr.checkKey e 10000 55 (.agg #[.int i64 a,.int i64 b])).run prog w=.ok () w:=by
 have h:∀(x:Int) (w:World),(Instr.checkKey e 9999 3 (.int i64 x)).run prog w=.ok () w:=fun x w=>Go.MapKept.run_checkKey underlying3 (by simp[Go.MapKept.IsKey]) e 9998
 rw[Instr.checkKey];go_simp
def spotKey:KeyE prog 55 (Int×Int):=
 KeyE.ask (fun k=>.agg #[.int i64 k.1,.int i64 k.2]) sq sq_iff (fun e k w=>spotCheck e k.1 k.2 w) _ (show Tryz.prog.underlying 55=some (.struct (Tryz.prog.fieldsOf 55)) by kernel_rfl) (fun a b=>rfl) (fun a b w=>spotEq a.1 a.2 b.1 b.2 w) (fun k=>by simp[Instr.sameBits])
def strKey:KeyE prog 9 ByteArray:=
 KeyE.now (fun k=>.string k) (fun a b=>a==b) ba_iff (fun e k w=>Go.MapKept.run_checkKey underlying9 (by simp[Go.MapKept.IsKey]) e 9999) _ underlying9 (fun a b=>by simp[Instr.sameNow,beq_toListBytes]) (fun k=>by simp[Instr.sameBits,(ba_iff k k).2 rfl])
def veI (n:Int):Value:=.int i64 n
section
variable {P:Program}{K:TypeId}{κ:Type}{E:KeyE P K κ}{w:World}{ops:Array Oper}{rest:List Oper}{o:Oper}{a:Act}{Q:Exit→Act→World→Prop}
theorem getV_I {o:Option Int}:getV veI (.int i64 0) o=.int i64 (o.getD 0):=by cases o <;> rfl
theorem run_lookup_TK {B:Nat}{M:List (κ×Int)}{U:List κ}(h:MAt E veI w B M)(hT:TK E.q M U)(t e:TypeId)(ht:P.underlying t=some (.map K e))(hz:∀w,(zeroValue e).run P w=.ok (.int i64 0) w)(k:κ):
 (Instr.lookup t (.map (some B)) (E.c k) false).run P w=.ok (.int i64 (ctM E.q k U:Int)) w:=by
 rw[run_lookup_M h t e ht _ hz k false,getV_I,hT k];rfl
end
end
section
open Go.ChangeShapes Go.WideShapes Go.ChangeAt Go.RowKit Go.Joins
def spoE:Enc (Int×Int) where
 c:=fun x=>[.int i64 x.1,.int i64 x.2]
 n:=2
 len:=fun _=>rfl
 pos:=by decide
 one:=by
  intro x u hu;simp at hu
  rcases hu with rfl | rfl <;> rfl
theorem spo_cells {w:World}{g o:Nat}{x0 x1:Int}(h:VAt w g o (spoE.c (x0,x1))):w.cell? ⟨g,o,none⟩=some (.int i64 x0)∧w.cell? ⟨g,o+1,none⟩=some (.int i64 x1):=
 ⟨h 0 _ rfl,h 1 _ rfl⟩
theorem spo_at {w:World}{g o:Nat}{L:List (Int×Int)}(h:GAt spoE w g o L){n k:Nat}(hn:L.length=n)(hk:k<n):
 ∃(x0:Int) (x1:Int) (hl:k<L.length),L[k]=(x0,x1)∧w.cell? ⟨g,o+k*2,none⟩=some (.int i64 x0)∧w.cell? ⟨g,o+k*2+1,none⟩=some (.int i64 x1):=
 have hl:k<L.length:=by omega
 ⟨_,_,hl,rfl,spo_cells (h k hl)⟩
theorem spo_new (w:World)(x0 x1:Int)(t:TypeId):VAt (w.alloc (.cells #[.int i64 x0,.int i64 x1] t)) w.heap.size 0 (spoE.c (x0,x1)):=vat_new w [.int i64 x0,.int i64 x1] t
theorem spo_info:(Tryz.prog.info? 55).map (fun i=>(i.zero,i.size,i.bytes))=some (some (.agg #[.int i64 0,.int i64 0]),2,16):=by kernel_rfl
theorem spo_zero:(Value.agg #[.int i64 0,.int i64 0]).cells.size=2:=by simp[Value.cells]
theorem spo_open {H:Type}{enc:TypeId×Value→H}{W:World}{n:Nat}{cs:List Value}{x:DataW H×List MemPlace}
 (h:DataW.trod enc prog W 0 (fun _=>true) true n 55 cs=some x):∃y,cs=spoE.c y:=by
 obtain⟨xs,k,_,_,hl,hlen,hf⟩:=DataW.trod_struct underlying55 h;have hC:Tryz.prog.cellsOf 55=2:=by kernel_rfl
 have hT0:Tryz.prog.cellsOf 3=1:=by kernel_rfl
 rw[hC] at hl
 match cs,hl with
 | [c0,c1],_ =>
   match xs,hlen with
   | [z0,z1],_ =>
     have g0:=hf 0 _ rfl;have g1:=hf 1 _ rfl;simp[hT0] at g0 g1;obtain⟨v0,e0,_,_⟩:=DataW.trod_int underlying3 g0;obtain⟨v1,e1,_,_⟩:=DataW.trod_int underlying3 g1;simp[] at e0 e1;refine⟨(v0,v1),?_⟩;simp[spoE,e0,e1]
def lnkE:Enc ((Int×Int)×(Int×Int)) where
 c:=fun x=>[.int i64 x.1.1,.int i64 x.1.2,.int i64 x.2.1,.int i64 x.2.2]
 n:=4
 len:=fun _=>rfl
 pos:=by decide
 one:=by
  intro x u hu;simp at hu
  rcases hu with rfl | rfl | rfl | rfl <;> rfl
theorem lnk_cells {w:World}{g o:Nat}{x0 x1 x2 x3:Int}(h:VAt w g o (lnkE.c ((x0,x1),(x2,x3)))):w.cell? ⟨g,o,none⟩=some (.int i64 x0)∧w.cell? ⟨g,o+1,none⟩=some (.int i64 x1)∧w.cell? ⟨g,o+2,none⟩=some (.int i64 x2)∧w.cell? ⟨g,o+3,none⟩=some (.int i64 x3):=
 ⟨h 0 _ rfl,h 1 _ rfl,h 2 _ rfl,h 3 _ rfl⟩
theorem lnk_at {w:World}{g o:Nat}{L:LkQ}(h:GAt lnkE w g o L){n k:Nat}(hn:L.length=n)(hk:k<n):
 ∃(x0:Int) (x1:Int) (x2:Int) (x3:Int) (hl:k<L.length),L[k]=((x0,x1),(x2,x3))∧w.cell? ⟨g,o+k*4,none⟩=some (.int i64 x0)∧w.cell? ⟨g,o+k*4+1,none⟩=some (.int i64 x1)∧w.cell? ⟨g,o+k*4+2,none⟩=some (.int i64 x2)∧w.cell? ⟨g,o+k*4+3,none⟩=some (.int i64 x3):=
 have hl:k<L.length:=by omega
 ⟨_,_,_,_,hl,rfl,lnk_cells (h k hl)⟩
theorem lnk_new (w:World)(x0 x1 x2 x3:Int)(t:TypeId):VAt (w.alloc (.cells #[.int i64 x0,.int i64 x1,.int i64 x2,.int i64 x3] t)) w.heap.size 0 (lnkE.c ((x0,x1),(x2,x3))):=vat_new w [.int i64 x0,.int i64 x1,.int i64 x2,.int i64 x3] t
def lnkB (a b:(Int×Int)×(Int×Int)):Bool:=(a.1.1==b.1.1)&&((a.1.2==b.1.2)&&((a.2.1==b.2.1)&&((a.2.2==b.2.2))))
theorem lnkB_iff (a b:(Int×Int)×(Int×Int)):lnkB a b=true↔a=b:=by
 have e:lnkB a b=((a.1.1==b.1.1)&&((a.1.2==b.1.2)&&((a.2.1==b.2.1)&&((a.2.2==b.2.2))))):=rfl;rw[e];simp only[Bool.and_eq_true,beq_iff_eq];constructor
 ·intro h;obtain⟨⟨a0,a1⟩,⟨a2,a3⟩⟩:=a;obtain⟨⟨b0,b1⟩,⟨b2,b3⟩⟩:=b;simp at h ⊢;simp[h]
 intro h;subst h;simp
theorem lnk_ways (x0 x1 x2 x3 y0 y1 y2 y3:Int):
 ((x0==y0)=false∧lnkB ((x0,x1),(x2,x3)) ((y0,y1),(y2,y3))=false) ∨
 ((x0==y0)=true∧(x1==y1)=false∧lnkB ((x0,x1),(x2,x3)) ((y0,y1),(y2,y3))=false) ∨
 ((x0==y0)=true∧(x1==y1)=true∧(x2==y2)=false∧lnkB ((x0,x1),(x2,x3)) ((y0,y1),(y2,y3))=false) ∨
 ((x0==y0)=true∧(x1==y1)=true∧(x2==y2)=true∧(x3==y3)=false∧lnkB ((x0,x1),(x2,x3)) ((y0,y1),(y2,y3))=false) ∨
 ((x0==y0)=true∧(x1==y1)=true∧(x2==y2)=true∧(x3==y3)=true∧lnkB ((x0,x1),(x2,x3)) ((y0,y1),(y2,y3))=true):=by
 have e:lnkB ((x0,x1),(x2,x3)) ((y0,y1),(y2,y3))=((x0==y0)&&((x1==y1)&&((x2==y2)&&((x3==y3))))):=rfl;rw[e];cases h0:(x0==y0)
 ·simp
 skip;cases h1:(x1==y1)
 ·simp
 skip;cases h2:(x2==y2)
 ·simp
 skip;cases h3:(x3==y3)
 ·simp
 skip;simp
theorem lnk_eq (x0 x1 x2 x3 y0 y1 y2 y3:Int)(w:World):(Op.equal 57 (.agg #[.int i64 x0,.int i64 x1,.int i64 x2,.int i64 x3]) (.agg #[.int i64 y0,.int i64 y1,.int i64 y2,.int i64 y3])).run prog w=.ok (lnkB ((x0,x1),(x2,x3)) ((y0,y1),(y2,y3))) w:=by
 unfold Op.equal Op.maxDepth;rw[run_equalIn_struct w 9999 _ _ _ (by kernel_rfl) (by kernel_rfl)]
 rcases lnk_ways x0 x1 x2 x3 y0 y1 y2 y3 with ⟨e0,e⟩ | ⟨e0,e1,e⟩ | ⟨e0,e1,e2,e⟩ | ⟨e0,e1,e2,e3,e⟩ | ⟨e0,e1,e2,e3,e⟩
 all_goals
  rw[e];go_simp
theorem lnk_info:(Tryz.prog.info? 57).map (fun i=>(i.zero,i.size,i.bytes))=some (some (.agg #[.int i64 0,.int i64 0,.int i64 0,.int i64 0]),4,32):=by kernel_rfl
theorem lnk_zero:(Value.agg #[.int i64 0,.int i64 0,.int i64 0,.int i64 0]).cells.size=4:=by simp[Value.cells]
theorem lnk_open {H:Type}{enc:TypeId×Value→H}{W:World}{n:Nat}{cs:List Value}{x:DataW H×List MemPlace}
 (h:DataW.trod enc prog W 0 (fun _=>true) true n 57 cs=some x):∃y,cs=lnkE.c y:=by
 obtain⟨xs,k,_,_,hl,hlen,hf⟩:=DataW.trod_struct underlying57 h;have hC:Tryz.prog.cellsOf 57=4:=by kernel_rfl
 have hT0:Tryz.prog.cellsOf 55=2:=by kernel_rfl
 rw[hC] at hl
 match cs,hl with
 | [c0,c1,c2,c3],_ =>
   match xs,hlen with
   | [z0,z1],_ =>
     have g0:=hf 0 _ rfl;have g1:=hf 1 _ rfl;simp[hT0] at g0 g1;obtain⟨s0,e0⟩:=spo_open g0;obtain⟨s1,e1⟩:=spo_open g1;simp[spoE] at e0 e1;refine⟨((s0.1,s0.2),(s1.1,s1.2)),?_⟩;simp[lnkE,e0,e1]
end
section
open Go.RowKit
def LayQ (w w':World)(B:Nat)(N:Int)(V:List (Int×Int)):Prop:=∃M',MAt spotKey veI w' B M'∧(N=0→TK sq M' V)∧But [B] w w'
theorem lay_ok (S x0 x1 x2 x3:Int)(B:Nat)(M:HpQ)(U:List (Int×Int))(w:World)(hM:MAt spotKey veI w B M)(hT:TK sq M U)(hU:U.length≤1000)(ha:spB S (x0,x1)=true)(hb:spB S (x2,x3)=true)(N:Int)(hN:N=lk1 S U ((x0,x1),(x2,x3))):
 Calls prog 92 #[.int i64 S,.map (some B),.agg #[.int i64 x0,.int i64 x1,.int i64 x2,.int i64 x3]] w fun e w'=>e=.returned (noV N)∧LayQ w w' B N (U++[(x0,x1),(x2,x3)]):=by
 have hlt:=hM.lt;have HN:Hid (N=lk1 S U ((x0,x1),(x2,x3))):=hN;have hB0:Below w.heap.size w (w.alloc (.cells #[.int i64 x0,.int i64 x1,.int i64 x2,.int i64 x3] 57)):=(bRQ _ _).alloc (nLQ _) _;have HB0:Hid (Below w.heap.size w (w.alloc (.cells #[.int i64 x0,.int i64 x1,.int i64 x2,.int i64 x3] 57))):=hB0;have HC:=lnk_new w x0 x1 x2 x3 57;have HM0:Hid (MAt spotKey veI w B M):=hM;have HT:Hid (TK sq M U):=hT;have hne:¬w.heap.size=B:=by omega
 clear hM hT hN hB0;go_enter func92,ntmps92
 go_wp2_with fail
 refine (isSpot_any S x0 x1 _).mono ?_;rintro e w1 ⟨rfl,hb1⟩;rw[ha];have HB1:Hid (Below w.heap.size w w1):=HB0.out.trans (hb1.mono HB0.out.size);have HC1:=HC.later hb1;obtain⟨c0,c1,c2,c3⟩:=lnk_cells HC1;simp only[Nat.zero_add] at c0 c1 c2 c3;clear hb1
 go_wp2_with fail
 refine (isSpot_any S x2 x3 _).mono ?_;rintro e w2 ⟨rfl,hb2⟩;rw[hb];have HB2:Hid (Below w.heap.size w w2):=HB1.out.trans (hb2.mono HB1.out.size);have HC2:Hid (VAt w2 w.heap.size 0 (lnkE.c ((x0,x1),(x2,x3)))):=HC1.later hb2;have d0:=cell_later hb2 c0;have d1:=cell_later hb2 c1;have d2:=cell_later hb2 c2;have d3:=cell_later hb2 c3;have HM2:Hid (MAt spotKey veI w2 B M):=(HM0.out.later HB2.out);clear hb2 HC1 HC c0 c1 c2 c3 HB1 HB0;go_upto_region 3 with fail;obtain⟨cA,hcA⟩:∃cA:Int,cA=(ctM sq (x0,x1) U:Int):=⟨_,rfl⟩;have HcA:Hid (cA=(ctM sq (x0,x1) U:Int)):=hcA;have hcw:IntKind.i64.wrap (cA+1)=cA+1:=by
  have h1:=ct_le (q:=sq) (x0,x1) U;exact wrap_small (by omega) (by omega)
 clear hcA
 go_cut [] from 20 to 26 (fun w'=>∃M1,MAt spotKey veI w' B M1∧TK sq M1 (U++[(x0,x1)])∧But [B] w2 w')
 case first =>
  have hMd:MAt spotKey veI w2.drew B M:=HM2.out;obtain⟨v0,st,w3,hE,hg3,hM3,hS3⟩:=run_entry_M hMd 153 3 underlying153 0 (fun w=>by kernel_rfl) (x0,x1);obtain⟨w4,hSt,hM4,hg4⟩:=hS3 w3 (cA+1) rfl;have hTK4:Hid (TK sq (mput sq (x0,x1) (cA+1) M) (U++[(x0,x1)])):=by
   show TK _ _ _;rw[HcA.out];exact tk_put sq_iff HT.out _
  have HM4:Hid (MAt spotKey veI w4 B (mput sq (x0,x1) (cA+1) M)):=hM4;have HBt:Hid (But [B] w2 w4):=((But.refl [B] w2).drew.trans (But.of_grown hg3 (by simp))).trans (But.of_grown hg4 (by simp));have hl2:(Instr.lookup 153 (.map (some B)) (.agg #[.int i64 x0,.int i64 x1]) false).run prog w2.drew=.ok (.int i64 cA) w2.drew:=by
   rw[HcA.out];exact run_lookup_TK hMd HT.out 153 3 underlying153 (fun w=>by kernel_rfl) (x0,x1)
  have hl3:(Instr.lookup 153 (.map (some B)) (.agg #[.int i64 x0,.int i64 x1]) false).run prog w3=.ok (.int i64 cA) w3:=by
   have h:=run_lookup_M hM3 153 3 underlying153 (.int i64 0) (fun w=>by kernel_rfl) (x0,x1) false;have e:mget spotKey.q (x0,x1) (mput spotKey.q (x0,x1) ((mget spotKey.q (x0,x1) M).getD 0) M)=some cA:=by
    rw[mget_put spotKey.qeq,if_pos ((spotKey.qeq _ _).2 rfl),HcA.out];exact congrArg some (HT.out (x0,x1))
   rw[e] at h;exact h
  have h1:(Instr.mapEntry 153 (.map (some B)) (.agg #[.int i64 x0,.int i64 x1])).run prog w2.drew=.ok (.tuple #[v0,.int i64 (st:Int)]) w3:=hE;have h3:(Instr.entryStore 153 (.map (some B)) (.int i64 (st:Int)) (.int i64 (cA+1))).run prog w3=.ok () w4:=hSt;clear hE hS3 hSt hM3 hM4 hg3 hg4 hMd
  go_region
  go_wp2_with fail
  go_meet
  case rel=>exact⟨_,HM4.out,hTK4.out,HBt.out⟩
 case rest =>
  obtain⟨M1,hM1,hT1,hBt1⟩:=hcut;obtain⟨w5,hw5⟩:∃x,x=wc:=⟨_,rfl⟩;subst hw5;have hnB:w.heap.size ∉ [B]:=by simp[hne]
  have hl2:w.heap.size<w2.heap.size:=bLQ _ _ d0;have e0:=(hBt1.cell (p:=⟨w.heap.size,0,none⟩) hl2 hnB).trans d0;have e1:=(hBt1.cell (p:=⟨w.heap.size,1,none⟩) hl2 hnB).trans d1;have e2:=(hBt1.cell (p:=⟨w.heap.size,2,none⟩) hl2 hnB).trans d2;have e3:=(hBt1.cell (p:=⟨w.heap.size,3,none⟩) hl2 hnB).trans d3;have HM5:Hid (MAt spotKey veI w5 B M1):=hM1;have HT5:Hid (TK sq M1 (U++[(x0,x1)])):=hT1;have HBt5:Hid (But [B] w w5):=(But.of_below (HB2.out)).trans hBt1;clear hM1 hT1 hBt1 d0 d1 d2 d3 HM2 HC2 hcw HcA hnB hl2;obtain⟨cB,hcB⟩:∃cB:Int,cB=(ctM sq (x2,x3) (U++[(x0,x1)]):Int):=⟨_,rfl⟩;have HcB:Hid (cB=(ctM sq (x2,x3) (U++[(x0,x1)]):Int)):=hcB;have hcw:IntKind.i64.wrap (cB+1)=cB+1:=by
   have h1:=ct_le (q:=sq) (x2,x3) (U++[(x0,x1)]);simp only[List.length_append,List.length_singleton] at h1;exact wrap_small (by omega) (by omega)
  clear hcB;go_upto_region 4 with fail
  go_cut [] from 27 to 33 (fun w'=>∃M2,MAt spotKey veI w' B M2∧TK sq M2 (U++[(x0,x1)]++[(x2,x3)])∧But [B] w5 w')
  case first =>
   have hMd:MAt spotKey veI w5.drew B M1:=HM5.out;obtain⟨v0,st,w3,hE,hg3,hM3,hS3⟩:=run_entry_M hMd 153 3 underlying153 0 (fun w=>by kernel_rfl) (x2,x3);obtain⟨w4,hSt,hM4,hg4⟩:=hS3 w3 (cB+1) rfl;have hTK4:Hid (TK sq (mput sq (x2,x3) (cB+1) M1) (U++[(x0,x1)]++[(x2,x3)])):=by
    show TK _ _ _;rw[HcB.out];exact tk_put sq_iff HT5.out _
   have HM4:Hid (MAt spotKey veI w4 B (mput sq (x2,x3) (cB+1) M1)):=hM4;have HBt:Hid (But [B] w5 w4):=((But.refl [B] w5).drew.trans (But.of_grown hg3 (by simp))).trans (But.of_grown hg4 (by simp));have hl2:(Instr.lookup 153 (.map (some B)) (.agg #[.int i64 x2,.int i64 x3]) false).run prog w5.drew=.ok (.int i64 cB) w5.drew:=by
    rw[HcB.out];exact run_lookup_TK hMd HT5.out 153 3 underlying153 (fun w=>by kernel_rfl) (x2,x3)
   have hl3:(Instr.lookup 153 (.map (some B)) (.agg #[.int i64 x2,.int i64 x3]) false).run prog w3=.ok (.int i64 cB) w3:=by
    have h:=run_lookup_M hM3 153 3 underlying153 (.int i64 0) (fun w=>by kernel_rfl) (x2,x3) false;have e:mget spotKey.q (x2,x3) (mput spotKey.q (x2,x3) ((mget spotKey.q (x2,x3) M1).getD 0) M1)=some cB:=by
     rw[mget_put spotKey.qeq,if_pos ((spotKey.qeq _ _).2 rfl),HcB.out];exact congrArg some (HT5.out (x2,x3))
    rw[e] at h;exact h
   have h1:(Instr.mapEntry 153 (.map (some B)) (.agg #[.int i64 x2,.int i64 x3])).run prog w5.drew=.ok (.tuple #[v0,.int i64 (st:Int)]) w3:=hE;have h3:(Instr.entryStore 153 (.map (some B)) (.int i64 (st:Int)) (.int i64 (cB+1))).run prog w3=.ok () w4:=hSt;clear hE hS3 hSt hM3 hM4 hg3 hg4 hMd
   go_region
   go_wp2_with fail
   go_meet
   case rel=>exact⟨_,HM4.out,hTK4.out,HBt.out⟩
  case rest =>
   obtain⟨M2,hM2,hT2,hBt2⟩:=hcut;have hnB:w.heap.size ∉ [B]:=by simp[hne]
   have hl2:w.heap.size<w5.heap.size:=bLQ _ _ e0;have f0:=(hBt2.cell (p:=⟨w.heap.size,0,none⟩) hl2 hnB).trans e0;have f1:=(hBt2.cell (p:=⟨w.heap.size,1,none⟩) hl2 hnB).trans e1;have f2:=(hBt2.cell (p:=⟨w.heap.size,2,none⟩) hl2 hnB).trans e2;have f3:=(hBt2.cell (p:=⟨w.heap.size,3,none⟩) hl2 hnB).trans e3;have HM6:Hid (MAt spotKey veI wc B M2):=hM2;have HT6:Hid (TK sq M2 (U++[(x0,x1),(x2,x3)])):=by
    show TK _ _ _;simpa using hT2
   have HBt6:Hid (But [B] w wc):=HBt5.out.trans hBt2;obtain⟨pA,hpA⟩:∃p:Int,p=(ctM sq (x0,x1) (U++[(x0,x1)]++[(x2,x3)]):Int):=⟨_,rfl⟩;obtain⟨pB,hpB⟩:∃p:Int,p=(ctM sq (x2,x3) (U++[(x0,x1)]++[(x2,x3)]):Int):=⟨_,rfl⟩;have hlA:(Instr.lookup 153 (.map (some B)) (.agg #[.int i64 x0,.int i64 x1]) false).run prog wc=.ok (.int i64 pA) wc:=by
    rw[hpA];exact run_lookup_TK hM2 hT2 153 3 underlying153 (fun w=>by kernel_rfl) (x0,x1)
   have hlB:(Instr.lookup 153 (.map (some B)) (.agg #[.int i64 x2,.int i64 x3]) false).run prog wc=.ok (.int i64 pB) wc:=by
    rw[hpB];exact run_lookup_TK hM2 hT2 153 3 underlying153 (fun w=>by kernel_rfl) (x2,x3)
   have HL:Hid (N=if (decide ((1:Int)<pA) || decide ((1:Int)<pB))=true then 7 else 0):=by
    show _=_;rw[HN.out,hpA,hpB,ct_link,lk1];simp only[ha,hb,Bool.and_self,if_true]
   clear hM2 hT2 hBt2 e0 e1 e2 e3 hnB hl2 hcw HcB HM5 HT5 HBt5 hpA hpB ha hb;by_cases h1:1<pA
   ·have e7:N=7:=by rw[HL.out];simp[h1]
    subst e7;go_wp2;go_ret;exact⟨rfl,M2,HM6.out,fun e=>absurd e (by decide),HBt6.out⟩
   by_cases h2:1<pB
   ·have e7:N=7:=by rw[HL.out];simp[h2]
    subst e7;go_wp2;go_ret;exact⟨rfl,M2,HM6.out,fun e=>absurd e (by decide),HBt6.out⟩
   have e7:N=0:=by rw[HL.out];simp[h1,h2]
   subst e7;go_wp2;go_ret;exact⟨rfl,M2,HM6.out,fun _=>HT6.out,HBt6.out⟩
theorem lay_bad (S x0 x1 x2 x3:Int)(B:Nat)(w:World)(h:(spB S (x0,x1)&&spB S (x2,x3))=false):
 Calls prog 92 #[.int i64 S,.map (some B),.agg #[.int i64 x0,.int i64 x1,.int i64 x2,.int i64 x3]] w fun e w'=>e=.returned (.iface 72 (.int i64 1))∧Below w.heap.size w w':=by
 have HB0:Hid (Below w.heap.size w (w.alloc (.cells #[.int i64 x0,.int i64 x1,.int i64 x2,.int i64 x3] 57))):=(bRQ _ _).alloc (nLQ _) _;have HC:=lnk_new w x0 x1 x2 x3 57;cases ha:spB S (x0,x1)
 ·clear h;go_enter func92,ntmps92
  go_wp2_with fail
  refine (isSpot_any S x0 x1 _).mono ?_;rintro e w1 ⟨rfl,hb1⟩;rw[ha];have HB1:Hid (Below w.heap.size w w1):=HB0.out.trans (hb1.mono HB0.out.size);clear hb1 HC;go_wp2;go_ret;exact⟨rfl,HB1.out⟩
 have hb:spB S (x2,x3)=false:=by rw[ha,Bool.true_and] at h;exact h
 clear h;go_enter func92,ntmps92
 go_wp2_with fail
 refine (isSpot_any S x0 x1 _).mono ?_;rintro e w1 ⟨rfl,hb1⟩;rw[ha];have HB1:Hid (Below w.heap.size w w1):=HB0.out.trans (hb1.mono HB0.out.size);obtain⟨c0,c1,c2,c3⟩:=lnk_cells (HC.later hb1);simp only[Nat.zero_add] at c0 c1 c2 c3;clear hb1 HC
 go_wp2_with fail
 refine (isSpot_any S x2 x3 _).mono ?_;rintro e w2 ⟨rfl,hb2⟩;rw[hb];have HB2:Hid (Below w.heap.size w w2):=HB1.out.trans (hb2.mono HB1.out.size);clear hb2;go_wp2;go_ret;exact⟨rfl,HB2.out⟩
theorem lay_any (S x0 x1 x2 x3:Int)(B:Nat)(M:HpQ)(U:List (Int×Int))(w:World)(hM:MAt spotKey veI w B M)(hT:TK sq M U)(hU:U.length≤1000):
 Calls prog 92 #[.int i64 S,.map (some B),.agg #[.int i64 x0,.int i64 x1,.int i64 x2,.int i64 x3]] w fun e w'=>e=.returned (noV (lk1 S U ((x0,x1),(x2,x3))))∧LayQ w w' B (lk1 S U ((x0,x1),(x2,x3))) (U++[(x0,x1),(x2,x3)]):=by
 cases h:(spB S (x0,x1)&&spB S (x2,x3))
 ·refine (lay_bad S x0 x1 x2 x3 B w h).mono ?_;rintro e w' ⟨rfl,hb⟩;have e1:lk1 S U ((x0,x1),(x2,x3))=1:=by simp only[lk1,h,Bool.false_eq_true,if_false]
  rw[e1];exact⟨rfl,M,hM.later hb,fun e=>absurd e (by decide),But.of_below hb⟩
 simp only[Bool.and_eq_true] at h;exact lay_ok S x0 x1 x2 x3 B M U w hM hT hU h.1 h.2 _ rfl
def byE:Enc (UInt8) where
 c:=fun x=>[.int .u8 (x.toNat:Int)]
 n:=1
 len:=fun _=>rfl
 pos:=by decide
 one:=by
  intro x u hu;simp at hu;subst hu;rfl
theorem by_at {w:World}{g o:Nat}{L:List (UInt8)}(h:GAt byE w g o L){n k:Nat}(hn:L.length=n)(hk:k<n):∃(x:UInt8) (hl:k<L.length),L[k]=x∧w.cell? ⟨g,o+k,none⟩=some (.int .u8 (x.toNat:Int)):=by
 have hl:k<L.length:=by omega
 have:=h k hl 0 _ rfl;refine⟨_,hl,rfl,?_⟩;have e:o+k*byE.n+0=o+k:=by show o+k*1+0=o+k;omega
 rw[e] at this;exact this
def byAsks (w:World)(f:FuncId)(P:UInt8→Bool):Prop:=
 ∀(x:UInt8) (W:World),Below w.heap.size w W→Calls prog f #[.int .u8 (x.toNat:Int)] W fun e w'=>e=.returned (.bool (P x))∧Below W.heap.size W w'
theorem byAsks.later {w w':World}{f:FuncId}{P:UInt8→Bool}(h:byAsks w f P)(hb:Below w.heap.size w w'):byAsks w' f P:=
 fun x W hW=>h x W (hb.trans (hW.mono hb.size))
theorem by_idxF (ao:AdQ)(n cap:Nat)(f:FuncId)(P:UInt8→Bool)(L:List (UInt8))(w:World)(hn:L.length=n)(hn2:n≤maxLen)(ha:0<n→∃g o,ao=some ⟨g,o,none⟩∧GAt byE w g o L∧cap≤maxLen)(he:∀args w,(callFunc f args).run prog w=.ok (.enter f args) w)(hf:byAsks w f P):
 Calls prog 127 #[.slice ao n cap,.func (Fn.func f) #[] #[]] w fun e w'=>e=.returned (.int i64 (ixG P L))∧Below w.heap.size w w':=by
 have HN:Hid (L.length=n):=hn;have HF:Hid (byAsks w f P):=hf;have HA:Hid (0<n→∃g o,ao=some ⟨g,o,none⟩∧GAt byE w g o L∧cap≤maxLen):=ha;unfold maxLen at hn2;clear hn hf ha;go_enter func127,ntmps127;go_wp2
 go_loopw [8] (fun i wr=>∃k:Nat,k≤n∧i=.int i64 k∧(L.take k).any P=false∧Below w.heap.size w wr)
  (fun i _=>n-(intOf i).toNat)
 case atStart=>exact⟨0,by omega,rfl,by simp,bRQ _ _⟩
 case round =>
  obtain⟨k,hk,rfl,hno,hB⟩:=hrel;have HB:Hid (Below w.heap.size w wr):=hB;have HNO:Hid ((L.take k).any P=false):=hno;clear hno;by_cases hlt:k<n
  ·obtain⟨g,o,hao,hc,_⟩:=HA.out (by omega);subst hao;obtain⟨x,hkl,hL,q0⟩:=by_at (hc.later hB) HN.out hlt;have HL:Hid (L[k]=x):=hL;clear hL hB;cases ho:P x
   ·go_wp2_with fail
    refine (HF.out x _ HB.out).mono ?_;rintro e w1 ⟨rfl,hb1⟩;rw[ho];have HB1:=HB.out.trans (hb1.mono HB.out.size);clear hb1;go_wp2;go_roundw
    case rel=>exact⟨k+1,by omega,by go_num,any_nextG hkl HNO.out (by rw[HL.out];exact ho),HB1⟩
    case measure=>simp[intOf];omega
   go_wp2_with fail
   refine (HF.out x _ HB.out).mono ?_;rintro e w1 ⟨rfl,hb1⟩;rw[ho];go_wp2;go_ret;exact⟨by rw[ixG_hit hkl HNO.out (by rw[HL.out];exact ho)];rfl,HB.out.trans (hb1.mono HB.out.size)⟩
  obtain rfl:k=n:=by omega
  go_wp2;go_ret;exact⟨by have:=HNO.out;rw[←HN.out,List.take_length] at this;rw[ixG_no this];rfl,HB.out⟩
theorem by_hasF (ao:AdQ)(n cap:Nat)(f:FuncId)(P:UInt8→Bool)(L:List (UInt8))(w:World)(hn:L.length=n)(hn2:n≤maxLen)(ha:0<n→∃g o,ao=some ⟨g,o,none⟩∧GAt byE w g o L∧cap≤maxLen)(he:∀args w,(callFunc f args).run prog w=.ok (.enter f args) w)(hf:byAsks w f P):
 Calls prog 102 #[.slice ao n cap,.func (Fn.func f) #[] #[]] w fun e w'=>e=.returned (.bool (L.any P))∧Below w.heap.size w w':=by
 rw[←ixG_any];obtain⟨x,hx⟩:∃x,x=ixG P L:=⟨_,rfl⟩;have HX:Hid (x=ixG P L):=hx;rw[←hx];clear hx;go_enter func102,ntmps102
 go_wp2_with fail
 refine (by_idxF ao n cap f P L _ hn hn2 ha he hf).mono ?_;rintro e w1 ⟨rfl,hb1⟩;rw[←HX.out];go_wp2;go_ret;exact⟨rfl,hb1⟩
def noL (b:UInt8):Bool:=decide ((b.toNat:Int)<97) || decide ((122:Int)<(b.toNat:Int))
theorem isName1_any (b:UInt8)(w:World):Calls prog 103 #[.int .u8 (b.toNat:Int)] w fun e w'=>e=.returned (.bool (noL b))∧Below w.heap.size w w':=by
 have hn:noL b=(decide ((b.toNat:Int)<97) || decide ((122:Int)<(b.toNat:Int))):=rfl
 generalize (b.toNat:Int)=x at *
 rw[hn];clear hn;by_cases h:x<97
 ·have e:(decide (x<97) || decide (122<x))=true:=by simp[h]
  rw[e];go_enter func103,ntmps103;go_wp2;go_ret;exact⟨rfl,bRQ _ _⟩
 have e:(decide (x<97) || decide (122<x))=decide (122<x):=by simp[h]
 rw[e];go_enter func103,ntmps103;go_wp2;go_ret;exact⟨rfl,bRQ _ _⟩
theorem isName1_asks (w:World):byAsks w 103 noL:=fun x W _=>isName1_any x W
theorem bytes_conv (s:ByteArray)(w:World):∃cap w1,(convert 9 102 (.string s)).run prog w=.ok (.slice (some ⟨w.heap.size,0,none⟩) s.size cap) w1∧Below w.heap.size w w1∧GAt byE w1 w.heap.size 0 s.data.toList∧(s.size≤maxLen→cap≤maxLen):=by
 refine⟨_,_,run_bytes_of_string w _ _ 5 s underlying9 underlying102 underlying5,?_,?_,fun h=>grownCap_le_maxLen w _ _ _ h⟩
 ·exact (Below.drew (bRQ _ _)).alloc (nLQ _) _
 intro i hi j u hu;have hj:j=0:=by
  have:=(List.getElem?_eq_some_iff.1 hu).1;have e:(byE.c s.data.toList[i]).length=1:=rfl;omega
 subst hj;have hu2:u=.int .u8 (s.data.toList[i].toNat:Int):=by
  have:some (Value.int .u8 (s.data.toList[i].toNat:Int))=some u:=hu;exact (Option.some.inj this).symm
 subst hu2;have hi2:i<s.data.size:=by simpa using hi
 have e:0+i*byE.n+0=i:=by show 0+i*1+0=i;omega
 rw[e];simp only[World.cell?,World.alloc,World.drew];simp[bytesRow];rw[Array.getElem?_append_left (by simpa using hi2),Array.getElem?_map,Array.getElem?_eq_getElem hi2];rfl
theorem nm_eq {s:ByteArray}(h1:1≤s.size)(h6:s.size≤6):nmB s = !(s.data.toList.any noL):=by
 have e:nmB s=(s.data.toList.all fun c=>decide (97≤c.toNat)&&decide (c.toNat≤122)):=by simp[nmB,h1,h6]
 rw[e,List.not_any_eq_all_not]
 congr 1
 funext c
 rw[Bool.eq_iff_iff];simp[noL];omega
theorem name_ok (s:ByteArray)(w:World)(h1:1≤s.size)(h6:s.size≤6):
 Calls prog 75 #[.string s] w fun e w'=>e=.returned (.bool (nmB s))∧Below w.heap.size w w':=by
 have hs1:¬((s.size:Int)<1):=by omega
 have hs6:¬((6:Int)<(s.size:Int)):=by omega
 obtain⟨cap,w1,hcv,hb1,hG,hcap⟩:=bytes_conv s w;have HCAP:Hid (s.size≤maxLen→cap≤maxLen):=hcap;have HB1:Hid (Below w.heap.size w w1):=hb1;have HG:Hid (GAt byE w1 w.heap.size 0 s.data.toList):=hG;have HE:Hid (nmB s = !(s.data.toList.any noL)):=nm_eq h1 h6;rw[HE.out];obtain⟨r,hr⟩:∃r,r=s.data.toList.any noL:=⟨_,rfl⟩;have HR:Hid (r=s.data.toList.any noL):=hr;rw[←hr];clear hr hb1 hG HE hcap;obtain⟨n,hn⟩:∃n,n=s.size:=⟨_,rfl⟩;have HN:Hid (n=s.size):=hn;rw[←hn] at hcv hs1 hs6 h1 h6;clear hn;have hsz:s.size=n:=HN.out.symm;go_enter func75,ntmps75
 go_wp2_with fail
 refine (by_hasF _ n cap _ noL s.data.toList _ (by rw[HN.out];simp) (by unfold maxLen;omega) (fun _=>⟨_,_,rfl,HG.out,HCAP.out (by rw[←HN.out];unfold maxLen;omega)⟩) (enters_of func103 (by kernel_rfl) rfl) (isName1_asks _)).mono ?_;rintro e w2 ⟨rfl,hb2⟩;rw[←HR.out];have HB2:Hid (Below w.heap.size w w2):=HB1.out.trans (hb2.mono HB1.out.size);clear hb2;go_wp2;go_ret;exact⟨rfl,HB2.out⟩
theorem name_bad (s:ByteArray)(w:World)(h:s.size<1∨6<s.size):
 Calls prog 75 #[.string s] w fun e w'=>e=.returned (.bool false)∧Below w.heap.size w w':=by
 obtain⟨n,hn⟩:∃n,n=s.size:=⟨_,rfl⟩;have hsz:s.size=n:=hn.symm;rw[hsz] at h;clear hn;by_cases h1:(n:Int)<1
 ·go_enter func75,ntmps75;go_wp2;go_ret;exact⟨rfl,bRQ _ _⟩
 have h6:(6:Int)<(n:Int):=by omega
 clear h;go_enter func75,ntmps75;go_wp2;go_ret;exact⟨rfl,bRQ _ _⟩
theorem name_any (s:ByteArray)(w:World):
 Calls prog 75 #[.string s] w fun e w'=>e=.returned (.bool (nmB s))∧Below w.heap.size w w':=by
 by_cases h:1≤s.size∧s.size≤6
 ·exact name_ok s w h.1 h.2
 have e:nmB s=false:=by
  unfold nmB;by_cases h1:1≤s.size
  ·have:¬s.size≤6:=fun h2=>h ⟨h1,h2⟩
   simp[this]
  simp[h1]
 rw[e];exact name_bad s w (by omega)
end
section
open Go.ChangeShapes Go.WideShapes Go.ChangeAt Go.RowKit Go.Joins
def hstE:Enc (ByteArray×(Int×Int)) where
 c:=fun x=>[.string x.1,.int i64 x.2.1,.int i64 x.2.2]
 n:=3
 len:=fun _=>rfl
 pos:=by decide
 one:=by
  intro x u hu;simp at hu
  rcases hu with rfl | rfl | rfl <;> rfl
theorem hst_cells {w:World}{g o:Nat}{x0:ByteArray}{x1 x2:Int}(h:VAt w g o (hstE.c (x0,(x1,x2)))):w.cell? ⟨g,o,none⟩=some (.string x0)∧w.cell? ⟨g,o+1,none⟩=some (.int i64 x1)∧w.cell? ⟨g,o+2,none⟩=some (.int i64 x2):=
 ⟨h 0 _ rfl,h 1 _ rfl,h 2 _ rfl⟩
theorem hst_at {w:World}{g o:Nat}{L:HoQ}(h:GAt hstE w g o L){n k:Nat}(hn:L.length=n)(hk:k<n):
 ∃(x0:ByteArray) (x1:Int) (x2:Int) (hl:k<L.length),L[k]=(x0,(x1,x2))∧w.cell? ⟨g,o+k*3,none⟩=some (.string x0)∧w.cell? ⟨g,o+k*3+1,none⟩=some (.int i64 x1)∧w.cell? ⟨g,o+k*3+2,none⟩=some (.int i64 x2):=
 have hl:k<L.length:=by omega
 ⟨_,_,_,hl,rfl,hst_cells (h k hl)⟩
theorem hst_new (w:World)(x0:ByteArray)(x1 x2:Int)(t:TypeId):VAt (w.alloc (.cells #[.string x0,.int i64 x1,.int i64 x2] t)) w.heap.size 0 (hstE.c (x0,(x1,x2))):=vat_new w [.string x0,.int i64 x1,.int i64 x2] t
def hstB (a b:ByteArray×(Int×Int)):Bool:=(a.1==b.1)&&((a.2.1==b.2.1)&&((a.2.2==b.2.2)))
theorem hst_ways (x0:ByteArray)(x1 x2:Int)(y0:ByteArray)(y1 y2:Int):
 ((x0.toList==y0.toList)=false∧hstB (x0,(x1,x2)) (y0,(y1,y2))=false) ∨
 ((x0.toList==y0.toList)=true∧(x1==y1)=false∧hstB (x0,(x1,x2)) (y0,(y1,y2))=false) ∨
 ((x0.toList==y0.toList)=true∧(x1==y1)=true∧(x2==y2)=false∧hstB (x0,(x1,x2)) (y0,(y1,y2))=false) ∨
 ((x0.toList==y0.toList)=true∧(x1==y1)=true∧(x2==y2)=true∧hstB (x0,(x1,x2)) (y0,(y1,y2))=true):=by
 have e:hstB (x0,(x1,x2)) (y0,(y1,y2))=((x0.toList==y0.toList)&&((x1==y1)&&((x2==y2)))):=by simp only[hstB,beq_toListBytes]
 rw[e];cases h0:(x0.toList==y0.toList)
 ·simp
 skip;cases h1:(x1==y1)
 ·simp
 skip;cases h2:(x2==y2)
 ·simp
 skip;simp
theorem hst_eq (x0:ByteArray)(x1 x2:Int)(y0:ByteArray)(y1 y2:Int)(w:World):(Op.equal 59 (.agg #[.string x0,.int i64 x1,.int i64 x2]) (.agg #[.string y0,.int i64 y1,.int i64 y2])).run prog w=.ok (hstB (x0,(x1,x2)) (y0,(y1,y2))) w:=by
 unfold Op.equal Op.maxDepth;rw[run_equalIn_struct w 9999 _ _ _ (by kernel_rfl) (by kernel_rfl)]
 rcases hst_ways x0 x1 x2 y0 y1 y2 with ⟨e0,e⟩ | ⟨e0,e1,e⟩ | ⟨e0,e1,e2,e⟩ | ⟨e0,e1,e2,e⟩
 all_goals
  rw[e];go_simp
theorem hst_info:(Tryz.prog.info? 59).map (fun i=>(i.zero,i.size,i.bytes))=some (some (.agg #[.string ByteArray.empty,.int i64 0,.int i64 0]),3,32):=by kernel_rfl
theorem hst_zero:(Value.agg #[.string ByteArray.empty,.int i64 0,.int i64 0]).cells.size=3:=by simp[Value.cells]
theorem hst_open {H:Type}{enc:TypeId×Value→H}{W:World}{n:Nat}{cs:List Value}{x:DataW H×List MemPlace}
 (h:DataW.trod enc prog W 0 (fun _=>true) true n 59 cs=some x):∃y,cs=hstE.c y:=by
 obtain⟨xs,k,_,_,hl,hlen,hf⟩:=DataW.trod_struct underlying59 h;have hC:Tryz.prog.cellsOf 59=3:=by kernel_rfl
 have hT0:Tryz.prog.cellsOf 9=1:=by kernel_rfl
 have hT1:Tryz.prog.cellsOf 55=2:=by kernel_rfl
 rw[hC] at hl
 match cs,hl with
 | [c0,c1,c2],_ =>
   match xs,hlen with
   | [z0,z1],_ =>
     have g0:=hf 0 _ rfl;have g1:=hf 1 _ rfl;simp[hT0,hT1] at g0 g1;obtain⟨v0,e0,_,_⟩:=DataW.trod_string underlying9 g0;obtain⟨s1,e1⟩:=spo_open g1;simp[spoE] at e0 e1;refine⟨(v0,(s1.1,s1.2)),?_⟩;simp[hstE,e0,e1]
end
section
open Go.RowKit
def SetQ (w w':World)(B C:Nat)(N:Int)(V:List (Int×Int))(Z:List ByteArray):Prop:=∃M' R',MAt spotKey veI w' B M'∧MAt strKey veI w' C R'∧(N=0→TK sq M' V∧TK (fun a b=>a==b) R' Z)∧But [B,C] w w'
theorem settle_ok (S:Int)(n:ByteArray)(x0 x1:Int)(B C:Nat)(hBC:B≠C)(M:HpQ)(R:List (ByteArray×Int))(U:List (Int×Int))(Z:List ByteArray)(w:World)(hM:MAt spotKey veI w B M)(hR:MAt strKey veI w C R)(hT:TK sq M U)(hZ:TK (fun a b=>a==b) R Z)(hU:U.length≤1000)(hZl:Z.length≤1000)
 (ha:nmB n=true) (hb:spB S (x0,x1)=true) (N:Int) (hN:N=ho1 S Z U (n,(x0,x1))):
 Calls prog 93 #[.int i64 S,.map (some B),.map (some C),.agg #[.string n,.int i64 x0,.int i64 x1]] w fun e w'=>e=.returned (noV N)∧SetQ w w' B C N (U++[(x0,x1)]) (Z++[n]):=by
 have hltB:=hM.lt;have hltC:=hR.lt;have HN:Hid (N=ho1 S Z U (n,(x0,x1))):=hN;have HB0:Hid (Below w.heap.size w (w.alloc (.cells #[Value.string n,.int i64 x0,.int i64 x1] 59))):=(bRQ _ _).alloc (nLQ _) _;have HC:=hst_new w n x0 x1 59;have HM0:Hid (MAt spotKey veI w B M):=hM;have HR0:Hid (MAt strKey veI w C R):=hR;have HT:Hid (TK sq M U):=hT;have HZ:Hid (TK (fun a b=>a==b) R Z):=hZ;have hneB:¬w.heap.size=B:=by omega
 have hneC:¬w.heap.size=C:=by omega
 clear hM hR hT hZ hN;go_enter func93,ntmps93
 go_wp2_with fail
 refine (name_any n _).mono ?_;rintro e w1 ⟨rfl,hb1⟩;rw[ha];have HB1:Hid (Below w.heap.size w w1):=HB0.out.trans (hb1.mono HB0.out.size);have HC1:=HC.later hb1;obtain⟨c0,c1,c2⟩:=hst_cells HC1;simp only[Nat.zero_add] at c0 c1 c2;clear hb1
 go_wp2_with fail
 refine (isSpot_any S x0 x1 _).mono ?_;rintro e w2 ⟨rfl,hb2⟩;rw[hb];have HB2:Hid (Below w.heap.size w w2):=HB1.out.trans (hb2.mono HB1.out.size);have d0:=cell_later hb2 c0;have d1:=cell_later hb2 c1;have d2:=cell_later hb2 c2;have HM2:Hid (MAt spotKey veI w2 B M):=(HM0.out.later HB2.out);have HR2:Hid (MAt strKey veI w2 C R):=(HR0.out.later HB2.out);clear hb2 HC1 HC c0 c1 c2 HB1 HB0;go_upto_region 5 with fail;obtain⟨cA,hcA⟩:∃cA:Int,cA=(ctM (fun a b=>a==b) n Z:Int):=⟨_,rfl⟩;have HcA:Hid (cA=(ctM (fun a b=>a==b) n Z:Int)):=hcA;have hcw:IntKind.i64.wrap (cA+1)=cA+1:=by
  have h1:=ct_le (q:=fun a b:ByteArray=>a==b) n Z;exact wrap_small (by omega) (by omega)
 clear hcA
 go_cut [] from 20 to 24 (fun w'=>∃R1,MAt strKey veI w' C R1∧TK (fun a b=>a==b) R1 (Z++[n])∧But [C] w2 w')
 case first =>
  obtain⟨w3,hup,hR3,hg3⟩:=run_update_M HR2.out 155 3 underlying155 n (cA+1);have hTK3:Hid (TK (fun a b=>a==b) (mput (fun a b=>a==b) n (cA+1) R) (Z++[n])):=by
   show TK _ _ _;rw[HcA.out];exact tk_put ba_iff HZ.out _
  have HR3:Hid (MAt strKey veI w3 C (mput (fun a b=>a==b) n (cA+1) R)):=hR3;have HBt:Hid (But [C] w2 w3):=But.of_grown hg3 (by simp);have hl2:(Instr.lookup 155 (.map (some C)) (.string n) false).run prog w2=.ok (.int i64 cA) w2:=by
   rw[HcA.out];exact run_lookup_TK HR2.out HZ.out 155 3 underlying155 (fun w=>by kernel_rfl) n
  have h3:(Instr.mapUpdate 155 (.map (some C)) (.string n) (.int i64 (cA+1))).run prog w2=.ok () w3:=hup;clear hup hR3 hg3;go_wp2
  go_meet
  case rel=>exact⟨_,HR3.out,hTK3.out,HBt.out⟩
 case rest =>
  obtain⟨R1,hR1,hZ1,hBt1⟩:=hcut;obtain⟨w5,hw5⟩:∃x,x=wc:=⟨_,rfl⟩;subst hw5;have hl2:w.heap.size<w2.heap.size:=bLQ _ _ d0;have hnC:w.heap.size ∉ [C]:=by simp[hneC]
  have e0:=(hBt1.cell (p:=⟨w.heap.size,0,none⟩) hl2 hnC).trans d0;have e1:=(hBt1.cell (p:=⟨w.heap.size,1,none⟩) hl2 hnC).trans d1;have e2:=(hBt1.cell (p:=⟨w.heap.size,2,none⟩) hl2 hnC).trans d2;have HM5:Hid (MAt spotKey veI w5 B M):=HM2.out.but hBt1 (by simp[hBC]);have HR5:Hid (MAt strKey veI w5 C R1):=hR1;have HZ5:Hid (TK (fun a b=>a==b) R1 (Z++[n])):=hZ1;have HBt5:Hid (But [B,C] w w5):=(But.of_below (HB2.out)).trans (hBt1.mono (by simp));clear hR1 hZ1 hBt1 d0 d1 d2 HM2 HR2 hcw HcA hnC hl2;obtain⟨cB,hcB⟩:∃cB:Int,cB=(ctM sq (x0,x1) U:Int):=⟨_,rfl⟩;have HcB:Hid (cB=(ctM sq (x0,x1) U:Int)):=hcB;have hcw:IntKind.i64.wrap (cB+1)=cB+1:=by
   have h1:=ct_le (q:=sq) (x0,x1) U;exact wrap_small (by omega) (by omega)
  clear hcB;go_upto_region 6 with fail
  go_cut [] from 25 to 31 (fun w'=>∃M2,MAt spotKey veI w' B M2∧TK sq M2 (U++[(x0,x1)])∧But [B] w5 w')
  case first =>
   have hMd:MAt spotKey veI w5.drew B M:=HM5.out;obtain⟨v0,st,w3,hE,hg3,hM3,hS3⟩:=run_entry_M hMd 153 3 underlying153 0 (fun w=>by kernel_rfl) (x0,x1);obtain⟨w4,hSt,hM4,hg4⟩:=hS3 w3 (cB+1) rfl;have hTK4:Hid (TK sq (mput sq (x0,x1) (cB+1) M) (U++[(x0,x1)])):=by
    show TK _ _ _;rw[HcB.out];exact tk_put sq_iff HT.out _
   have HM4:Hid (MAt spotKey veI w4 B (mput sq (x0,x1) (cB+1) M)):=hM4;have HBt:Hid (But [B] w5 w4):=((But.refl [B] w5).drew.trans (But.of_grown hg3 (by simp))).trans (But.of_grown hg4 (by simp));have hl2:(Instr.lookup 153 (.map (some B)) (.agg #[.int i64 x0,.int i64 x1]) false).run prog w5.drew=.ok (.int i64 cB) w5.drew:=by
    rw[HcB.out];exact run_lookup_TK hMd HT.out 153 3 underlying153 (fun w=>by kernel_rfl) (x0,x1)
   have hl3:(Instr.lookup 153 (.map (some B)) (.agg #[.int i64 x0,.int i64 x1]) false).run prog w3=.ok (.int i64 cB) w3:=by
    have h:=run_lookup_M hM3 153 3 underlying153 (.int i64 0) (fun w=>by kernel_rfl) (x0,x1) false;have e:mget spotKey.q (x0,x1) (mput spotKey.q (x0,x1) ((mget spotKey.q (x0,x1) M).getD 0) M)=some cB:=by
     rw[mget_put spotKey.qeq,if_pos ((spotKey.qeq _ _).2 rfl),HcB.out];exact congrArg some (HT.out (x0,x1))
    rw[e] at h;exact h
   have h1:(Instr.mapEntry 153 (.map (some B)) (.agg #[.int i64 x0,.int i64 x1])).run prog w5.drew=.ok (.tuple #[v0,.int i64 (st:Int)]) w3:=hE;have h3:(Instr.entryStore 153 (.map (some B)) (.int i64 (st:Int)) (.int i64 (cB+1))).run prog w3=.ok () w4:=hSt;clear hE hS3 hSt hM3 hM4 hg3 hg4 hMd
   go_region
   go_wp2_with fail
   go_meet
   case rel=>exact⟨_,HM4.out,hTK4.out,HBt.out⟩
  case rest =>
   obtain⟨M2,hM2,hT2,hBt2⟩:=hcut;have hnB:w.heap.size ∉ [B]:=by simp[hneB]
   have hl2:w.heap.size<w5.heap.size:=bLQ _ _ e0;have f0:=(hBt2.cell (p:=⟨w.heap.size,0,none⟩) hl2 hnB).trans e0;have f1:=(hBt2.cell (p:=⟨w.heap.size,1,none⟩) hl2 hnB).trans e1;have f2:=(hBt2.cell (p:=⟨w.heap.size,2,none⟩) hl2 hnB).trans e2;have hR6:MAt strKey veI wc C R1:=HR5.out.but hBt2 (by simp[Ne.symm hBC]);have HM6:Hid (MAt spotKey veI wc B M2):=hM2;have HR6:Hid (MAt strKey veI wc C R1):=hR6;have HT6:Hid (TK sq M2 (U++[(x0,x1)])):=hT2;have HBt6:Hid (But [B,C] w wc):=HBt5.out.trans (hBt2.mono (by simp));obtain⟨pA,hpA⟩:∃p:Int,p=(ctM (fun a b=>a==b) n (Z++[n]):Int):=⟨_,rfl⟩;obtain⟨pB,hpB⟩:∃p:Int,p=(ctM sq (x0,x1) (U++[(x0,x1)]):Int):=⟨_,rfl⟩;have hlA:(Instr.lookup 155 (.map (some C)) (.string n) false).run prog wc=.ok (.int i64 pA) wc:=by
    rw[hpA];exact run_lookup_TK hR6 HZ5.out 155 3 underlying155 (fun w=>by kernel_rfl) n
   have hlB:(Instr.lookup 153 (.map (some B)) (.agg #[.int i64 x0,.int i64 x1]) false).run prog wc=.ok (.int i64 pB) wc:=by
    rw[hpB];exact run_lookup_TK hM2 hT2 153 3 underlying153 (fun w=>by kernel_rfl) (x0,x1)
   have HL:Hid (N=if (decide ((1:Int)<pA) || decide ((1:Int)<pB))=true then 7 else 0):=by
    show _=_;have e1:(U.any fun u=>sq u (x0,x1))=(U.any fun u=>u==(x0,x1)):=by
     congr 1
    rw[HN.out,hpA,hpB,ct_host ba_iff,ct_host sq_iff,ho1,e1];simp only[ha,hb,if_true]
   clear hM2 hT2 hR6 hBt2 e0 e1 e2 hnB hl2 hcw HcB HM5 HR5 HBt5 hpA hpB ha hb;by_cases h1:1<pA
   ·have e7:N=7:=by rw[HL.out];simp[h1]
    subst e7;go_wp2;go_ret;exact⟨rfl,M2,R1,HM6.out,HR6.out,fun e=>absurd e (by decide),HBt6.out⟩
   by_cases h2:1<pB
   ·have e7:N=7:=by rw[HL.out];simp[h2]
    subst e7;go_wp2;go_ret;exact⟨rfl,M2,R1,HM6.out,HR6.out,fun e=>absurd e (by decide),HBt6.out⟩
   have e7:N=0:=by rw[HL.out];simp[h1,h2]
   subst e7;go_wp2;go_ret;exact⟨rfl,M2,R1,HM6.out,HR6.out,fun _=>⟨HT6.out,HZ5.out⟩,HBt6.out⟩
theorem settle_bad (S:Int)(n:ByteArray)(x0 x1:Int)(B C:Nat)(N:Int)(w:World)(h:(nmB n=false∧N=2)∨(nmB n=true∧spB S (x0,x1)=false∧N=1)):
 Calls prog 93 #[.int i64 S,.map (some B),.map (some C),.agg #[.string n,.int i64 x0,.int i64 x1]] w fun e w'=>e=.returned (.iface 72 (.int i64 N))∧Below w.heap.size w w':=by
 have HB0:Hid (Below w.heap.size w (w.alloc (.cells #[Value.string n,.int i64 x0,.int i64 x1] 59))):=(bRQ _ _).alloc (nLQ _) _;have HC:=hst_new w n x0 x1 59
 rcases h with ⟨ha,rfl⟩ | ⟨ha,hb,rfl⟩
 ·go_enter func93,ntmps93
  go_wp2_with fail
  refine (name_any n _).mono ?_;rintro e w1 ⟨rfl,hb1⟩;rw[ha];have HB1:Hid (Below w.heap.size w w1):=HB0.out.trans (hb1.mono HB0.out.size);clear hb1 HC;go_wp2;go_ret;exact⟨rfl,HB1.out⟩
 go_enter func93,ntmps93
 go_wp2_with fail
 refine (name_any n _).mono ?_;rintro e w1 ⟨rfl,hb1⟩;rw[ha];have HB1:Hid (Below w.heap.size w w1):=HB0.out.trans (hb1.mono HB0.out.size);obtain⟨c0,c1,c2⟩:=hst_cells (HC.later hb1);simp only[Nat.zero_add] at c0 c1 c2;clear hb1 HC
 go_wp2_with fail
 refine (isSpot_any S x0 x1 _).mono ?_;rintro e w2 ⟨rfl,hb2⟩;rw[hb];have HB2:Hid (Below w.heap.size w w2):=HB1.out.trans (hb2.mono HB1.out.size);clear hb2;go_wp2;go_ret;exact⟨rfl,HB2.out⟩
theorem settle_any (S:Int)(n:ByteArray)(x0 x1:Int)(B C:Nat)(hBC:B≠C)(M:HpQ)(R:List (ByteArray×Int))(U:List (Int×Int))(Z:List ByteArray)(w:World)(hM:MAt spotKey veI w B M)(hR:MAt strKey veI w C R)(hT:TK sq M U)(hZ:TK (fun a b=>a==b) R Z)(hU:U.length≤1000)(hZl:Z.length≤1000):
 Calls prog 93 #[.int i64 S,.map (some B),.map (some C),.agg #[.string n,.int i64 x0,.int i64 x1]] w fun e w'=>e=.returned (noV (ho1 S Z U (n,(x0,x1))))∧SetQ w w' B C (ho1 S Z U (n,(x0,x1))) (U++[(x0,x1)]) (Z++[n]):=by
 cases ha:nmB n
 ·have e1:ho1 S Z U (n,(x0,x1))=2:=by simp only[ho1,ha,Bool.false_eq_true,if_false]
  rw[e1];refine (settle_bad S n x0 x1 B C 2 w (.inl ⟨ha,rfl⟩)).mono ?_;rintro e w' ⟨rfl,hb⟩;exact⟨rfl,M,R,hM.later hb,hR.later hb,fun e=>absurd e (by decide),But.of_below hb⟩
 cases hb:spB S (x0,x1)
 ·have e1:ho1 S Z U (n,(x0,x1))=1:=by simp only[ho1,ha,hb,Bool.false_eq_true,if_false,if_true]
  rw[e1];refine (settle_bad S n x0 x1 B C 1 w (.inr ⟨ha,hb,rfl⟩)).mono ?_;rintro e w' ⟨rfl,hb⟩;exact⟨rfl,M,R,hM.later hb,hR.later hb,fun e=>absurd e (by decide),But.of_below hb⟩
 exact settle_ok S n x0 x1 B C hBC M R U Z w hM hR hT hZ hU hZl ha hb _ rfl
def TBox (W:World)(g:Nat)(S:Int)(v1 v2:Value):Prop:=W.cell? ⟨g,0,none⟩=some (.int i64 S)∧W.cell? ⟨g,1,none⟩=some v1∧W.cell? ⟨g,2,none⟩=some v2
theorem tbox_new (w:World)(S:Int)(v1 v2:Value)(t:TypeId):TBox (w.alloc (.cells #[.int i64 S,v1,v2] t)) w.heap.size S v1 v2:=by
 refine⟨?_,?_,?_⟩ <;> simp
theorem TBox.lt {W:World}{g:Nat}{S:Int}{v1 v2:Value}(h:TBox W g S v1 v2):g<W.heap.size:=bLQ _ _ h.1
theorem TBox.but {X:List Nat}{W W':World}{g:Nat}{S:Int}{v1 v2:Value}(h:TBox W g S v1 v2)(hb:But X W W')(hX:g ∉ X):TBox W' g S v1 v2:=
 ⟨(hb.cell (p:=⟨g,0,none⟩) h.lt hX).trans h.1,(hb.cell (p:=⟨g,1,none⟩) h.lt hX).trans h.2.1,(hb.cell (p:=⟨g,2,none⟩) h.lt hX).trans h.2.2⟩
theorem TBox.later {W W':World}{g:Nat}{S:Int}{v1 v2:Value}(h:TBox W g S v1 v2)(hb:Below W.heap.size W W'):TBox W' g S v1 v2:=h.but (X:=[]) (But.of_below hb) (by simp)
theorem tcheck_range (S:Int)(v1 v2:Value)(w:World)(h:¬(1≤S∧S≤6)):
 Calls prog 65 #[.agg #[.int i64 S,v1,v2]] w fun e w'=>e=.returned (.iface 72 (.int i64 1))∧Below w.heap.size w w':=by
 have HB0:Hid (Below w.heap.size w (w.alloc (.cells #[.int i64 S,v1,v2] 25))):=(bRQ _ _).alloc (nLQ _) _;by_cases h1:S<1
 ·clear h;go_enter func65,ntmps65;go_wp2;go_ret;exact⟨rfl,HB0.out⟩
 have h6:6<S:=by omega
 clear h;go_enter func65,ntmps65;go_wp2;go_ret;exact⟨rfl,HB0.out⟩
theorem check_full (S:Int)(ao:AdQ)(n cap:Nat)(ao2:AdQ)(n2 cap2:Nat)(w:World)(h1:1≤S)(h6:S≤6)(h:200<n∨8<n2):
 Calls prog 65 #[.agg #[.int i64 S,.slice ao n cap,.slice ao2 n2 cap2]] w fun e w'=>e=.returned (.iface 72 (.int i64 4))∧Below w.heap.size w w':=by
 have HB0:Hid (Below w.heap.size w (w.alloc (.cells #[.int i64 S,.slice ao n cap,.slice ao2 n2 cap2] 25))):=(bRQ _ _).alloc (nLQ _) _;have g1:¬S<1:=by omega
 have g6:¬6<S:=by omega
 by_cases hn:(200:Int)<(n:Int)
 ·clear h;go_enter func65,ntmps65;go_wp2;go_ret;exact⟨rfl,HB0.out⟩
 have hn2:(8:Int)<(n2:Int):=by omega
 clear h;go_enter func65,ntmps65;go_wp2;go_ret;exact⟨rfl,HB0.out⟩
theorem check_walk (S:Int)(ao:AdQ)(n cap:Nat)(ao2:AdQ)(n2 cap2:Nat)(Ls:LkQ)(Hs:HoQ)(w:World)
 (hL:GS lnkE w (.slice ao n cap) Ls) (hH:GS hstE w (.slice ao2 n2 cap2) Hs) (h1:1≤S) (h6:S≤6) (hn:n≤200) (hn2:n2≤8) (T:Int) (hT:T=tpN S Ls Hs):
 Calls prog 65 #[.agg #[.int i64 S,.slice ao n cap,.slice ao2 n2 cap2]] w fun e w'=>e=.returned (noV T)∧Below w.heap.size w w':=by
 obtain⟨_,_,_,e1,hLn,_,_,hLa⟩:=hL.form;cases e1;obtain⟨_,_,_,e2,hHn,_,_,hHa⟩:=hH.form;cases e2;have HLN:Hid (Ls.length=n):=hLn;have HHN:Hid (Hs.length=n2):=hHn;have HLA:Hid (0<n→∃g o,ao=some ⟨g,o,none⟩∧GAt lnkE w g o Ls∧cap≤maxLen):=hLa;have HHA:Hid (0<n2→∃g o,ao2=some ⟨g,o,none⟩∧GAt hstE w g o Hs∧cap2≤maxLen):=hHa;have HT:Hid (T=if lkN S Ls []=0 then hoN S Hs [] (spsL Ls) else lkN S Ls []):=by
  show T=_;rw[hT,tpN,if_pos (by simp[h1,h6]),if_pos (by simp[hLn,hHn,hn,hn2])]
 have g1:¬S<1:=by omega
 have g6:¬6<S:=by omega
 have gn:¬(200:Int)<(n:Int):=by omega
 have gn2:¬(8:Int)<(n2:Int):=by omega
 clear hL hH hLn hHn hLa hHa hT h1 h6;have hX:=tbox_new w S (.slice ao n cap) (.slice ao2 n2 cap2) 25;have hB0:Below w.heap.size w (w.alloc (.cells #[.int i64 S,.slice ao n cap,.slice ao2 n2 cap2] 25)):=(bRQ _ _).alloc (nLQ _) _;have HX:Hid (TBox (w.alloc (.cells #[.int i64 S,.slice ao n cap,.slice ao2 n2 cap2] 25)) w.heap.size S (.slice ao n cap) (.slice ao2 n2 cap2)):=hX;have HB0:Hid (Below w.heap.size w (w.alloc (.cells #[.int i64 S,.slice ao n cap,.slice ao2 n2 cap2] 25))):=hB0;have hsz0:(w.alloc (.cells #[.int i64 S,.slice ao n cap,.slice ao2 n2 cap2] 25)).heap.size=w.heap.size+1:=by simp
 clear hX hB0;go_enter func65,ntmps65;go_upto_region 5 with fail
 generalize hw0:w.alloc (.cells #[.int i64 S,.slice ao n cap,.slice ao2 n2 cap2] 25)=w0 at *
 have HW0:Hid (w.alloc (.cells #[.int i64 S,.slice ao n cap,.slice ao2 n2 cap2] 25)=w0):=hw0;have HSZ0:Hid (w0.heap.size=w.heap.size+1):=hsz0;clear hw0 hsz0;have hmk:=run_makeMap (P:=prog) 153 w0;have HM1:Hid (MAt spotKey veI (w0.alloc (.map #[] 0)) w0.heap.size []):=mat_new spotKey veI w0;have hbm:Below w0.heap.size w0 (w0.alloc (.map #[] 0)):=(bRQ _ _).alloc (nLQ _) _;have HX1:Hid (TBox (w0.alloc (.map #[] 0)) w.heap.size S (.slice ao n cap) (.slice ao2 n2 cap2)):=HX.out.later hbm;have HB1:Hid (Below w.heap.size w (w0.alloc (.map #[] 0))):=HB0.out.trans (hbm.mono HB0.out.size);clear hbm;obtain⟨d0,d1,d2⟩:=HX1.out;go_wp2;clear d0 d1 d2;obtain⟨w1,hw1⟩:∃x,w0.alloc (.map #[] 0)=x:=⟨_,rfl⟩;obtain⟨B,hBe⟩:∃x,w0.heap.size=x:=⟨_,rfl⟩;rw[hw1] at HX1 HB1;rw[hw1,hBe] at HM1 ⊢;have HBW:Hid (B=w.heap.size+1):=by
  show B=_;rw[←hBe,HSZ0.out]
 have HSZ1:Hid (w1.heap.size=w.heap.size+2):=by
  show _=_;rw[←hw1];have:=HSZ0.out;simp[this]
 clear hw1 hBe hmk HSZ0 HW0 HX HB0
 go_loopw [35] (fun i wr=>∃k:Nat,k≤n∧i=.int i64 k∧(∃M,MAt spotKey veI wr B M∧TK sq M (spsL (Ls.take k)))∧lkN S Ls []=lkN S (Ls.drop k) (spsL (Ls.take k))∧But [B] w1 wr)
  (fun i _=>n-(intOf i).toNat)
 case atStart=>exact⟨0,by omega,rfl,⟨[],HM1.out,by simpa[spsL] using tk_nil sq⟩,by simp[spsL],But.refl _ _⟩
 case round =>
  obtain⟨k,hk,rfl,⟨M,hM,hTK⟩,hlk,hBt⟩:=hrel;have hnB:w.heap.size ∉ [B]:=by simp[HBW.out]
  have hXr:=HX1.out.but hBt hnB;have hBw:Below w.heap.size w wr:=HB1.out.trans (hBt.below (by rw[HSZ1.out];omega) (by simp[HBW.out]));have HXr:Hid (TBox wr w.heap.size S (.slice ao n cap) (.slice ao2 n2 cap2)):=hXr;have HBw:Hid (Below w.heap.size w wr):=hBw;have HM:Hid (MAt spotKey veI wr B M):=hM;have HTK:Hid (TK sq M (spsL (Ls.take k))):=hTK;have HLK:Hid (lkN S Ls []=lkN S (Ls.drop k) (spsL (Ls.take k))):=hlk;have HBt:Hid (But [B] w1 wr):=hBt;obtain⟨b0,b1,b2⟩:=hXr;have hlw:w.heap.size<wr.heap.size:=bLQ _ _ b0;clear hM hTK hlk hBt HM1;by_cases hlt:k<n
  ·obtain⟨g,o,hao,hc,_⟩:=HLA.out (by omega);subst hao;obtain⟨x0,x1,x2,x3,hkl,hLk,q0,q1,q2,q3⟩:=lnk_at (hc.later hBw) HLN.out hlt;have HLk:Hid (Ls[k]=((x0,x1),(x2,x3))):=hLk;have hBA:Below wr.heap.size wr (wr.alloc (.cells #[.int i64 x0,.int i64 x1,.int i64 x2,.int i64 x3] 57)):=(bRQ _ _).alloc (nLQ _) _;have HBA:Hid (Below wr.heap.size wr (wr.alloc (.cells #[.int i64 x0,.int i64 x1,.int i64 x2,.int i64 x3] 57))):=hBA;have HUL:Hid ((spsL (Ls.take k)).length≤1000):=by
    show _≤1000;rw[sps_len,List.length_take];omega
   have HST:Hid (lkN S Ls []=if lk1 S (spsL (Ls.take k)) ((x0,x1),(x2,x3))=0 then lkN S (Ls.drop (k+1)) (spsL (Ls.take (k+1))) else lk1 S (spsL (Ls.take k)) ((x0,x1),(x2,x3))):=by
    show _=_;rw[HLK.out,List.drop_eq_getElem_cons hkl,lk_step,hLk,sps_take hkl,hLk]
   have HSP:Hid (spsL (Ls.take (k+1))=spsL (Ls.take k)++[(x0,x1),(x2,x3)]):=by
    show _=_;rw[sps_take hkl,hLk]
   clear hLk hBA hBw hc HLA
   go_wp2_with fail
   refine (lay_any S x0 x1 x2 x3 B M _ _ (HM.out.later HBA.out) HTK.out HUL.out).mono ?_;rintro e w3 ⟨rfl,hQ⟩;have hst:=HST.out
   generalize lk1 S (spsL (Ls.take k)) ((x0,x1),(x2,x3))=N at hQ hst ⊢
   have HST2:Hid (lkN S Ls []=if N=0 then lkN S (Ls.drop (k+1)) (spsL (Ls.take (k+1))) else N):=hst;obtain⟨M',hM',hTK',hBt'⟩:=hQ;have HM':Hid (MAt spotKey veI w3 B M'):=hM';have HTK':Hid (N=0→TK sq M' (spsL (Ls.take (k+1)))):=fun h=>by rw[HSP.out];exact hTK' h
   have HBt3:Hid (But [B] w1 w3):=(HBt.out.trans (But.of_below HBA.out)).trans hBt';have HBw3:Hid (Below w.heap.size w w3):=HB1.out.trans (HBt3.out.below (by rw[HSZ1.out];omega) (by simp[HBW.out]));clear hst HST hM' hTK' hBt' HSP HM HTK HLK HBt HBA HUL b0 b1 b2 q0 q1 q2 q3;by_cases hN:N=0
   ·subst hN;rw[no_ok rfl];have HTK2:Hid (TK sq M' (spsL (Ls.take (k+1)))):=HTK'.out rfl;have HLK2:Hid (lkN S Ls []=lkN S (Ls.drop (k+1)) (spsL (Ls.take (k+1)))):=by
     show _=_;rw[HST2.out,if_pos rfl]
    clear HTK' HST2;go_wp2;go_roundw
    case rel=>exact⟨k+1,by omega,by go_num,⟨M',HM'.out,HTK2.out⟩,HLK2.out,HBt3.out⟩
    case measure=>simp[intOf];omega
   rw[no_ne hN];have HTN:Hid (T=N):=by
    show _=_;have e:=HST2.out;rw[if_neg hN] at e;rw[HT.out,e,if_neg hN]
   have HNN:Hid (N≠0):=hN;clear hN HTK' HST2;go_wp2;go_ret;exact⟨by rw[HTN.out,no_ne HNN.out];rfl,HBw3.out⟩
  obtain rfl:k=n:=by omega
  have HLK0:Hid (lkN S Ls []=0):=by
   show _=_;rw[HLK.out,←HLN.out,List.drop_length];rfl
  have HTKL:Hid (TK sq M (spsL Ls)):=by
   show TK _ _ _;have h:=HTK.out;rw[←HLN.out,List.take_length] at h;exact h
  have HTL:Hid (T=hoN S Hs [] (spsL Ls)):=by
   show _=_;rw[HT.out,if_pos HLK0.out]
  have hwr:=HBt.out.size;rw[HSZ1.out] at hwr;obtain⟨w5,hw5⟩:∃x,x=wr:=⟨_,rfl⟩;subst hw5;have HWR:Hid (w.heap.size+2≤w5.heap.size):=hwr;clear HLK HTK HT HLK0 hBw hwr;go_upto_region 13 with fail;have hmk:=run_makeMap (P:=prog) 155 w5;have hbm:Below w5.heap.size w5 (w5.alloc (.map #[] 0)):=(bRQ _ _).alloc (nLQ _) _;have HM2:Hid (MAt spotKey veI (w5.alloc (.map #[] 0)) B M):=HM.out.later hbm;have HR2:Hid (MAt strKey veI (w5.alloc (.map #[] 0)) w5.heap.size []):=mat_new strKey veI w5;have hX2:TBox (w5.alloc (.map #[] 0)) w.heap.size S (.slice ao k cap) (.slice ao2 n2 cap2):=HXr.out.later hbm;have HX2:Hid (TBox (w5.alloc (.map #[] 0)) w.heap.size S (.slice ao k cap) (.slice ao2 n2 cap2)):=hX2;have HB2:Hid (Below w.heap.size w (w5.alloc (.map #[] 0))):=HBw.out.trans (hbm.mono HBw.out.size);obtain⟨d0,d1,d2⟩:=hX2;clear hbm b0 b1 b2 HXr HBw HM HBt HX1 HB1;go_wp2;obtain⟨w6,hw6⟩:∃x,w5.alloc (.map #[] 0)=x:=⟨_,rfl⟩;obtain⟨C,hCe⟩:∃x,w5.heap.size=x:=⟨_,rfl⟩;rw[hw6] at HM2 HX2 HB2 d0 d1 d2;rw[hw6,hCe] at HR2 ⊢;have HC2:Hid (w.heap.size+2≤C):=by
   show _≤_;rw[←hCe];exact HWR.out
  have HSZ6:Hid (w6.heap.size=C+1):=by
   show _=_;rw[←hw6,←hCe];simp
  clear hw6 hCe hmk HWR
  go_loopw [52] (fun i wr=>∃j:Nat,j≤n2∧i=.int i64 j∧(∃M R,MAt spotKey veI wr B M∧MAt strKey veI wr C R∧TK sq M (spsL Ls++(Hs.take j).map (·.2))∧TK (fun a b=>a==b) R ((Hs.take j).map (·.1)))∧hoN S Hs [] (spsL Ls)=hoN S (Hs.drop j) ((Hs.take j).map (·.1)) (spsL Ls++(Hs.take j).map (·.2))∧But [B,C] w6 wr)
   (fun i _=>n2-(intOf i).toNat)
  case atStart=>exact⟨0,by omega,rfl,⟨M,[],HM2.out,HR2.out,by simpa using HTKL.out,tk_nil _⟩,by simp,But.refl _ _⟩
  case round =>
   obtain⟨j,hj,rfl,⟨M3,R3,hM3,hR3,hTM3,hTR3⟩,hho,hBt⟩:=hrel;have hnX:w.heap.size ∉ [B,C]:=by
    have h1:=HBW.out;have h2:=HC2.out;simp only[List.mem_cons,List.not_mem_nil,or_false,not_or];omega
   have hBC:B≠C:=by
    have h1:=HBW.out;have h2:=HC2.out;omega
   have hXr:=HX2.out.but hBt hnX;have hge:∀x∈[B,C],w.heap.size≤x:=by
    have h1:=HBW.out;have h2:=HC2.out;intro x hx;simp only[List.mem_cons,List.not_mem_nil,or_false] at hx;omega
   have hsz6:w.heap.size≤w6.heap.size:=HB2.out.size;have HGE:Hid (∀x∈[B,C],w.heap.size≤x):=hge;have hBw:Below w.heap.size w wr:=HB2.out.trans (hBt.below hsz6 hge);have HBw:Hid (Below w.heap.size w wr):=hBw;have HM3:Hid (MAt spotKey veI wr B M3):=hM3;have HR3:Hid (MAt strKey veI wr C R3):=hR3;have HTM3:Hid (TK sq M3 (spsL Ls++(Hs.take j).map (·.2))):=hTM3;have HTR3:Hid (TK (fun a b=>a==b) R3 ((Hs.take j).map (·.1))):=hTR3;have HHO:Hid (hoN S Hs [] (spsL Ls)=hoN S (Hs.drop j) ((Hs.take j).map (·.1)) (spsL Ls++(Hs.take j).map (·.2))):=hho;have HBt:Hid (But [B,C] w6 wr):=hBt;have HBC:Hid (B≠C):=hBC;obtain⟨b0,b1,b2⟩:=hXr;have hlw:w.heap.size<wr.heap.size:=bLQ _ _ b0;clear hM3 hR3 hTM3 hTR3 hho hBt HM2 HR2 hnX hge hBC d0 d1 d2;by_cases hlt2:j<n2
   ·obtain⟨g,o,hao,hc,_⟩:=HHA.out (by omega);subst hao;obtain⟨y0,y1,y2,hjl,hHk,q0,q1,q2⟩:=hst_at (hc.later hBw) HHN.out hlt2;have HHk:Hid (Hs[j]=(y0,(y1,y2))):=hHk;have HBA:Hid (Below wr.heap.size wr (wr.alloc (.cells #[Value.string y0,.int i64 y1,.int i64 y2] 59))):=(bRQ _ _).alloc (nLQ _) _;have HUL:Hid ((spsL Ls++(Hs.take j).map (·.2)).length≤1000):=by
     show _≤1000;rw[List.length_append,sps_len,List.length_map,List.length_take,HLN.out];omega
    have HZL:Hid (((Hs.take j).map (·.1)).length≤1000):=by
     show _≤1000;rw[List.length_map,List.length_take];omega
    have HS2:Hid (spsL Ls++(Hs.take (j+1)).map (·.2)=(spsL Ls++(Hs.take j).map (·.2))++[(y1,y2)]):=by
     show _=_;rw[List.take_succ_eq_append_getElem hjl,hHk];simp
    have HS1:Hid ((Hs.take (j+1)).map (·.1)=(Hs.take j).map (·.1)++[y0]):=by
     show _=_;rw[List.take_succ_eq_append_getElem hjl,hHk];simp
    have HST:Hid (hoN S Hs [] (spsL Ls)=if ho1 S ((Hs.take j).map (·.1)) (spsL Ls++(Hs.take j).map (·.2)) (y0,(y1,y2))=0 then hoN S (Hs.drop (j+1)) ((Hs.take (j+1)).map (·.1)) (spsL Ls++(Hs.take (j+1)).map (·.2)) else ho1 S ((Hs.take j).map (·.1)) (spsL Ls++(Hs.take j).map (·.2)) (y0,(y1,y2))):=by
     show _=_;rw[HHO.out,List.drop_eq_getElem_cons hjl,ho_step,hHk,HS1.out,HS2.out]
    clear hHk hBw hc HHA HLA
    go_wp2_with fail
    refine (settle_any S y0 y1 y2 B C HBC.out M3 R3 _ _ _ (HM3.out.later HBA.out) (HR3.out.later HBA.out) HTM3.out HTR3.out HUL.out HZL.out).mono ?_;rintro e w3 ⟨rfl,hQ⟩;have hst:=HST.out
    generalize ho1 S ((Hs.take j).map (·.1)) (spsL Ls++(Hs.take j).map (·.2)) (y0,(y1,y2))=N at hQ hst ⊢
    have HST2:Hid (hoN S Hs [] (spsL Ls)=if N=0 then hoN S (Hs.drop (j+1)) ((Hs.take (j+1)).map (·.1)) (spsL Ls++(Hs.take (j+1)).map (·.2)) else N):=hst;obtain⟨M',R',hM',hR',hTK',hBt'⟩:=hQ;have HM':Hid (MAt spotKey veI w3 B M'):=hM';have HR':Hid (MAt strKey veI w3 C R'):=hR';have HTK':Hid (N=0→TK sq M' (spsL Ls++(Hs.take (j+1)).map (·.2))∧TK (fun a b=>a==b) R' ((Hs.take (j+1)).map (·.1))):=fun h=>by rw[HS1.out,HS2.out];exact hTK' h
    have HBt3:Hid (But [B,C] w6 w3):=(HBt.out.trans (But.of_below HBA.out)).trans hBt';have HBw3:Hid (Below w.heap.size w w3):=HB2.out.trans (HBt3.out.below HB2.out.size HGE.out);clear hst HST hM' hR' hTK' hBt' HS1 HS2 HM3 HR3 HTM3 HTR3 HHO HBt HBA HUL HZL b0 b1 b2 q0 q1 q2;by_cases hN:N=0
    ·subst hN;rw[no_ok rfl];have HTK2:Hid (TK sq M' (spsL Ls++(Hs.take (j+1)).map (·.2))∧TK (fun a b=>a==b) R' ((Hs.take (j+1)).map (·.1))):=HTK'.out rfl;have HHO2:Hid (hoN S Hs [] (spsL Ls)=hoN S (Hs.drop (j+1)) ((Hs.take (j+1)).map (·.1)) (spsL Ls++(Hs.take (j+1)).map (·.2))):=by
      show _=_;rw[HST2.out,if_pos rfl]
     clear HTK' HST2;go_wp2;go_roundw
     case rel=>exact⟨j+1,by omega,by go_num,⟨M',R',HM'.out,HR'.out,HTK2.out.1,HTK2.out.2⟩,HHO2.out,HBt3.out⟩
     case measure=>simp[intOf];omega
    rw[no_ne hN];have HTN:Hid (T=N):=by
     show _=_;rw[HTL.out,HST2.out,if_neg hN]
    have HNN:Hid (N≠0):=hN;clear hN HTK' HST2;go_wp2;go_ret;exact⟨by rw[HTN.out,no_ne HNN.out];rfl,HBw3.out⟩
   obtain rfl:j=n2:=by omega
   have HT0:Hid (T=0):=by
    show _=_;rw[HTL.out,HHO.out,←HHN.out,List.drop_length];rfl
   clear hBw HHO HTM3 HTR3;go_wp2;go_ret;exact⟨by rw[HT0.out,no_ok rfl];rfl,HBw.out⟩
theorem check_any (S:Int)(ao:AdQ)(n cap:Nat)(ao2:AdQ)(n2 cap2:Nat)(Ls:LkQ)(Hs:HoQ)(w:World)
 (hL:GS lnkE w (.slice ao n cap) Ls) (hH:GS hstE w (.slice ao2 n2 cap2) Hs):
 Calls prog 65 #[.agg #[.int i64 S,.slice ao n cap,.slice ao2 n2 cap2]] w fun e w'=>e=.returned (noV (tpN S Ls Hs))∧Below w.heap.size w w':=by
 have hLn:=hL.len;have hHn:=hH.len;by_cases h1:1≤S∧S≤6
 ·by_cases h2:n≤200∧n2≤8
  ·exact check_walk S ao n cap ao2 n2 cap2 Ls Hs w hL hH h1.1 h1.2 h2.1 h2.2 _ rfl
  have e:tpN S Ls Hs=4:=by
   rw[tpN,if_pos (by simp[h1]),if_neg (by rw[hLn,hHn];simpa using fun h=>Nat.lt_of_not_le fun h3=>h2 ⟨h,h3⟩)]
  rw[e];exact check_full S ao n cap ao2 n2 cap2 w h1.1 h1.2 (by omega)
 have e:tpN S Ls Hs=1:=by
  rw[tpN,if_neg (by simpa using fun h=>Int.lt_of_not_ge fun h3=>h1 ⟨h,h3⟩)]
 rw[e];exact tcheck_range S _ _ w h1
structure C6 (w:World)(g o:Nat)(r:Ru):Prop where
 c0:w.cell? ⟨g,o,none⟩=some (.int i64 r.p)
 c1:w.cell? ⟨g,o+1,none⟩=some (.int i64 r.m)
 c2:w.cell? ⟨g,o+2,none⟩=some (.int i64 r.b)
 c3:w.cell? ⟨g,o+3,none⟩=some (.int i64 r.o)
 c4:w.cell? ⟨g,o+4,none⟩=some (.int i64 r.s)
 c5:w.cell? ⟨g,o+5,none⟩=some (.int i64 r.v)
theorem C6.later {w w':World}{g o:Nat}{r:Ru}(h:C6 w g o r)(hb:Below w.heap.size w w'):C6 w' g o r:=
 ⟨cell_later hb h.c0,cell_later hb h.c1,cell_later hb h.c2,cell_later hb h.c3,cell_later hb h.c4,cell_later hb h.c5⟩
theorem C6.new (w:World)(p m b o s v:Int)(t:TypeId):C6 (w.alloc (.cells #[.int i64 p,.int i64 m,.int i64 b,.int i64 o,.int i64 s,.int i64 v] t)) w.heap.size 0 ⟨p,m,b,o,s,v⟩:=by
 refine⟨?_,?_,?_,?_,?_,?_⟩ <;> simp
def RAt (w:World)(g o:Nat)(L:List Ru):Prop:=∀i (h:i<L.length),C6 w g (o+i*6) L[i]
theorem RAt.later {w w':World}{g o:Nat}{L:List Ru}(h:RAt w g o L)(hb:Below w.heap.size w w'):RAt w' g o L:=fun i hi=>(h i hi).later hb
theorem RAt.take {w:World}{g o:Nat}{L:List Ru}(h:RAt w g o L)(k:Nat):RAt w g o (L.take k):=by
 intro i hi;rw[List.getElem_take];exact h i (by simp at hi;omega)
def SR (w:World)(v:Value)(L:List Ru):Prop:=
 (∃ao cap,v=.slice ao 0 cap∧L=[])∨∃g o cap,v=.slice (some ⟨g,o,none⟩) L.length cap∧L.length≤cap∧cap≤maxLen∧RAt w g o L
theorem SR.later {w w':World}{v:Value}{L:List Ru}(h:SR w v L)(hb:Below w.heap.size w w'):SR w' v L:=by
 rcases h with h | ⟨g,o,cap,h1,h2,h3,h4⟩
 ·exact .inl h
 exact .inr ⟨g,o,cap,h1,h2,h3,h4.later hb⟩
theorem RAt.at {w:World}{g o:Nat}{L:List Ru}(h:RAt w g o L){n k:Nat}(hn:L.length=n)(hk:k<n):
 ∃ (p m b q s v:Int) (hl:k<L.length),L[k]=⟨p,m,b,q,s,v⟩∧(w.cell? ⟨g,o+k*6,none⟩=some (.int i64 p)∧w.cell? ⟨g,o+k*6+1,none⟩=some (.int i64 m)∧w.cell? ⟨g,o+k*6+2,none⟩=some (.int i64 b) ∧
   w.cell? ⟨g,o+k*6+3,none⟩=some (.int i64 q)∧w.cell? ⟨g,o+k*6+4,none⟩=some (.int i64 s)∧w.cell? ⟨g,o+k*6+5,none⟩=some (.int i64 v)):=
 have hl:k<L.length:=by omega
 have c:=h k hl
 ⟨_,_,_,_,_,_,hl,rfl,c.c0,c.c1,c.c2,c.c3,c.c4,c.c5⟩
theorem key_ways (p m b o s v p' m' b' o' s' v':Int):
 ((p==p')=false∧keyB ⟨p,m,b,o,s,v⟩ ⟨p',m',b',o',s',v'⟩=false)∨((p==p')=true∧(m==m')=false∧keyB ⟨p,m,b,o,s,v⟩ ⟨p',m',b',o',s',v'⟩=false) ∨
 ((p==p')=true∧(m==m')=true∧(b==b')=false∧keyB ⟨p,m,b,o,s,v⟩ ⟨p',m',b',o',s',v'⟩=false)∨((p==p')=true∧(m==m')=true∧(b==b')=true∧keyB ⟨p,m,b,o,s,v⟩ ⟨p',m',b',o',s',v'⟩=true):=by
 rw[key_eq];by_cases h1:p=p' <;> by_cases h2:m=m' <;> by_cases h3:b=b' <;> simp[h1,h2,h3]
theorem clash_any (p m b o s v p' m' b' o' s' v':Int)(w:World):
 Calls prog 96 #[.agg #[.int i64 p,.int i64 m,.int i64 b,.int i64 o,.int i64 s,.int i64 v],.agg #[.int i64 p',.int i64 m',.int i64 b',.int i64 o',.int i64 s',.int i64 v']] w fun e w'=>e=.returned (.bool (keyB ⟨p,m,b,o,s,v⟩ ⟨p',m',b',o',s',v'⟩))∧Below w.heap.size w w':=by
 have HB:Hid (∀o1 o2,Below w.heap.size w ((w.alloc o1).alloc o2)):=fun o1 o2=>((bRQ _ _).alloc (nLQ _) o1).alloc (by simp) o2
 rcases key_ways p m b o s v p' m' b' o' s' v' with ⟨e1,e⟩ | ⟨e1,e2,e⟩ | ⟨e1,e2,e3,e⟩ | ⟨e1,e2,e3,e⟩
 all_goals
  rw[e];clear e;go_enter func96,ntmps96;go_wp2;go_ret;exact⟨rfl,HB.out _ _⟩
def Asks (w:World)(f:FuncId)(c:Value)(P:Ru→Bool):Prop:=
 ∀ (p m b o s v:Int) (W:World),Below w.heap.size w W →
   Calls prog f #[.agg #[.int i64 p,.int i64 m,.int i64 b,.int i64 o,.int i64 s,.int i64 v],c] W fun e w'=>e=.returned (.bool (P ⟨p,m,b,o,s,v⟩))∧Below W.heap.size W w'
theorem Asks.later {w w':World}{f:FuncId}{c:Value}{P:Ru→Bool}(h:Asks w f c P)(hb:Below w.heap.size w w'):Asks w' f c P:=
 fun p m b o s v W hW=>h p m b o s v W (hb.trans (hW.mono hb.size))
theorem table1_any (p m b o s v:Int)(r:Ru)(B:Nat)(w:World)(hc:C6 w B 0 r):
 Calls prog 95 #[.agg #[.int i64 p,.int i64 m,.int i64 b,.int i64 o,.int i64 s,.int i64 v],.pointer (some ⟨B,0,none⟩)] w fun e w'=>e=.returned (.bool (keyB ⟨p,m,b,o,s,v⟩ r))∧Below w.heap.size w w':=by
 obtain⟨p',m',b',o',s',v'⟩:=r;obtain⟨c0,c1,c2,c3,c4,c5⟩:=hc;simp only[Nat.zero_add] at c0 c1 c2 c3 c4 c5;have hlt:B<w.heap.size:=bLQ _ _ c0;go_enter func95,ntmps95
 go_wp2_with fail
 refine (clash_any _ _ _ _ _ _ _ _ _ _ _ _ _).mono ?_;rintro e w1 ⟨rfl,hb1⟩;go_wp2;go_ret;exact⟨rfl,((bRQ _ _).alloc (nLQ _) _).trans (hb1.mono (by simp))⟩
theorem table1_asks (r:Ru)(B:Nat)(w:World)(hc:C6 w B 0 r):Asks w 95 (.pointer (some ⟨B,0,none⟩)) (fun a=>keyB a r):=
 fun p m b o s v W hW=>table1_any p m b o s v r B W (hc.later hW)
theorem any_nextR {L:List Ru}{f:Ru→Bool}{k:Nat}(hk:k<L.length)(h:(L.take k).any f=false)(h2:f L[k]=false):(L.take (k+1)).any f=false:=by
 rw[List.take_succ_eq_append_getElem hk];simp only[List.any_append,h,List.any_cons,List.any_nil,h2,Bool.or_false]
theorem any_hitR {L:List Ru}{f:Ru→Bool}{k:Nat}(hk:k<L.length)(h2:f L[k]=true):L.any f=true:=List.any_eq_true.2 ⟨_,List.getElem_mem hk,h2⟩
def ixP (f:Ru→Bool)(L:List Ru):Int:=if L.any f then (L.findIdx f:Int) else -1
theorem ixP_hit {L:List Ru}{f:Ru→Bool}{k:Nat}(hk:k<L.length)(h:(L.take k).any f=false)(h2:f L[k]=true):ixP f L=k:=by
 rw[ixP,any_hitR hk h2,if_pos rfl]
 congr 1
 rw[List.findIdx_eq hk];refine⟨h2,fun j hj=>?_⟩;rw[List.any_eq_false] at h;have:=h L[j] (by rw[List.mem_take_iff_getElem];exact⟨j,by omega,rfl⟩);simpa using this
theorem ixP_no {L:List Ru}{f:Ru→Bool}(h:L.any f=false):ixP f L = -1:=by simp[ixP,h]
theorem ixP_any (L:List Ru)(f:Ru→Bool):decide (0≤ixP f L)=L.any f:=by
 unfold ixP;cases L.any f
 ·simp
 simp
theorem SR.form {w:World}{v:Value}{L:List Ru}(h:SR w v L):∃ao n cap,v=.slice ao n cap∧L.length=n∧n≤maxLen∧n≤cap∧(0<n→∃g o,ao=some ⟨g,o,none⟩∧RAt w g o L∧cap≤maxLen):=by
 rcases h with ⟨ao,cap,rfl,rfl⟩ | ⟨g,o,cap,rfl,h1,h2,h3⟩
 ·exact⟨ao,0,cap,rfl,rfl,Nat.zero_le _,Nat.zero_le _,fun h=>absurd h (by omega)⟩
 exact⟨_,_,cap,rfl,rfl,Nat.le_trans h1 h2,h1,fun _=>⟨g,o,rfl,h3,h2⟩⟩
theorem idxF (ao:AdQ)(n cap:Nat)(f:FuncId)(c:Value)(P:Ru→Bool)(L:List Ru)(w:World)(hn:L.length=n)(hn2:n≤maxLen)(ha:0<n→∃g o,ao=some ⟨g,o,none⟩∧RAt w g o L∧cap≤maxLen)(he:∀args w,(callFunc f args).run prog w=.ok (.enter f args) w)(hf:Asks w f c P):
 Calls prog 119 #[.slice ao n cap,.func (Fn.func f) #[] #[c]] w fun e w'=>e=.returned (.int i64 (ixP P L))∧Below w.heap.size w w':=by
 have HN:Hid (L.length=n):=hn;have HF:Hid (Asks w f c P):=hf;have HA:Hid (0<n→∃g o,ao=some ⟨g,o,none⟩∧RAt w g o L∧cap≤maxLen):=ha;unfold maxLen at hn2;clear hn hf ha;go_enter func119,ntmps119;go_wp2
 go_loopw [8] (fun i wr=>∃k:Nat,k≤n∧i=.int i64 k∧(L.take k).any P=false∧Below w.heap.size w wr)
  (fun i _=>n-(intOf i).toNat)
 case atStart=>exact⟨0,by omega,rfl,by simp,bRQ _ _⟩
 case round =>
  obtain⟨k,hk,rfl,hno,hB⟩:=hrel;have HB:Hid (Below w.heap.size w wr):=hB;have HNO:Hid ((L.take k).any P=false):=hno;clear hno;by_cases hlt:k<n
  ·obtain⟨g,o,hao,hc,_⟩:=HA.out (by omega);subst hao;obtain⟨p,m,b,q,s,v,hkl,hL,q0,q1,q2,q3,q4,q5⟩:=(hc.later hB).at HN.out hlt;have HL:Hid (L[k]=⟨p,m,b,q,s,v⟩):=hL;clear hL hB;cases ho:P ⟨p,m,b,q,s,v⟩
   ·go_wp2_with fail
    refine (HF.out p m b q s v _ HB.out).mono ?_;rintro e w1 ⟨rfl,hb1⟩;rw[ho];have HB1:=HB.out.trans (hb1.mono HB.out.size);clear hb1;go_wp2;go_roundw
    case rel=>exact⟨k+1,by omega,by go_num,any_nextR hkl HNO.out (by rw[HL.out];exact ho),HB1⟩
    case measure=>simp[intOf];omega
   go_wp2_with fail
   refine (HF.out p m b q s v _ HB.out).mono ?_;rintro e w1 ⟨rfl,hb1⟩;rw[ho];go_wp2;go_ret;exact⟨by rw[ixP_hit hkl HNO.out (by rw[HL.out];exact ho)];rfl,HB.out.trans (hb1.mono HB.out.size)⟩
  obtain rfl:k=n:=by omega
  go_wp2;go_ret;exact⟨by have:=HNO.out;rw[←HN.out,List.take_length] at this;rw[ixP_no this];rfl,HB.out⟩
theorem containsF (ao:AdQ)(n cap:Nat)(f:FuncId)(c:Value)(P:Ru→Bool)(L:List Ru)(w:World)(hn:L.length=n)(hn2:n≤maxLen)(ha:0<n→∃g o,ao=some ⟨g,o,none⟩∧RAt w g o L∧cap≤maxLen)(he:∀args w,(callFunc f args).run prog w=.ok (.enter f args) w)(hf:Asks w f c P):
 Calls prog 94 #[.slice ao n cap,.func (Fn.func f) #[] #[c]] w fun e w'=>e=.returned (.bool (L.any P))∧Below w.heap.size w w':=by
 rw[←ixP_any];obtain⟨x,hx⟩:∃x,x=ixP P L:=⟨_,rfl⟩;have HX:Hid (x=ixP P L):=hx;rw[←hx];clear hx;go_enter func94,ntmps94
 go_wp2_with fail
 refine (idxF ao n cap f c P L _ hn hn2 ha he hf).mono ?_;rintro e w1 ⟨rfl,hb1⟩;rw[←HX.out];go_wp2;go_ret;exact⟨rfl,hb1⟩
theorem containsR_any (g o cap n B:Nat)(r:Ru)(L:List Ru)(w:World)(hc:RAt w g o L)(hn:L.length=n)(hn2:n≤maxLen)(hcap:cap≤maxLen)(hr:C6 w B 0 r):
 Calls prog 94 #[.slice (some ⟨g,o,none⟩) n cap,.func (Fn.func 95) #[] #[.pointer (some ⟨B,0,none⟩)]] w fun e w'=>e=.returned (.bool (L.any (fun a=>keyB a r)))∧Below w.heap.size w w':=
 containsF _ n cap _ _ _ L w hn hn2 (fun _=>⟨g,o,rfl,hc,hcap⟩) (enters_of func95 (by kernel_rfl) rfl) (table1_asks r B w hr)
end
end Go.Proofs.YtgddlpcacnolfaaGreatDoor
